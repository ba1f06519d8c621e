/- What the document's own calls of layer 8 answer, over this translation (mk_cur.py). -/
import Derived.Test.YtifobfbeddlglaaDoorCurProg
import Derived.Test.YtifobfbeddlglaaDoorBitIdx
import Derived.Test.YtifobfbeddlglaaDoorRegG
namespace Go.Proofs.YtifobfbeddlglaaDoor
open Go.RowKit Go.Shelf
set_option linter.unusedVariables false
set_option linter.unusedSimpArgs false
set_option maxRecDepth 20000
open N
/-- a block of the document's cursor -/
def RuOk (w : World) (g : Nat) (l : List UInt8) (a : Nat) (o : Bool) : Prop := BlkOk w ⟨g, cu l a o, 49⟩
section
variable {w w' : World} {g a : Nat} {l : List UInt8} {o : Bool}
theorem RuOk.cs (h : RuOk w g l a o) : w.cell? ⟨g, 0, none⟩ = some (.string ⟨l.toArray⟩) ∧ w.cell? ⟨g, 1, none⟩ = some (.int .i64 (a : Int)) ∧ w.cell? ⟨g, 2, none⟩ = some (.bool o) := ⟨BlkOk.cell h rfl, BlkOk.cell h rfl, BlkOk.cell h rfl⟩
theorem RuOk.frs (h : RuOk w g l a o) : w.frozen? ⟨g, 0, none⟩ = false ∧ w.frozen? ⟨g, 1, none⟩ = false ∧ w.frozen? ⟨g, 2, none⟩ = false := ⟨BlkOk.fr h 0, BlkOk.fr h 1, BlkOk.fr h 2⟩
theorem RuOk.on (h : RuOk w g l a o) (hb : Below w.heap.size w w') : RuOk w' g l a o := BlkOk.on h hb
theorem RuOk.drewN (h : RuOk w g l a o) (k : Nat) : RuOk (w.drewN k) g l a o := h
theorem RuOk.drew (h : RuOk w g l a o) : RuOk w.drew g l a o := h
end
theorem rbits_any (w : World) (l : List UInt8) (hl : l.length ≤ maxLen) :
    Calls Tryd.prog 24 #[.string ⟨l.toArray⟩] w fun e w' => e = .returned (.bool (isB l)) ∧ w' = w := by
  have hm : l.length ≤ 9223372036854775807 := by unfold maxLen at hl; omega
  go_enter Tryd.func24, Tryd.ntmps24
  go_wp2
  go_loop [3] (fun i => ∃ k : Nat, k ≤ l.length ∧ i = .int .i64 k ∧ bitsL (l.take k) = true) (fun i => l.length - (intOf i).toNat)
  case atStart => exact ⟨0, by omega, rfl, rfl⟩
  case round =>
    obtain ⟨k, hk, rfl, hb⟩ := hrel
    by_cases hlt : k < l.length
    · have hx := idx_run l k hlt
      have h1 := bat_ne l k 48
      have h2 := bat_ne l k 49
      have hs := bitsL_succ l k hlt
      rw [hb, Bool.true_and] at hs
      obtain ⟨c, hc⟩ : ∃ c, l.getD k 0 = c := ⟨_, rfl⟩
      rw [hc] at h1 h2 hs
      have HBD := Lib.hid (fun e : isbit c = false => bitsL_bad (l := l) hlt (by rw [hc]; exact e))
      obtain ⟨v, hv⟩ : ∃ v, bat l k = v := ⟨_, rfl⟩
      rw [hv] at hx h1 h2
      have h1 : (v != 48) = (c != 48) := h1
      have h2 : (v != 49) = (c != 49) := h2
      have HS := Lib.hid hs
      clear hs hc hv hb
      by_cases c48 : c = 48
      · subst c48
        have g1 : (v != 48) = false := by rw [h1]; rfl
        clear h1 h2
        go_wp2
        go_round
        case rel => exact ⟨k + 1, by omega, by go_num, by rw [HS.out]; rfl⟩
        case measure => simp [intOf]; omega
      · by_cases c49 : c = 49
        · subst c49
          have g1 : (v != 48) = true := by rw [h1]; rfl
          have g2 : (v != 49) = false := by rw [h2]; rfl
          clear h1 h2
          go_wp2
          go_round
          case rel => exact ⟨k + 1, by omega, by go_num, by rw [HS.out]; rfl⟩
          case measure => simp [intOf]; omega
        · have g1 : (v != 48) = true := by rw [h1]; simpa using c48
          have g2 : (v != 49) = true := by rw [h2]; simpa using c49
          have hbad := HBD.out (by
            cases e : isbit c with
            | false => rfl
            | true => exact absurd (isbit_iff.1 e) (fun e => e.elim c48 c49))
          have HBA := Lib.hid hbad
          clear h1 h2 hbad
          go_wp2
          go_ret
          exact ⟨retb (by unfold isB; rw [HBA.out]; simp), rfl⟩
    · obtain rfl : k = l.length := by omega
      rw [List.take_length] at hb
      have HBB := Lib.hid (show isB l = decide ((l.length : Int) ≤ 1024) by unfold isB; rw [hb, Bool.and_true]; exact decide_eq_decide.2 (by omega))
      clear hb
      go_wp2
      go_ret
      exact ⟨retb HBB.out.symm, rfl⟩
theorem rnew_no (w : World) (l : List UInt8) (hl : l.length ≤ maxLen) (h : isB l = false) :
    Calls Tryd.prog 11 #[.string ⟨l.toArray⟩] w fun e w' => e = .returned (.tuple #[.pointer none, .int .i64 3]) ∧ w' = w := by
  have HI := Lib.hid (rbits_any w l hl)
  rw [h] at HI
  clear h
  go_enter Tryd.func11, Tryd.ntmps11
  go_wp2_with (go_at_call 24; refine HI.out.mono ?_; rintro e w1 ⟨rfl, rfl⟩)
  go_ret2
  exact ⟨rfl, rfl⟩
theorem rnew_yes (w : World) (l : List UInt8) (h : isB l = true) :
    Calls Tryd.prog 11 #[.string ⟨l.toArray⟩] w fun e w' => ∃ g, e = .returned (.tuple #[.pointer (some ⟨g, 0, none⟩), .int .i64 0]) ∧ w.heap.size ≤ g ∧ RuOk w' g l 0 false ∧ Below w.heap.size w w' := by
  have hl := (isB_iff.1 h).1
  have HI := Lib.hid (rbits_any w l (by unfold maxLen; omega))
  rw [h] at HI
  clear h hl
  go_enter Tryd.func11, Tryd.ntmps11
  go_wp2_with (go_at_call 24; refine HI.out.mono ?_; rintro e w1 ⟨rfl, rfl⟩)
  go_ret2
  exact ⟨_, rfl, Nat.le_refl _, heap_alloc_new _ _, (Below.refl _ _).alloc (Nat.le_refl _) _⟩
theorem rleft_any {w : World} {g a : Nat} {l : List UInt8} {o : Bool} (h : RuOk w g l a o) (hl : l.length ≤ maxLen) (ha : a ≤ l.length) :
    Calls Tryd.prog 25 #[.pointer (some ⟨g, 0, none⟩)] w fun e w' => e = .returned (.int .i64 ((l.length : Int) - (a : Int))) ∧ Below w.heap.size w w' := by
  obtain ⟨h0, h1, h2⟩ := h.cs
  clear h2 h
  have hw : IntKind.i64.wrap ((l.length : Int) - (a : Int)) = (l.length : Int) - (a : Int) := by unfold maxLen at hl; rw [IntKind.wrap_i64]; omega
  clear hl ha
  go_enter Tryd.func25, Tryd.ntmps25
  go_wp2
  go_quiet (fail)
  go_wp2
  go_ret
  exact ⟨rfl, ⟨rfl, rfl, rfl, Nat.le_refl _, fun _ _ => rfl⟩⟩
theorem rrest_any {w : World} {g a : Nat} {l : List UInt8} {o : Bool} (h : RuOk w g l a o) (ha : a ≤ l.length) :
    Calls Tryd.prog 26 #[.pointer (some ⟨g, 0, none⟩)] w fun e w' => e = .returned (.string ⟨(l.drop a).toArray⟩) ∧ Below w.heap.size w w' := by
  have hx : (⟨l.toArray⟩ : ByteArray).extract a l.length = ⟨(l.drop a).toArray⟩ := by
    apply ByteArray.ext
    simp
    exact List.take_of_length_le (by simp)
  obtain ⟨r, hr⟩ : ∃ r, l.drop a = r := ⟨_, rfl⟩
  rw [hr] at hx ⊢
  clear hr
  obtain ⟨h0, h1, h2⟩ := h.cs
  clear h2 h
  go_enter Tryd.func26, Tryd.ntmps26
  go_wp2
  go_quiet (fail)
  go_wp2
  go_ret
  exact ⟨rfl, ⟨rfl, rfl, rfl, Nat.le_refl _, fun _ _ => rfl⟩⟩
theorem rtake_bad {w : World} {g a : Nat} {l : List UInt8} {o : Bool} {n : Int} (h : RuOk w g l a o) (hn : o = true ∨ n < 0 ∨ 64 < n) :
    Calls Tryd.prog 13 #[.pointer (some ⟨g, 0, none⟩), .int .i64 n] w fun e w' => e = .returned (.tuple #[.int .u64 0, .bool false]) ∧ Below w.heap.size w w' := by
  obtain ⟨h0, h1, h2⟩ := h.cs
  clear h0 h1 h
  by_cases h3 : n < 0
  · clear hn
    go_enter Tryd.func13, Tryd.ntmps13
    go_wp2
    go_ret2
    exact ⟨rfl, Below.refl _ _⟩
  · by_cases h4 : 64 < n
    · clear hn
      go_enter Tryd.func13, Tryd.ntmps13
      go_wp2
      go_ret2
      exact ⟨rfl, Below.refl _ _⟩
    · obtain rfl : o = true := by rcases hn with e | e | e; exact e; omega; omega
      clear hn
      go_enter Tryd.func13, Tryd.ntmps13
      go_wp2
      go_ret2
      exact ⟨rfl, Below.refl _ _⟩
theorem rtake_over {w : World} {g a : Nat} {l : List UInt8} {n : Int} (h : RuOk w g l a false) (hl : l.length ≤ 1024) (ha : a ≤ l.length) (hn0 : 0 ≤ n) (hn1 : n ≤ 64) (hn2 : (l.length : Int) < a + n) :
    Calls Tryd.prog 13 #[.pointer (some ⟨g, 0, none⟩), .int .i64 n] w fun e w' => e = .returned (.tuple #[.int .u64 0, .bool false]) ∧ w.grownBy w' (some g) ∧ RuOk w' g l a true := by
  have HQ := Lib.hid h
  obtain ⟨h0, h1, h2⟩ := h.cs
  obtain ⟨f0, f1, f2⟩ := h.frs
  have h3 : ¬ n < 0 := by omega
  have h4 : ¬ 64 < n := by omega
  have h5 : wrap64 ((l.length : Int) - (a : Int)) < n := by unfold wrap64; omega
  clear h f0 f1 hl ha hn0 hn1 hn2
  go_enter Tryd.func13, Tryd.ntmps13
  go_wp2
  go_quiet (fail)
  go_wp2
  go_ret2
  exact ⟨rfl, grownBy_set (grownBy_below (w := w) (w' := w.drewN nq) ⟨rfl, rfl, rfl, Nat.le_refl _, fun _ _ => rfl⟩ _) 2 _, BlkOk.set (HQ.out.drewN nq) 2 _⟩
theorem rtake_good {w : World} {g a k : Nat} {l : List UInt8} (h : RuOk w g l a false) (hl : l.length ≤ 1024) (hb : bitsL l = true) (hk : k ≤ 64) (ha : a + k ≤ l.length) :
    Calls Tryd.prog 13 #[.pointer (some ⟨g, 0, none⟩), .int .i64 (k : Int)] w fun e w' => e = .returned (.tuple #[.int .u64 (numB ((l.drop a).take k) : Nat), .bool true]) ∧ w.grownBy w' (some g) ∧ RuOk w' g l (a + k) false := by
  have HQ := Lib.hid h
  obtain ⟨h0, h1, h2⟩ := h.cs
  have hx : ∀ j : Nat, j < k → ∀ W : World, (Instr.index 9 (.string ⟨l.toArray⟩) (.int .i64 (IntKind.i64.wrap ((a : Int) + (j : Int))))).run Tryd.prog W = .ok (.int .u8 (bat l (a + j))) W := fun j hj W => by
    rw [show IntKind.i64.wrap ((a : Int) + (j : Int)) = ((a + j : Nat) : Int) by rw [IntKind.wrap_i64]; omega]
    exact str_at l 9 strU .i64 (a + j) (by omega) W
  have hs : ∀ j : Nat, j < k → numB ((l.drop a).take j) < 2 ^ 63 ∧ ((bat l (a + j) = 48 ∧ numB ((l.drop a).take (j + 1)) = 2 * numB ((l.drop a).take j)) ∨ (bat l (a + j) = 49 ∧ numB ((l.drop a).take (j + 1)) = 2 * numB ((l.drop a).take j) + 1)) := fun j hj => by
    refine ⟨?_, ?_⟩
    · have h6 := numB_lt (bitsL_take (bitsL_drop hb a) j)
      exact Nat.lt_of_lt_of_le h6 (Nat.pow_le_pow_right (by decide) (by rw [List.length_take]; omega))
    · have h7 := numB_take (l.drop a) j (by rw [List.length_drop]; omega)
      rcases bit_at (bitsL_drop hb a) j (by rw [List.length_drop]; omega) with ⟨e, e'⟩ | ⟨e, e'⟩
      · rw [e'] at h7; rw [drop_bat] at e; exact .inl ⟨e, by rw [h7]; rfl⟩
      · rw [e'] at h7; rw [drop_bat] at e; exact .inr ⟨e, by rw [h7]; rfl⟩
  have HX := Lib.hid hx
  have HS := Lib.hid hs
  have h3 : ¬ (k : Int) < 0 := by omega
  have h4 : ¬ 64 < (k : Int) := by omega
  have h5 : ¬ wrap64 ((l.length : Int) - (a : Int)) < k := by unfold wrap64; omega
  have hl2 := Lib.hid hl
  have ha2 := Lib.hid ha
  clear h hl ha hx hs
  go_enter Tryd.func13, Tryd.ntmps13
  go_wp2
  go_quiet (fail)
  go_wp2
  go_loopw [6, 7] (fun n i wr => ∃ j : Nat, j ≤ k ∧ i = .int .i64 j ∧ n = .int .u64 (numB ((l.drop a).take j) : Nat) ∧ Below w.heap.size w wr) (fun _ i _ => k - (intOf i).toNat)
  case atStart => exact ⟨0, by omega, rfl, rfl, ⟨rfl, rfl, rfl, Nat.le_refl _, fun _ _ => rfl⟩⟩
  case round =>
    obtain ⟨j, hj, rfl, rfl, hbw⟩ := hrel
    have HBW := Lib.hid hbw
    obtain ⟨c0, c1, c2⟩ := (HQ.out.on hbw).cs
    clear hbw c2
    by_cases hlt : j < k
    · have hix := HX.out j hlt
      obtain ⟨hn, hways⟩ := HS.out j hlt
      obtain ⟨x, hxx⟩ : ∃ x, numB ((l.drop a).take j) = x := ⟨_, rfl⟩
      obtain ⟨y, hyy⟩ : ∃ y, numB ((l.drop a).take (j + 1)) = y := ⟨_, rfl⟩
      rw [hxx, hyy] at hways
      rw [hxx] at hn
      rw [hxx]
      have hm : IntKind.u64.wrap (2 * (x : Int)) = 2 * (x : Int) := by rw [IntKind.wrap_u64]; omega
      have ha1 : IntKind.u64.wrap (2 * (x : Int) + 1) = 2 * (x : Int) + 1 := by rw [IntKind.wrap_u64]; omega
      have HYY := Lib.hid hyy
      clear hxx hyy hn
      rcases hways with ⟨hbt, hy⟩ | ⟨hbt, hy⟩
      · have HY := Lib.hid hy
        clear hy
        rw [hbt] at hix
        go_wp2
        go_quiet (fail)
        go_wp2
        go_roundw
        case rel => exact ⟨j + 1, by omega, by go_num, by rw [HYY.out, HY.out]; rfl, HBW.out.trans ⟨rfl, rfl, rfl, Nat.le_refl _, fun _ _ => rfl⟩⟩
        case measure => simp [intOf]; omega
      · have HY := Lib.hid hy
        clear hy
        rw [hbt] at hix
        go_wp2
        go_quiet (fail)
        go_wp2
        go_roundw
        case rel => exact ⟨j + 1, by omega, by go_num, by rw [HYY.out, HY.out]; rfl, HBW.out.trans ⟨rfl, rfl, rfl, Nat.le_refl _, fun _ _ => rfl⟩⟩
        case measure => simp [intOf]; omega
    · obtain rfl : j = k := by omega
      have hwr : IntKind.i64.wrap ((a : Int) + (j : Int)) = (a : Int) + (j : Int) := by have := ha2.out; have := hl2.out; rw [IntKind.wrap_i64]; omega
      obtain ⟨f0, f1, f2⟩ := (HQ.out.on HBW.out).frs
      go_wp2
      go_ret2
      exact ⟨rfl, grownBy_set (grownBy_below HBW.out _) 1 _, BlkOk.set (HQ.out.on HBW.out) 1 _⟩
/-- as the document's -/
theorem like_any {w : World} {g x a : Nat} {l : List UInt8} {o : Bool} (h : CuOk w g l a o) (hr : RuOk w x l a o) (hl : l.length ≤ 1024) (ha : a ≤ l.length) :
    Calls Tryd.prog 14 #[.pointer (some ⟨g, 0, none⟩), .pointer (some ⟨x, 0, none⟩)] w fun e w' => e = .returned (.bool true) ∧ Below w.heap.size w w' := by
  have HC := Lib.hid h
  have HR := Lib.hid hr
  have HL := Lib.hid hl
  have HA := Lib.hid ha
  clear h hr hl ha
  go_enter Tryd.func14, Tryd.ntmps14
  go_wp2_with fail
  refine RV.wp_region_g (by kernel_rfl) [5, 6, 7, 8, 9, 10, 11, 12, 13, 14, 15, 16, 17, 18, 19, 20, 21, 22, 23, 24, 25, 26, 27, 28, 29, 30, 31, 32, 33, 34, 4] [.pointer (some ⟨g, 0, none⟩), .int .i64 (a : Nat), .pointer (some ⟨x, 0, none⟩), .pointer (some ⟨x, 0, none⟩), .pointer (some ⟨x, 1, none⟩), .int .i64 (a : Nat), .bool true, .bool true, .pointer (some ⟨g, 0, none⟩), .int .i64 ((l.length : Int) - (a : Int)), .pointer (some ⟨x, 0, none⟩), .int .i64 ((l.length : Int) - (a : Int)), .bool true, .bool true, .bool true, .pointer (some ⟨g, 0, none⟩), .string ⟨(l.drop a).toArray⟩, .pointer (some ⟨x, 0, none⟩), .string ⟨(l.drop a).toArray⟩, .bool true, .bool true, .bool true, .pointer (some ⟨g, 0, none⟩), .bool o, .pointer (some ⟨x, 0, none⟩), .pointer (some ⟨x, 0, none⟩), .pointer (some ⟨x, 2, none⟩), .bool o, .bool true, .bool true, .bool true] (fun W => Below w.heap.size w W) (by kernel_rfl) rfl (by decide) rfl (by kernel_rfl) ((Below.refl _ _).drew) ?_ ?_
  · intro ii hii fa fw fr hp hG
    match ii, hii with
    | 0, _ =>
      have p0 : fa.eval (.tmp 0) = .pointer (some ⟨g, 0, none⟩) := (fr.out 0 (by decide)).trans rfl
      simp only [Act.eval] at p0
      refine ⟨_, _, rfl, rfl, .inl ⟨RV.wanted_none rfl, .inl ⟨fw, ?_, hG⟩⟩⟩
      simp only [execOp, Act.eval]
      go_simp
      all_goals first | omega | (intro hh; omega) | (rw [IntKind.wrap_i64]; omega)
    | 1, _ =>
      have p5 : fa.eval (.tmp 5) = .pointer (some ⟨g, 0, none⟩) := hp 0 5 _ (by kernel_rfl) rfl rfl
      have hv : (#[Operand.tmp 5] : Array Operand).map fa.eval = #[(.pointer (some ⟨g, 0, none⟩))] := by simp only [List.map_toArray, List.map_cons, List.map_nil, p5]
      exact ⟨_, _, rfl, rfl, .inl ⟨RV.wanted_none rfl, RV.yields_call_g hv Tryd.func17 (by kernel_rfl) rfl (at_any (HC.out.on hG)) (fun e w2 h => ⟨h.1, hG.trans (h.2.mono hG.size)⟩)⟩⟩
    | 2, _ =>
      have p1 : fa.eval (.tmp 1) = .pointer (some ⟨x, 0, none⟩) := (fr.out 1 (by decide)).trans rfl
      simp only [Act.eval] at p1
      refine ⟨_, _, rfl, rfl, .inl ⟨RV.wanted_none rfl, .inl ⟨fw, ?_, hG⟩⟩⟩
      simp only [execOp, Act.eval]
      go_simp
      all_goals first | omega | (intro hh; omega) | (rw [IntKind.wrap_i64]; omega)
    | 3, _ =>
      have p7 : fa.eval (.tmp 7) = .pointer (some ⟨x, 0, none⟩) := hp 2 7 _ (by kernel_rfl) rfl rfl
      simp only [Act.eval] at p7
      refine ⟨_, _, rfl, rfl, .inl ⟨RV.wanted_none rfl, .inl ⟨fw, ?_, hG⟩⟩⟩
      simp only [execOp, Act.eval]
      go_simp
      all_goals first | omega | (intro hh; omega) | (rw [IntKind.wrap_i64]; omega)
    | 4, _ =>
      have p8 : fa.eval (.tmp 8) = .pointer (some ⟨x, 0, none⟩) := hp 3 8 _ (by kernel_rfl) rfl rfl
      simp only [Act.eval] at p8
      refine ⟨_, _, rfl, rfl, .inl ⟨RV.wanted_none rfl, .inl ⟨fw, ?_, hG⟩⟩⟩
      simp only [execOp, Act.eval]
      go_simp
      all_goals first | omega | (intro hh; omega) | (rw [IntKind.wrap_i64]; omega)
    | 5, _ =>
      have p9 : fa.eval (.tmp 9) = .pointer (some ⟨x, 1, none⟩) := hp 4 9 _ (by kernel_rfl) rfl rfl
      simp only [Act.eval] at p9
      obtain ⟨c0, c1, c2⟩ := (HR.out.on hG).cs
      refine ⟨_, _, rfl, rfl, .inl ⟨RV.wanted_none rfl, .inl ⟨fw, ?_, hG⟩⟩⟩
      simp only [execOp, Act.eval]
      go_simp
      all_goals first | omega | (intro hh; omega) | (rw [IntKind.wrap_i64]; omega)
    | 6, _ =>
      have p6 : fa.eval (.tmp 6) = .int .i64 (a : Nat) := hp 1 6 _ (by kernel_rfl) rfl rfl
      have p10 : fa.eval (.tmp 10) = .int .i64 (a : Nat) := hp 5 10 _ (by kernel_rfl) rfl rfl
      simp only [Act.eval] at p6 p10
      refine ⟨_, _, rfl, rfl, .inl ⟨RV.wanted_none rfl, .inl ⟨fw, ?_, hG⟩⟩⟩
      simp only [execOp, Act.eval]
      go_simp
      all_goals first | omega | (intro hh; omega) | (rw [IntKind.wrap_i64]; omega)
    | 7, _ =>
      have p11 : fa.eval (.tmp 11) = .bool true := hp 6 11 _ (by kernel_rfl) rfl rfl
      simp only [Act.eval] at p11
      refine ⟨_, _, rfl, rfl, .inl ⟨RV.wanted_none rfl, .inl ⟨fw, ?_, hG⟩⟩⟩
      simp only [execOp, Act.eval]
      go_simp
      all_goals first | omega | (intro hh; omega) | (rw [IntKind.wrap_i64]; omega)
    | 8, _ =>
      have p0 : fa.eval (.tmp 0) = .pointer (some ⟨g, 0, none⟩) := (fr.out 0 (by decide)).trans rfl
      simp only [Act.eval] at p0
      refine ⟨_, _, rfl, rfl, .inl ⟨RV.wanted_at (d := 12) rfl fr (by rfl) (hp 7 12 _ (by kernel_rfl) rfl rfl) rfl, .inl ⟨fw, ?_, hG⟩⟩⟩
      simp only [execOp, Act.eval]
      go_simp
      all_goals first | omega | (intro hh; omega) | (rw [IntKind.wrap_i64]; omega)
    | 9, _ =>
      have p13 : fa.eval (.tmp 13) = .pointer (some ⟨g, 0, none⟩) := hp 8 13 _ (by kernel_rfl) rfl rfl
      have hv : (#[Operand.tmp 13] : Array Operand).map fa.eval = #[(.pointer (some ⟨g, 0, none⟩))] := by simp only [List.map_toArray, List.map_cons, List.map_nil, p13]
      exact ⟨_, _, rfl, rfl, .inl ⟨RV.wanted_at (d := 12) rfl fr (by rfl) (hp 7 12 _ (by kernel_rfl) rfl rfl) rfl, RV.yields_call_g hv Tryd.func19 (by kernel_rfl) rfl (left_any (HC.out.on hG) (by have := HL.out; unfold maxLen; omega) HA.out) (fun e w2 h => ⟨h.1, hG.trans (h.2.mono hG.size)⟩)⟩⟩
    | 10, _ =>
      have p1 : fa.eval (.tmp 1) = .pointer (some ⟨x, 0, none⟩) := (fr.out 1 (by decide)).trans rfl
      simp only [Act.eval] at p1
      refine ⟨_, _, rfl, rfl, .inl ⟨RV.wanted_at (d := 12) rfl fr (by rfl) (hp 7 12 _ (by kernel_rfl) rfl rfl) rfl, .inl ⟨fw, ?_, hG⟩⟩⟩
      simp only [execOp, Act.eval]
      go_simp
      all_goals first | omega | (intro hh; omega) | (rw [IntKind.wrap_i64]; omega)
    | 11, _ =>
      have p15 : fa.eval (.tmp 15) = .pointer (some ⟨x, 0, none⟩) := hp 10 15 _ (by kernel_rfl) rfl rfl
      have hv : (#[Operand.tmp 15] : Array Operand).map fa.eval = #[(.pointer (some ⟨x, 0, none⟩))] := by simp only [List.map_toArray, List.map_cons, List.map_nil, p15]
      exact ⟨_, _, rfl, rfl, .inl ⟨RV.wanted_at (d := 12) rfl fr (by rfl) (hp 7 12 _ (by kernel_rfl) rfl rfl) rfl, RV.yields_call_g hv Tryd.func25 (by kernel_rfl) rfl (rleft_any (HR.out.on hG) (by have := HL.out; unfold maxLen; omega) HA.out) (fun e w2 h => ⟨h.1, hG.trans (h.2.mono hG.size)⟩)⟩⟩
    | 12, _ =>
      have p14 : fa.eval (.tmp 14) = .int .i64 ((l.length : Int) - (a : Int)) := hp 9 14 _ (by kernel_rfl) rfl rfl
      have p16 : fa.eval (.tmp 16) = .int .i64 ((l.length : Int) - (a : Int)) := hp 11 16 _ (by kernel_rfl) rfl rfl
      simp only [Act.eval] at p14 p16
      refine ⟨_, _, rfl, rfl, .inl ⟨RV.wanted_at (d := 12) rfl fr (by rfl) (hp 7 12 _ (by kernel_rfl) rfl rfl) rfl, .inl ⟨fw, ?_, hG⟩⟩⟩
      simp only [execOp, Act.eval]
      go_simp
      all_goals first | omega | (intro hh; omega) | (rw [IntKind.wrap_i64]; omega)
    | 13, _ =>
      have p12 : fa.eval (.tmp 12) = .bool true := hp 7 12 _ (by kernel_rfl) rfl rfl
      have p17 : fa.eval (.tmp 17) = .bool true := hp 12 17 _ (by kernel_rfl) rfl rfl
      simp only [Act.eval] at p12 p17
      refine ⟨_, _, rfl, rfl, .inl ⟨RV.wanted_none rfl, .inl ⟨fw, ?_, hG⟩⟩⟩
      simp only [execOp, Act.eval]
      go_simp
      all_goals first | omega | (intro hh; omega) | (rw [IntKind.wrap_i64]; omega)
    | 14, _ =>
      have p18 : fa.eval (.tmp 18) = .bool true := hp 13 18 _ (by kernel_rfl) rfl rfl
      simp only [Act.eval] at p18
      refine ⟨_, _, rfl, rfl, .inl ⟨RV.wanted_none rfl, .inl ⟨fw, ?_, hG⟩⟩⟩
      simp only [execOp, Act.eval]
      go_simp
      all_goals first | omega | (intro hh; omega) | (rw [IntKind.wrap_i64]; omega)
    | 15, _ =>
      have p0 : fa.eval (.tmp 0) = .pointer (some ⟨g, 0, none⟩) := (fr.out 0 (by decide)).trans rfl
      simp only [Act.eval] at p0
      refine ⟨_, _, rfl, rfl, .inl ⟨RV.wanted_at (d := 19) rfl fr (by rfl) (hp 14 19 _ (by kernel_rfl) rfl rfl) rfl, .inl ⟨fw, ?_, hG⟩⟩⟩
      simp only [execOp, Act.eval]
      go_simp
      all_goals first | omega | (intro hh; omega) | (rw [IntKind.wrap_i64]; omega)
    | 16, _ =>
      have p20 : fa.eval (.tmp 20) = .pointer (some ⟨g, 0, none⟩) := hp 15 20 _ (by kernel_rfl) rfl rfl
      have hv : (#[Operand.tmp 20] : Array Operand).map fa.eval = #[(.pointer (some ⟨g, 0, none⟩))] := by simp only [List.map_toArray, List.map_cons, List.map_nil, p20]
      exact ⟨_, _, rfl, rfl, .inl ⟨RV.wanted_at (d := 19) rfl fr (by rfl) (hp 14 19 _ (by kernel_rfl) rfl rfl) rfl, RV.yields_call_g hv Tryd.func20 (by kernel_rfl) rfl (rest_any (HC.out.on hG) (by have := HL.out; omega) HA.out) (fun e w2 h => ⟨h.1, hG.trans (h.2.mono hG.size)⟩)⟩⟩
    | 17, _ =>
      have p1 : fa.eval (.tmp 1) = .pointer (some ⟨x, 0, none⟩) := (fr.out 1 (by decide)).trans rfl
      simp only [Act.eval] at p1
      refine ⟨_, _, rfl, rfl, .inl ⟨RV.wanted_at (d := 19) rfl fr (by rfl) (hp 14 19 _ (by kernel_rfl) rfl rfl) rfl, .inl ⟨fw, ?_, hG⟩⟩⟩
      simp only [execOp, Act.eval]
      go_simp
      all_goals first | omega | (intro hh; omega) | (rw [IntKind.wrap_i64]; omega)
    | 18, _ =>
      have p22 : fa.eval (.tmp 22) = .pointer (some ⟨x, 0, none⟩) := hp 17 22 _ (by kernel_rfl) rfl rfl
      have hv : (#[Operand.tmp 22] : Array Operand).map fa.eval = #[(.pointer (some ⟨x, 0, none⟩))] := by simp only [List.map_toArray, List.map_cons, List.map_nil, p22]
      exact ⟨_, _, rfl, rfl, .inl ⟨RV.wanted_at (d := 19) rfl fr (by rfl) (hp 14 19 _ (by kernel_rfl) rfl rfl) rfl, RV.yields_call_g hv Tryd.func26 (by kernel_rfl) rfl (rrest_any (HR.out.on hG) HA.out) (fun e w2 h => ⟨h.1, hG.trans (h.2.mono hG.size)⟩)⟩⟩
    | 19, _ =>
      have p21 : fa.eval (.tmp 21) = .string ⟨(l.drop a).toArray⟩ := hp 16 21 _ (by kernel_rfl) rfl rfl
      have p23 : fa.eval (.tmp 23) = .string ⟨(l.drop a).toArray⟩ := hp 18 23 _ (by kernel_rfl) rfl rfl
      simp only [Act.eval] at p21 p23
      refine ⟨_, _, rfl, rfl, .inl ⟨RV.wanted_at (d := 19) rfl fr (by rfl) (hp 14 19 _ (by kernel_rfl) rfl rfl) rfl, .inl ⟨fw, ?_, hG⟩⟩⟩
      simp only [execOp, Act.eval]
      go_simp
      all_goals first | omega | (intro hh; omega) | (rw [IntKind.wrap_i64]; omega)
    | 20, _ =>
      have p19 : fa.eval (.tmp 19) = .bool true := hp 14 19 _ (by kernel_rfl) rfl rfl
      have p24 : fa.eval (.tmp 24) = .bool true := hp 19 24 _ (by kernel_rfl) rfl rfl
      simp only [Act.eval] at p19 p24
      refine ⟨_, _, rfl, rfl, .inl ⟨RV.wanted_none rfl, .inl ⟨fw, ?_, hG⟩⟩⟩
      simp only [execOp, Act.eval]
      go_simp
      all_goals first | omega | (intro hh; omega) | (rw [IntKind.wrap_i64]; omega)
    | 21, _ =>
      have p25 : fa.eval (.tmp 25) = .bool true := hp 20 25 _ (by kernel_rfl) rfl rfl
      simp only [Act.eval] at p25
      refine ⟨_, _, rfl, rfl, .inl ⟨RV.wanted_none rfl, .inl ⟨fw, ?_, hG⟩⟩⟩
      simp only [execOp, Act.eval]
      go_simp
      all_goals first | omega | (intro hh; omega) | (rw [IntKind.wrap_i64]; omega)
    | 22, _ =>
      have p0 : fa.eval (.tmp 0) = .pointer (some ⟨g, 0, none⟩) := (fr.out 0 (by decide)).trans rfl
      simp only [Act.eval] at p0
      refine ⟨_, _, rfl, rfl, .inl ⟨RV.wanted_at (d := 26) rfl fr (by rfl) (hp 21 26 _ (by kernel_rfl) rfl rfl) rfl, .inl ⟨fw, ?_, hG⟩⟩⟩
      simp only [execOp, Act.eval]
      go_simp
      all_goals first | omega | (intro hh; omega) | (rw [IntKind.wrap_i64]; omega)
    | 23, _ =>
      have p27 : fa.eval (.tmp 27) = .pointer (some ⟨g, 0, none⟩) := hp 22 27 _ (by kernel_rfl) rfl rfl
      have hv : (#[Operand.tmp 27] : Array Operand).map fa.eval = #[(.pointer (some ⟨g, 0, none⟩))] := by simp only [List.map_toArray, List.map_cons, List.map_nil, p27]
      exact ⟨_, _, rfl, rfl, .inl ⟨RV.wanted_at (d := 26) rfl fr (by rfl) (hp 21 26 _ (by kernel_rfl) rfl rfl) rfl, RV.yields_call_g hv Tryd.func18 (by kernel_rfl) rfl (over_any (HC.out.on hG)) (fun e w2 h => ⟨h.1, hG.trans (h.2.mono hG.size)⟩)⟩⟩
    | 24, _ =>
      have p1 : fa.eval (.tmp 1) = .pointer (some ⟨x, 0, none⟩) := (fr.out 1 (by decide)).trans rfl
      simp only [Act.eval] at p1
      refine ⟨_, _, rfl, rfl, .inl ⟨RV.wanted_at (d := 26) rfl fr (by rfl) (hp 21 26 _ (by kernel_rfl) rfl rfl) rfl, .inl ⟨fw, ?_, hG⟩⟩⟩
      simp only [execOp, Act.eval]
      go_simp
      all_goals first | omega | (intro hh; omega) | (rw [IntKind.wrap_i64]; omega)
    | 25, _ =>
      have p29 : fa.eval (.tmp 29) = .pointer (some ⟨x, 0, none⟩) := hp 24 29 _ (by kernel_rfl) rfl rfl
      simp only [Act.eval] at p29
      refine ⟨_, _, rfl, rfl, .inl ⟨RV.wanted_at (d := 26) rfl fr (by rfl) (hp 21 26 _ (by kernel_rfl) rfl rfl) rfl, .inl ⟨fw, ?_, hG⟩⟩⟩
      simp only [execOp, Act.eval]
      go_simp
      all_goals first | omega | (intro hh; omega) | (rw [IntKind.wrap_i64]; omega)
    | 26, _ =>
      have p30 : fa.eval (.tmp 30) = .pointer (some ⟨x, 0, none⟩) := hp 25 30 _ (by kernel_rfl) rfl rfl
      simp only [Act.eval] at p30
      refine ⟨_, _, rfl, rfl, .inl ⟨RV.wanted_at (d := 26) rfl fr (by rfl) (hp 21 26 _ (by kernel_rfl) rfl rfl) rfl, .inl ⟨fw, ?_, hG⟩⟩⟩
      simp only [execOp, Act.eval]
      go_simp
      all_goals first | omega | (intro hh; omega) | (rw [IntKind.wrap_i64]; omega)
    | 27, _ =>
      have p31 : fa.eval (.tmp 31) = .pointer (some ⟨x, 2, none⟩) := hp 26 31 _ (by kernel_rfl) rfl rfl
      simp only [Act.eval] at p31
      obtain ⟨c0, c1, c2⟩ := (HR.out.on hG).cs
      refine ⟨_, _, rfl, rfl, .inl ⟨RV.wanted_at (d := 26) rfl fr (by rfl) (hp 21 26 _ (by kernel_rfl) rfl rfl) rfl, .inl ⟨fw, ?_, hG⟩⟩⟩
      simp only [execOp, Act.eval]
      go_simp
      all_goals first | omega | (intro hh; omega) | (rw [IntKind.wrap_i64]; omega)
    | 28, _ =>
      have p28 : fa.eval (.tmp 28) = .bool o := hp 23 28 _ (by kernel_rfl) rfl rfl
      have p32 : fa.eval (.tmp 32) = .bool o := hp 27 32 _ (by kernel_rfl) rfl rfl
      simp only [Act.eval] at p28 p32
      refine ⟨_, _, rfl, rfl, .inl ⟨RV.wanted_at (d := 26) rfl fr (by rfl) (hp 21 26 _ (by kernel_rfl) rfl rfl) rfl, .inl ⟨fw, ?_, hG⟩⟩⟩
      simp only [execOp, Act.eval]
      go_simp
      all_goals first | omega | (intro hh; omega) | (rw [IntKind.wrap_i64]; omega)
    | 29, _ =>
      have p26 : fa.eval (.tmp 26) = .bool true := hp 21 26 _ (by kernel_rfl) rfl rfl
      have p33 : fa.eval (.tmp 33) = .bool true := hp 28 33 _ (by kernel_rfl) rfl rfl
      simp only [Act.eval] at p26 p33
      refine ⟨_, _, rfl, rfl, .inl ⟨RV.wanted_none rfl, .inl ⟨fw, ?_, hG⟩⟩⟩
      simp only [execOp, Act.eval]
      go_simp
      all_goals first | omega | (intro hh; omega) | (rw [IntKind.wrap_i64]; omega)
    | 30, _ =>
      have p34 : fa.eval (.tmp 34) = .bool true := hp 29 34 _ (by kernel_rfl) rfl rfl
      simp only [Act.eval] at p34
      refine ⟨_, _, rfl, rfl, .inl ⟨RV.wanted_none rfl, .inl ⟨fw, ?_, hG⟩⟩⟩
      simp only [execOp, Act.eval]
      go_simp
      all_goals first | omega | (intro hh; omega) | (rw [IntKind.wrap_i64]; omega)
    | i + 31, hi => exact absurd hi (by show ¬ (i + 31 < 31); omega)
  · intro w2 hG
    simp only [RV.putAll, List.zip_cons_cons, List.zip_nil_left, List.zip_nil_right, List.foldl_cons, List.foldl_nil, Act.put, List.setIfInBounds_toArray, List.set_cons_zero, List.set_cons_succ]
    go_wp2
    go_ret
    exact ⟨rfl, hG⟩
end Go.Proofs.YtifobfbeddlglaaDoor
