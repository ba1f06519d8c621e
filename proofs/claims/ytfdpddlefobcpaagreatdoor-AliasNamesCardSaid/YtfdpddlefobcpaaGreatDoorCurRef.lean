/- What the document's own calls of layer 8 answer, over this translation (mk_cur.py). -/
import Derived.Test.YtfdpddlefobcpaaGreatDoorCurProg
import Derived.Test.YtfdpddlefobcpaaGreatDoorBitIdx
import Derived.Test.YtfdpddlefobcpaaGreatDoorRegG
namespace Go.Proofs.YtfdpddlefobcpaaGreatDoor
open Go.RowKit Go.Shelf
set_option linter.unusedVariables false
set_option linter.unusedSimpArgs false
set_option maxRecDepth 20000
open N
/-- a block of the document's cursor -/
def RuOk (w : World) (g : Nat) (l : List UInt8) (a : Nat) (o : Bool) : Prop := BlkOk w ⟨g, cu l a o, 42⟩
section
variable {w w' : World} {g a : Nat} {l : List UInt8} {o : Bool}
theorem RuOk.cs (h : RuOk w g l a o) : w.cell? ⟨g, 0, none⟩ = some (.string ⟨l.toArray⟩) ∧ w.cell? ⟨g, 1, none⟩ = some (.int .i64 (a : Int)) ∧ w.cell? ⟨g, 2, none⟩ = some (.bool o) := ⟨BlkOk.cell h rfl, BlkOk.cell h rfl, BlkOk.cell h rfl⟩
theorem RuOk.frs (h : RuOk w g l a o) : w.frozen? ⟨g, 0, none⟩ = false ∧ w.frozen? ⟨g, 1, none⟩ = false ∧ w.frozen? ⟨g, 2, none⟩ = false := ⟨BlkOk.fr h 0, BlkOk.fr h 1, BlkOk.fr h 2⟩
theorem RuOk.on (h : RuOk w g l a o) (hb : Below w.heap.size w w') : RuOk w' g l a o := BlkOk.on h hb
theorem RuOk.drewN (h : RuOk w g l a o) (k : Nat) : RuOk (w.drewN k) g l a o := h
theorem RuOk.drew (h : RuOk w g l a o) : RuOk w.drew g l a o := h
end
theorem rbits_any (w : World) (l : List UInt8) (hl : l.length ≤ maxLen) :
    Calls Tryz.prog 37 #[.string ⟨l.toArray⟩] w fun e w' => e = .returned (.bool (isB l)) ∧ w' = w := by
  have hm : l.length ≤ 9223372036854775807 := by unfold maxLen at hl; omega
  go_enter Tryz.func37, Tryz.ntmps37
  go_wp2
  go_loop [3] (fun i => ∃ k : Nat, k ≤ l.length ∧ i = .int .i64 k ∧ bitsL (l.take k) = true) (fun i => l.length - (intOf i).toNat)
  case atStart => exact ⟨0, by omega, rfl, rfl⟩
  case round =>
    obtain ⟨k, hk, rfl, hb⟩ := hrel
    by_cases hlt : k < l.length
    · have hx := idx_run l k hlt
      have h1 := bat_ne l k 48
      have h2 := bat_ne l k 49
      have hs := bitsL_succ l k hlt
      rw [hb, Bool.true_and] at hs
      obtain ⟨c, hc⟩ : ∃ c, l.getD k 0 = c := ⟨_, rfl⟩
      rw [hc] at h1 h2 hs
      have HBD := Lib.hid (fun e : isbit c = false => bitsL_bad (l := l) hlt (by rw [hc]; exact e))
      obtain ⟨v, hv⟩ : ∃ v, bat l k = v := ⟨_, rfl⟩
      rw [hv] at hx h1 h2
      have h1 : (v != 48) = (c != 48) := h1
      have h2 : (v != 49) = (c != 49) := h2
      have HS := Lib.hid hs
      clear hs hc hv hb
      by_cases c48 : c = 48
      · subst c48
        have g1 : (v != 48) = false := by rw [h1]; rfl
        clear h1 h2
        go_wp2
        go_round
        case rel => exact ⟨k + 1, by omega, by go_num, by rw [HS.out]; rfl⟩
        case measure => simp [intOf]; omega
      · by_cases c49 : c = 49
        · subst c49
          have g1 : (v != 48) = true := by rw [h1]; rfl
          have g2 : (v != 49) = false := by rw [h2]; rfl
          clear h1 h2
          go_wp2
          go_round
          case rel => exact ⟨k + 1, by omega, by go_num, by rw [HS.out]; rfl⟩
          case measure => simp [intOf]; omega
        · have g1 : (v != 48) = true := by rw [h1]; simpa using c48
          have g2 : (v != 49) = true := by rw [h2]; simpa using c49
          have hbad := HBD.out (by
            cases e : isbit c with
            | false => rfl
            | true => exact absurd (isbit_iff.1 e) (fun e => e.elim c48 c49))
          have HBA := Lib.hid hbad
          clear h1 h2 hbad
          go_wp2
          go_ret
          exact ⟨retb (by unfold isB; rw [HBA.out]; simp), rfl⟩
    · obtain rfl : k = l.length := by omega
      rw [List.take_length] at hb
      have HBB := Lib.hid (show isB l = decide ((l.length : Int) ≤ 1024) by unfold isB; rw [hb, Bool.and_true]; exact decide_eq_decide.2 (by omega))
      clear hb
      go_wp2
      go_ret
      exact ⟨retb HBB.out.symm, rfl⟩
theorem rnew_no (w : World) (l : List UInt8) (hl : l.length ≤ maxLen) (h : isB l = false) :
    Calls Tryz.prog 11 #[.string ⟨l.toArray⟩] w fun e w' => e = .returned (.tuple #[.pointer none, .int .i64 3]) ∧ w' = w := by
  have HI := Lib.hid (rbits_any w l hl)
  rw [h] at HI
  clear h
  go_enter Tryz.func11, Tryz.ntmps11
  go_wp2_with (go_at_call 37; refine HI.out.mono ?_; rintro e w1 ⟨rfl, rfl⟩)
  go_ret2
  exact ⟨rfl, rfl⟩
theorem rnew_yes (w : World) (l : List UInt8) (h : isB l = true) :
    Calls Tryz.prog 11 #[.string ⟨l.toArray⟩] w fun e w' => ∃ g, e = .returned (.tuple #[.pointer (some ⟨g, 0, none⟩), .int .i64 0]) ∧ w.heap.size ≤ g ∧ RuOk w' g l 0 false ∧ Below w.heap.size w w' := by
  have hl := (isB_iff.1 h).1
  have HI := Lib.hid (rbits_any w l (by unfold maxLen; omega))
  rw [h] at HI
  clear h hl
  go_enter Tryz.func11, Tryz.ntmps11
  go_wp2_with (go_at_call 37; refine HI.out.mono ?_; rintro e w1 ⟨rfl, rfl⟩)
  go_ret2
  exact ⟨_, rfl, Nat.le_refl _, heap_alloc_new _ _, (Below.refl _ _).alloc (Nat.le_refl _) _⟩
theorem rtake_bad {w : World} {g a : Nat} {l : List UInt8} {o : Bool} {n : Int} (h : RuOk w g l a o) (hn : o = true ∨ n < 0 ∨ 64 < n) :
    Calls Tryz.prog 59 #[.pointer (some ⟨g, 0, none⟩), .int .i64 n] w fun e w' => e = .returned (.tuple #[.int .u64 0, .bool false]) ∧ Below w.heap.size w w' := by
  obtain ⟨h0, h1, h2⟩ := h.cs
  clear h0 h1 h
  by_cases h3 : n < 0
  · clear hn
    go_enter Tryz.func59, Tryz.ntmps59
    go_wp2
    go_ret2
    exact ⟨rfl, Below.refl _ _⟩
  · by_cases h4 : 64 < n
    · clear hn
      go_enter Tryz.func59, Tryz.ntmps59
      go_wp2
      go_ret2
      exact ⟨rfl, Below.refl _ _⟩
    · obtain rfl : o = true := by rcases hn with e | e | e; exact e; omega; omega
      clear hn
      go_enter Tryz.func59, Tryz.ntmps59
      go_wp2
      go_ret2
      exact ⟨rfl, Below.refl _ _⟩
theorem rtake_over {w : World} {g a : Nat} {l : List UInt8} {n : Int} (h : RuOk w g l a false) (hl : l.length ≤ 1024) (ha : a ≤ l.length) (hn0 : 0 ≤ n) (hn1 : n ≤ 64) (hn2 : (l.length : Int) < a + n) :
    Calls Tryz.prog 59 #[.pointer (some ⟨g, 0, none⟩), .int .i64 n] w fun e w' => e = .returned (.tuple #[.int .u64 0, .bool false]) ∧ w.grownBy w' (some g) ∧ RuOk w' g l a true := by
  have HQ := Lib.hid h
  obtain ⟨h0, h1, h2⟩ := h.cs
  obtain ⟨f0, f1, f2⟩ := h.frs
  have h3 : ¬ n < 0 := by omega
  have h4 : ¬ 64 < n := by omega
  have h5 : wrap64 ((l.length : Int) - (a : Int)) < n := by unfold wrap64; omega
  clear h f0 f1 hl ha hn0 hn1 hn2
  go_enter Tryz.func59, Tryz.ntmps59
  go_wp2
  go_quiet (fail)
  go_wp2
  go_ret2
  exact ⟨rfl, grownBy_set (grownBy_below (w := w) (w' := w.drewN nq) ⟨rfl, rfl, rfl, Nat.le_refl _, fun _ _ => rfl⟩ _) 2 _, BlkOk.set (HQ.out.drewN nq) 2 _⟩
theorem rtake_good {w : World} {g a k : Nat} {l : List UInt8} (h : RuOk w g l a false) (hl : l.length ≤ 1024) (hb : bitsL l = true) (hk : k ≤ 64) (ha : a + k ≤ l.length) :
    Calls Tryz.prog 59 #[.pointer (some ⟨g, 0, none⟩), .int .i64 (k : Int)] w fun e w' => e = .returned (.tuple #[.int .u64 (numB ((l.drop a).take k) : Nat), .bool true]) ∧ w.grownBy w' (some g) ∧ RuOk w' g l (a + k) false := by
  have HQ := Lib.hid h
  obtain ⟨h0, h1, h2⟩ := h.cs
  have hx : ∀ j : Nat, j < k → ∀ W : World, (Instr.index 9 (.string ⟨l.toArray⟩) (.int .i64 (IntKind.i64.wrap ((a : Int) + (j : Int))))).run Tryz.prog W = .ok (.int .u8 (bat l (a + j))) W := fun j hj W => by
    rw [show IntKind.i64.wrap ((a : Int) + (j : Int)) = ((a + j : Nat) : Int) by rw [IntKind.wrap_i64]; omega]
    exact str_at l 9 strU .i64 (a + j) (by omega) W
  have hs : ∀ j : Nat, j < k → numB ((l.drop a).take j) < 2 ^ 63 ∧ ((bat l (a + j) = 48 ∧ numB ((l.drop a).take (j + 1)) = 2 * numB ((l.drop a).take j)) ∨ (bat l (a + j) = 49 ∧ numB ((l.drop a).take (j + 1)) = 2 * numB ((l.drop a).take j) + 1)) := fun j hj => by
    refine ⟨?_, ?_⟩
    · have h6 := numB_lt (bitsL_take (bitsL_drop hb a) j)
      exact Nat.lt_of_lt_of_le h6 (Nat.pow_le_pow_right (by decide) (by rw [List.length_take]; omega))
    · have h7 := numB_take (l.drop a) j (by rw [List.length_drop]; omega)
      rcases bit_at (bitsL_drop hb a) j (by rw [List.length_drop]; omega) with ⟨e, e'⟩ | ⟨e, e'⟩
      · rw [e'] at h7; rw [drop_bat] at e; exact .inl ⟨e, by rw [h7]; rfl⟩
      · rw [e'] at h7; rw [drop_bat] at e; exact .inr ⟨e, by rw [h7]; rfl⟩
  have HX := Lib.hid hx
  have HS := Lib.hid hs
  have h3 : ¬ (k : Int) < 0 := by omega
  have h4 : ¬ 64 < (k : Int) := by omega
  have h5 : ¬ wrap64 ((l.length : Int) - (a : Int)) < k := by unfold wrap64; omega
  have hl2 := Lib.hid hl
  have ha2 := Lib.hid ha
  clear h hl ha hx hs
  go_enter Tryz.func59, Tryz.ntmps59
  go_wp2
  go_quiet (fail)
  go_wp2
  go_loopw [6, 7] (fun n i wr => ∃ j : Nat, j ≤ k ∧ i = .int .i64 j ∧ n = .int .u64 (numB ((l.drop a).take j) : Nat) ∧ Below w.heap.size w wr) (fun _ i _ => k - (intOf i).toNat)
  case atStart => exact ⟨0, by omega, rfl, rfl, ⟨rfl, rfl, rfl, Nat.le_refl _, fun _ _ => rfl⟩⟩
  case round =>
    obtain ⟨j, hj, rfl, rfl, hbw⟩ := hrel
    have HBW := Lib.hid hbw
    obtain ⟨c0, c1, c2⟩ := (HQ.out.on hbw).cs
    clear hbw c2
    by_cases hlt : j < k
    · have hix := HX.out j hlt
      obtain ⟨hn, hways⟩ := HS.out j hlt
      obtain ⟨x, hxx⟩ : ∃ x, numB ((l.drop a).take j) = x := ⟨_, rfl⟩
      obtain ⟨y, hyy⟩ : ∃ y, numB ((l.drop a).take (j + 1)) = y := ⟨_, rfl⟩
      rw [hxx, hyy] at hways
      rw [hxx] at hn
      rw [hxx]
      have hm : IntKind.u64.wrap (2 * (x : Int)) = 2 * (x : Int) := by rw [IntKind.wrap_u64]; omega
      have ha1 : IntKind.u64.wrap (2 * (x : Int) + 1) = 2 * (x : Int) + 1 := by rw [IntKind.wrap_u64]; omega
      have HYY := Lib.hid hyy
      clear hxx hyy hn
      rcases hways with ⟨hbt, hy⟩ | ⟨hbt, hy⟩
      · have HY := Lib.hid hy
        clear hy
        rw [hbt] at hix
        go_wp2
        go_quiet (fail)
        go_wp2
        go_roundw
        case rel => exact ⟨j + 1, by omega, by go_num, by rw [HYY.out, HY.out]; rfl, HBW.out.trans ⟨rfl, rfl, rfl, Nat.le_refl _, fun _ _ => rfl⟩⟩
        case measure => simp [intOf]; omega
      · have HY := Lib.hid hy
        clear hy
        rw [hbt] at hix
        go_wp2
        go_quiet (fail)
        go_wp2
        go_roundw
        case rel => exact ⟨j + 1, by omega, by go_num, by rw [HYY.out, HY.out]; rfl, HBW.out.trans ⟨rfl, rfl, rfl, Nat.le_refl _, fun _ _ => rfl⟩⟩
        case measure => simp [intOf]; omega
    · obtain rfl : j = k := by omega
      have hwr : IntKind.i64.wrap ((a : Int) + (j : Int)) = (a : Int) + (j : Int) := by have := ha2.out; have := hl2.out; rw [IntKind.wrap_i64]; omega
      obtain ⟨f0, f1, f2⟩ := (HQ.out.on HBW.out).frs
      go_wp2
      go_ret2
      exact ⟨rfl, grownBy_set (grownBy_below HBW.out _) 1 _, BlkOk.set (HQ.out.on HBW.out) 1 _⟩
end Go.Proofs.YtfdpddlefobcpaaGreatDoor
