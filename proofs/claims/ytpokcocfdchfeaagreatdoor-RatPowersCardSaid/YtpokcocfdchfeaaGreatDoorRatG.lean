/- The statements' own helpers of layer 6: Is, over, Long; states of whole fractions. -/
import Derived.Test.YtpokcocfdchfeaaGreatDoorRatF
import Derived.Test.YtpokcocfdchfeaaGreatDoorRatFlow
namespace Go.Proofs.YtpokcocfdchfeaaGreatDoor
open Go.RowKit
set_option linter.unusedVariables false
set_option linter.unusedSimpArgs false
set_option maxRecDepth 20000
open N
open Go.Lib (decDigits nDigits decDigits_length nDigits_pos)
open RC
section
variable {w0 v0 w w' : World} {S O : List Ent} {T : List Blk} {A A' : Option Addr} {n c m d k k' M : Nat} {xs ys : List Int} {v u : Int} {b : Bool} {r : Rat}
theorem SC.frm (h : SC w0 v0 w S T O) (h1 : (⟨A, n, c, k, xs, v⟩ : Ent) ∈ S) (h2 : (⟨A', m, d, k', ys, u⟩ : Ent) ∈ S) (hk : k ≤ M) (hk' : k' ≤ M) (hr : rv b v u = r) : Frm w b A n c xs A' m d ys M r := by
  obtain ⟨a1, a2, rfl⟩ := h.get h1
  obtain ⟨b1, b2, rfl⟩ := h.get h2
  exact ⟨a1, b1, by omega, by omega, hr⟩
/-- one that was told -/
theorem SC.frt (h : SC w0 v0 w S T O) (h1 : (⟨A, n, c, k, limbs (mg r.num), mg r.num⟩ : Ent) ∈ S) (h2 : (⟨A', m, d, k, limbs r.den, r.den⟩ : Ent) ∈ S) : Frm w (sg r.num) A n c (limbs (mg r.num)) A' m d (limbs r.den) k r :=
  h.frm h1 h2 (Nat.le_refl _) (Nat.le_refl _) (rv_self r)
theorem SC.rRZ (h : SC w0 v0 w S T O) {j : Int} {e : Ending} (ho : OutRZ w j e w') : e = .returned (.tuple #[.agg #[.bool false, .slice none 0 0, .slice none 0 0], .int .i64 j]) ∧ SC w0 v0 w' S T O := ⟨ho.1, h.below ho.2⟩
theorem rsame_c (h : SC w0 v0 w S T O) (h1 : (⟨A, n, c, k, xs, v⟩ : Ent) ∈ S) (h2 : (⟨A', m, d, k', ys, u⟩ : Ent) ∈ S) {q : Bool} (hq : decide (xs = ys) = q) :
    Calls Tryz.prog 20 #[.slice A n c, .slice A' m d] w fun e w' => e = .returned (.bool q) ∧ SC w0 v0 w' S T O := by
  subst hq
  exact (same_any w A A' n c m d xs ys (h.get h1).1 (h.get h2).1).mono fun e w' ⟨he, q, hb⟩ => ⟨he, by rw [hb]; exact h.drewN q⟩
theorem SC.lit11 (h : SC w0 v0 w S T O) (x y : Int) (hx : 0 ≤ x ∧ x < 18446744073709551616) (hy : 0 ≤ y ∧ y < 18446744073709551616) :
    SC w0 v0 ((w.alloc (.cells #[.int .u64 x] 38)).alloc (.cells #[.int .u64 y] 38)) (⟨some ⟨w.heap.size + 1, 0, none⟩, 1, 1, 1, [y], y⟩ :: ⟨some ⟨w.heap.size, 0, none⟩, 1, 1, 1, [x], x⟩ :: S) T O := by
  have := (h.lit1 x hx).lit1 y hy
  rw [World.size_alloc] at this
  exact this
end
theorem shR_lit {bs : List UInt8} {r : Rat} (h : rdK bs = 0) (h2 : rdR bs = r) : shR r = bs := by rw [← h2]; exact sh_rdR h
section
variable {w : World} {A0 A0' A1 A1' : Option Addr} {n0 c0 n0' c0' n1 c1 n1' c1' : Nat} {x0 x0' : List Int} {b : Bool}
theorem is_any (w : World) (b : Bool) (h1 : Sl w A0 n0 c0 x0) (h2 : Sl w A0' n0' c0' x0') (g1 : Sl w A1 n1 c1 x0) (g2 : Sl w A1' n1' c1' x0') :
    Calls Tryz.prog 8 #[.agg #[.bool b, .slice A0 n0 c0, .slice A0' n0' c0'], .agg #[.bool b, .slice A1 n1 c1, .slice A1' n1' c1']] w fun e w' => e = .returned (.bool true) ∧ Below w.heap.size w w' := by
  have hS := Lib.hid (((((SC.start w).old (k := n1') g2 (Nat.le_refl _) rfl).old (k := n1) g1 (Nat.le_refl _) rfl).old (k := n0') h2 (Nat.le_refl _) rfl).old (k := n0) h1 (Nat.le_refl _) rfl)
  clear h1 h2 g1 g2
  go_enter Tryz.func8, Tryz.ntmps8
  have h1 := ((hS.out.boxed (vs := [.bool b, .slice A0 n0 c0, .slice A0' n0' c0']) (ty := 27) rfl rfl).boxed (vs := [.bool b, .slice A1 n1 c1, .slice A1' n1' c1']) (ty := 27) rfl rfl)
  try simp only [World.size_alloc] at h1
  obtain ⟨p0_0, p1_0, p2_0⟩ := h1.cs3 0 rfl
  obtain ⟨p0_1, p1_1, p2_1⟩ := h1.cs3 1 rfl
  clear h1
  go_wp2_with fail
  clear p0_0 p1_0 p2_0 p0_1 p1_1 p2_1
  generalize hwa : World.alloc (World.alloc w _) _ = v1
  have h1 := ((hS.out.boxed (vs := [.bool b, .slice A0 n0 c0, .slice A0' n0' c0']) (ty := 27) rfl rfl).boxed (vs := [.bool b, .slice A1 n1 c1, .slice A1' n1' c1']) (ty := 27) rfl hwa)
  simp only [World.size_alloc] at h1
  have hsz : v1.heap.size = w.heap.size + 1 + 1 := by rw [← hwa]; simp only [World.size_alloc]
  try rw [← hsz]
  clear hwa hsz
  clear hS; have hS := Lib.hid h1; clear h1
  obtain ⟨x0_0, x1_0, x2_0⟩ := hS.out.cs3 0 rfl
  obtain ⟨x0_1, x1_1, x2_1⟩ := hS.out.cs3 1 rfl
  go_wp2_with fail
  go_at_call 20
  with_reducible refine (rsame_c (q := true) hS.out (by repeat (first | exact List.mem_cons_self | apply List.mem_cons_of_mem)) (by repeat (first | exact List.mem_cons_self | apply List.mem_cons_of_mem)) (decide_eq_true rfl)).mono ?_
  rintro e v2 ⟨rfl, h1⟩
  clear x0_0 x1_0 x2_0 x0_1 x1_1 x2_1
  clear hS; have hS := Lib.hid h1; clear h1
  obtain ⟨x0_0, x1_0, x2_0⟩ := hS.out.cs3 0 rfl
  obtain ⟨x0_1, x1_1, x2_1⟩ := hS.out.cs3 1 rfl
  go_wp2_with fail
  go_at_call 20
  with_reducible refine (rsame_c (q := true) hS.out (by repeat (first | exact List.mem_cons_self | apply List.mem_cons_of_mem)) (by repeat (first | exact List.mem_cons_self | apply List.mem_cons_of_mem)) (decide_eq_true rfl)).mono ?_
  rintro e v3 ⟨rfl, h1⟩
  clear x0_0 x1_0 x2_0 x0_1 x1_1 x2_1
  clear hS; have hS := Lib.hid h1; clear h1
  obtain ⟨x0_0, x1_0, x2_0⟩ := hS.out.cs3 0 rfl
  obtain ⟨x0_1, x1_1, x2_1⟩ := hS.out.cs3 1 rfl
  go_wp2
  go_ret
  exact ⟨rfl, hS.out.bl⟩
theorem over_of {x y : Int} {r : Rat} {M : Nat} {j : Int} (H : ∀ W, Calls Tryz.prog 32 #[.int .i64 x, .int .i64 y] W (OutRE W M r j)) (w : World) :
    Calls Tryz.prog 12 #[.int .i64 x, .int .i64 y] w (OutR w M r) := by
  have HH := Lib.hid H
  clear H
  have hS := Lib.hid (SC.start w)
  go_enter Tryz.func12, Tryz.ntmps12
  have h1 := (hS.out.boxed (vs := [.bool false, .slice none 0 0, .slice none 0 0]) (ty := 27) rfl rfl)
  try simp only [World.size_alloc] at h1
  obtain ⟨p0_0, p1_0, p2_0⟩ := h1.cs3 0 rfl
  clear h1
  go_wp2_with fail
  clear p0_0 p1_0 p2_0
  generalize hwa : World.alloc w _ = v1
  have h1 := (hS.out.boxed (vs := [.bool false, .slice none 0 0, .slice none 0 0]) (ty := 27) rfl hwa)
  have hsz : v1.heap.size = w.heap.size + 1 := by rw [← hwa]; simp only [World.size_alloc]
  try rw [← hsz]
  clear hwa hsz
  clear hS; have hS := Lib.hid h1; clear h1
  obtain ⟨x0_0, x1_0, x2_0⟩ := hS.out.cs3 0 rfl
  go_wp2_with fail
  go_at_call 32
  with_reducible refine (HH.out _).mono ?_
  rintro e v2 ho
  clear x0_0 x1_0 x2_0
  obtain ⟨A3, n3, c3, A4, n4, c4, rfl, h1⟩ := hS.out.rRE (Nat.le_refl _) ho
  clear hS; have hS := Lib.hid h1; clear h1
  obtain ⟨x0_0, x1_0, x2_0⟩ := hS.out.cs3 0 rfl
  have hm0 := hS.out.boxed (vs := [.bool (sg r.num), .slice A3 n3 c3, .slice A4 n4 c4]) (ty := 27) rfl rfl
  try simp only [World.size_alloc] at hm0
  obtain ⟨m00_0, m01_0, m02_0⟩ := hm0.cs3 0 rfl
  obtain ⟨m00_1, m01_1, m02_1⟩ := hm0.cs3 1 rfl
  have hp0 := hm0.put3 1 rfl (hm0.ge_ 1 rfl) (.bool (sg r.num)) (.slice A3 n3 c3) (.slice A4 n4 c4)
  simp only [List.set_cons_zero, List.set_cons_succ] at hp0
  have fz0_0 := hm0.frs 1 rfl 0
  have fz0_1 := hm0.frs 1 rfl 1
  have fz0_2 := hm0.frs 1 rfl 2
  have HPUT := Lib.hid hp0
  clear hp0
  clear hm0
  go_wp2_with fail
  refine bodyPost_ret (results_B rfl rfl (loadR (HPUT.out.box _ (List.mem_of_getElem? (i := 1) rfl)))) rfl ?_
  exact HPUT.out.toR2 (k := M) (k' := M) (r := r) (by repeat (first | exact List.mem_cons_self | apply List.mem_cons_of_mem)) (by repeat (first | exact List.mem_cons_self | apply List.mem_cons_of_mem)) (by repeat (first | exact List.mem_cons_self | apply List.mem_cons_of_mem)) (by repeat (first | exact List.mem_cons_self | apply List.mem_cons_of_mem)) (Nat.le_refl _) (Nat.le_refl _) rfl rfl rfl
end
set_option maxHeartbeats 1000000 in
theorem long_no (w : World) (P : Option Addr) (l : List Fm) (cp : Nat) (h : Fms w P l) (hl : l.length ≤ 100) (hn : ∀ f ∈ l, f.n ≤ 6 ∧ f.n' ≤ 6) :
    Calls Tryz.prog 4 #[.slice P l.length cp] w fun e w' => e = .returned (.bool false) ∧ w' = w := by
  obtain ⟨q, hq⟩ : ∃ q : Nat, l.length = q := ⟨_, rfl⟩
  have HN := Lib.hid hn
  have HH := Lib.hid h
  have HQ := Lib.hid hq
  rw [hq] at hl ⊢
  clear hn h hq
  go_enter Tryz.func4, Tryz.ntmps4
  go_wp2
  go_loop [3] (fun i => ∃ k : Nat, k ≤ q ∧ i = .int .i64 k) (fun i => q - (intOf i).toNat)
  case atStart => exact ⟨0, Nat.zero_le _, rfl⟩
  case round =>
    obtain ⟨k, hk, rfl⟩ := hrel
    by_cases hlt : k < q
    · have hkl : k < l.length := by have := HQ.out; omega
      obtain ⟨g, rfl, hg, e0, e1, e2⟩ := HH.out k hkl
      obtain ⟨h24, h25⟩ := HN.out _ (List.getElem_mem hkl)
      generalize l[k] = f at *
      obtain ⟨fb, fA, fn, fc, fxs, fA', fn', fc', fys, fr⟩ := f
      simp only at e0 e1 e2 h24 h25
      go_wp2
      go_round
      case rel => exact ⟨k + 1, by omega, by go_num⟩
      case measure => simp [intOf]; omega
    · obtain rfl : k = q := by omega
      go_wp2
      go_ret
      exact ⟨rfl, rfl⟩
set_option maxHeartbeats 1000000 in
theorem long_yes (w : World) (P : Option Addr) (l : List Fm) (cp : Nat) (h : Fms w P l) (hl : l.length ≤ 100) (hm : ∀ f ∈ l, f.n ≤ 9223372036854775807 ∧ f.n' ≤ 9223372036854775807) (hn : ∃ f ∈ l, ¬ (f.n ≤ 6 ∧ f.n' ≤ 6)) :
    Calls Tryz.prog 4 #[.slice P l.length cp] w fun e w' => e = .returned (.bool true) ∧ w' = w := by
  obtain ⟨q, hq⟩ : ∃ q : Nat, l.length = q := ⟨_, rfl⟩
  have HN := Lib.hid hn
  have HH := Lib.hid h
  have HQ := Lib.hid hq
  have HM := Lib.hid hm
  rw [hq] at hl ⊢
  clear hn h hq hm
  go_enter Tryz.func4, Tryz.ntmps4
  go_wp2
  go_loop [3] (fun i => ∃ k : Nat, k ≤ q ∧ i = .int .i64 k ∧ ∀ j (hj : j < l.length), j < k → l[j].n ≤ 6 ∧ l[j].n' ≤ 6) (fun i => q - (intOf i).toNat)
  case atStart => exact ⟨0, Nat.zero_le _, rfl, fun j _ hj => by omega⟩
  case round =>
    obtain ⟨k, hk, rfl, hall⟩ := hrel
    have HA := Lib.hid hall
    clear hall
    by_cases hlt : k < q
    · have hkl : k < l.length := by have := HQ.out; omega
      obtain ⟨g, rfl, hg, e0, e1, e2⟩ := HH.out k hkl
      obtain ⟨h24, h25⟩ := HM.out _ (List.getElem_mem hkl)
      obtain ⟨f, hf⟩ : ∃ f, l[k] = f := ⟨_, rfl⟩
      rw [hf] at e0 e1 e2 h24 h25
      have HF := Lib.hid hf
      clear hf
      obtain ⟨fb, fA, fn, fc, fxs, fA', fn', fc', fys, fr⟩ := f
      simp only at e0 e1 e2 h24 h25
      by_cases h6 : fn ≤ 6
      · by_cases h7 : fn' ≤ 6
        · go_wp2
          go_round
          case rel => exact ⟨k + 1, by omega, by go_num, fun j hj hj' => by
            by_cases hjk : j = k
            · subst hjk; rw [HF.out]; exact ⟨h6, h7⟩
            · exact HA.out j hj (by omega)⟩
          case measure => simp [intOf]; omega
        · go_wp2
          go_ret
          exact ⟨rfl, rfl⟩
      · go_wp2
        go_ret
        exact ⟨rfl, rfl⟩
    · exfalso
      obtain rfl : k = q := by omega
      obtain ⟨f, hf, h24⟩ := HN.out
      obtain ⟨j, hj⟩ := List.getElem?_of_mem hf
      obtain ⟨hjl, hj2⟩ := List.getElem?_eq_some_iff.1 hj
      exact h24 (by rw [← hj2]; exact HA.out j hjl (by have := HQ.out; omega))
end Go.Proofs.YtpokcocfdchfeaaGreatDoor
