/- What the document's Cost of layer 9 answers over this translation (mk_belrcost.py). -/
import Derived.Test.YtolfjhfmcgibbaaGreatDoorBelRefW
import Derived.Test.YtolfjhfmcgibbaaGreatDoorBelCost
import Derived.Test.YtolfjhfmcgibbaaGreatDoorRefRatK
namespace Go.Proofs.YtolfjhfmcgibbaaGreatDoor
open Go.RowKit
set_option linter.unusedVariables false
set_option linter.unusedSimpArgs false
set_option maxRecDepth 20000
open N
section
variable {w0 v0 w : World} {S O : List Ent} {T : List Blk} {A A' : Option Addr} {n c m d k k' M K : Nat} {xs ys : List Int} {v u : Int} {b : Bool}
theorem rmul_9 (h : SC w0 v0 w S T O) (h1 : (⟨A, n, c, k, xs, v⟩ : Ent) ∈ S) (hk : k ≤ 200000) (h2 : (⟨A', m, d, k', ys, u⟩ : Ent) ∈ S) (hk' : k' ≤ 200000) {r : Int} (hr : v * u = r) (hK : r < Q B K) :
    Calls Tryz.prog 70 #[.slice A n c, .slice A' m d] w fun e w' => ∃ A n c, e = .returned (.slice A n c) ∧ SC w0 v0 w' (⟨A, n, c, K, limbs (r), r⟩ :: S) T (⟨A, n, c, K, limbs (r), r⟩ :: O) := by
  obtain ⟨a1, a2, rfl⟩ := h.get h1
  obtain ⟨b1, b2, rfl⟩ := h.get h2
  have hv0 := val_nonneg (b := B) (by decide) a1.dg
  have hu0 := val_nonneg (b := B) (by decide) b1.dg
  have h0 : 0 ≤ val B xs * val B ys := Int.mul_nonneg hv0 hu0
  subst hr
  exact (rmul_any w A A' n c m d xs ys a1 b1 (by omega) (by omega)).mono fun e w' ho => h.rNK h0 hK ho
theorem r6mk_9 (h : SC w0 v0 w S T O) (h1 : (⟨A, n, c, k, xs, v⟩ : Ent) ∈ S) (h2 : (⟨A', m, d, k', ys, u⟩ : Ent) ∈ S) (hk : k ≤ M) (hk' : k' ≤ M) (hM1 : 1 ≤ M) (hM : M ≤ 1000) (hu : 0 < u) {r : Rat} (hr : rv b v u = r) :
    Calls Tryz.prog 63 #[.agg #[.bool b, .slice A n c], .slice A' m d] w fun e w' => ∃ A n c A' n' c', e = .returned (.tuple #[.agg #[.bool (sg r.num), .slice A n c, .slice A' n' c'], .int .i64 0]) ∧
      SC w0 v0 w' (⟨A, n, c, M, limbs (mg r.num), mg r.num⟩ :: ⟨A', n', c', M, limbs r.den, r.den⟩ :: S) T (⟨A, n, c, M, limbs (mg r.num), mg r.num⟩ :: ⟨A', n', c', M, limbs r.den, r.den⟩ :: O) := by
  obtain ⟨a1, a2, rfl⟩ := h.get h1
  obtain ⟨b1, b2, rfl⟩ := h.get h2
  subst hr
  exact (r6make_any w b a1 b1 (by omega) (by omega) hM1 hM hu).mono fun e w' ho => h.rRE (Nat.le_refl _) ho
end
theorem rcost_zero (w : World) : Calls Tryz.prog 46 #[.int .u64 0] w (OutRZ w 1) := by
  have hS := Lib.hid (SC.start w)
  go_enter Tryz.func46, Tryz.ntmps46
  have hm0 := hS.out.boxed (vs := [.bool false, .slice none 0 0, .slice none 0 0]) (ty := 37) rfl rfl
  obtain ⟨m0, m1, m2⟩ := hm0.cs3 0 rfl
  have f0 := hm0.frs 0 rfl 0
  have f1 := hm0.frs 0 rfl 1
  have f2 := hm0.frs 0 rfl 2
  have HM := Lib.hid hm0
  clear hm0
  go_wp2_with fail
  refine bodyPost_ret (results_B2 rfl rfl rfl (loadR (HM.out.box _ (List.mem_of_getElem? (i := 0) rfl)))) rfl ?_
  exact ⟨rfl, HM.out.bl⟩
theorem rcost_any (w : World) (m : Nat) (hm : m < 18446744073709551616) (h0 : 0 < m) : Calls Tryz.prog 46 #[.int .u64 (m : Nat)] w (OutRE w 4 (cR m) 0) := by
  have HW := Lib.hid (fun X : World => rwidth_any X m hm)
  obtain ⟨r, hr0⟩ : ∃ r, cR m = r := ⟨_, rfl⟩
  have hb64 := wd_64 hm
  unfold cR at hr0
  obtain ⟨b, hb⟩ : ∃ b, wd m = b := ⟨_, rfl⟩
  show Calls Tryz.prog 46 #[.int .u64 (m : Nat)] w (OutRE w 4 (cR m) 0)
  rw [show cR m = r by unfold cR; exact hr0]
  rw [hb] at HW hr0 hb64
  clear hb
  obtain ⟨k2, hk2⟩ : ∃ k : Nat, k = 2 := ⟨2, rfl⟩
  obtain ⟨k4, hk4⟩ : ∃ k : Nat, k = 4 := ⟨4, rfl⟩
  have hQ2 : Q B k2 = 340282366920938463463374607431768211456 := by rw [hk2]; decide +kernel
  have hQ4 : 340282366920938463463374607431768211456 ≤ Q B k4 := by rw [hk4]; decide +kernel
  have hk2' : k2 ≤ 4 := by omega
  have hk4' : k4 ≤ 4 := by omega
  have wdb : W.Wd (b : Int) := by unfold W.Wd; omega
  have wdm : W.Wd (m : Int) := by unfold W.Wd; omega
  have hmp : 0 < (m : Int) := by omega
  have hcv : IntKind.u64.wrap (b : Int) = (b : Int) := by rw [IntKind.wrap_u64]; omega
  have hb2 : b ≤ 65536 := by omega
  have hne : ¬ (m : Int) = 0 := by omega
  obtain ⟨P, hPn⟩ : ∃ P : Nat, 2 ^ b = P := ⟨_, rfl⟩
  have hP9 : P ≤ 18446744073709551616 := by rw [← hPn]; exact Nat.pow_le_pow_right (n := 2) (by decide) hb64
  have hPi : (2 : Int) ^ b = (P : Int) := by rw [← hPn]; exact (Int.natCast_pow 2 b).symm
  have hp : (1 : Int) * 2 ^ b = (P : Int) := by rw [Int.one_mul]; exact hPi
  have HPQ := Lib.hid (show (P : Int) < Q B k2 by rw [hQ2]; omega)
  have HBQ := Lib.hid (show (b : Int) < Q B k2 by rw [hQ2]; omega)
  have HMQ := Lib.hid (show (m : Int) < Q B k2 by rw [hQ2]; omega)
  obtain ⟨X, hX⟩ : ∃ X : Nat, b * P = X := ⟨_, rfl⟩
  have hX9 : X ≤ 64 * 18446744073709551616 := by rw [← hX]; exact Nat.mul_le_mul hb64 hP9
  have hx : (b : Int) * (P : Int) = (X : Int) := by rw [← hX]; simp
  have HXQ := Lib.hid (show (X : Int) < Q B k4 by omega)
  have hr : rv false (X : Int) (m : Int) = r := by
    rw [← hr0, hPi, hx]
    unfold rv iv
    simp
  have HPP := Lib.hid hp
  have HXX := Lib.hid hx
  have HRR := Lib.hid hr
  clear hr0 hm h0 hb64 hPn hP9 hPi hX hX9 hQ2 hQ4 hp hx hr hk2 hk4
  have hS := Lib.hid (SC.start w)
  go_enter Tryz.func46, Tryz.ntmps46
  have h1 := (hS.out.boxed (vs := [.bool false, .slice none 0 0, .slice none 0 0]) (ty := 37) rfl rfl)
  try simp only [World.size_alloc] at h1
  obtain ⟨p0_0, p1_0, p2_0⟩ := h1.cs3 0 rfl
  clear h1
  go_wp2_with fail
  clear p0_0 p1_0 p2_0
  generalize hwa : World.alloc w _ = v1
  have h1 := (hS.out.boxed (vs := [.bool false, .slice none 0 0, .slice none 0 0]) (ty := 37) rfl hwa)
  have hsz : v1.heap.size = w.heap.size + 1 := by rw [← hwa]; simp only [World.size_alloc]
  try rw [← hsz]
  clear hwa hsz
  clear hS; have hS := Lib.hid h1; clear h1
  obtain ⟨x0_0, x1_0, x2_0⟩ := hS.out.cs3 0 rfl
  go_wp2_with fail
  go_at_call 68
  with_reducible refine (HW.out _).mono ?_
  rintro e v2 ⟨rfl, hb⟩
  clear x0_0 x1_0 x2_0
  have h1 := (hS.out.lit1 1 (by decide)).below hb
  clear hb
  clear hS; have hS := Lib.hid h1; clear h1
  obtain ⟨x0_0, x1_0, x2_0⟩ := hS.out.cs3 0 rfl
  go_wp2_with fail
  go_at_call 69
  with_reducible refine (rshl_k (K := k2) (q := b) (z := (b : Int)) hS.out (by repeat (first | exact List.mem_cons_self | apply List.mem_cons_of_mem)) (by omega) hb2 rfl HPP.out HPQ.out).mono ?_
  rintro e v3 ⟨A1, n1, c1, rfl, h1⟩
  clear x0_0 x1_0 x2_0
  clear hS; have hS := Lib.hid h1; clear h1
  obtain ⟨x0_0, x1_0, x2_0⟩ := hS.out.cs3 0 rfl
  go_wp2_with fail
  go_at_call 68
  with_reducible refine (HW.out _).mono ?_
  rintro e v4 ⟨rfl, hb⟩
  clear x0_0 x1_0 x2_0
  have h1 := hS.out.below hb
  clear hb
  clear hS; have hS := Lib.hid h1; clear h1
  obtain ⟨x0_0, x1_0, x2_0⟩ := hS.out.cs3 0 rfl
  go_wp2_with fail
  go_at_call 71
  with_reducible refine (rof_k (K := k2) (r := (b : Int)) hS.out wdb HBQ.out).mono ?_
  rintro e v5 ⟨A2, n2, c2, rfl, h1⟩
  clear x0_0 x1_0 x2_0
  clear hS; have hS := Lib.hid h1; clear h1
  obtain ⟨x0_0, x1_0, x2_0⟩ := hS.out.cs3 0 rfl
  go_wp2_with fail
  go_at_call 70
  with_reducible refine (rmul_9 (K := k4) hS.out (by repeat (first | exact List.mem_cons_self | apply List.mem_cons_of_mem)) (by omega) (by repeat (first | exact List.mem_cons_self | apply List.mem_cons_of_mem)) (by omega) HXX.out HXQ.out).mono ?_
  rintro e v6 ⟨A3, n3, c3, rfl, h1⟩
  clear x0_0 x1_0 x2_0
  clear hS; have hS := Lib.hid h1; clear h1
  obtain ⟨x0_0, x1_0, x2_0⟩ := hS.out.cs3 0 rfl
  go_wp2_with fail
  go_at_call 71
  with_reducible refine (rof_k (K := k2) (r := (m : Int)) hS.out wdm HMQ.out).mono ?_
  rintro e v7 ⟨A6, n6, c6, rfl, h1⟩
  clear x0_0 x1_0 x2_0
  clear hS; have hS := Lib.hid h1; clear h1
  obtain ⟨x0_0, x1_0, x2_0⟩ := hS.out.cs3 0 rfl
  go_wp2_with fail
  go_at_call 63
  with_reducible refine (r6mk_9 (b := false) (M := 4) hS.out (by repeat (first | exact List.mem_cons_self | apply List.mem_cons_of_mem)) (by repeat (first | exact List.mem_cons_self | apply List.mem_cons_of_mem)) (by omega) (by omega) (by omega) (by omega) hmp HRR.out).mono ?_
  rintro e v8 ⟨A4, n4, c4, A5, n5, c5, rfl, h1⟩
  clear x0_0 x1_0 x2_0
  clear hS; have hS := Lib.hid h1; clear h1
  obtain ⟨x0_0, x1_0, x2_0⟩ := hS.out.cs3 0 rfl
  have hp0 := hS.out.put3 0 rfl (hS.out.ge_ 0 rfl) (.bool (sg r.num)) (.slice A4 n4 c4) (.slice A5 n5 c5)
  simp only [List.set_cons_zero, List.set_cons_succ] at hp0
  have fz0_0 := hS.out.frs 0 rfl 0
  have fz0_1 := hS.out.frs 0 rfl 1
  have fz0_2 := hS.out.frs 0 rfl 2
  have HPUT := Lib.hid hp0
  clear hp0
  go_wp2_with fail
  refine bodyPost_ret (results_B2 rfl rfl rfl (loadR (HPUT.out.box _ (List.mem_of_getElem? (i := 0) rfl)))) rfl ?_
  exact HPUT.out.toRE2 (r := r) (by repeat (first | exact List.mem_cons_self | apply List.mem_cons_of_mem)) (by repeat (first | exact List.mem_cons_self | apply List.mem_cons_of_mem)) (by repeat (first | exact List.mem_cons_self | apply List.mem_cons_of_mem)) (by repeat (first | exact List.mem_cons_self | apply List.mem_cons_of_mem)) (by omega) (by omega) rfl rfl rfl
theorem rcost_lit (w : World) {m : Nat} {x : Int} {r : Rat} (hx : (m : Int) = x) (hm : m < 18446744073709551616) (h0 : 0 < m) (hr : cR m = r) : Calls Tryz.prog 46 #[.int .u64 x] w (OutRE w 4 r 0) := by
  subst hx hr
  exact rcost_any w m hm h0
theorem rwidth_lit (w : World) {m : Nat} {x y : Int} (hx : (m : Int) = x) (hm : m < 18446744073709551616) (hy : (wd m : Int) = y) : Calls Tryz.prog 68 #[.int .u64 x] w fun e w' => e = .returned (.int .i64 y) ∧ Below w.heap.size w w' := by
  subst hx hy
  exact rwidth_any w m hm
end Go.Proofs.YtolfjhfmcgibbaaGreatDoor
