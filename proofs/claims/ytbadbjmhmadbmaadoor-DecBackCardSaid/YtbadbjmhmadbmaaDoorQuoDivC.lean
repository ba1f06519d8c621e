/- What Div of layer 3 answers, over this translation. -/
import Derived.Test.YtbadbjmhmadbmaaDoorQuoLongC
namespace Go.Proofs.YtbadbjmhmadbmaaDoor
open Go.RowKit
set_option linter.unusedVariables false
set_option maxRecDepth 20000
open N
/-- what Div tells: both naturals in memory of the call's own, in two blocks, beside an error's number -/
def OutD3 (W : World) (m : Nat) (q r : Int) (k : Int) (e : Ending) (w' : World) : Prop :=
  ∃ A n c A' n' c', e = .returned (.tuple #[.slice A n c, .slice A' n' c', .int .i64 k]) ∧ n ≤ m ∧ n' ≤ m ∧ N.Own w' W.heap.size A n c (limbs q) ∧ N.Own w' W.heap.size A' n' c' (limbs r) ∧ (∀ g, rowOf A = some g → rowOf A' ≠ some g) ∧ Below W.heap.size W w'
namespace N
theorem nn_tr (xs : List Int) : nn (tr xs) = nn xs := by
  have h1 := nn_le (tr xs)
  rw [tr_length] at h1
  apply Nat.le_antisymm h1
  apply Classical.byContradiction; intro hc
  have h2 := nn_top xs (by omega)
  rw [← lim_tr] at h2
  exact h2 (nn_zero (tr xs) _ (by omega))
end N
theorem qdiv_zero (w : World) (A A' : Option Addr) (n c m d : Nat) (xs ys : List Int) (hx : Sl w A n c xs) (hy : Sl w A' m d ys) (hn : n ≤ 1099511627775) (hm : m ≤ 1099511627775) (hv : val B ys = 0) :
    Calls Tryd.prog 50 #[.slice A n c, .slice A' m d] w fun e w' => e = .returned (.tuple #[.slice none 0 0, .slice none 0 0, .int .i64 7]) ∧ w' = w := by
  have h0 := (nn_zero_iff hy.dg).2 hv
  have e1 : (((nn ys : Nat) : Int) == 0) = true := by simp [h0]
  have H0 := Lib.hid h0
  clear h0 hv
  go_enter Tryd.func50, Tryd.ntmps50
  go_wp2_with (first
    | (go_at_call_of 67 (Value.slice A n c); refine (qbare_any _ _ _ _ xs hx (by omega)).mono ?_; rintro e w' ⟨rfl, rfl⟩)
    | (go_at_call_of 67 (Value.slice A' m d); refine (qbare_any _ _ _ _ ys hy (by omega)).mono ?_; rintro e w' ⟨rfl, rfl⟩))
  go_ret3
  exact ⟨rfl, rfl⟩
set_option maxHeartbeats 1000000 in
theorem qdiv_any (w : World) (A A' : Option Addr) (n c m d : Nat) (xs ys : List Int) (hx : Sl w A n c xs) (hy : Sl w A' m d ys) (hn : n ≤ 1099511627775) (hm : m ≤ 1099511627775) (hv : 0 < val B ys) :
    Calls Tryd.prog 50 #[.slice A n c, .slice A' m d] w (OutD3 w n (val B xs / val B ys) (val B xs % val B ys) 0) := by
  have hnx := nn_le xs
  have hny := nn_le ys
  rw [hx.len] at hnx
  rw [hy.len] at hny
  have hx1 := hx.tr
  have hy1 := hy.tr
  have h0 : 0 < nn ys := by have := nn_zero_iff hy.dg; omega
  have e1 : (((nn ys : Nat) : Int) == 0) = false := by simp; omega
  have hvx := val_nonneg (b := B) (by decide) hx.dg
  have hcm := fun W (hb : Below w.heap.size w W) => ncmp_any W A A' (nn xs) c (nn ys) d (tr xs) (tr ys) (hx1.below hb) (hy1.below hb) (by omega) (by omega)
  rw [val_tr, val_tr] at hcm
  by_cases hlt : val B xs < val B ys
  · have HC := Lib.hid (cmpI_lt hlt)
    have HE := Lib.hid (⟨Int.ediv_eq_zero_of_lt hvx hlt, Int.emod_eq_of_lt hvx hlt⟩ : val B xs / val B ys = 0 ∧ val B xs % val B ys = val B xs)
    have HCM := Lib.hid hcm
    have ht := fun W (hb : Below w.heap.size w W) => trim_any W A (nn xs) c (tr xs) (hx1.below hb) (by omega)
    rw [val_tr] at ht
    have HT := Lib.hid ht
    clear hcm ht hlt hvx
    go_enter Tryd.func50, Tryd.ntmps50
    go_wp2_with (first
      | (go_at_call_of 67 (Value.slice A n c); refine (qbare_any _ _ _ _ xs hx (by omega)).mono ?_; rintro e w' ⟨rfl, rfl⟩)
      | (go_at_call_of 67 (Value.slice A' m d); refine (qbare_any _ _ _ _ ys hy (by omega)).mono ?_; rintro e w' ⟨rfl, rfl⟩)
      | (go_at_call 28; refine (HCM.out _ (Below.refl _ _)).mono ?_; rw [HC.out]; rintro e w1 ⟨rfl, hb1⟩)
      | (go_at_call 24; refine (HT.out _ hb1).mono ?_; rintro e w2 ⟨Ar, nr, cr, rfl, hnr, hor, hbr⟩))
    go_ret3
    rw [HE.out.1, HE.out.2]
    exact ⟨none, 0, 0, Ar, nr, cr, rfl, by omega, by omega, by rw [limbs_zero]; exact Own.nil_ _ _, hor.mono hb1.size, (fun g e => by cases e), hb1.trans (hbr.mono hb1.size)⟩
  · obtain ⟨cc, hcc, hc0⟩ : ∃ cc : Int, cmpI (val B xs) (val B ys) = cc ∧ 0 ≤ cc := by
      rcases Int.lt_or_eq_of_le (show val B ys ≤ val B xs by omega) with h | h
      · exact ⟨1, cmpI_gt h, by omega⟩
      · exact ⟨0, cmpI_eq h.symm, by omega⟩
    have HC := Lib.hid hcc
    have HCM := Lib.hid hcm
    have hle : nn ys ≤ nn xs := by
      apply Classical.byContradiction; intro hc
      have := lt_of_nn hx.dg hy.dg (by omega)
      omega
    clear hcc hcm
    by_cases h1 : nn ys = 1
    · have e2 : (((nn ys : Nat) : Int) == 1) = true := by simp [h1]
      obtain ⟨ad, rfl, _, hcell⟩ := hy.cell (k := 0) (by omega)
      have hv1 : lim ys 0 = val B ys := lim_zero hy.dg ((nn_one_iff hy.dg).1 (by omega))
      rw [hv1] at hcell
      have hcb : ∀ W, Below w.heap.size w W → W.cell? ad = some (.int .u64 (val B ys)) := fun W hb => by
        obtain ⟨ad', e, _, h⟩ := (hy.below hb).cell (k := 0) (by omega)
        cases e
        rw [hv1, N.add_zero] at h
        exact h
      have hw : W.Wd (val B ys) := by rw [← hv1]; exact hy.dg.lim (by decide) 0
      have hs := fun W (hb : Below w.heap.size w W) => short_any W A (nn xs) c (tr xs) (hx1.below hb) (by omega) (val B ys) hw hv
      rw [val_tr] at hs
      have HS := Lib.hid hs
      have H1 := Lib.hid h1
      have HV1 := Lib.hid hv1
      have HCB := Lib.hid hcb
      clear hs h1 hv1 hcb hcell
      go_enter Tryd.func50, Tryd.ntmps50
      go_wp2_with (first
        | (go_at_call_of 67 (Value.slice A n c); refine (qbare_any _ _ _ _ xs hx (by omega)).mono ?_; rintro e w' ⟨rfl, rfl⟩)
        | (go_at_call_of 67 (Value.slice (some ad) m d); refine (qbare_any _ _ _ _ ys hy (by omega)).mono ?_; rintro e w' ⟨rfl, rfl⟩)
        | (go_at_call 28; refine (HCM.out _ (Below.refl _ _)).mono ?_; rw [HC.out]; rintro e w1 ⟨rfl, hb1⟩; have hc1 := HCB.out _ hb1; have HB1 := Lib.hid hb1; clear hb1)
        | (go_at_call 68; refine (HS.out _ HB1.out).mono ?_; rintro e w2 ⟨Aq, nq, cq, Ar, nr, cr, rfl, hnq, hnr, hoq, hor, hne, hbr⟩))
      go_ret3
      exact ⟨Aq, nq, cq, Ar, nr, cr, rfl, by omega, by have := H1.out; omega, hoq.mono HB1.out.size, hor.mono HB1.out.size, hne, HB1.out.trans (hbr.mono HB1.out.size)⟩
    · have e2 : (((nn ys : Nat) : Int) == 1) = false := by simp; omega
      have hs := fun W (hb : Below w.heap.size w W) => long_any W A A' (nn xs) c (nn ys) d (tr xs) (tr ys) (hx1.below hb) (hy1.below hb) (by omega) (nn_tr ys) hle (by omega) (nn_tr xs)
      rw [val_tr, val_tr] at hs
      have HS := Lib.hid hs
      have H1 := Lib.hid h1
      clear hs h1
      go_enter Tryd.func50, Tryd.ntmps50
      go_wp2_with (first
        | (go_at_call_of 67 (Value.slice A n c); refine (qbare_any _ _ _ _ xs hx (by omega)).mono ?_; rintro e w' ⟨rfl, rfl⟩)
        | (go_at_call_of 67 (Value.slice A' m d); refine (qbare_any _ _ _ _ ys hy (by omega)).mono ?_; rintro e w' ⟨rfl, rfl⟩)
        | (go_at_call 28; refine (HCM.out _ (Below.refl _ _)).mono ?_; rw [HC.out]; rintro e w1 ⟨rfl, hb1⟩; have HB1 := Lib.hid hb1; clear hb1)
        | (go_at_call 69; refine (HS.out _ HB1.out).mono ?_; rintro e w2 ⟨Aq, nq, cq, Ar, nr, cr, rfl, hnq, hnr, hoq, hor, hne, hbr⟩))
      go_ret3
      exact ⟨Aq, nq, cq, Ar, nr, cr, rfl, by omega, by omega, hoq.mono HB1.out.size, hor.mono HB1.out.size, hne, HB1.out.trans (hbr.mono HB1.out.size)⟩
end Go.Proofs.YtbadbjmhmadbmaaDoor
