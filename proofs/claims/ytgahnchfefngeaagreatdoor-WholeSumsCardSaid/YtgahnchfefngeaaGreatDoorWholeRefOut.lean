/- What the calls of the document make, over a state: memory of their own. -/
import Derived.Test.YtgahnchfefngeaaGreatDoorWholeOut
import Derived.Test.YtgahnchfefngeaaGreatDoorRefWhole3
namespace Go.Proofs.YtgahnchfefngeaaGreatDoor
open Go.RowKit
set_option linter.unusedVariables false
set_option maxRecDepth 20000
open N
section
variable {w0 w w' : World} {S : List Ent} {T : List Bx} {A A' : Option Addr} {n c m d k k' : Nat} {xs ys : List Int} {v u z y : Int} {b b' : Bool}
/-- what Div tells is one -/
theorem way_fix {z y q r e q' r' e' : Int} (h : Way z y q r e) (h' : Way z y q' r' e') : q = q' ∧ r = r' ∧ e = e' := by
  obtain ⟨p, s, hd, w1, w2, w3, w4⟩ := h
  obtain ⟨p', s', hd', v1, v2, v3, v4⟩ := h'
  obtain ⟨rfl, rfl, rfl⟩ : p = p' ∧ s = s' ∧ e = e' := by
    rcases hd with ⟨a1, a2, a3, a4⟩ | ⟨a1, a2, a3, a4⟩ <;> rcases hd' with ⟨b1, b2, b3, b4⟩ | ⟨b1, b2, b3, b4⟩
    · exact ⟨a2.trans b2.symm, a3.trans b3.symm, a4.trans b4.symm⟩
    · omega
    · omega
    · exact ⟨a2.trans b2.symm, a3.trans b3.symm, a4.trans b4.symm⟩
  by_cases hz : z < 0 <;> by_cases hy : y < 0
  · obtain ⟨x1, x2⟩ := w4 hz hy
    obtain ⟨y1, y2⟩ := v4 hz hy
    exact ⟨x1.trans y1.symm, x2.trans y2.symm, rfl⟩
  · obtain ⟨x1, x2⟩ := w3 hz (by omega)
    obtain ⟨y1, y2⟩ := v3 hz (by omega)
    exact ⟨x1.trans y1.symm, x2.trans y2.symm, rfl⟩
  · obtain ⟨x1, x2⟩ := w2 (by omega) hy
    obtain ⟨y1, y2⟩ := v2 (by omega) hy
    exact ⟨x1.trans y1.symm, x2.trans y2.symm, rfl⟩
  · obtain ⟨x1, x2⟩ := w1 (by omega) (by omega)
    obtain ⟨y1, y2⟩ := v1 (by omega) (by omega)
    exact ⟨x1.trans y1.symm, x2.trans y2.symm, rfl⟩
theorem rneg_o (h : SB w0 w S T) (h1 : (⟨A, n, c, k, xs, v⟩ : Ent) ∈ S) (hk : k ≤ 1000000) (hz : iv b v = z) :
    Calls Tryz.prog 28 #[.agg #[.bool b, .slice A n c]] w (OutI w k (-z)) := by
  obtain ⟨a1, a2, rfl⟩ := h.get h1
  subst hz
  exact (rneg_any w b a1 (by omega)).mono fun e w' ho => ho.le a2
theorem radd_o (h : SB w0 w S T) (h1 : (⟨A, n, c, k, xs, v⟩ : Ent) ∈ S) (h2 : (⟨A', m, d, k', ys, u⟩ : Ent) ∈ S) (hk : k ≤ 1000000) (hk' : k' ≤ 1000000) (hz : iv b v = z) (hy : iv b' u = y) :
    Calls Tryz.prog 29 #[.agg #[.bool b, .slice A n c], .agg #[.bool b', .slice A' m d]] w (OutI w (k + k' + 1) (z + y)) := by
  obtain ⟨a1, a2, rfl⟩ := h.get h1
  obtain ⟨b1, b2, rfl⟩ := h.get h2
  subst hz hy
  exact (radd_i w b a1 (by omega) b' b1 (by omega)).mono fun e w' ho => ho.le (by omega)
theorem rsub_o (h : SB w0 w S T) (h1 : (⟨A, n, c, k, xs, v⟩ : Ent) ∈ S) (h2 : (⟨A', m, d, k', ys, u⟩ : Ent) ∈ S) (hk : k ≤ 1000000) (hk' : k' ≤ 1000000) (hz : iv b v = z) (hy : iv b' u = y) :
    Calls Tryz.prog 30 #[.agg #[.bool b, .slice A n c], .agg #[.bool b', .slice A' m d]] w (OutI w (k + k' + 1) (z - y)) := by
  obtain ⟨a1, a2, rfl⟩ := h.get h1
  obtain ⟨b1, b2, rfl⟩ := h.get h2
  subst hz hy
  exact (rsub_i w b a1 (by omega) b' b1 (by omega)).mono fun e w' ho => ho.le (by omega)
theorem rmul_o (h : SB w0 w S T) (h1 : (⟨A, n, c, k, xs, v⟩ : Ent) ∈ S) (h2 : (⟨A', m, d, k', ys, u⟩ : Ent) ∈ S) (hk : k ≤ 1000000) (hk' : k' ≤ 1000000) (hz : iv b v = z) (hy : iv b' u = y) :
    Calls Tryz.prog 31 #[.agg #[.bool b, .slice A n c], .agg #[.bool b', .slice A' m d]] w (OutI w (k + k') (z * y)) := by
  obtain ⟨a1, a2, rfl⟩ := h.get h1
  obtain ⟨b1, b2, rfl⟩ := h.get h2
  subst hz hy
  exact (rmul_i w b a1 (by omega) b' b1 (by omega)).mono fun e w' ho => ho.le (by omega)
theorem rdiv_o (h : SB w0 w S T) (h1 : (⟨A, n, c, k, xs, v⟩ : Ent) ∈ S) (h2 : (⟨A', m, d, k', ys, u⟩ : Ent) ∈ S) (hk : k ≤ 1000) (hk' : k' ≤ 1000) (hz : iv b v = z) (hy : iv b' u = y) {q r e : Int} (hw : Way z y q r e) :
    Calls Tryz.prog 22 #[.agg #[.bool b, .slice A n c], .agg #[.bool b', .slice A' m d]] w (OutI2 w (4 * k + 4 * k' + 40) q r e) := by
  obtain ⟨a1, a2, rfl⟩ := h.get h1
  obtain ⟨b1, b2, rfl⟩ := h.get h2
  subst hz hy
  have hy0 := mg_iv (b := b') b1.nn0
  have hz0 := mg_iv (b := b) a1.nn0
  by_cases hu : val B ys = 0
  · obtain ⟨rfl, rfl, rfl⟩ : q = 0 ∧ r = 0 ∧ e = 7 := by
      obtain ⟨q', r', hd, w1, w2, w3, w4⟩ := hw
      rw [hu, iv_0] at hd w1 w2 w3 w4
      obtain ⟨hd, _⟩ | ⟨_, rfl, rfl, rfl⟩ := hd
      · exact absurd hd (by decide)
      · by_cases hneg : iv b (val B xs) < 0
        · obtain ⟨rfl, rfl⟩ := w3 hneg (by decide)
          exact ⟨rfl, rfl, rfl⟩
        · obtain ⟨rfl, rfl⟩ := w1 (by omega) (by decide)
          exact ⟨rfl, rfl, rfl⟩
    exact (rdiv_i0 w b a1 (by omega) b' b1 (by omega) hu).mono fun e w' ho => ho.le (by omega)
  · have hu' : 0 < val B ys := by have := b1.nn0; omega
    have hne : iv b' (val B ys) ≠ 0 := fun e => by rw [e, mg_0] at hy0; omega
    obtain ⟨rfl, rfl, rfl⟩ : q = iv b (val B xs) / iv b' (val B ys) ∧ r = iv b (val B xs) % iv b' (val B ys) ∧ e = 0 := way_fix hw (way_yes _ hne)
    exact (rdiv_i w b a1 (by omega) b' b1 (by omega) hu').mono fun e w' ho => ho.le (by omega)
end
end Go.Proofs.YtgahnchfefngeaaGreatDoor
