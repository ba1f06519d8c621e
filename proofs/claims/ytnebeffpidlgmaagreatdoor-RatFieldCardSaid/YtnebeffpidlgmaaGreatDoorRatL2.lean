/- The sum of three fractions at hand. -/
import Derived.Test.YtnebeffpidlgmaaGreatDoorRatL
namespace Go.Proofs.YtnebeffpidlgmaaGreatDoor
open Go.RowKit
set_option linter.unusedVariables false
set_option maxRecDepth 20000
open N
open RC
theorem fsum3_s {w0 v0 w : World} {S : List Ent} {T : List Blk} {A0 A0' : Option Addr} {n0 c0 n0' c0' k0 : Nat} {x0 y0 : List Int} {p0 q0 : Int} {b0 : Bool} {r0 : Rat} {A1 A1' : Option Addr} {n1 c1 n1' c1' k1 : Nat} {x1 y1 : List Int} {p1 q1 : Int} {b1 : Bool} {r1 : Rat} {A2 A2' : Option Addr} {n2 c2 n2' c2' k2 : Nat} {x2 y2 : List Int} {p2 q2 : Int} {b2 : Bool} {r2 : Rat} (h : SC w0 v0 w S T []) (h0 : (⟨A0, n0, c0, k0, x0, p0⟩ : Ent) ∈ S) (g0 : (⟨A0', n0', c0', k0, y0, q0⟩ : Ent) ∈ S) (hk0 : 1 ≤ k0 ∧ k0 ≤ 1500) (hr0 : rv b0 p0 q0 = r0) (h1 : (⟨A1, n1, c1, k1, x1, p1⟩ : Ent) ∈ S) (g1 : (⟨A1', n1', c1', k1, y1, q1⟩ : Ent) ∈ S) (hk1 : 1 ≤ k1 ∧ k1 ≤ 1500) (hr1 : rv b1 p1 q1 = r1) (h2 : (⟨A2, n2, c2, k2, x2, p2⟩ : Ent) ∈ S) (g2 : (⟨A2', n2', c2', k2, y2, q2⟩ : Ent) ∈ S) (hk2 : 1 ≤ k2 ∧ k2 ≤ 1500) (hr2 : rv b2 p2 q2 = r2) :
    Calls Tryz.prog 29 #[.slice (some ⟨w.heap.size, 0, none⟩) 3 3] (w.alloc (.cells #[.bool b0, .slice A0 n0 c0, .slice A0' n0' c0', .bool b1, .slice A1 n1 c1, .slice A1' n1' c1', .bool b2, .slice A2 n2 c2, .slice A2' n2' c2'] 27)) fun e w' => ∃ (r : Rat), ∃ A n c A' n' c', r0 + r1 + r2 = r ∧ e = .returned (.agg #[.bool (sg r.num), .slice A n c, .slice A' n' c']) ∧ SC w0 v0 w' (⟨A, n, c, 60 * (k0 + k1 + k2), limbs (mg r.num), mg r.num⟩ :: ⟨A', n', c', 60 * (k0 + k1 + k2), limbs r.den, r.den⟩ :: S) T [] := by
  have ha := h.alloc (.cells #[.bool b0, .slice A0 n0 c0, .slice A0' n0' c0', .bool b1, .slice A1 n1 c1, .slice A1' n1' c1', .bool b2, .slice A2 n2 c2, .slice A2' n2' c2'] 27)
  have f0 := (ha.frm h0 g0 (Nat.le_refl _) (Nat.le_refl _) hr0).wide (show k0 ≤ k0 + k1 + k2 by omega)
  have f1 := (ha.frm h1 g1 (Nat.le_refl _) (Nat.le_refl _) hr1).wide (show k1 ≤ k0 + k1 + k2 by omega)
  have f2 := (ha.frm h2 g2 (Nat.le_refl _) (Nat.le_refl _) hr2).wide (show k2 ≤ k0 + k1 + k2 by omega)
  refine (fsum_any _ _ [⟨b0, A0, n0, c0, x0, A0', n0', c0', y0, r0⟩, ⟨b1, A1, n1, c1, x1, A1', n1', c1', y1, r1⟩, ⟨b2, A2, n2, c2, x2, A2', n2', c2', y2, r2⟩] (k0 + k1 + k2) 3 (fms_lit w _ #[.bool b0, .slice A0 n0 c0, .slice A0' n0' c0', .bool b1, .slice A1 n1 c1, .slice A1' n1' c1', .bool b2, .slice A2 n2 c2, .slice A2' n2' c2'] 27 rfl) ?_ (by simp) (by omega) (by omega) (r := r0 + r1 + r2) ?_).mono fun e w' ho => have ⟨A, n, c, A', n', c', he, h3⟩ := ha.tR (Nat.le_refl _) ho; ⟨_, A, n, c, A', n', c', rfl, he, h3⟩
  · intro f hf
    simp only [List.mem_cons, List.not_mem_nil, or_false] at hf
    rcases hf with rfl | rfl | rfl
    · exact f0
    · exact f1
    · exact f2
  · show 0 + r0 + r1 + r2 = r0 + r1 + r2
    rw [Rat.zero_add]
end Go.Proofs.YtnebeffpidlgmaaGreatDoor
