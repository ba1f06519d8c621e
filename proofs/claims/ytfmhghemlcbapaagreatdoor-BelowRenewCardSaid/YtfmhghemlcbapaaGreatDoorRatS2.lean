/- As RatS: Add, and the difference of naturals. -/
import Derived.Test.YtfmhghemlcbapaaGreatDoorRatD
import Derived.Test.YtfmhghemlcbapaaGreatDoorRatS
namespace Go.Proofs.YtfmhghemlcbapaaGreatDoor
open Go.RowKit
set_option linter.unusedVariables false
set_option linter.unusedSimpArgs false
set_option maxRecDepth 20000
open N
open RC
section
variable {w0 v0 w w' : World} {S : List Ent} {T : List Blk} {A0 A0' A1 A1' : Option Addr} {n0 c0 n0' c0' n1 c1 n1' c1' k0 k1 k : Nat} {x0 y0 x1 y1 : List Int} {p0 q0 p1 q1 : Int} {b0 b1 : Bool} {r0 r1 r : Rat}
theorem fadd_9 (h : SC w0 v0 w S T []) (h1 : (⟨A0, n0, c0, k0, x0, p0⟩ : Ent) ∈ S) (h2 : (⟨A0', n0', c0', k0, y0, q0⟩ : Ent) ∈ S) (g1 : (⟨A1, n1, c1, k1, x1, p1⟩ : Ent) ∈ S) (g2 : (⟨A1', n1', c1', k1, y1, q1⟩ : Ent) ∈ S) (hk0 : 1 ≤ k0 ∧ k0 ≤ 2500) (hk1 : 1 ≤ k1 ∧ k1 ≤ 2500) (hr0 : rv b0 p0 q0 = r0) (hr1 : rv b1 p1 q1 = r1) :
    Calls Tryz.prog 25 #[.agg #[.bool b0, .slice A0 n0 c0, .slice A0' n0' c0'], .agg #[.bool b1, .slice A1 n1 c1, .slice A1' n1' c1']] w fun e w' => ∃ (r : Rat), ∃ A n c A' n' c', r0 + r1 = r ∧ e = .returned (.agg #[.bool (sg r.num), .slice A n c, .slice A' n' c']) ∧ SC w0 v0 w' (⟨A, n, c, 60 * (k0 + k1), limbs (mg r.num), mg r.num⟩ :: ⟨A', n', c', 60 * (k0 + k1), limbs r.den, r.den⟩ :: S) T [] := by
  exact (fadd_any w ((h.frm9 h1 h2 (Nat.le_refl _) (Nat.le_refl _) hr0).wide (Nat.le_add_right _ _)) ((h.frm9 g1 g2 (Nat.le_refl _) (Nat.le_refl _) hr1).wide (Nat.le_add_left _ _)) (by omega) (by omega)).mono fun e w' ho => have ⟨A, n, c, A', n', c', he, h3⟩ := h.tR9 (Nat.le_refl _) ho; ⟨_, A, n, c, A', n', c', rfl, he, h3⟩
end
section
variable {w0 v0 w : World} {S O : List Ent} {T : List Blk} {A A' : Option Addr} {n c m d k k' : Nat} {xs ys : List Int} {v u : Int}
theorem nsub_9 (h : SC w0 v0 w S T O) (h1 : (⟨A, n, c, k, xs, v⟩ : Ent) ∈ S) (hk : k ≤ 1000000) (h2 : (⟨A', m, d, k', ys, u⟩ : Ent) ∈ S) (hk' : k' ≤ 1000000) (hle : u ≤ v) {r : Int} (hr : v - u = r) :
    Calls Tryz.prog 23 #[.slice A n c, .slice A' m d] w fun e w' => ∃ A n c, e = .returned (.tuple #[.slice A n c, .int .i64 0]) ∧ SC w0 v0 w' (⟨A, n, c, k, limbs r, r⟩ :: S) T (⟨A, n, c, k, limbs r, r⟩ :: O) := by
  obtain ⟨a1, a2, rfl⟩ := h.get h1
  obtain ⟨b1, b2, rfl⟩ := h.get h2
  subst hr
  exact (nsub_yes w A A' n c m d xs ys a1 b1 (by omega) (by omega) hle).mono fun e w' ho => h.rN2 (by omega) a2 ho
end
end Go.Proofs.YtfmhghemlcbapaaGreatDoor
