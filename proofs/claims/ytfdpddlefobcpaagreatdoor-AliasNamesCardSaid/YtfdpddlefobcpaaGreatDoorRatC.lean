/- Package rat: Cmp, Same, Mul, Quo. -/
import Derived.Test.YtfdpddlefobcpaaGreatDoorRatB
import Derived.Test.YtfdpddlefobcpaaGreatDoorRegC
import Derived.Test.YtfdpddlefobcpaaGreatDoorRatFrm
namespace Go.Proofs.YtfdpddlefobcpaaGreatDoor
open Go.RowKit
set_option linter.unusedVariables false
set_option linter.unusedSimpArgs false
set_option maxRecDepth 20000
open N
open Go.Lib (decDigits nDigits decDigits_length nDigits_pos)
open RC
section
variable {w : World} {b0 b1 : Bool} {A0 A0' A1 A1' : Option Addr} {n0 c0 n0' c0' n1 c1 n1' c1' M M' : Nat} {x0 x0' x1 x1' : List Int} {r r' : Rat}
theorem rs_eq0 {r r' : Rat} : rs (r - r') = 0 ↔ r = r' := by
  rcases rs_cases (r - r') with ⟨h, e⟩ | ⟨h, e⟩ | ⟨h, e⟩ <;> rw [e] <;> constructor <;> intro h2 <;> grind
theorem rv_eq0 {b : Bool} {v d : Int} (hd : 0 < d) : rv b v d = 0 ↔ v = 0 := by
  unfold rv
  rw [Rat.mkRat_eq_zero (by omega)]
  cases b <;> unfold iv <;> simp
theorem SC.toR2 {w0 w : World} {S O : List Ent} {T : List Blk} {A A' : Option Addr} {n c m d k k' M : Nat} {xs ys : List Int} {v u : Int} {b : Bool} {r : Rat} (h : SC w0 w0 w S T O) (h1 : (⟨A, n, c, k, xs, v⟩ : Ent) ∈ O) (h2 : (⟨A', m, d, k', ys, u⟩ : Ent) ∈ O) (s1 : (⟨A, n, c, k, xs, v⟩ : Ent) ∈ S) (s2 : (⟨A', m, d, k', ys, u⟩ : Ent) ∈ S) (hk : k ≤ M) (hk' : k' ≤ M) (hb : b = sg r.num) (hx : xs = limbs (mg r.num)) (hy : ys = limbs r.den) :
    OutR w0 M r (.returned (.agg #[.bool b, .slice A n c, .slice A' m d])) w := by
  obtain ⟨A2, n2, c2, A2', n2', c2', he, h3⟩ := h.toRE2 (b := b) (j := 0) h1 h2 s1 s2 hk hk' hb hx hy
  cases he
  exact ⟨A, n, c, A', m, d, rfl, h3⟩
end
end Go.Proofs.YtfdpddlefobcpaaGreatDoor
