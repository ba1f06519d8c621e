/- A fraction that lies in memory. -/
import Derived.Test.YtfdpddlefobcpaaGreatDoorRatCalls
namespace Go.Proofs.YtfdpddlefobcpaaGreatDoor
open Go.RowKit
set_option linter.unusedVariables false
set_option maxRecDepth 20000
open N
/-- a fraction that lies in memory -/
structure Frm (w : World) (b : Bool) (A : Option Addr) (n c : Nat) (xs : List Int) (A' : Option Addr) (n' c' : Nat) (ys : List Int) (M : Nat) (r : Rat) : Prop where
  num : Sl w A n c xs
  den : Sl w A' n' c' ys
  ln : n ≤ M
  ld : n' ≤ M
  val : rv b (val B xs) (val B ys) = r
theorem Frm.below {w w' : World} {b : Bool} {A A' : Option Addr} {n c n' c' M : Nat} {xs ys : List Int} {r : Rat} (h : Frm w b A n c xs A' n' c' ys M r) (hb : Below w.heap.size w w') : Frm w' b A n c xs A' n' c' ys M r := ⟨h.num.below hb, h.den.below hb, h.ln, h.ld, h.val⟩
section
variable {w0 v0 w w' : World} {S O : List Ent} {T : List Blk} {A A' : Option Addr} {n c m d k k' M : Nat} {xs ys : List Int} {v u : Int} {b : Bool} {r : Rat}
theorem SC.frm0 (h : SC w0 v0 w S T O) (h1 : (⟨A, n, c, k, xs, v⟩ : Ent) ∈ S) (h2 : (⟨A', m, d, k', ys, u⟩ : Ent) ∈ S) (hk : k ≤ M) (hk' : k' ≤ M) (hr : rv b v u = r) : Frm w b A n c xs A' m d ys M r := by
  obtain ⟨a1, a2, rfl⟩ := h.get h1
  obtain ⟨b1, b2, rfl⟩ := h.get h2
  exact ⟨a1, b1, by omega, by omega, hr⟩
end
end Go.Proofs.YtfdpddlefobcpaaGreatDoor
