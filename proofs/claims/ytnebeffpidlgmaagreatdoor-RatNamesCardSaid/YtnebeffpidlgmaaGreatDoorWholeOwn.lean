/- The statements' own helpers of layer 5: own (a whole number in memory of its own), spoil (written over). -/
import Derived.Test.YtnebeffpidlgmaaGreatDoorWholeOut
namespace Go.Proofs.YtnebeffpidlgmaaGreatDoor
open Go.RowKit
set_option linter.unusedVariables false
set_option maxRecDepth 20000
open N
section
variable {w w' : World} {A A' : Option Addr} {n c m d : Nat} {xs ys : List Int}
end
namespace N
/-- a row that may be written over: its block, all its room -/
def RowOk (base g : Nat) (w : World) (A : Option Addr) (n c : Nat) : Prop := n ≤ c ∧ c ≤ maxLen ∧ ((A = none ∧ n = 0 ∧ c = 0) ∨ ∃ g' cur, A = some ⟨g', 0, none⟩ ∧ base ≤ g' ∧ g' ≠ g ∧ w.heap[g']? = some (.cells cur 47 (0, 0)) ∧ cur.size = c)
theorem RowOk.set {base g : Nat} {w : World} {A : Option Addr} {n c : Nat} (h : RowOk base g w A n c) (g2 k : Nat) (u : Value) : RowOk base g (w.setCell ⟨g2, k, none⟩ u) A n c := by
  refine ⟨h.1, h.2.1, ?_⟩
  rcases h.2.2 with h1 | ⟨g', cur, h1, h2, h3, h4, h5⟩
  · exact .inl h1
  · refine .inr ?_
    by_cases e : g' = g2
    · subst e
      refine ⟨g', cur.setIfInBounds k u, h1, h2, h3, ?_, by rw [Array.size_setIfInBounds]; exact h5⟩
      simp [World.setCell, Array.getElem?_modify, h4]
    · exact ⟨g', cur, h1, h2, h3, (Below.heap_setCell w ⟨g2, k, none⟩ u g' e).trans h4, h5⟩
theorem Ints.set {w : World} {g : Nat} {l : List (Bool × Option Addr × Nat × Nat)} (h : Ints w g l) {g2 : Nat} (hg : g2 ≠ g) (k : Nat) (u : Value) : Ints (w.setCell ⟨g2, k, none⟩ u) g l := fun j hj => by
  obtain ⟨b, A, n, c, h1, h2, h3⟩ := h j hj
  refine ⟨b, A, n, c, h1, ?_, ?_⟩
  · rw [World.cell?_setCell_other _ _ _ _ (fun e => hg (congrArg Addr.block e))]; exact h2
  · rw [World.cell?_setCell_other _ _ _ _ (fun e => hg (congrArg Addr.block e))]; exact h3
theorem Own.rowOk {w : World} {base g : Nat} {A : Option Addr} {n c : Nat} {xs : List Int} (h : N.Own w base A n c xs) (hg : (Value.slice A n c).ownBlock ≠ some g) : RowOk base g w A n c := by
  refine ⟨h.sl.cap, h.sl.max, ?_⟩
  rcases h.row.2 with ⟨e, e0⟩ | ⟨g', cap, cur, e, hb, hh, hnc, hm, hsz, ht⟩
  · cases e
    exact .inl ⟨rfl, e0, rfl⟩
  · cases e
    exact .inr ⟨g', cur, rfl, hb, fun e => hg (by rw [e]; rfl), hh, by omega⟩
end N
section
end
end Go.Proofs.YtnebeffpidlgmaaGreatDoor
