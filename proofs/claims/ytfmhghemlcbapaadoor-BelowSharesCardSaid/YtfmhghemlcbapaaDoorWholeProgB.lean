/- What the program's package of whole numbers answers, over this translation: Add, Sub, Mul, Div, Read. -/
import Derived.Test.YtfmhghemlcbapaaDoorWholeProgA
namespace Go.Proofs.YtfmhghemlcbapaaDoor
open Go.RowKit
set_option linter.unusedVariables false
set_option maxRecDepth 20000
open N
namespace N
theorem OutI.below {W w' : World} {m : Nat} {z : Int} {e : Ending} (h : OutI W m z e w') : Below W.heap.size W w' := by
  obtain ⟨A, n, c, he, hn, ho, hb⟩ := h
  exact hb
theorem OutI.le {W w' : World} {m k : Nat} {z : Int} {e : Ending} (h : OutI W m z e w') (hk : m ≤ k) : OutI W k z e w' := by
  obtain ⟨A, n, c, he, hn, ho, hb⟩ := h
  exact ⟨A, n, c, he, Nat.le_trans hn hk, ho, hb⟩
theorem Held.rc {w W : World} {L : List (Nat × Array Value × TypeId)} {g : Nat} (h : Held w L W) (i : Nat) (hi : L[i]? = some (g, #[.bool false, .slice none 0 0], 55)) : RC w g W :=
  ⟨h.below, h.ge i hi, h.lt i hi, h.row i hi⟩
theorem Held.far {w W : World} {L : List (Nat × Array Value × TypeId)} {g : Nat} (h : Held w L W) (hg : w.heap.size ≤ g) (hd : ∀ q ∈ L, q.1 ≠ g) (k : Nat) (v : Value) : Held w L (W.setCell ⟨g, k, none⟩ v) :=
  ⟨h.below.setCell (p := ⟨g, k, none⟩) hg v, fun q hq => ⟨(h.rows q hq).1, (Below.heap_setCell W ⟨g, k, none⟩ v q.1 (hd q hq)).trans (h.rows q hq).2⟩⟩
theorem Held.put1 {w W : World} {L : List (Nat × Array Value × TypeId)} {g : Nat} {q0 : Nat × Array Value × TypeId} {cs : Array Value} {t : TypeId} (h : Held w (q0 :: (g, cs, t) :: L) W) (hd0 : q0.1 ≠ g) (hd : ∀ q ∈ L, q.1 ≠ g) (u v : Value) :
    Held w (q0 :: L) ((W.setCell ⟨g, 0, none⟩ u).setCell ⟨g, 1, none⟩ v) := by
  have hg := h.ge 1 (g := g) rfl
  have h1 : Held w (q0 :: L) W := h.sub fun q hq => by
    rcases List.mem_cons.1 hq with e | e
    · rw [e]; exact List.mem_cons_self
    · exact List.mem_cons_of_mem _ (List.mem_cons_of_mem _ e)
  have hd' : ∀ q ∈ q0 :: L, q.1 ≠ g := fun q hq => by
    rcases List.mem_cons.1 hq with e | e
    · rw [e]; exact hd0
    · exact hd q e
  exact (h1.far hg hd' 0 u).far hg hd' 1 v
theorem Held.put0 {w W : World} {L : List (Nat × Array Value × TypeId)} {g : Nat} {cs : Array Value} {t : TypeId} (h : Held w ((g, cs, t) :: L) W) (hd : ∀ q ∈ L, q.1 ≠ g) (u v : Value) :
    Held w L ((W.setCell ⟨g, 0, none⟩ u).setCell ⟨g, 1, none⟩ v) := by
  have hg := h.ge 0 (g := g) rfl
  have h1 : Held w L W := h.sub fun q hq => List.mem_cons_of_mem _ hq
  exact (h1.far hg hd 0 u).far hg hd 1 v
end N
section
variable {w w' : World} {A A' : Option Addr} {n c m d : Nat} {xs ys : List Int}
end
end Go.Proofs.YtfmhghemlcbapaaDoor
