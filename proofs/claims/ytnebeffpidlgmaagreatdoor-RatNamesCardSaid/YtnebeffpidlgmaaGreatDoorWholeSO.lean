/- A state that keeps, besides, what was made since v0: it may be written over, and of what was there ahead of v0 nothing has turned. -/
import Derived.Test.YtnebeffpidlgmaaGreatDoorWholeRefOut
import Derived.Test.YtnebeffpidlgmaaGreatDoorWholeOwn
namespace Go.Proofs.YtnebeffpidlgmaaGreatDoor
open Go.RowKit
set_option linter.unusedVariables false
set_option maxRecDepth 20000
open N
structure SO (w0 v0 w : World) (S : List Ent) (T : List Bx) (O : List Ent) : Prop where
  sb : SB w0 w S T
  bl : Below v0.heap.size v0 w
  own : ∀ t ∈ O, N.Own w v0.heap.size t.A t.n t.c t.xs
section
variable {w0 v0 w w' : World} {S O : List Ent} {T : List Bx} {A A' : Option Addr} {n c m d k k' : Nat} {xs ys : List Int} {v u z y : Int} {b b' : Bool}
theorem SO.below (h : SO w0 v0 w S T O) (hb : Below w.heap.size w w') : SO w0 v0 w' S T O :=
  ⟨h.sb.below hb, h.bl.trans (hb.mono h.bl.size), fun t ht => (h.own t ht).below hb⟩
theorem SO.alloc (h : SO w0 v0 w S T O) (o : Obj) : SO w0 v0 (w.alloc o) S T O := h.below ((Below.refl _ _).alloc (Nat.le_refl _) _)
theorem SO.allocs (h : SO w0 v0 w S T O) {o : Obj} {w1 : World} (hw : w.alloc o = w1) : SO w0 v0 w1 S T O := by subst hw; exact h.alloc o
theorem SO.drew (h : SO w0 v0 w S T O) : SO w0 v0 w.drew S T O := h.below ⟨rfl, rfl, rfl, Nat.le_refl _, fun _ _ => rfl⟩
theorem SO.drewN (h : SO w0 v0 w S T O) (k : Nat) : SO w0 v0 (w.drewN k) S T O := h.below ⟨rfl, rfl, rfl, Nat.le_refl _, fun _ _ => rfl⟩
theorem SO.drewNs {w1 : World} (h : SO w0 v0 w S T O) {k : Nat} (hw : w.drewN k = w1) : SO w0 v0 w1 S T O := by subst hw; exact h.drewN k
theorem SO.cs (h : SO w0 v0 w S T O) (i : Nat) {g : Nat} (hi : T[i]? = some ⟨g, b, A, n, c⟩) : w.cell? ⟨g, 0, none⟩ = some (.bool b) ∧ w.cell? ⟨g, 1, none⟩ = some (.slice A n c) := h.sb.cs i hi
theorem SO.lt_ (h : SO w0 v0 w S T O) (i : Nat) {q : Bx} (hi : T[i]? = some q) : q.g < w.heap.size := BoxI.lt (h.sb.box q (List.mem_of_getElem? hi))
theorem SO.boxed (h : SO w0 v0 w S T O) {w1 : World} (hw : w.alloc (.cells #[.bool b, .slice A n c] 25) = w1) : SO w0 v0 w1 S (⟨w.heap.size, b, A, n, c⟩ :: T) O :=
  have h1 := h.allocs hw
  ⟨h.sb.boxed hw, h1.bl, h1.own⟩
theorem SO.outI (h : SO w0 v0 w S T O) {m m' : Nat} {e : Ending} (hm : m ≤ m') (ho : OutI w m z e w') : ∃ A n c, e = .returned (.agg #[.bool (sg z), .slice A n c]) ∧ SO w0 v0 w' (⟨A, n, c, m', limbs (mg z), mg z⟩ :: S) T O := by
  obtain ⟨A, n, c, he, hn, hown, hb⟩ := ho
  exact ⟨A, n, c, he, h.sb.new hb hown (by omega) (limbs_val (mg_nn z)), (h.below hb).bl, (h.below hb).own⟩
theorem SO.outI2 (h : SO w0 v0 w S T O) {m m' : Nat} {q : Int} {e : Ending} (hm : m ≤ m') (ho : OutI2 w m z y q e w') :
    ∃ A n c A' n' c', e = .returned (.tuple #[.agg #[.bool (sg z), .slice A n c], .agg #[.bool (sg y), .slice A' n' c'], .int .i64 q]) ∧ SO w0 v0 w' (⟨A', n', c', m', limbs (mg y), mg y⟩ :: ⟨A, n, c, m', limbs (mg z), mg z⟩ :: S) T (⟨A', n', c', m', limbs (mg y), mg y⟩ :: ⟨A, n, c, m', limbs (mg z), mg z⟩ :: O) := by
  obtain ⟨A, n, c, A', n', c', he, hn, hn', ho1, ho2, hb⟩ := ho
  have h0 := h.below hb
  obtain ⟨A2, n2, c2, A2', n2', c2', he2, h3⟩ := h.sb.outI2 (q := q) hm ⟨A, n, c, A', n', c', rfl, hn, hn', ho1, ho2, hb⟩
  cases he2
  refine ⟨A, n, c, A', n', c', he, h3, h0.bl, fun t ht => ?_⟩
  rcases List.mem_cons.1 ht with e | e
  · rw [e]; exact ho2.mono h.bl.size
  · rcases List.mem_cons.1 e with e | e
    · rw [e]; exact ho1.mono h.bl.size
    · exact h0.own t e
end
end Go.Proofs.YtnebeffpidlgmaaGreatDoor
