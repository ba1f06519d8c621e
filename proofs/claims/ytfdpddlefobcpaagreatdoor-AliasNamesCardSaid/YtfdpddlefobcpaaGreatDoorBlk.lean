/- Blocks with any cells: where they lie, what they hold, of which type; and a state of such blocks. No function of the program. -/
import Derived.Test.YtfdpddlefobcpaaGreatDoorGMem
import Derived.OwnWalk
namespace Go.Proofs.YtfdpddlefobcpaaGreatDoor
open Go.RowKit
set_option linter.unusedVariables false
set_option linter.unusedSimpArgs false
set_option maxRecDepth 20000
open N
/-- a block: where, what it holds, of which type -/
structure Blk where
  g : Nat
  vs : List Value
  ty : TypeId
def BlkOk (w : World) (q : Blk) : Prop := w.heap[q.g]? = some (.cells q.vs.toArray q.ty (0, 0))
section
variable {w w' : World} {q : Blk}
theorem BlkOk.lt (h : BlkOk w q) : q.g < w.heap.size := by
  rcases Nat.lt_or_ge q.g w.heap.size with hlt | hge
  · exact hlt
  · unfold BlkOk at h; rw [Array.getElem?_eq_none hge] at h; cases h
theorem BlkOk.cell (h : BlkOk w q) {k : Nat} {v : Value} (hk : q.vs[k]? = some v) : w.cell? ⟨q.g, k, none⟩ = some v := by
  rw [cell_of_row w q.g k _ _ _ h]; simpa using hk
theorem BlkOk.fr (h : BlkOk w q) (k : Nat) : w.frozen? ⟨q.g, k, none⟩ = false := by unfold BlkOk at h; simp [World.frozen?, h]
theorem BlkOk.on (h : BlkOk w q) (hb : Below w.heap.size w w') : BlkOk w' q := (hb.block q.g h.lt).trans h
theorem BlkOk.set (h : BlkOk w q) (k : Nat) (v : Value) : BlkOk (w.setCell ⟨q.g, k, none⟩ v) ⟨q.g, q.vs.set k v, q.ty⟩ := by
  unfold BlkOk at h ⊢
  simp [World.setCell, Array.getElem?_modify, h]
theorem BlkOk.far (h : BlkOk w q) {p : Addr} (hp : q.g ≠ p.block) (u : Value) : BlkOk (w.setCell p u) q := (Below.heap_setCell w p u q.g hp).trans h
end
/-- the world went on; of what was there but this block may have turned -/
theorem BlkOk.grown {g : Nat} {w w' : World} {q : Blk} (h : BlkOk w q) (hb : w.grownBy w' (some g)) (hne : q.g ≠ g) : BlkOk w' q := (hb.block q.g h.lt (fun e => hne (by injection e))).trans h
theorem grownBy_below {w w' : World} (h : Below w.heap.size w w') (row : Option Nat) : w.grownBy w' row := ⟨h.os, h.tape, h.output, h.size, fun k hk _ => h.block k hk⟩
theorem grownBy_then {w w1 w2 : World} {g : Nat} (h : w.grownBy w1 (some g)) (hb : Below w1.heap.size w1 w2) : w.grownBy w2 (some g) :=
  ⟨hb.os.trans h.os, hb.tape.trans h.tape, hb.output.trans h.output, Nat.le_trans h.size hb.size, fun k hk hne => (hb.block k (Nat.lt_of_lt_of_le hk h.size)).trans (h.block k hk hne)⟩
theorem grownBy_set {w w1 : World} {g : Nat} (h : w.grownBy w1 (some g)) (k : Nat) (v : Value) : w.grownBy (w1.setCell ⟨g, k, none⟩ v) (some g) :=
  ⟨h.os, h.tape, h.output, by simpa [World.setCell] using h.size, fun j hj hne => (Below.heap_setCell w1 ⟨g, k, none⟩ v j (fun e => hne (by rw [show j = g from e]))).trans (h.block j hj hne)⟩
theorem set_mem {T : List Blk} {i : Nat} {q q' r : Blk} (hi : T[i]? = some q) (hg : q'.g = q.g) (hn : (T.map Blk.g).Nodup) (hr : r ∈ T.set i q') : r = q' ∨ (r ∈ T ∧ r.g ≠ q.g) := by
  obtain ⟨j, hj⟩ := List.getElem?_of_mem hr
  by_cases e : i = j
  · subst e
    rw [List.getElem?_set_self (List.getElem?_eq_some_iff.1 hi).1] at hj
    exact .inl (by injection hj with hj; exact hj.symm)
  · rw [List.getElem?_set_ne e] at hj
    refine .inr ⟨List.mem_of_getElem? hj, fun eg => e ?_⟩
    obtain ⟨hjl, hj2⟩ := List.getElem?_eq_some_iff.1 hj
    obtain ⟨hil, hi2⟩ := List.getElem?_eq_some_iff.1 hi
    exact (List.getElem_inj (i := i) (j := j) (h₀ := by rw [List.length_map]; exact hil) (h₁ := by rw [List.length_map]; exact hjl) hn).1 (by rw [List.getElem_map, List.getElem_map, hi2, hj2, eg])
theorem set_g {T : List Blk} {i : Nat} {q q' : Blk} (hi : T[i]? = some q) (hg : q'.g = q.g) : (T.set i q').map Blk.g = T.map Blk.g := by
  apply List.ext_getElem?
  intro j
  rw [List.getElem?_map, List.getElem?_map]
  by_cases e : i = j
  · subst e
    rw [List.getElem?_set_self (List.getElem?_eq_some_iff.1 hi).1, hi]
    simp [hg]
  · rw [List.getElem?_set_ne e]
/-- blocks at hand, each by itself, all made since w0 -/
structure CS (w0 w : World) (T : List Blk) : Prop where
  bl : Below w0.heap.size w0 w
  box : ∀ q ∈ T, BlkOk w q
  from_ : ∀ q ∈ T, w0.heap.size ≤ q.g
  nd : (T.map Blk.g).Nodup
section
variable {w0 w w' : World} {T : List Blk}
theorem CS.start (w : World) : CS w w [] := ⟨Below.refl _ _, (fun q hq => by cases hq), (fun q hq => by cases hq), List.nodup_nil⟩
theorem CS.below (h : CS w0 w T) (hb : Below w.heap.size w w') : CS w0 w' T := ⟨h.bl.trans (hb.mono h.bl.size), fun q hq => (h.box q hq).on hb, h.from_, h.nd⟩
theorem CS.drew (h : CS w0 w T) : CS w0 w.drew T := h.below ⟨rfl, rfl, rfl, Nat.le_refl _, fun _ _ => rfl⟩
theorem CS.drewN (h : CS w0 w T) (k : Nat) : CS w0 (w.drewN k) T := h.below ⟨rfl, rfl, rfl, Nat.le_refl _, fun _ _ => rfl⟩
theorem CS.get (h : CS w0 w T) (i : Nat) {q : Blk} (hi : T[i]? = some q) : BlkOk w q := h.box q (List.mem_of_getElem? hi)
theorem CS.ge_ (h : CS w0 w T) (i : Nat) {q : Blk} (hi : T[i]? = some q) : w0.heap.size ≤ q.g := h.from_ q (List.mem_of_getElem? hi)
/-- one more block, made by a call -/
theorem CS.new (h : CS w0 w T) {q : Blk} (hb : Below w.heap.size w w') (hq : BlkOk w' q) (hg : w.heap.size ≤ q.g) : CS w0 w' (q :: T) := by
  have h' := h.below hb
  refine ⟨h'.bl, fun r hr => ?_, fun r hr => ?_, List.nodup_cons.2 ⟨fun hm => ?_, h.nd⟩⟩
  · rcases List.mem_cons.1 hr with e | e
    · rw [e]; exact hq
    · exact h'.box r e
  · rcases List.mem_cons.1 hr with e | e
    · rw [e]; exact Nat.le_trans h.bl.size hg
    · exact h.from_ r e
  · obtain ⟨r, hr, e⟩ := List.mem_map.1 hm
    have h1 := (h.box r hr).lt
    have e : r.g = q.g := e
    omega
/-- a call that may turn one block -/
theorem CS.turn (h : CS w0 w T) (i : Nat) {g : Nat} {vs vs' : List Value} {ty : TypeId} (hi : T[i]? = some ⟨g, vs, ty⟩) (hb : w.grownBy w' (some g)) (hq : BlkOk w' ⟨g, vs', ty⟩) : CS w0 w' (T.set i ⟨g, vs', ty⟩) := by
  have hm := List.mem_of_getElem? hi
  have hg := h.from_ _ hm
  refine ⟨h.bl.grown hb h.bl.size (fun k e => by injection e with e; rw [← e]; exact hg), fun q hq' => ?_, fun q hq' => ?_, by rw [set_g (q' := ⟨g, vs', ty⟩) hi rfl]; exact h.nd⟩
  · rcases set_mem (q' := ⟨g, vs', ty⟩) hi rfl h.nd hq' with e | ⟨e, hne⟩
    · rw [e]; exact hq
    · exact (h.box q e).grown hb hne
  · rcases set_mem (q' := ⟨g, vs', ty⟩) hi rfl h.nd hq' with e | ⟨e, hne⟩
    · rw [e]; exact hg
    · exact h.from_ q e
theorem CS.sub {T' : List Blk} (h : CS w0 w T) (ht : List.Sublist T' T) : CS w0 w T' := ⟨h.bl, fun q hq => h.box q (ht.subset hq), fun q hq => h.from_ q (ht.subset hq), h.nd.sublist (ht.map _)⟩
end
end Go.Proofs.YtfdpddlefobcpaaGreatDoor
