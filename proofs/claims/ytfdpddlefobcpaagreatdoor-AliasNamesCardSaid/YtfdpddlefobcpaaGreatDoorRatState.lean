/- A state of naturals at hand (S), of blocks with any cells (T), and of what was made since v0 (O): what is in O may be written over, or handed out as made. -/
import Derived.Test.YtfdpddlefobcpaaGreatDoorWholeProgD
import Derived.Deep.RegionHeld3
import Derived.Test.YtfdpddlefobcpaaGreatDoorRatMath
import Derived.Test.YtfdpddlefobcpaaGreatDoorBlk
namespace Go.Proofs.YtfdpddlefobcpaaGreatDoor
open Go.RowKit
set_option linter.unusedVariables false
set_option linter.unusedSimpArgs false
set_option maxRecDepth 20000
open N
section
variable {w w' : World} {q : Blk}
theorem results_B {g : Nat} {cs : Array Value} {f : Func} {k : Nat} {ty : TypeId} (hf : f.results = #[.cell k ty]) {tmps : Array Value} (hp : tmps.getD k undef = .pointer (some ⟨g, 0, none⟩)) (hl : (loadVar ty ⟨g, 0, none⟩).run Tryz.prog w = .ok (.agg cs) w) :
    (results f tmps).run Tryz.prog w = .ok (.agg cs) w := by
  have hp' : tmps[k]?.getD undef = .pointer (some ⟨g, 0, none⟩) := by simpa using hp
  simp [results, hf, hp', asAddr, hl]
theorem results_B2 {g : Nat} {cs : Array Value} {f : Func} {k t : Nat} {ty : TypeId} (hf : f.results = #[.cell k ty, .tmp t]) {tmps : Array Value} {x : Value} (hp : tmps.getD k undef = .pointer (some ⟨g, 0, none⟩)) (hx : tmps.getD t undef = x) (hl : (loadVar ty ⟨g, 0, none⟩).run Tryz.prog w = .ok (.agg cs) w) :
    (results f tmps).run Tryz.prog w = .ok (.tuple #[.agg cs, x]) w := by
  have hp' : tmps[k]?.getD undef = .pointer (some ⟨g, 0, none⟩) := by simpa using hp
  have hx' : tmps[t]?.getD undef = x := by simpa using hx
  simp [results, hf, hp', hx', asAddr, hl]
end
theorem infoRat : (Tryz.prog.info? 62).map (·.size) = some 3 := by kernel_rfl
theorem loadR {w : World} {g : Nat} {x y z : Value} {ty : TypeId} (h : BlkOk w ⟨g, [x, y, z], ty⟩) : (loadVar 62 ⟨g, 0, none⟩).run Tryz.prog w = .ok (.agg #[x, y, z]) w :=
  run_loadVar_row w g _ 62 _ _ _ h Tryz.underlying62 rfl infoRat
theorem loadZ {w : World} {g : Nat} {x y : Value} {ty : TypeId} (h : BlkOk w ⟨g, [x, y], ty⟩) : (loadVar 60 ⟨g, 0, none⟩).run Tryz.prog w = .ok (.agg #[x, y]) w :=
  run_loadVar_row w g _ 60 _ _ _ h Tryz.underlying60 rfl infoInt
structure SC (w0 v0 w : World) (S : List Ent) (T : List Blk) (O : List Ent) : Prop where
  st : St w0 w S
  bl : Below v0.heap.size v0 w
  box : ∀ q ∈ T, BlkOk w q
  from_ : ∀ q ∈ T, w0.heap.size ≤ q.g
  nd : (T.map Blk.g).Nodup
  apart : ∀ t ∈ S, ∀ q ∈ T, 0 < t.n → Aw t.A q.g
  own : ∀ t ∈ O, N.Own w v0.heap.size t.A t.n t.c t.xs
  apo : ∀ t ∈ O, ∀ q ∈ T, (Value.slice t.A t.n t.c).ownBlock ≠ some q.g
section
variable {w0 v0 w w' : World} {S O : List Ent} {T : List Blk} {A A' : Option Addr} {n c m d k k' : Nat} {xs ys : List Int} {v u z y : Int} {b b' : Bool}
theorem SC.start (w : World) : SC w w w [] [] [] := ⟨St.nil_ w, Below.refl _ _, (fun q hq => by cases hq), (fun q hq => by cases hq), List.nodup_nil, (fun t ht => by cases ht), (fun t ht => by cases ht), (fun t ht => by cases ht)⟩
theorem SC.get (h : SC w0 v0 w S T O) (hm : (⟨A, n, c, k, xs, v⟩ : Ent) ∈ S) : Sl w A n c xs ∧ n ≤ k ∧ val B xs = v := h.st.get hm
theorem SC.below (h : SC w0 v0 w S T O) (hb : Below w.heap.size w w') : SC w0 v0 w' S T O :=
  ⟨h.st.below hb, h.bl.trans (hb.mono h.bl.size), fun q hq => (h.box q hq).on hb, h.from_, h.nd, h.apart, fun t ht => (h.own t ht).below hb, h.apo⟩
theorem SC.alloc (h : SC w0 v0 w S T O) (o : Obj) : SC w0 v0 (w.alloc o) S T O := h.below ((Below.refl _ _).alloc (Nat.le_refl _) _)
theorem SC.allocs (h : SC w0 v0 w S T O) {o : Obj} {w1 : World} (hw : w.alloc o = w1) : SC w0 v0 w1 S T O := by subst hw; exact h.alloc o
theorem SC.drewN (h : SC w0 v0 w S T O) (k : Nat) : SC w0 v0 (w.drewN k) S T O := h.below ⟨rfl, rfl, rfl, Nat.le_refl _, fun _ _ => rfl⟩
theorem SC.drew (h : SC w0 v0 w S T O) : SC w0 v0 w.drew S T O := h.below ⟨rfl, rfl, rfl, Nat.le_refl _, fun _ _ => rfl⟩
theorem SC.drewNs {w1 : World} (h : SC w0 v0 w S T O) {k : Nat} (hw : w.drewN k = w1) : SC w0 v0 w1 S T O := by subst hw; exact h.drewN k
theorem SC.cell (h : SC w0 v0 w S T O) (i k : Nat) {g : Nat} {vs : List Value} {ty : TypeId} {x : Value} (hi : T[i]? = some ⟨g, vs, ty⟩) (hk : vs[k]? = some x) : w.cell? ⟨g, k, none⟩ = some x := BlkOk.cell (h.box _ (List.mem_of_getElem? hi)) hk
theorem SC.cs2 (h : SC w0 v0 w S T O) (i : Nat) {g : Nat} {x0 x1 : Value} {ty : TypeId} (hi : T[i]? = some ⟨g, [x0, x1], ty⟩) : w.cell? ⟨g, 0, none⟩ = some x0 ∧ w.cell? ⟨g, 1, none⟩ = some x1 :=
  ⟨h.cell i 0 hi rfl, h.cell i 1 hi rfl⟩
theorem SC.cs3 (h : SC w0 v0 w S T O) (i : Nat) {g : Nat} {x0 x1 x2 : Value} {ty : TypeId} (hi : T[i]? = some ⟨g, [x0, x1, x2], ty⟩) : w.cell? ⟨g, 0, none⟩ = some x0 ∧ w.cell? ⟨g, 1, none⟩ = some x1 ∧ w.cell? ⟨g, 2, none⟩ = some x2 :=
  ⟨h.cell i 0 hi rfl, h.cell i 1 hi rfl, h.cell i 2 hi rfl⟩
theorem SC.frs (h : SC w0 v0 w S T O) (i : Nat) {g : Nat} {vs : List Value} {ty : TypeId} (hi : T[i]? = some ⟨g, vs, ty⟩) (k : Nat) : w.frozen? ⟨g, k, none⟩ = false := BlkOk.fr (h.box _ (List.mem_of_getElem? hi)) k
theorem SC.lt_ (h : SC w0 v0 w S T O) (i : Nat) {q : Blk} (hi : T[i]? = some q) : q.g < w.heap.size := BlkOk.lt (h.box q (List.mem_of_getElem? hi))
theorem SC.ge_ (h : SC w0 v0 w S T O) (i : Nat) {q : Blk} (hi : T[i]? = some q) : w0.heap.size ≤ q.g := h.from_ q (List.mem_of_getElem? hi)
/-- one more natural, that was there ahead of all the blocks -/
theorem SC.old (h : SC w0 v0 w S T O) (h1 : Sl w0 A n c xs) (h2 : n ≤ k) (h3 : val B xs = v) : SC w0 v0 w (⟨A, n, c, k, xs, v⟩ :: S) T O := by
  refine ⟨h.st.cons (h1.below h.st.1) h2 h3, h.bl, h.box, h.from_, h.nd, fun t ht q hq hn => ?_, h.own, h.apo⟩
  rcases List.mem_cons.1 ht with e | e
  · subst e
    intro ad e
    obtain ⟨ad', e', hlt, _⟩ := h1.at' 0 hn
    have h4 := h.from_ q hq
    have e : A = some ad := e
    rw [e] at e'
    injection e' with e'
    subst e'
    omega
  · exact h.apart t e q hq hn
theorem SC.none_ (h : SC w0 v0 w S T O) : SC w0 v0 w (⟨none, 0, 0, 0, [], 0⟩ :: S) T O := by
  refine ⟨h.st.zero, h.bl, h.box, h.from_, h.nd, fun t ht q hq hn => ?_, h.own, h.apo⟩
  rcases List.mem_cons.1 ht with e | e
  · subst e; exact absurd hn (by simp)
  · exact h.apart t e q hq hn
theorem own_old {g : Nat} (h : N.Own w' w.heap.size A n c xs) (hg : g < w.heap.size) : (Value.slice A n c).ownBlock ≠ some g := fun e => by
  have := (h.row.lt _ e).1
  omega
/-- one more natural, in memory of a call's own -/
theorem SC.new (h : SC w0 v0 w S T O) (hb : Below w.heap.size w w') (ho : N.Own w' w.heap.size A n c xs) (h2 : n ≤ k) (h3 : val B xs = v) : SC w0 v0 w' (⟨A, n, c, k, xs, v⟩ :: S) T (⟨A, n, c, k, xs, v⟩ :: O) := by
  have h' := h.below hb
  refine ⟨h'.st.cons ho.sl h2 h3, h'.bl, h'.box, h'.from_, h'.nd, fun t ht q hq hn => ?_, fun t ht => ?_, fun t ht q hq => ?_⟩
  · rcases List.mem_cons.1 ht with e | e
    · subst e
      exact N.Own.aw ho (h.box q hq).lt
    · exact h'.apart t e q hq hn
  · rcases List.mem_cons.1 ht with e | e
    · subst e; exact ho.mono h.bl.size
    · exact h'.own t e
  · rcases List.mem_cons.1 ht with e | e
    · subst e; exact own_old ho (h.box q hq).lt
    · exact h'.apo t e q hq
/-- two of one call -/
theorem SC.new2 (h : SC w0 v0 w S T O) (hb : Below w.heap.size w w') (ho : N.Own w' w.heap.size A n c xs) (h2 : n ≤ k) (h3 : val B xs = v) (ho' : N.Own w' w.heap.size A' m d ys) (h2' : m ≤ k') (h3' : val B ys = u) :
    SC w0 v0 w' (⟨A, n, c, k, xs, v⟩ :: ⟨A', m, d, k', ys, u⟩ :: S) T (⟨A, n, c, k, xs, v⟩ :: ⟨A', m, d, k', ys, u⟩ :: O) := by
  have h' := h.new hb ho' h2' h3'
  have hn := h.new hb ho h2 h3
  refine ⟨h'.st.cons ho.sl h2 h3, h'.bl, h'.box, h'.from_, h'.nd, fun t ht => ?_, fun t ht => ?_, fun t ht => ?_⟩
  · rcases List.mem_cons.1 ht with e | e
    · rw [e]; exact hn.apart _ List.mem_cons_self
    · exact h'.apart t e
  · rcases List.mem_cons.1 ht with e | e
    · rw [e]; exact hn.own _ List.mem_cons_self
    · exact h'.own t e
  · rcases List.mem_cons.1 ht with e | e
    · rw [e]; exact hn.apo _ List.mem_cons_self
    · exact h'.apo t e
theorem SC.lit (h : SC w0 v0 w S T O) (xs : List Int) (hd : Dg B xs) (hl : xs.length ≤ 1000) : SC w0 v0 (w.alloc (.cells (uv xs).toArray 72)) (⟨some ⟨w.heap.size, 0, none⟩, xs.length, xs.length, xs.length, xs, val B xs⟩ :: S) T O := by
  have h' := h.alloc (.cells (uv xs).toArray 72)
  refine ⟨h.st.lit xs hd hl, h'.bl, h'.box, h'.from_, h'.nd, fun t ht q hq hn => ?_, h'.own, h'.apo⟩
  rcases List.mem_cons.1 ht with e | e
  · subst e
    intro ad e
    have hlt := (h.box q hq).lt
    have e : some (⟨w.heap.size, 0, none⟩ : Addr) = some ad := e
    injection e with e
    subst e
    show w.heap.size ≠ q.g
    omega
  · exact h'.apart t e q hq hn
theorem SC.lit1 (h : SC w0 v0 w S T O) (x : Int) (hx : 0 ≤ x ∧ x < 18446744073709551616) : SC w0 v0 (w.alloc (.cells #[.int .u64 x] 72)) (⟨some ⟨w.heap.size, 0, none⟩, 1, 1, 1, [x], x⟩ :: S) T O := by
  have := h.lit [x] (Dg.one hx.1 hx.2) (by simp)
  rw [show val B [x] = x by simp [val]] at this
  exact this
/-- a new block -/
theorem SC.boxed (h : SC w0 v0 w S T O) {w1 : World} {vs : List Value} {cs : Array Value} {ty : TypeId} (hc : cs = vs.toArray) (hw : w.alloc (.cells cs ty) = w1) : SC w0 v0 w1 S (⟨w.heap.size, vs, ty⟩ :: T) O := by
  subst hc
  subst hw
  have hn : BlkOk (w.alloc (.cells vs.toArray ty)) ⟨w.heap.size, vs, ty⟩ := heap_alloc_new w _
  have h' := h.alloc (.cells vs.toArray ty)
  refine ⟨h'.st, h'.bl, fun q hq => ?_, fun q hq => ?_, List.nodup_cons.2 ⟨fun hm => ?_, h.nd⟩, fun t ht q hq hn => ?_, h'.own, fun t ht q hq e => ?_⟩
  · rcases List.mem_cons.1 hq with e | e
    · subst e; exact hn
    · exact h'.box q e
  · rcases List.mem_cons.1 hq with e | e
    · subst e; exact h.st.1.size
    · exact h.from_ q e
  · obtain ⟨q, hq, e⟩ := List.mem_map.1 hm
    have := (h.box q hq).lt
    have e : q.g = w.heap.size := e
    omega
  · rcases List.mem_cons.1 hq with e | e
    · subst e
      intro ad e
      obtain ⟨h1, _⟩ := h.st.2 t ht
      obtain ⟨ad', e', hlt, _⟩ := h1.at' 0 hn
      rw [e] at e'
      injection e' with e'
      subst e'
      show _ ≠ w.heap.size
      omega
    · exact h'.apart t ht q e hn
  · rcases List.mem_cons.1 hq with e1 | e1
    · subst e1
      have := ((h.own t ht).row.lt _ e).2
      exact Nat.lt_irrefl _ this
    · exact h'.apo t ht q e1 e
/-- another value into a cell of a block -/
theorem SC.put (h : SC w0 v0 w S T O) (i k : Nat) {g : Nat} {vs : List Value} {ty : TypeId} (hi : T[i]? = some ⟨g, vs, ty⟩) (hv : v0.heap.size ≤ g) (x : Value) :
    SC w0 v0 (w.setCell ⟨g, k, none⟩ x) S (T.set i ⟨g, vs.set k x, ty⟩) O := by
  have hm := List.mem_of_getElem? hi
  have hg := h.from_ _ hm
  have hB := h.box _ hm
  refine ⟨⟨h.st.1.setCell (p := ⟨g, k, none⟩) hg _, fun t ht => ?_⟩, h.bl.setCell (p := ⟨g, k, none⟩) hv _, fun q hq => ?_, fun q hq => ?_, by rw [set_g (q' := ⟨g, vs.set k x, ty⟩) hi rfl]; exact h.nd, fun t ht q hq => ?_, fun t ht => ?_, fun t ht q hq => ?_⟩
  · obtain ⟨h1, h2, h3⟩ := h.st.2 t ht
    exact ⟨h1.growz (grow_set _ g k _) (h.apart t ht _ hm), h2, h3⟩
  · rcases set_mem (q' := ⟨g, vs.set k x, ty⟩) hi rfl h.nd hq with e | ⟨e, hne⟩
    · subst e; exact hB.set k x
    · exact (h.box q e).far hne x
  · rcases set_mem (q' := ⟨g, vs.set k x, ty⟩) hi rfl h.nd hq with e | ⟨e, hne⟩
    · subst e; exact hg
    · exact h.from_ q e
  · rcases set_mem (q' := ⟨g, vs.set k x, ty⟩) hi rfl h.nd hq with e | ⟨e, hne⟩
    · subst e; exact h.apart t ht ⟨g, vs, ty⟩ hm
    · exact h.apart t ht q e
  · exact ⟨(h.own t ht).row.kept (grow_set w g k x) (by
      cases hb : (Value.slice t.A t.n t.c).ownBlock with
      | none => exact .inl rfl
      | some g' => exact .inr (fun e => h.apo t ht _ hm (by rw [hb]; exact e))), (h.own t ht).dg⟩
  · rcases set_mem (q' := ⟨g, vs.set k x, ty⟩) hi rfl h.nd hq with e | ⟨e, hne⟩
    · subst e; exact h.apo t ht ⟨g, vs, ty⟩ hm
    · exact h.apo t ht q e
theorem SC.put2 (h : SC w0 v0 w S T O) (i : Nat) {g : Nat} {x0 x1 : Value} {ty : TypeId} (hi : T[i]? = some ⟨g, [x0, x1], ty⟩) (hv : v0.heap.size ≤ g) (x y : Value) :
    SC w0 v0 ((w.setCell ⟨g, 0, none⟩ x).setCell ⟨g, 1, none⟩ y) S (T.set i ⟨g, [x, y], ty⟩) O := by
  have hl := (List.getElem?_eq_some_iff.1 hi).1
  have h1 := (h.put i 0 hi hv x).put i 1 (vs := [x, x1]) (ty := ty) (by rw [List.getElem?_set_self hl]; rfl) hv y
  rw [List.set_set] at h1
  exact h1
theorem SC.put3 (h : SC w0 v0 w S T O) (i : Nat) {g : Nat} {x0 x1 x2 : Value} {ty : TypeId} (hi : T[i]? = some ⟨g, [x0, x1, x2], ty⟩) (hv : v0.heap.size ≤ g) (x y z : Value) :
    SC w0 v0 (((w.setCell ⟨g, 0, none⟩ x).setCell ⟨g, 1, none⟩ y).setCell ⟨g, 2, none⟩ z) S (T.set i ⟨g, [x, y, z], ty⟩) O := by
  have hl := (List.getElem?_eq_some_iff.1 hi).1
  have h1 := (h.put i 0 hi hv x).put i 1 (vs := [x, x1, x2]) (ty := ty) (by rw [List.getElem?_set_self hl]; rfl) hv y
  rw [List.set_set] at h1
  have h2 := h1.put i 2 (vs := [x, y, x2]) (ty := ty) (by rw [List.getElem?_set_self hl]; rfl) hv z
  rw [List.set_set] at h2
  exact h2
/-- fewer -/
theorem SC.sub {S' O' : List Ent} {T' : List Blk} (h : SC w0 v0 w S T O) (hs : ∀ t ∈ S', t ∈ S) (ht : List.Sublist T' T) (ho : ∀ t ∈ O', t ∈ O) : SC w0 v0 w S' T' O' :=
  ⟨⟨h.st.1, fun t ht => h.st.2 t (hs t ht)⟩, h.bl, fun q hq => h.box q (ht.subset hq), fun q hq => h.from_ q (ht.subset hq), h.nd.sublist (ht.map _), fun t h1 q hq => h.apart t (hs t h1) q (ht.subset hq), fun t h1 => h.own t (ho t h1), fun t h1 q hq => h.apo t (ho t h1) q (ht.subset hq)⟩
end
end Go.Proofs.YtfdpddlefobcpaaGreatDoor
