/- append over rows of int64s of a call's own, at this translation. -/
import Derived.Test.YtfdpddlefobcpaaFreProg
import Derived.Maps.AppendAt
import Derived.Laws.AppendOwnNone
namespace Go.Proofs.Ytfdpddlefobcpaa
open Go.RowKit Go.Shelf
set_option linter.unusedVariables false
set_option linter.unusedSimpArgs false
set_option maxRecDepth 20000
open N
namespace N
/-- a row of int64s as values -/
def iw (xs : List Int) : List Value := xs.map (Value.int .i64)
theorem iw_length (xs : List Int) : (iw xs).length = xs.length := by simp [iw]
theorem iw_append (xs ys : List Int) : iw (xs ++ ys) = iw xs ++ iw ys := by simp [iw]
theorem iw_get (xs : List Int) (j : Nat) (h : j < xs.length) : (iw xs)[j]? = some (.int .i64 (xs.getD j 0)) := by
  unfold iw; rw [List.getElem?_map, List.getD_eq_getElem?_getD, List.getElem?_eq_getElem h]; rfl
theorem iw_set (xs : List Int) (j : Nat) (x : Int) : iw (xs.set j x) = (iw xs).set j (.int .i64 x) := by unfold iw; rw [List.map_set]
theorem iw_one (xs : List Int) : ∀ u ∈ iw xs, u.oneCell' = true := by
  intro u hu; unfold iw at hu
  obtain ⟨x, _, rfl⟩ := List.mem_map.1 hu; rfl
/-- a slice of int64s of the call's own, from block B on -/
structure OwnI (w : World) (B : Nat) (A : Option Addr) (n c : Nat) (xs : List Int) : Prop where
  row : w.ownsRow B 2 1 (.slice A n c) n (iw xs)
  wf : ∀ x ∈ xs, (Lit.int .i64 x).wf = true
section
variable {w w' : World} {B B' : Nat} {A : Option Addr} {n c : Nat} {xs : List Int}
theorem OwnI.len (h : OwnI w B A n c xs) : xs.length = n := by have := h.row.1; rwa [iw_length, Nat.mul_one] at this
theorem OwnI.ways (h : OwnI w B A n c xs) : (A = none ∧ n = 0 ∧ c = 0) ∨ ∃ g cur, A = some ⟨g, 0, none⟩ ∧ B ≤ g ∧ w.heap[g]? = some (.cells cur 2 (0, 0)) ∧ n ≤ c ∧ c ≤ maxLen ∧ cur.size = c ∧ cur.toList.take n = iw xs := by
  rcases h.row.2 with ⟨e, e0⟩ | ⟨g, cap, cur, e, hb, hh, hnc, hcm, hcs, ht⟩
  · injection e with e1 e2 e3; exact .inl ⟨e1, e2, e3⟩
  · injection e with e1 e2 e3
    subst e1 e3
    exact .inr ⟨g, cur, rfl, hb, hh, hnc, hcm, by omega, by rw [← ht, Nat.mul_one]⟩
theorem OwnI.kept (h : OwnI w B A n c xs) {row : Option Nat} (hb : w.grownBy w' row) (hne : (Value.slice A n c).ownBlock = none ∨ (Value.slice A n c).ownBlock ≠ row) : OwnI w' B A n c xs := ⟨World.ownsRow.kept h.row hb hne, h.wf⟩
theorem OwnI.below (h : OwnI w B A n c xs) (hb : Below w.heap.size w w') : OwnI w' B A n c xs :=
  h.kept (row := Option.none) ⟨hb.os, hb.tape, hb.output, hb.size, fun k hk _ => hb.block k hk⟩ (by
    cases (Value.slice A n c).ownBlock with
    | none => exact .inl rfl
    | some k => exact .inr (by simp))
theorem OwnI.il (h : OwnI w B A n c xs) : Il w A n c xs := by
  rcases h.ways with ⟨rfl, rfl, rfl⟩ | ⟨g, cur, rfl, hb, hh, hnc, hcm, hcs, ht⟩
  · have := List.eq_nil_of_length_eq_zero h.len
    subst this
    exact Il.none
  · refine ⟨h.len, hnc, hcm, h.wf, (fun e => by cases e), fun k hk => ⟨_, rfl, (Array.getElem?_eq_some_iff.1 hh).1, fun j hj => ?_⟩⟩
    rw [add_plain, Nat.zero_add, cell_of_row w g j _ _ _ hh]
    have h1 := iw_get xs j (by rw [h.len]; exact hj)
    rw [← ht, List.getElem?_take_of_lt hj] at h1
    simpa using h1
/-- a number written over -/
theorem OwnI.set {g : Nat} (h : OwnI w B (some ⟨g, 0, none⟩) n c xs) {k : Nat} {x : Int} (hx : (Lit.int .i64 x).wf = true) : OwnI (w.setCell ⟨g, k, none⟩ (.int .i64 x)) B (some ⟨g, 0, none⟩) n c (xs.set k x) := by
  rcases h.ways with ⟨e, _⟩ | ⟨g', cur, e, hb, hh, hnc, hcm, hcs, ht⟩
  · cases e
  · injection e with e
    injection e with e
    subst e
    refine ⟨⟨by rw [iw_length, List.length_set, h.len, Nat.mul_one], .inr ⟨g, c, cur.setIfInBounds k (.int .i64 x), rfl, hb, ?_, hnc, hcm, by simp [hcs], ?_⟩⟩, fun y hy => ?_⟩
    · simp [World.setCell, Array.getElem?_modify, hh]
    · rw [Nat.mul_one, iw_set, ← ht, Array.toList_setIfInBounds, List.take_set]
    · rcases List.mem_or_eq_of_mem_set hy with e | e
      · exact h.wf y e
      · rw [e]; exact hx
theorem OwnI.fr {g : Nat} (h : OwnI w B (some ⟨g, 0, none⟩) n c xs) (k : Nat) : w.frozen? ⟨g, k, none⟩ = false := by
  rcases h.ways with ⟨e, _⟩ | ⟨g', cur, e, hb, hh, _⟩
  · cases e
  · injection e with e
    injection e with e
    subst e
    simp [World.frozen?, hh]
theorem OwnI.ge {g : Nat} (h : OwnI w B (some ⟨g, 0, none⟩) n c xs) : B ≤ g ∧ g < w.heap.size := by
  rcases h.ways with ⟨e, _⟩ | ⟨g', cur, e, hb, hh, _⟩
  · cases e
  · injection e with e
    injection e with e
    subst e
    exact ⟨hb, (Array.getElem?_eq_some_iff.1 hh).1⟩
/-- a literal of no numbers -/
theorem OwnI.empty (h : BlkOk w ⟨B, [], 2⟩) {b : Nat} (hb : b ≤ B) : OwnI w b (some ⟨B, 0, none⟩) 0 0 [] :=
  ⟨⟨rfl, .inr ⟨B, 0, #[], rfl, hb, h, Nat.le_refl _, Nat.zero_le _, rfl, rfl⟩⟩, fun x hx => by cases hx⟩
end
end N
/-- append onto a row of the call's own -/
theorem run_app64 {w : World} (base : Nat) (ty : TypeId) {A : Option Addr} {n c : Nat} {xs : List Int} (hown : OwnI w base A n c xs) {A' : Option Addr} {m d : Nat} {ys : List Int} (hr : Il w A' m d ys) (hn : n ≤ 8796093022208) (hm : m ≤ 4398046511104) (hbase : base ≤ w.heap.size) :
    ∃ A'' c'' w', (Builtin.append_ #[22, 22] ty #[.slice A n c, .slice A' m d]).run Try.prog w = .ok (.slice A'' (n + m) c'') w' ∧ OwnI w' base A'' (n + m) c'' (xs ++ ys) ∧ w.grownBy w' (Value.slice A n c).ownBlock := by
  obtain ⟨i0, hi, hz0, hz1, hz2⟩ := info_parts infoI64
  have hwf : ∀ x ∈ xs ++ ys, (Lit.int .i64 x).wf = true := fun x hx => by
    rcases List.mem_append.1 hx with e | e
    · exact hown.wf x e
    · exact hr.wf x e
  cases A' with
  | none =>
    have hd := hr.nil rfl
    have hc := hr.cap
    obtain rfl : d = 0 := hd
    obtain rfl : m = 0 := by omega
    have hy : ys = [] := List.eq_nil_of_length_eq_zero hr.len
    subst hy
    refine ⟨A, c, w, ?_, by simpa using hown, World.grownBy.refl w _⟩
    have hnc := hown.il.cap
    cases A with
    | none => simp [Builtin.append_, run_underlying slI64, sizeOf, typeInfo, hi, Builtin.lenOf, Builtin.firstCells, hnc]
    | some ad => simp [Builtin.append_, run_underlying slI64, sizeOf, typeInfo, hi, Builtin.lenOf, Builtin.firstCells, loadCells, hnc, storeCells]
  | some ad =>
    obtain ⟨v', w', hrun, h2, h3, _, _⟩ := run_append_own_at (P := Try.prog) w base 22 ty 2 i0 (.int .i64 0) 1 8 slI64 hi hz0 hz1 hz2 rfl (by omega) (.slice A n c) n (iw xs) hown.row ad m d (iw ys) (by rw [iw_length, hr.len, Nat.mul_one]) (by
        intro j u hu
        have hj : j < ys.length := by have := (List.getElem?_eq_some_iff.1 hu).1; rwa [iw_length] at this
        rw [iw_get ys j hj] at hu
        injection hu with hu
        subst hu
        rw [hr.len] at hj
        obtain ⟨ad', e, _, hc⟩ := hr.at' j hj
        injection e with e
        subst e
        exact hc j hj) (iw_one ys) (by unfold maxLen; omega) (by omega) hbase
    rw [← iw_append] at h2
    rcases h2.2 with ⟨rfl, h0⟩ | ⟨g, cap, cur, rfl, rest'⟩
    · rw [h0] at h2
      refine ⟨none, 0, w', by rw [hrun, h0], ?_, h3⟩
      rw [h0]
      exact ⟨h2, hwf⟩
    · exact ⟨_, cap, w', hrun, ⟨h2, hwf⟩, h3⟩
/-- the same, where a walk stands at it -/
theorem wp_app64 {w : World} {ops : Array Oper} {rest : List Oper} {o : Oper} {a : Act} {Q : Exit → Act → World → Prop} (hgd : o.guard = none) (s x : Operand)
    (ho : o.op = .call { callee := .builtin .append, args := #[s, x], argTypes := #[22, 22] })
    (base : Nat) {A : Option Addr} {n c : Nat} {xs : List Int} (hs : a.eval s = .slice A n c) (hown : OwnI w base A n c xs)
    {A' : Option Addr} {m d : Nat} {ys : List Int} (hx : a.eval x = .slice A' m d) (hr : Il w A' m d ys) (hn : n ≤ 8796093022208) (hm : m ≤ 4398046511104) (hbase : base ≤ w.heap.size)
    (h : ∀ A'' c'' w', OwnI w' base A'' (n + m) c'' (xs ++ ys) → Below base w w' → wpList Try.prog ops Q rest (a.put o.dst (.slice A'' (n + m) c'')) w') : wpList Try.prog ops Q (o :: rest) a w := by
  obtain ⟨i0, hi, hz0, hz1, hz2⟩ := info_parts infoI64
  have hwf : ∀ x ∈ xs ++ ys, (Lit.int .i64 x).wf = true := fun x hx => by
    rcases List.mem_append.1 hx with e | e
    · exact hown.wf x e
    · exact hr.wf x e
  have hlt : ∀ k, (Value.slice A n c).ownBlock = some k → base ≤ k := fun k hk => (hown.row.lt k hk).1
  have fin : ∀ (v' : Value) (w' : World), w'.ownsRow base 2 1 v' (n + m) (iw xs ++ iw ys) → w.grownBy w' (Value.slice A n c).ownBlock → wpList Try.prog ops Q rest (a.put o.dst v') w' := by
    intro v' w' hown' hg
    have hb : Below base w w' := ⟨hg.os, hg.tape, hg.output, hg.size, fun k hk => hg.block k (Nat.lt_of_lt_of_le hk hbase) (fun e => by have := hlt k e.symm; omega)⟩
    rw [← iw_append] at hown'
    rcases hown'.2 with ⟨rfl, h0⟩ | ⟨g, cap, cur, rfl, rest'⟩
    · have := h none 0 w'
      rw [h0] at this hown'
      exact this ⟨hown', hwf⟩ hb
    · exact h _ cap w' ⟨hown', hwf⟩ hb
  cases A' with
  | none =>
    have hd := hr.nil rfl
    have hc := hr.cap
    obtain rfl : d = 0 := hd
    obtain rfl : m = 0 := by omega
    have hy : ys = [] := List.eq_nil_of_length_eq_zero hr.len
    subst hy
    refine wpList_append_own_none hgd s x 22 ho base 2 i0 1 slI64 hi _ n (iw xs) hs hown.row hx ?_
    exact fin _ w (by simpa [iw] using hown.row) (World.grownBy.refl w _)
  | some ad =>
    refine wpList_append_own_at (w := w) hgd s x 22 ho base 2 i0 (.int .i64 0) 1 8 slI64 hi hz0 hz1 hz2 rfl (by omega) _ n (iw xs) hs hown.row ad m d (iw ys) hx (by rw [iw_length, hr.len, Nat.mul_one]) ?_ (iw_one ys) (by unfold maxLen; omega) (by omega) hbase ?_
    · intro j u hu
      have hj : j < ys.length := by have := (List.getElem?_eq_some_iff.1 hu).1; rwa [iw_length] at this
      rw [iw_get ys j hj] at hu
      injection hu with hu
      subst hu
      rw [hr.len] at hj
      obtain ⟨ad', e, _, hc⟩ := hr.at' j hj
      injection e with e
      subst e
      exact hc j hj
    · intro v' w' h2 h3 _ _
      exact fin v' w' h2 h3
end Go.Proofs.Ytfdpddlefobcpaa
