/- Words for memory: slices of words that read as rows of digits, rows of the call's own. No function of the program. -/
import Derived.Test.YtbadbjmhmadbmaaDoorNatMath
import Derived.Below
import Derived.Laws.OwnMore
import Derived.Laws.Rows
import Derived.Deep.AppendLies
import Derived.Deep.Draws
import Derived.Deep.OwnRows
import Derived.Maps.AppendAt
import Derived.WalkKit
namespace Go.Proofs.YtbadbjmhmadbmaaDoor
open Go.RowKit
set_option linter.unusedVariables false
set_option maxRecDepth 20000
namespace N
theorem add_block (a : Addr) (n : Nat) : (a.add n).block = a.block := by unfold Addr.add; split <;> rfl
theorem add_add (a : Addr) (i j : Nat) : (a.add i).add j = a.add (i + j) := by
  unfold Addr.add
  by_cases hi : i = 0 <;> by_cases hj : j = 0 <;> simp [hi, hj, Nat.add_assoc]
theorem add_zero (a : Addr) : a.add 0 = a := by simp [Addr.add]
theorem add_plain (g o n : Nat) : (⟨g, o, none⟩ : Addr).add n = ⟨g, o + n, none⟩ := by
  unfold Addr.add; split
  · subst_vars; rfl
  · rfl
/-- a row of words as values -/
def uv (xs : List Int) : List Value := xs.map (Value.int .u64)
theorem uv_length (xs : List Int) : (uv xs).length = xs.length := by simp [uv]
theorem uv_get (xs : List Int) (j : Nat) (h : j < xs.length) : (uv xs)[j]? = some (.int .u64 (lim xs j)) := by
  unfold uv; rw [List.getElem?_map, lim_get? xs j h]; rfl
theorem uv_append (xs ys : List Int) : uv (xs ++ ys) = uv xs ++ uv ys := by simp [uv]
theorem uv_take (xs : List Int) (k : Nat) : (uv xs).take k = uv (xs.take k) := by simp [uv, List.map_take]
theorem uv_one (xs : List Int) : ∀ u ∈ uv xs, u.oneCell' = true := by
  intro u hu; unfold uv at hu
  obtain ⟨x, _, rfl⟩ := List.mem_map.1 hu; rfl

/-- the slice value '.slice A n c' reads as the row xs of words -/
structure Sl (w : World) (A : Option Addr) (n c : Nat) (xs : List Int) : Prop where
  len : xs.length = n
  cap : n ≤ c
  max : c ≤ maxLen
  dg : Dg B xs
  nil : A = none → c = 0
  at' : ∀ k, k < n → ∃ ad, A = some ad ∧ ad.block < w.heap.size ∧ ∀ j, j < n → w.cell? (ad.add j) = some (.int .u64 (lim xs j))
theorem Sl.below {w w' : World} {A : Option Addr} {n c : Nat} {xs : List Int} (h : Sl w A n c xs) (hb : Below w.heap.size w w') : Sl w' A n c xs :=
  ⟨h.len, h.cap, h.max, h.dg, h.nil, fun k hk => by
    obtain ⟨ad, e, hlt, hc⟩ := h.at' k hk
    exact ⟨ad, e, Nat.lt_of_lt_of_le hlt hb.size, fun j hj => by rw [hb.cell (by rw [add_block]; exact hlt)]; exact hc j hj⟩⟩
theorem Sl.none {w : World} : Sl w none 0 0 [] := ⟨rfl, Nat.le_refl _, Nat.zero_le _, Dg.nil, fun _ => rfl, fun k hk => by omega⟩
theorem Sl.take {w : World} {A : Option Addr} {n c : Nat} {xs : List Int} (h : Sl w A n c xs) {k : Nat} (hk : k ≤ n) : Sl w A k c (xs.take k) :=
  ⟨by rw [List.length_take, h.len, Nat.min_eq_left hk], Nat.le_trans hk h.cap, h.max, h.dg.take k, h.nil, fun i hi => by
    obtain ⟨ad, e, hlt, hc⟩ := h.at' i (by omega)
    exact ⟨ad, e, hlt, fun j hj => by rw [lim_take, if_pos hj]; exact hc j (by omega)⟩⟩
theorem Sl.tr {w : World} {A : Option Addr} {n c : Nat} {xs : List Int} (h : Sl w A n c xs) : Sl w A (nn xs) c (tr xs) := h.take (by rw [← h.len]; exact nn_le xs)
/-- 's[k:]' -/
theorem Sl.drop {w : World} {A : Option Addr} {n c : Nat} {xs : List Int} (h : Sl w A n c xs) {k : Nat} (hk : k ≤ n) : Sl w (if c = k then A else A.map (·.add k)) (n - k) (c - k) (xs.drop k) :=
  ⟨by rw [List.length_drop, h.len], by have := h.cap; omega, by have := h.max; omega, h.dg.drop k, fun e => by
      split at e
      · have := h.nil e; omega
      · cases A with
        | none => have := h.nil rfl; omega
        | some a => simp at e, fun i hi => by
    obtain ⟨ad, e, hlt, hc⟩ := h.at' k (by omega)
    subst e
    have := h.cap
    rw [if_neg (by omega)]
    exact ⟨ad.add k, rfl, by rw [add_block]; exact hlt, fun j hj => by rw [add_add, lim_drop]; exact hc _ (by omega)⟩⟩
theorem Sl.drewN {w : World} {A : Option Addr} {n c : Nat} {xs : List Int} (h : Sl w A n c xs) (k : Nat) : Sl (w.drewN k) A n c xs := ⟨h.len, h.cap, h.max, h.dg, h.nil, h.at'⟩
theorem Sl.drew {w : World} {A : Option Addr} {n c : Nat} {xs : List Int} (h : Sl w A n c xs) : Sl w.drew A n c xs := ⟨h.len, h.cap, h.max, h.dg, h.nil, h.at'⟩
/-- a place of the slice, where it is read -/
theorem Sl.cell {w : World} {A : Option Addr} {n c : Nat} {xs : List Int} (h : Sl w A n c xs) {k : Nat} (hk : k < n) : ∃ ad, A = some ad ∧ ad.block < w.heap.size ∧ w.cell? (ad.add k) = some (.int .u64 (lim xs k)) := by
  obtain ⟨ad, e, hlt, hc⟩ := h.at' k hk
  exact ⟨ad, e, hlt, hc k hk⟩

/-- the block g holds just the row xs -/
def Arr (w : World) (g : Nat) (xs : List Int) : Prop := w.heap[g]? = some (.cells (uv xs).toArray 33 (0, 0))
section
variable {w w' : World} {g : Nat} {xs : List Int}
theorem Arr.lt (h : Arr w g xs) : g < w.heap.size := by
  rcases Nat.lt_or_ge g w.heap.size with hlt | hge
  · exact hlt
  · unfold Arr at h; rw [Array.getElem?_eq_none hge] at h; cases h
theorem Arr.cell (h : Arr w g xs) {k : Nat} (hk : k < xs.length) : w.cell? ⟨g, k, none⟩ = some (.int .u64 (lim xs k)) := by
  rw [cell_of_row w g k _ _ _ h]
  simpa using uv_get xs k hk
theorem Arr.frozen (h : Arr w g xs) (k : Nat) : w.frozen? ⟨g, k, none⟩ = false := by
  unfold Arr at h; simp [World.frozen?, h]
theorem Arr.drewN (h : Arr w g xs) (k : Nat) : Arr (w.drewN k) g xs := h
theorem Arr.drew (h : Arr w g xs) : Arr w.drew g xs := h
theorem Arr.alloc (h : Arr w g xs) (o : Obj) : Arr (w.alloc o) g xs := (Below.heap_alloc w o g h.lt).trans h
theorem Arr.below {b : Nat} (h : Arr w g xs) (hb : Below b w w') (hg : g < b) : Arr w' g xs := (hb.block g hg).trans h
theorem Arr.far (h : Arr w g xs) {p : Addr} (hp : g ≠ p.block) (u : Value) : Arr (w.setCell p u) g xs := (Below.heap_setCell w p u g hp).trans h
theorem Arr.set (h : Arr w g xs) (k : Nat) (v : Int) : Arr (w.setCell ⟨g, k, none⟩ (.int .u64 v)) g (xs.set k v) := by
  unfold Arr at h ⊢
  simp [World.setCell, Array.getElem?_modify, h, uv, List.map_set]
theorem Arr.own (h : Arr w g xs) {base n : Nat} (hb : base ≤ g) (hl : xs.length = n) (hm : n ≤ maxLen) {k : Nat} (hk : k ≤ n) :
    w.ownsRow base 33 1 (.slice (some ⟨g, 0, none⟩) k n) k (uv (xs.take k)) :=
  ⟨by rw [uv_length, List.length_take, hl, Nat.min_eq_left hk, Nat.mul_one], .inr ⟨g, n, _, rfl, hb, h, hk, hm, by simp [uv_length, hl], by rw [Nat.mul_one, ← uv_take]⟩⟩
theorem Arr.sl (h : Arr w g xs) {n : Nat} (hl : xs.length = n) (hm : n ≤ maxLen) (hd : Dg B xs) : Sl w (some ⟨g, 0, none⟩) n n xs :=
  ⟨hl, Nat.le_refl _, hm, hd, (fun e => by cases e), fun k hk => ⟨_, rfl, h.lt, fun j hj => by rw [add_plain, Nat.zero_add]; exact h.cell (by omega)⟩⟩
end
theorem zeros_row (n : Nat) : madeCells #[Value.int .u64 0] n = (uv (List.replicate n 0)).toArray := by
  unfold madeCells uv
  apply Array.ext_getElem?
  intro i
  by_cases hi : i < n
  · simp [hi, show i % 1 = 0 by omega]
  · simp [hi]
theorem Arr.made (w : World) (n : Nat) : Arr (w.alloc (.cells (madeCells #[Value.int .u64 0] n) 33)) w.heap.size (List.replicate n 0) := by
  unfold Arr; rw [← zeros_row]; exact heap_alloc_new w _
theorem Arr.lit (w : World) (xs : List Int) (cs : Array Value) (h : cs = (uv xs).toArray) : Arr (w.alloc (.cells cs 33)) w.heap.size xs := by
  unfold Arr; rw [← h]; exact heap_alloc_new w _

/-- a slice of the call's own, from block base on, that reads as xs -/
structure Own (w : World) (base : Nat) (A : Option Addr) (n c : Nat) (xs : List Int) : Prop where
  row : w.ownsRow base 33 1 (.slice A n c) n (uv xs)
  dg : Dg B xs
section
variable {w w' : World} {base : Nat} {A : Option Addr} {n c : Nat} {xs : List Int}
theorem Own.len (h : Own w base A n c xs) : xs.length = n := by have := h.row.1; rwa [uv_length, Nat.mul_one] at this
theorem Own.sl (h : Own w base A n c xs) : Sl w A n c xs := by
  refine ⟨h.len, ?_, ?_, h.dg, ?_, ?_⟩
  · rcases h.row.2 with ⟨e, h0⟩ | ⟨g, cap, cur, e, _, _, hnc, _⟩ <;> cases e <;> omega
  · rcases h.row.2 with ⟨e, h0⟩ | ⟨g, cap, cur, e, _, _, hnc, hm, _⟩ <;> cases e
    · exact Nat.zero_le _
    · exact hm
  · intro hA; subst hA
    rcases h.row.2 with ⟨e, h0⟩ | ⟨g, cap, cur, e, _⟩ <;> cases e; rfl
  · intro k hk
    rcases h.row.2 with ⟨e, h0⟩ | ⟨g, cap, cur, e, _, hg, hnc, hm, hs, ht⟩
    · omega
    · cases e
      refine ⟨_, rfl, (Array.getElem?_eq_some_iff.1 hg).1, fun j hj => ?_⟩
      exact h.row.cells (g := g) rfl j _ (uv_get xs j (by rw [h.len]; exact hj))
theorem Own.below (h : Own w base A n c xs) (hb : Below w.heap.size w w') : Own w' base A n c xs := by
  refine ⟨h.row.kept (row := Option.none) ⟨hb.os, hb.tape, hb.output, hb.size, fun k hk _ => hb.block k hk⟩ ?_, h.dg⟩
  cases (Value.slice A n c).ownBlock with
  | none => exact .inl rfl
  | some k => exact .inr (by simp)
theorem Own.mono (h : Own w base A n c xs) {base' : Nat} (hb : base' ≤ base) : Own w base' A n c xs :=
  ⟨⟨h.row.1, by
    rcases h.row.2 with e | ⟨g, cap, cur, e, hg, r⟩
    · exact .inl e
    · exact .inr ⟨g, cap, cur, e, Nat.le_trans hb hg, r⟩⟩, h.dg⟩
theorem Own.nil_ (w : World) (base : Nat) : Own w base none 0 0 [] := ⟨w.ownsRow_nil base _ 1, Dg.nil⟩
theorem Own.take (h : Own w base A n c xs) {k : Nat} (hk : k ≤ n) : Own w base A k c (xs.take k) := by
  refine ⟨⟨by rw [uv_length, List.length_take, h.len, Nat.min_eq_left hk, Nat.mul_one], ?_⟩, h.dg.take k⟩
  rcases h.row.2 with ⟨e, h0⟩ | ⟨g, cap, cur, e, hg, hh, hnc, hm, hs, ht⟩
  · left; cases e; exact ⟨by rw [show k = 0 by omega], by omega⟩
  · cases e
    refine .inr ⟨g, _, cur, rfl, hg, hh, by omega, hm, hs, ?_⟩
    rw [← uv_take, ← ht, List.take_take, Nat.mul_one, Nat.mul_one, Nat.min_eq_left hk]
theorem Own.tr (h : Own w base A n c xs) : Own w base A (nn xs) c (tr xs) := h.take (by rw [← h.len]; exact nn_le xs)
end
/-- what a call tells that makes a natural: its limbs, in memory of its own; of what was there nothing has turned; m: how many limbs at most -/
def Out (W : World) (m : Nat) (r : Int) (e : Ending) (w' : World) : Prop :=
  ∃ A n c, e = .returned (.slice A n c) ∧ n ≤ m ∧ Own w' W.heap.size A n c (limbs r) ∧ Below W.heap.size W w'
/-- the same, beside an error's number -/
def Out2 (W : World) (m : Nat) (r : Int) (k : Int) (e : Ending) (w' : World) : Prop :=
  ∃ A n c, e = .returned (.tuple #[.slice A n c, .int .i64 k]) ∧ n ≤ m ∧ Own w' W.heap.size A n c (limbs r) ∧ Below W.heap.size W w'
end N
end Go.Proofs.YtbadbjmhmadbmaaDoor
