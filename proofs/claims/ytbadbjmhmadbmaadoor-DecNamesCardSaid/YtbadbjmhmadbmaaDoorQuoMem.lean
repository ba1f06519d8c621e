/- Words for memory: a block that begins with a row of words, and calls that turn one block alone. No function of the program. -/
import Derived.Test.YtbadbjmhmadbmaaDoorNatMem
import Derived.Test.YtbadbjmhmadbmaaDoorNatApp
namespace Go.Proofs.YtbadbjmhmadbmaaDoor
open Go.RowKit
set_option linter.unusedVariables false
set_option maxRecDepth 20000
open N
namespace N
/-- the block g begins with the row xs; behind it are e places more -/
def ArP (w : World) (g e : Nat) (xs : List Int) : Prop := ∃ ext : List Value, ext.length = e ∧ w.heap[g]? = some (.cells (uv xs ++ ext).toArray 33 (0, 0))
section
variable {w w' : World} {g e : Nat} {xs : List Int}
theorem ArP.lt (h : ArP w g e xs) : g < w.heap.size := by
  obtain ⟨ext, _, h⟩ := h
  rcases Nat.lt_or_ge g w.heap.size with hlt | hge
  · exact hlt
  · rw [Array.getElem?_eq_none hge] at h; cases h
theorem ArP.cell (h : ArP w g e xs) {k : Nat} (hk : k < xs.length) : w.cell? ⟨g, k, none⟩ = some (.int .u64 (lim xs k)) := by
  obtain ⟨ext, _, h⟩ := h
  rw [cell_of_row w g k _ _ _ h]
  have := uv_get xs k hk
  rw [List.getElem?_toArray, List.getElem?_append_left (by rw [uv_length]; exact hk)]
  exact this
theorem ArP.frozen (h : ArP w g e xs) (k : Nat) : w.frozen? ⟨g, k, none⟩ = false := by
  obtain ⟨ext, _, h⟩ := h
  simp [World.frozen?, h]
theorem ArP.drewN (h : ArP w g e xs) (k : Nat) : ArP (w.drewN k) g e xs := h
theorem ArP.drew (h : ArP w g e xs) : ArP w.drew g e xs := h
theorem ArP.block (h : ArP w g e xs) (hb : w'.heap[g]? = w.heap[g]?) : ArP w' g e xs := by
  obtain ⟨ext, h1, h2⟩ := h
  exact ⟨ext, h1, hb.trans h2⟩
theorem ArP.alloc (h : ArP w g e xs) (o : Obj) : ArP (w.alloc o) g e xs := h.block (Below.heap_alloc w o g h.lt)
theorem ArP.below {b : Nat} (h : ArP w g e xs) (hb : Below b w w') (hg : g < b) : ArP w' g e xs := h.block (hb.block g hg)
theorem ArP.far (h : ArP w g e xs) {p : Addr} (hp : g ≠ p.block) (u : Value) : ArP (w.setCell p u) g e xs := h.block (Below.heap_setCell w p u g hp)
theorem ArP.set (h : ArP w g e xs) (k : Nat) (v : Int) (hk : k < xs.length) : ArP (w.setCell ⟨g, k, none⟩ (.int .u64 v)) g e (xs.set k v) := by
  obtain ⟨ext, h1, h2⟩ := h
  refine ⟨ext, h1, ?_⟩
  simp only [World.setCell, Array.getElem?_modify, h2]
  simp [uv, List.map_set, hk]
theorem ArP.own (h : ArP w g e xs) {base n c : Nat} (hb : base ≤ g) (hl : xs.length = n) (hc : n + e = c) (hm : c ≤ maxLen) (hd : Dg B xs) : Own w base (some ⟨g, 0, none⟩) n c xs := by
  obtain ⟨ext, h1, h2⟩ := h
  refine ⟨⟨by rw [uv_length, hl, Nat.mul_one], .inr ⟨g, c, _, rfl, hb, h2, by omega, hm, ?_, ?_⟩⟩, hd⟩
  · simp [uv_length, hl, h1, hc]
  · rw [Nat.mul_one]
    simp [uv_length, hl]
theorem Own.arp {base n c : Nat} {A : Option Addr} (h : Own w base A n c xs) (hn : 0 < n) : ∃ g, A = some ⟨g, 0, none⟩ ∧ base ≤ g ∧ n ≤ c ∧ c ≤ maxLen ∧ ArP w g (c - n) xs := by
  rcases h.row.2 with ⟨e, e0⟩ | ⟨g, cap, cur, e, hb, hh, hnc, hm, hsz, ht⟩
  · omega
  · cases e
    refine ⟨g, rfl, hb, hnc, hm, cur.toList.drop n, by simp [hsz], ?_⟩
    rw [hh, ← ht, Nat.mul_one, List.take_append_drop]
/-- a part of the row as a slice -/
theorem ArP.part (h : ArP w g e xs) (hd : Dg B xs) {i m c : Nat} (hi : i + m ≤ xs.length) (hm : m ≤ c) (hc : c ≤ maxLen) : Sl w (some ⟨g, i, none⟩) m c ((xs.drop i).take m) :=
  ⟨by rw [List.length_take, List.length_drop]; omega, hm, hc, (hd.drop i).take m, (fun e => by cases e), fun k hk => ⟨_, rfl, h.lt, fun j hj => by
    rw [add_plain, lim_take, if_pos hj, lim_drop]; exact h.cell (by omega)⟩⟩
end
theorem Own.keep {w w' : World} {base : Nat} {A : Option Addr} {n c : Nat} {xs : List Int} (h : N.Own w base A n c xs) {r : Option Nat} (hg : w.grownBy w' r) (hr : ∀ k, r = some k → k < base) : N.Own w' base A n c xs :=
  ⟨h.row.kept hg (by
    cases hb : (Value.slice A n c).ownBlock with
    | none => exact .inl rfl
    | some g =>
      refine .inr (fun e => ?_)
      have h1 := (h.row.lt g hb).1
      have h2 := hr g e.symm
      omega), h.dg⟩
/-- the slice A lies in another block than g -/
def Aw (A : Option Addr) (g : Nat) : Prop := ∀ ad, A = some ad → ad.block ≠ g
theorem Sl.grow {w w' : World} {A : Option Addr} {n c g : Nat} {xs : List Int} (h : Sl w A n c xs) (hg : w.grownBy w' (some g)) (ha : Aw A g) : Sl w' A n c xs :=
  ⟨h.len, h.cap, h.max, h.dg, h.nil, fun k hk => by
    obtain ⟨ad, e, hlt, hc⟩ := h.at' k hk
    exact ⟨ad, e, Nat.lt_of_lt_of_le hlt hg.size, fun j hj => (hg.cell (hc j hj) (by rw [add_block]; intro e'; injection e' with e'; exact ha ad e e'))⟩⟩
theorem grow_set (w : World) (g k : Nat) (u : Value) : w.grownBy (w.setCell ⟨g, k, none⟩ u) (some g) :=
  ⟨rfl, rfl, rfl, by rw [World.size_setCell]; exact Nat.le_refl _, fun j _ hne => Below.heap_setCell w _ _ j (fun e => hne (by subst e; rfl))⟩
theorem grow_trans {w w' w'' : World} {r : Option Nat} (h : w.grownBy w' r) (h' : w'.grownBy w'' r) : w.grownBy w'' r :=
  ⟨h'.os.trans h.os, h'.tape.trans h.tape, h'.output.trans h.output, Nat.le_trans h.size h'.size, fun k hk hne => (h'.block k (Nat.lt_of_lt_of_le hk h.size) hne).trans (h.block k hk hne)⟩
theorem grow_below {w w' : World} (hb : Below w.heap.size w w') (r : Option Nat) : w.grownBy w' r := ⟨hb.os, hb.tape, hb.output, hb.size, fun k hk _ => hb.block k hk⟩
theorem grow_drewN (w : World) (n : Nat) (r : Option Nat) : w.grownBy (w.drewN n) r := ⟨rfl, rfl, rfl, Nat.le_refl _, fun _ _ _ => rfl⟩
theorem below_grow {w w' : World} {r : Option Nat} {b : Nat} (h : w.grownBy w' r) (hb : b ≤ w.heap.size) (hr : ∀ k, r = some k → b ≤ k) : Below b w w' :=
  ⟨h.os, h.tape, h.output, h.size, fun k hk => h.block k (Nat.lt_of_lt_of_le hk hb) (fun e => by have := hr k e.symm; omega)⟩
end N
end Go.Proofs.YtbadbjmhmadbmaaDoor
