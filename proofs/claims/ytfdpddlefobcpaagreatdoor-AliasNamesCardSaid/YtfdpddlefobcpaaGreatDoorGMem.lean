/- Gathered: NatMem, NatWord, NatApp, NatBare, BytMem, QuoMem. -/
import Derived.Test.YtfdpddlefobcpaaGreatDoorGMath
import Derived.Below
import Derived.Laws.OwnMore
import Derived.Laws.Rows
import Derived.Deep.AppendLies
import Derived.Deep.Draws
import Derived.Deep.OwnRows
import Derived.Maps.AppendAt
import Derived.WalkKit
import Derived.Test.YtfdpddlefobcpaaGreatDoorRows
import Derived.WalkLawsBesides
import Derived.ProofKit
import Derived.OpenShut
import Derived.Outline
import Derived.Lib.Hide
import Derived.Shelf.Spec.BitsCarry
import Derived.Deep.QuietTactic
import Derived.BigQuiet
import Derived.WalkMore
import Derived.Test.YtfdpddlefobcpaaGreatDoorShelf
import Derived.Laws.AppendOwnNone
import Derived.Laws.IdiomStrings
import Derived.Laws.BytesString
import Derived.Laws.Concat
/- Words for memory: slices of words that read as rows of digits, rows of the call's own. No function of the program. -/
namespace Go.Proofs.YtfdpddlefobcpaaGreatDoor
open Go.RowKit
set_option linter.unusedVariables false
set_option maxRecDepth 20000
namespace N
theorem add_block (a : Addr) (n : Nat) : (a.add n).block = a.block := by unfold Addr.add; split <;> rfl
theorem add_add (a : Addr) (i j : Nat) : (a.add i).add j = a.add (i + j) := by
  unfold Addr.add
  by_cases hi : i = 0 <;> by_cases hj : j = 0 <;> simp [hi, hj, Nat.add_assoc]
theorem add_zero (a : Addr) : a.add 0 = a := by simp [Addr.add]
theorem add_plain (g o n : Nat) : (⟨g, o, none⟩ : Addr).add n = ⟨g, o + n, none⟩ := by
  unfold Addr.add; split
  · subst_vars; rfl
  · rfl
/-- a row of words as values -/
def uv (xs : List Int) : List Value := xs.map (Value.int .u64)
theorem uv_length (xs : List Int) : (uv xs).length = xs.length := by simp [uv]
theorem uv_get (xs : List Int) (j : Nat) (h : j < xs.length) : (uv xs)[j]? = some (.int .u64 (lim xs j)) := by
  unfold uv; rw [List.getElem?_map, lim_get? xs j h]; rfl
theorem uv_append (xs ys : List Int) : uv (xs ++ ys) = uv xs ++ uv ys := by simp [uv]
theorem uv_take (xs : List Int) (k : Nat) : (uv xs).take k = uv (xs.take k) := by simp [uv, List.map_take]
theorem uv_one (xs : List Int) : ∀ u ∈ uv xs, u.oneCell' = true := by
  intro u hu; unfold uv at hu
  obtain ⟨x, _, rfl⟩ := List.mem_map.1 hu; rfl

/-- the slice value '.slice A n c' reads as the row xs of words -/
structure Sl (w : World) (A : Option Addr) (n c : Nat) (xs : List Int) : Prop where
  len : xs.length = n
  cap : n ≤ c
  max : c ≤ maxLen
  dg : Dg B xs
  nil : A = none → c = 0
  at' : ∀ k, k < n → ∃ ad, A = some ad ∧ ad.block < w.heap.size ∧ ∀ j, j < n → w.cell? (ad.add j) = some (.int .u64 (lim xs j))
theorem Sl.below {w w' : World} {A : Option Addr} {n c : Nat} {xs : List Int} (h : Sl w A n c xs) (hb : Below w.heap.size w w') : Sl w' A n c xs :=
  ⟨h.len, h.cap, h.max, h.dg, h.nil, fun k hk => by
    obtain ⟨ad, e, hlt, hc⟩ := h.at' k hk
    exact ⟨ad, e, Nat.lt_of_lt_of_le hlt hb.size, fun j hj => by rw [hb.cell (by rw [add_block]; exact hlt)]; exact hc j hj⟩⟩
theorem Sl.none {w : World} : Sl w none 0 0 [] := ⟨rfl, Nat.le_refl _, Nat.zero_le _, Dg.nil, fun _ => rfl, fun k hk => by omega⟩
theorem Sl.take {w : World} {A : Option Addr} {n c : Nat} {xs : List Int} (h : Sl w A n c xs) {k : Nat} (hk : k ≤ n) : Sl w A k c (xs.take k) :=
  ⟨by rw [List.length_take, h.len, Nat.min_eq_left hk], Nat.le_trans hk h.cap, h.max, h.dg.take k, h.nil, fun i hi => by
    obtain ⟨ad, e, hlt, hc⟩ := h.at' i (by omega)
    exact ⟨ad, e, hlt, fun j hj => by rw [lim_take, if_pos hj]; exact hc j (by omega)⟩⟩
theorem Sl.tr {w : World} {A : Option Addr} {n c : Nat} {xs : List Int} (h : Sl w A n c xs) : Sl w A (nn xs) c (tr xs) := h.take (by rw [← h.len]; exact nn_le xs)
/-- 's[k:]' -/
theorem Sl.drop {w : World} {A : Option Addr} {n c : Nat} {xs : List Int} (h : Sl w A n c xs) {k : Nat} (hk : k ≤ n) : Sl w (if c = k then A else A.map (·.add k)) (n - k) (c - k) (xs.drop k) :=
  ⟨by rw [List.length_drop, h.len], by have := h.cap; omega, by have := h.max; omega, h.dg.drop k, fun e => by
      split at e
      · have := h.nil e; omega
      · cases A with
        | none => have := h.nil rfl; omega
        | some a => simp at e, fun i hi => by
    obtain ⟨ad, e, hlt, hc⟩ := h.at' k (by omega)
    subst e
    have := h.cap
    rw [if_neg (by omega)]
    exact ⟨ad.add k, rfl, by rw [add_block]; exact hlt, fun j hj => by rw [add_add, lim_drop]; exact hc _ (by omega)⟩⟩
theorem Sl.drewN {w : World} {A : Option Addr} {n c : Nat} {xs : List Int} (h : Sl w A n c xs) (k : Nat) : Sl (w.drewN k) A n c xs := ⟨h.len, h.cap, h.max, h.dg, h.nil, h.at'⟩
theorem Sl.drew {w : World} {A : Option Addr} {n c : Nat} {xs : List Int} (h : Sl w A n c xs) : Sl w.drew A n c xs := ⟨h.len, h.cap, h.max, h.dg, h.nil, h.at'⟩
/-- a place of the slice, where it is read -/
theorem Sl.cell {w : World} {A : Option Addr} {n c : Nat} {xs : List Int} (h : Sl w A n c xs) {k : Nat} (hk : k < n) : ∃ ad, A = some ad ∧ ad.block < w.heap.size ∧ w.cell? (ad.add k) = some (.int .u64 (lim xs k)) := by
  obtain ⟨ad, e, hlt, hc⟩ := h.at' k hk
  exact ⟨ad, e, hlt, hc k hk⟩

/-- the block g holds just the row xs -/
def Arr (w : World) (g : Nat) (xs : List Int) : Prop := w.heap[g]? = some (.cells (uv xs).toArray 72 (0, 0))
section
variable {w w' : World} {g : Nat} {xs : List Int}
theorem Arr.lt (h : Arr w g xs) : g < w.heap.size := by
  rcases Nat.lt_or_ge g w.heap.size with hlt | hge
  · exact hlt
  · unfold Arr at h; rw [Array.getElem?_eq_none hge] at h; cases h
theorem Arr.cell (h : Arr w g xs) {k : Nat} (hk : k < xs.length) : w.cell? ⟨g, k, none⟩ = some (.int .u64 (lim xs k)) := by
  rw [cell_of_row w g k _ _ _ h]
  simpa using uv_get xs k hk
theorem Arr.frozen (h : Arr w g xs) (k : Nat) : w.frozen? ⟨g, k, none⟩ = false := by
  unfold Arr at h; simp [World.frozen?, h]
theorem Arr.drewN (h : Arr w g xs) (k : Nat) : Arr (w.drewN k) g xs := h
theorem Arr.drew (h : Arr w g xs) : Arr w.drew g xs := h
theorem Arr.alloc (h : Arr w g xs) (o : Obj) : Arr (w.alloc o) g xs := (Below.heap_alloc w o g h.lt).trans h
theorem Arr.below {b : Nat} (h : Arr w g xs) (hb : Below b w w') (hg : g < b) : Arr w' g xs := (hb.block g hg).trans h
theorem Arr.far (h : Arr w g xs) {p : Addr} (hp : g ≠ p.block) (u : Value) : Arr (w.setCell p u) g xs := (Below.heap_setCell w p u g hp).trans h
theorem Arr.set (h : Arr w g xs) (k : Nat) (v : Int) : Arr (w.setCell ⟨g, k, none⟩ (.int .u64 v)) g (xs.set k v) := by
  unfold Arr at h ⊢
  simp [World.setCell, Array.getElem?_modify, h, uv, List.map_set]
theorem Arr.own (h : Arr w g xs) {base n : Nat} (hb : base ≤ g) (hl : xs.length = n) (hm : n ≤ maxLen) {k : Nat} (hk : k ≤ n) :
    w.ownsRow base 72 1 (.slice (some ⟨g, 0, none⟩) k n) k (uv (xs.take k)) :=
  ⟨by rw [uv_length, List.length_take, hl, Nat.min_eq_left hk, Nat.mul_one], .inr ⟨g, n, _, rfl, hb, h, hk, hm, by simp [uv_length, hl], by rw [Nat.mul_one, ← uv_take]⟩⟩
theorem Arr.sl (h : Arr w g xs) {n : Nat} (hl : xs.length = n) (hm : n ≤ maxLen) (hd : Dg B xs) : Sl w (some ⟨g, 0, none⟩) n n xs :=
  ⟨hl, Nat.le_refl _, hm, hd, (fun e => by cases e), fun k hk => ⟨_, rfl, h.lt, fun j hj => by rw [add_plain, Nat.zero_add]; exact h.cell (by omega)⟩⟩
end
theorem zeros_row (n : Nat) : madeCells #[Value.int .u64 0] n = (uv (List.replicate n 0)).toArray := by
  unfold madeCells uv
  apply Array.ext_getElem?
  intro i
  by_cases hi : i < n
  · simp [hi, show i % 1 = 0 by omega]
  · simp [hi]
theorem Arr.made (w : World) (n : Nat) : Arr (w.alloc (.cells (madeCells #[Value.int .u64 0] n) 72)) w.heap.size (List.replicate n 0) := by
  unfold Arr; rw [← zeros_row]; exact heap_alloc_new w _
theorem Arr.lit (w : World) (xs : List Int) (cs : Array Value) (h : cs = (uv xs).toArray) : Arr (w.alloc (.cells cs 72)) w.heap.size xs := by
  unfold Arr; rw [← h]; exact heap_alloc_new w _

/-- a slice of the call's own, from block base on, that reads as xs -/
structure Own (w : World) (base : Nat) (A : Option Addr) (n c : Nat) (xs : List Int) : Prop where
  row : w.ownsRow base 72 1 (.slice A n c) n (uv xs)
  dg : Dg B xs
section
variable {w w' : World} {base : Nat} {A : Option Addr} {n c : Nat} {xs : List Int}
theorem Own.len (h : N.Own w base A n c xs) : xs.length = n := by have := h.row.1; rwa [uv_length, Nat.mul_one] at this
theorem Own.sl (h : N.Own w base A n c xs) : Sl w A n c xs := by
  refine ⟨h.len, ?_, ?_, h.dg, ?_, ?_⟩
  · rcases h.row.2 with ⟨e, h0⟩ | ⟨g, cap, cur, e, _, _, hnc, _⟩ <;> cases e <;> omega
  · rcases h.row.2 with ⟨e, h0⟩ | ⟨g, cap, cur, e, _, _, hnc, hm, _⟩ <;> cases e
    · exact Nat.zero_le _
    · exact hm
  · intro hA; subst hA
    rcases h.row.2 with ⟨e, h0⟩ | ⟨g, cap, cur, e, _⟩ <;> cases e; rfl
  · intro k hk
    rcases h.row.2 with ⟨e, h0⟩ | ⟨g, cap, cur, e, _, hg, hnc, hm, hs, ht⟩
    · omega
    · cases e
      refine ⟨_, rfl, (Array.getElem?_eq_some_iff.1 hg).1, fun j hj => ?_⟩
      exact h.row.cells (g := g) rfl j _ (uv_get xs j (by rw [h.len]; exact hj))
theorem Own.below (h : N.Own w base A n c xs) (hb : Below w.heap.size w w') : N.Own w' base A n c xs := by
  refine ⟨h.row.kept (row := Option.none) ⟨hb.os, hb.tape, hb.output, hb.size, fun k hk _ => hb.block k hk⟩ ?_, h.dg⟩
  cases (Value.slice A n c).ownBlock with
  | none => exact .inl rfl
  | some k => exact .inr (by simp)
theorem Own.mono (h : N.Own w base A n c xs) {base' : Nat} (hb : base' ≤ base) : N.Own w base' A n c xs :=
  ⟨⟨h.row.1, by
    rcases h.row.2 with e | ⟨g, cap, cur, e, hg, r⟩
    · exact .inl e
    · exact .inr ⟨g, cap, cur, e, Nat.le_trans hb hg, r⟩⟩, h.dg⟩
theorem Own.nil_ (w : World) (base : Nat) : N.Own w base none 0 0 [] := ⟨w.ownsRow_nil base _ 1, Dg.nil⟩
theorem Own.take (h : N.Own w base A n c xs) {k : Nat} (hk : k ≤ n) : N.Own w base A k c (xs.take k) := by
  refine ⟨⟨by rw [uv_length, List.length_take, h.len, Nat.min_eq_left hk, Nat.mul_one], ?_⟩, h.dg.take k⟩
  rcases h.row.2 with ⟨e, h0⟩ | ⟨g, cap, cur, e, hg, hh, hnc, hm, hs, ht⟩
  · left; cases e; exact ⟨by rw [show k = 0 by omega], by omega⟩
  · cases e
    refine .inr ⟨g, _, cur, rfl, hg, hh, by omega, hm, hs, ?_⟩
    rw [← uv_take, ← ht, List.take_take, Nat.mul_one, Nat.mul_one, Nat.min_eq_left hk]
theorem Own.tr (h : N.Own w base A n c xs) : N.Own w base A (nn xs) c (tr xs) := h.take (by rw [← h.len]; exact nn_le xs)
end
/-- what a call tells that makes a natural: its limbs, in memory of its own; of what was there nothing has turned; m: how many limbs at most -/
def Out (W : World) (m : Nat) (r : Int) (e : Ending) (w' : World) : Prop :=
  ∃ A n c, e = .returned (.slice A n c) ∧ n ≤ m ∧ N.Own w' W.heap.size A n c (limbs r) ∧ Below W.heap.size W w'
/-- the same, beside an error's number -/
def Out2 (W : World) (m : Nat) (r : Int) (k : Int) (e : Ending) (w' : World) : Prop :=
  ∃ A n c, e = .returned (.tuple #[.slice A n c, .int .i64 k]) ∧ n ≤ m ∧ N.Own w' W.heap.size A n c (limbs r) ∧ Below W.heap.size W w'
end N
end Go.Proofs.YtfdpddlefobcpaaGreatDoor
/- Contracts of the calls of layer 1 (word) over this translation: joined by program from wip/word, without what speaks of the document's own answers. -/
namespace Go.Proofs.YtfdpddlefobcpaaGreatDoor
open Go.RowKit
set_option linter.unusedVariables false
set_option maxRecDepth 20000
theorem ret1 {k : IntKind} {a b : Int} (h : a = b) : Ending.returned (.int k a) = .returned (.int k b) := by rw [h]
theorem ret2 {k : IntKind} {a b c d : Int} (h : a = b) (h' : c = d) : Ending.returned (.tuple #[.int k a, .int k c]) = .returned (.tuple #[.int k b, .int k d]) := by rw [h, h']

theorem ret3 {k j : IntKind} {a b c d e f : Int} (h : a = b) (h' : c = d) (h'' : e = f) : Ending.returned (.tuple #[.int k a, .int k c, .int j e]) = .returned (.tuple #[.int k b, .int k d, .int j f]) := by rw [h, h', h'']
theorem ret2' {k j : IntKind} {a b e f : Int} (h : a = b) (h'' : e = f) : Ending.returned (.tuple #[.int k a, .int j e]) = .returned (.tuple #[.int k b, .int j f]) := by rw [h, h'']
theorem retb {a b : Bool} (h : a = b) : Ending.returned (.bool a) = .returned (.bool b) := by rw [h]

theorem wd_of {a : Int} (h : (Lit.int .u64 a).wf = true) : W.Wd a := by
  have := bounds_u64 h; unfold W.Wd; omega

theorem one_any (c : Int) (h0 : 0 ≤ c) (hc : c < 18446744073709551616) (w : World) :
    Calls Tryz.prog 151 #[.int .u64 c] w fun e w' => e = .returned (.int .u64 (min c 1)) ∧ w' = w := by
  go_enter Tryz.func151, Tryz.ntmps151
  go_wp2
  all_goals go_ret
  all_goals exact ⟨ret1 (by omega), rfl⟩
theorem add64 (x y c : Int) (hx : 0 ≤ x) (hx' : x < 18446744073709551616) (hy : 0 ≤ y) (hy' : y < 18446744073709551616) (hc : 0 ≤ c) (w : World) :
    (callFunc 150 #[.int .u64 x, .int .u64 y, .int .u64 (min c 1)]).run Tryz.prog w = .ok (.value (.tuple #[.int .u64 (W.addS x y c), .int .u64 (W.addC x y c)])) w := by
  rw [run_callFunc_extern Tryz.func150 (by kernel_rfl) (by kernel_rfl) (by kernel_rfl) (e := add64Entry) (by kernel_rfl), run_add64 x y (min c 1) (by omega) (by omega) (by omega) (by omega)]
  simp only [Result.andThen]
  unfold W.addS W.addC
  congr 5 <;> omega
theorem sub64 (x y c : Int) (hx : 0 ≤ x) (hx' : x < 18446744073709551616) (hy : 0 ≤ y) (hy' : y < 18446744073709551616) (hc : 0 ≤ c) (w : World) :
    (callFunc 159 #[.int .u64 x, .int .u64 y, .int .u64 (min c 1)]).run Tryz.prog w = .ok (.value (.tuple #[.int .u64 (W.subS x y c), .int .u64 (W.subC x y c)])) w := by
  obtain ⟨x, rfl⟩ := Int.eq_ofNat_of_zero_le hx
  obtain ⟨y, rfl⟩ := Int.eq_ofNat_of_zero_le hy
  obtain ⟨c, rfl⟩ := Int.eq_ofNat_of_zero_le hc
  have e : (min (c : Int) 1) = ((min c 1 : Nat) : Int) := by omega
  rw [e, run_callFunc_extern Tryz.func159 (by kernel_rfl) (by kernel_rfl) (by kernel_rfl) (e := sub64Entry) (by kernel_rfl), run_sub64 x y (min c 1) (by omega)]
  simp only [Result.andThen]
  unfold W.subS W.subC
  have e1 : (((x + 18446744073709551616 - y - min c 1) % 18446744073709551616 : Nat) : Int) = ((x : Int) - y - min (c : Int) 1) % 18446744073709551616 := by omega
  have e2 : ((if x < y + min c 1 then 1 else 0 : Nat) : Int) = -(((x : Int) - y - min (c : Int) 1) / 18446744073709551616) := by split <;> omega
  rw [← e1, ← e2]
theorem add_any (a b c : Int) (ha : W.Wd a) (hb : W.Wd b) (hc : W.Wd c) (w : World) :
    Calls Tryz.prog 130 #[.int .u64 a, .int .u64 b, .int .u64 c] w fun e w' => e = .returned (.tuple #[.int .u64 (W.addS a b c), .int .u64 (W.addC a b c)]) ∧ w' = w := by
  obtain ⟨ha, ha'⟩ := ha; obtain ⟨hb, hb'⟩ := hb; obtain ⟨hc, hc'⟩ := hc
  go_enter Tryz.func130, Tryz.ntmps130
  go_wp2_with (first | (go_at_call 151; refine (one_any c hc hc' _).mono ?_; rintro e w' ⟨rfl, rfl⟩) | simp only [add64 a b c ha ha' hb hb' hc])
  go_ret2
  exact ⟨rfl, rfl⟩
theorem sub_any (a b c : Int) (ha : W.Wd a) (hb : W.Wd b) (hc : W.Wd c) (w : World) :
    Calls Tryz.prog 149 #[.int .u64 a, .int .u64 b, .int .u64 c] w fun e w' => e = .returned (.tuple #[.int .u64 (W.subS a b c), .int .u64 (W.subC a b c)]) ∧ w' = w := by
  obtain ⟨ha, ha'⟩ := ha; obtain ⟨hb, hb'⟩ := hb; obtain ⟨hc, hc'⟩ := hc
  go_enter Tryz.func149, Tryz.ntmps149
  go_wp2_with (first | (go_at_call 151; refine (one_any c hc hc' _).mono ?_; rintro e w' ⟨rfl, rfl⟩) | simp only [sub64 a b c ha ha' hb hb' hc])
  go_ret2
  exact ⟨rfl, rfl⟩
theorem mul64_any (a b : Int) (ha : W.Wd a) (hb : W.Wd b) (w : World) :
    Calls Tryz.prog 152 #[.int .u64 a, .int .u64 b] w fun e w' => e = .returned (.tuple #[.int .u64 (W.mulH a b), .int .u64 (W.mulL a b)]) ∧ w' = w := by
  obtain ⟨ha, ha'⟩ := ha; obtain ⟨hb, hb'⟩ := hb
  obtain ⟨a, rfl⟩ := Int.eq_ofNat_of_zero_le ha
  obtain ⟨b, rfl⟩ := Int.eq_ofNat_of_zero_le hb
  refine (Tryz.bits_Mul64 a b (by omega) (by omega) w).mono fun e w' h => ?_
  obtain ⟨rfl, rfl⟩ := h
  refine ⟨ret2 ?_ ?_, rfl⟩
  · unfold W.mulH; rw [Int.natCast_ediv, Int.natCast_mul]; rfl
  · unfold W.mulL; rw [Int.natCast_emod, Int.natCast_mul]; rfl
theorem mul_any (a b : Int) (ha : W.Wd a) (hb : W.Wd b) (w : World) :
    Calls Tryz.prog 135 #[.int .u64 a, .int .u64 b] w fun e w' => e = .returned (.tuple #[.int .u64 (W.mulH a b), .int .u64 (W.mulL a b)]) ∧ w' = w := by
  go_enter Tryz.func135, Tryz.ntmps135
  go_wp2_with (go_at_call 152; refine (mul64_any a b ha hb _).mono ?_; rintro e w' ⟨rfl, rfl⟩)
  go_ret2
  exact ⟨rfl, rfl⟩
theorem within_yes (n : Int) (h0 : 0 ≤ n) (h1 : n ≤ 64) (w : World) :
    Calls Tryz.prog 113 #[.int .i64 n] w fun e w' => e = .returned (.bool true) ∧ w' = w := by
  go_enter Tryz.func113, Tryz.ntmps113
  go_wp2
  go_ret
  exact ⟨rfl, rfl⟩
theorem within_no (n : Int) (h : n < 0 ∨ 64 < n) (w : World) :
    Calls Tryz.prog 113 #[.int .i64 n] w fun e w' => e = .returned (.bool false) ∧ w' = w := by
  by_cases h0 : 0 ≤ n
  · have h1 : 64 < n := by omega
    clear h
    go_enter Tryz.func113, Tryz.ntmps113
    go_wp2
    go_ret
    exact ⟨retb (by simp; omega), rfl⟩
  · have h1 : n < 0 := by omega
    clear h h0
    go_enter Tryz.func113, Tryz.ntmps113
    go_wp2
    go_ret
    exact ⟨rfl, rfl⟩
theorem shl_no (a n : Int) (h : n < 0 ∨ 64 < n) (w : World) :
    Calls Tryz.prog 98 #[.int .u64 a, .int .i64 n] w fun e w' => e = .returned (.tuple #[.int .u64 0, .int .u64 0, .int .i64 1]) ∧ w' = w := by
  have H := Lib.hid h
  clear h
  go_enter Tryz.func98, Tryz.ntmps98
  go_wp2_with (go_at_call 113; refine (within_no n H.out _).mono ?_; rintro e w' ⟨rfl, rfl⟩)
  go_ret3
  exact ⟨rfl, rfl⟩
theorem shl_yes (a n : Int) (ha : W.Wd a) (h0 : 0 ≤ n) (h1 : n ≤ 64) (w : World) :
    Calls Tryz.prog 98 #[.int .u64 a, .int .i64 n] w fun e w' => e = .returned (.tuple #[.int .u64 (W.shlH a n), .int .u64 (W.shlL a n), .int .i64 0]) ∧ ∃ k, w' = w.drewN k := by
  obtain ⟨ha, ha'⟩ := id ha
  go_enter Tryz.func98, Tryz.ntmps98
  go_wp2_with (go_at_call 113; refine (within_yes n h0 h1 _).mono ?_; rintro e w' ⟨rfl, rfl⟩)
  go_quiet (fail)
  go_wp2
  go_ret3
  exact ⟨ret3 (W.shlH_eq a n h0 h1).symm (by unfold W.shlL; rw [IntKind.wrap_u64]) rfl, _, rfl⟩
theorem shr_no (a b n : Int) (h : n < 0 ∨ 64 < n) (w : World) :
    Calls Tryz.prog 162 #[.int .u64 a, .int .u64 b, .int .i64 n] w fun e w' => e = .returned (.tuple #[.int .u64 0, .int .i64 1]) ∧ w' = w := by
  have H := Lib.hid h
  clear h
  go_enter Tryz.func162, Tryz.ntmps162
  go_wp2_with (go_at_call 113; refine (within_no n H.out _).mono ?_; rintro e w' ⟨rfl, rfl⟩)
  go_ret2
  exact ⟨rfl, rfl⟩
theorem shr_yes (a b n : Int) (ha : W.Wd a) (hb : W.Wd b) (h0 : 0 ≤ n) (h1 : n ≤ 64) (w : World) :
    Calls Tryz.prog 162 #[.int .u64 a, .int .u64 b, .int .i64 n] w fun e w' => e = .returned (.tuple #[.int .u64 (W.shr a b n), .int .i64 0]) ∧ ∃ k, w' = w.drewN k := by
  obtain ⟨ha, ha'⟩ := id ha
  obtain ⟨hb, hb'⟩ := id hb
  have HS := Lib.hid (W.shr_eq a b n ⟨hb, hb'⟩ h0 h1)
  go_enter Tryz.func162, Tryz.ntmps162
  go_wp2_with (go_at_call 113; refine (within_yes n h0 h1 _).mono ?_; rintro e w' ⟨rfl, rfl⟩)
  go_quiet (fail)
  go_wp2
  go_ret2
  obtain ⟨e1, x, y, k, e2, e3, e4, e5⟩ := HS.out
  refine ⟨ret2' ?_ rfl, _, rfl⟩
  have hx : x * 2 ^ k < 18446744073709551616 := by omega
  rw [IntKind.wrap_u64, e1, e2, e3, bits_or_u64_nat _ _ (by omega) hx, W.nat_or _ _ _ e4]
  rfl
theorem len_any (a : Int) (hw : W.Wd a) (w : World) :
    Calls Tryz.prog 75 #[.int .u64 a] w fun e w' => e = .returned (.int .i64 (W.len a)) ∧ w' = w := by
  obtain ⟨ha, ha'⟩ := id hw
  go_enter Tryz.func75, Tryz.ntmps75
  go_wp2
  go_step3
  go_wp2
  go_step3
  go_wp2
  go_loop [0, 3] (fun v i => ∃ k : Nat, k ≤ 64 ∧ i = .int .i64 k ∧ v = .int .u64 (a / 2 ^ k) ∧ (k = 0 ∨ 0 < a / 2 ^ (k - 1))) (fun _ i => 64 - (intOf i).toNat)
  case atStart => exact ⟨0, Nat.zero_le _, rfl, by simp, Or.inl rfl⟩
  case round =>
    obtain ⟨k, hk, rfl, rfl, hp⟩ := hrel
    have hd := W.div_le a k ha
    have HD : Hid (a / 2 ^ (k + 1) = a / 2 ^ k / 2) := Lib.hid (W.div_div2 a k)
    have HP := Lib.hid hp
    clear hp
    by_cases h0 : 0 < a / 2 ^ k
    · have := W.div_pos_lt a k hw h0
      by_cases h1 : a / 2 ^ k < 256
      · go_wp2
        go_round
        case rel => exact ⟨k + 1, by omega, by go_num, by rw [HD.out], Or.inr h0⟩
        case measure => first | (simp [intOf]; done) | (simp [intOf]; omega)
      · have h7 : 0 < a / 2 ^ (k + 7) := by rw [W.div_div128]; omega
        have := W.div_pos_lt a _ hw h7
        have H7 : Hid (0 < a / 2 ^ (k + 7)) := Lib.hid h7
        clear h7
        go_wp2
        go_round
        case rel => exact ⟨k + 8, by omega, by go_num, by rw [W.div_div256], Or.inr H7.out⟩
        case measure => first | (simp [intOf]; done) | (simp [intOf]; omega)
    · have HE : Hid (a / 2 ^ k = 0) := Lib.hid (by omega)
      go_wp2
      go_ret
      exact ⟨ret1 (W.len_of a k ha HE.out HP.out).symm, rfl⟩

end Go.Proofs.YtfdpddlefobcpaaGreatDoor
/- append and make over naturals (rows of words) at this translation. -/
namespace Go.Proofs.YtfdpddlefobcpaaGreatDoor
open Go.RowKit
set_option linter.unusedVariables false
set_option maxRecDepth 20000
open N
theorem infoU : (Tryz.prog.info? 72).map (fun i => (i.zero, i.size, i.bytes)) = some (some (.int .u64 0), 1, 8) := by kernel_rfl
theorem slNat : Tryz.prog.underlying 58 = some (.slice 72) := Tryz.underlying58
theorem slU : Tryz.prog.underlying 57 = some (.slice 72) := Tryz.underlying57
theorem make_run (t : TypeId) (ht : Tryz.prog.underlying t = some (.slice 72)) (n : Nat) (h : n ≤ 4398046511104) (w : World) :
    (Instr.makeSlice t (.int .i64 (n : Int)) (.int .i64 (n : Int))).run Tryz.prog w = .ok (.slice (some ⟨w.heap.size, 0, none⟩) n n) (w.alloc (.cells (madeCells #[.int .u64 0] n) 72)) :=
  run_make_row' t 72 (.int .u64 0) 8 ht infoU rfl .i64 .i64 n (by omega) (by omega) w
def rowOf (A : Option Addr) : Option Nat := A.map (·.block)
theorem ownBlock_eq (A : Option Addr) (n c : Nat) : (Value.slice A n c).ownBlock = rowOf A := by cases A <;> rfl
/-- append onto a row of the call's own -/
theorem wp_app {w : World} {ops : Array Oper} {rest : List Oper} {o : Oper} {a : Act} {Q : Exit → Act → World → Prop} (hgd : o.guard = none) (s x : Operand) (t : TypeId)
    (ho : o.op = .call { callee := .builtin .append, args := #[s, x], argTypes := #[t, t] }) (ht : Tryz.prog.underlying t = some (.slice 72))
    (base : Nat) {A : Option Addr} {n c : Nat} {xs : List Int} (hs : a.eval s = .slice A n c) (hown : N.Own w base A n c xs)
    {A' : Option Addr} {m d : Nat} {ys : List Int} (hx : a.eval x = .slice A' m d) (hr : Sl w A' m d ys) (hn : n ≤ 8796093022208) (hm : m ≤ 4398046511104) (hbase : base ≤ w.heap.size)
    (h : ∀ A'' c'' w', N.Own w' base A'' (n + m) c'' (xs ++ ys) → w.grownBy w' (rowOf A) → (rowOf A'' = rowOf A ∨ rowOf A'' = some w.heap.size) → Below base w w' →
      wpList Tryz.prog ops Q rest (a.put o.dst (.slice A'' (n + m) c'')) w') : wpList Tryz.prog ops Q (o :: rest) a w := by
  obtain ⟨i0, hi, hz0, hz1, hz2⟩ := info_parts infoU
  have hlt : ∀ k, rowOf A = some k → base ≤ k := fun k hk => (hown.row.lt k (by rw [ownBlock_eq]; exact hk)).1
  have fin : ∀ (v' : Value) (w' : World), w'.ownsRow base 72 1 v' (n + m) (uv xs ++ uv ys) → w.grownBy w' (Value.slice A n c).ownBlock →
      (v'.ownBlock = (Value.slice A n c).ownBlock ∨ v'.ownBlock = some w.heap.size) → wpList Tryz.prog ops Q rest (a.put o.dst v') w' := by
    intro v' w' hown' hg hat
    rw [ownBlock_eq] at hg hat
    have hb : Below base w w' := ⟨hg.os, hg.tape, hg.output, hg.size, fun k hk => hg.block k (Nat.lt_of_lt_of_le hk hbase) (fun e => by have := hlt k e.symm; omega)⟩
    have hdg := hown.dg.append hr.dg
    rw [← uv_append] at hown'
    rcases hown'.2 with ⟨rfl, h0⟩ | ⟨g, cap, cur, rfl, rest'⟩
    · have := h none 0 w'
      rw [h0] at this hown'
      exact this ⟨hown', hdg⟩ hg hat hb
    · exact h _ cap w' ⟨hown', hdg⟩ hg hat hb
  cases A' with
  | none =>
    have hd := hr.nil rfl
    have hc := hr.cap
    obtain rfl : d = 0 := hd
    obtain rfl : m = 0 := by omega
    have hy : ys = [] := List.eq_nil_of_length_eq_zero hr.len
    subst hy
    refine wpList_append_own_none hgd s x t ho base 72 i0 1 ht hi _ n (uv xs) hs hown.row hx ?_
    exact fin _ w (by simpa [uv] using hown.row) (World.grownBy.refl w _) (.inl rfl)
  | some ad =>
    refine wpList_append_own_at (w := w) hgd s x t ho base 72 i0 (.int .u64 0) 1 8 ht hi hz0 hz1 hz2 rfl (by omega) _ n (uv xs) hs hown.row ad m d (uv ys) hx (by rw [uv_length, hr.len, Nat.mul_one]) ?_ (uv_one ys) (by unfold maxLen; omega) (by omega) hbase ?_
    · intro j u hu
      have hj : j < ys.length := by have := (List.getElem?_eq_some_iff.1 hu).1; rwa [uv_length] at this
      rw [uv_get ys j hj] at hu
      injection hu with hu
      subst hu
      rw [hr.len] at hj
      obtain ⟨ad', e, _, hc⟩ := hr.cell hj
      injection e with e
      subst e
      exact hc
    · intro v' w' h2 h3 _ h5
      exact fin v' w' h2 h3 h5
end Go.Proofs.YtfdpddlefobcpaaGreatDoor
/- What the unexported helpers of layer 2 (bare, limb) answer, over this translation. -/
namespace Go.Proofs.YtfdpddlefobcpaaGreatDoor
open Go.RowKit
set_option linter.unusedVariables false
set_option maxRecDepth 20000
open N
theorem bare_any (w : World) (A : Option Addr) (n c : Nat) (xs : List Int) (h : Sl w A n c xs) :
    Calls Tryz.prog 95 #[.slice A n c] w fun e w' => e = .returned (.slice A (nn xs) c) ∧ w' = w := by
  have hl := h.len
  have hc := h.cap
  have hm := h.max
  have hA := h.nil
  have hn := nn_le xs
  have HL := Lib.hid hl
  have HA := Lib.hid hA
  rw [hl] at hn
  unfold maxLen at hm
  clear hl hA
  go_enter Tryz.func95, Tryz.ntmps95
  go_wp2
  go_loop [3] (fun i => ∃ k : Nat, k ≤ n ∧ nn xs ≤ k ∧ i = .int .i64 k) (fun i => (intOf i).toNat)
  case atStart => exact ⟨n, Nat.le_refl _, hn, rfl⟩
  case round =>
    obtain ⟨k, hk, hnk, rfl⟩ := hrel
    by_cases h0 : 0 < k
    · obtain ⟨ad, rfl, _, hcell⟩ := h.cell (k := k - 1) (by omega)
      by_cases hz : lim xs (k - 1) = 0
      · have hs := nn_step xs (k - 1) (by omega) hz
        rw [hz] at hcell
        clear hz
        have e1 : ((k : Int) - 1).toNat = k - 1 := by omega
        go_wp2
        go_round
        case rel => exact ⟨k - 1, by omega, hs, by congr 1; omega⟩
        case measure => simp [intOf]; omega
      · have hs := nn_eq xs k hnk (.inr hz)
        have e2 : (lim xs (k - 1) == 0) = false := by simpa using hz
        have HS := Lib.hid hs
        clear hs hz
        have e1 : ((k : Int) - 1).toNat = k - 1 := by omega
        go_wp2
        go_ret
        rw [HS.out]
        exact ⟨rfl, rfl⟩
    · obtain rfl : k = 0 := by omega
      have hs : nn xs = 0 := by omega
      have HS := Lib.hid hs
      clear hs
      go_wp2
      go_ret
      rw [HS.out]
      exact ⟨rfl, rfl⟩
theorem limb_any (w : World) (A : Option Addr) (n c : Nat) (xs : List Int) (h : Sl w A n c xs) (i : Nat) (hi : i ≤ 9223372036854775807) :
    Calls Tryz.prog 99 #[.slice A n c, .int .i64 i] w fun e w' => e = .returned (.int .u64 (lim xs i)) ∧ w' = w := by
  have hl := h.len
  have hc := h.cap
  have hm := h.max
  unfold maxLen at hm
  by_cases hlt : i < n
  · obtain ⟨ad, rfl, _, hcell⟩ := h.cell hlt
    clear hl
    go_enter Tryz.func99, Tryz.ntmps99
    go_wp2
    go_ret
    exact ⟨rfl, rfl⟩
  · have H := Lib.hid (lim_over xs i (by omega))
    clear hl
    go_enter Tryz.func99, Tryz.ntmps99
    go_wp2
    go_ret
    rw [H.out]
    exact ⟨rfl, rfl⟩
end Go.Proofs.YtfdpddlefobcpaaGreatDoor
/- Words for memory of bytes: slices that read as rows of bytes, rows of the call's own, append, make, a string's bytes. No function of the program. -/
namespace Go.Proofs.YtfdpddlefobcpaaGreatDoor
open Go.RowKit
set_option linter.unusedVariables false
set_option maxRecDepth 20000
namespace N
/-- a row of bytes as values -/
def bv (bs : List UInt8) : List Value := bs.map fun b => Value.int .u8 (b.toNat : Int)
/-- the byte at a place, as a number -/
def bat (bs : List UInt8) (j : Nat) : Int := ((bs.getD j 0).toNat : Int)
theorem bat_lt (bs : List UInt8) (j : Nat) : 0 ≤ bat bs j ∧ bat bs j < 256 := by
  unfold bat; have := UInt8.toNat_lt (bs.getD j 0); omega
theorem bat_get (bs : List UInt8) (j : Nat) (h : j < bs.length) : bat bs j = (bs[j].toNat : Int) := by
  unfold bat; rw [List.getD_eq_getElem?_getD, List.getElem?_eq_getElem h]; rfl
theorem bv_length (bs : List UInt8) : (bv bs).length = bs.length := by simp [bv]
theorem bv_get (bs : List UInt8) (j : Nat) (h : j < bs.length) : (bv bs)[j]? = some (.int .u8 (bat bs j)) := by
  unfold bv; rw [List.getElem?_map, List.getElem?_eq_getElem h, bat_get bs j h]; rfl
theorem bv_append (xs ys : List UInt8) : bv (xs ++ ys) = bv xs ++ bv ys := by simp [bv]
theorem bv_take (xs : List UInt8) (k : Nat) : (bv xs).take k = bv (xs.take k) := by simp [bv, List.map_take]
theorem bv_one (bs : List UInt8) : ∀ u ∈ bv bs, u.oneCell' = true := by
  intro u hu; unfold bv at hu
  obtain ⟨x, _, rfl⟩ := List.mem_map.1 hu; rfl
/-- the slice value '.slice A n c' reads as the row bs of bytes -/
structure SlB (w : World) (A : Option Addr) (n c : Nat) (bs : List UInt8) : Prop where
  len : bs.length = n
  cap : n ≤ c
  max : c ≤ maxLen
  nil : A = none → c = 0
  at' : ∀ k, k < n → ∃ ad, A = some ad ∧ ad.block < w.heap.size ∧ ∀ j, j < n → w.cell? (ad.add j) = some (.int .u8 (bat bs j))
theorem SlB.below {w w' : World} {A : Option Addr} {n c : Nat} {bs : List UInt8} (h : SlB w A n c bs) (hb : Below w.heap.size w w') : SlB w' A n c bs :=
  ⟨h.len, h.cap, h.max, h.nil, fun k hk => by
    obtain ⟨ad, e, hlt, hc⟩ := h.at' k hk
    exact ⟨ad, e, Nat.lt_of_lt_of_le hlt hb.size, fun j hj => by rw [hb.cell (by rw [add_block]; exact hlt)]; exact hc j hj⟩⟩
theorem SlB.none {w : World} : SlB w none 0 0 [] := ⟨rfl, Nat.le_refl _, Nat.zero_le _, fun _ => rfl, fun k hk => by omega⟩
theorem SlB.cell {w : World} {A : Option Addr} {n c : Nat} {bs : List UInt8} (h : SlB w A n c bs) {k : Nat} (hk : k < n) : ∃ ad, A = some ad ∧ ad.block < w.heap.size ∧ w.cell? (ad.add k) = some (.int .u8 (bat bs k)) := by
  obtain ⟨ad, e, hlt, hc⟩ := h.at' k hk
  exact ⟨ad, e, hlt, hc k hk⟩
/-- the block g holds just the row bs -/
def ArrB (w : World) (g : Nat) (bs : List UInt8) : Prop := w.heap[g]? = some (.cells (bv bs).toArray 5 (0, 0))
section
variable {w w' : World} {g : Nat} {bs : List UInt8}
theorem ArrB.lt (h : ArrB w g bs) : g < w.heap.size := by
  rcases Nat.lt_or_ge g w.heap.size with hlt | hge
  · exact hlt
  · unfold ArrB at h; rw [Array.getElem?_eq_none hge] at h; cases h
theorem ArrB.cell (h : ArrB w g bs) {k : Nat} (hk : k < bs.length) : w.cell? ⟨g, k, none⟩ = some (.int .u8 (bat bs k)) := by
  rw [cell_of_row w g k _ _ _ h]
  simpa using bv_get bs k hk
theorem ArrB.frozen (h : ArrB w g bs) (k : Nat) : w.frozen? ⟨g, k, none⟩ = false := by
  unfold ArrB at h; simp [World.frozen?, h]
theorem ArrB.drewN (h : ArrB w g bs) (k : Nat) : ArrB (w.drewN k) g bs := h
theorem ArrB.alloc (h : ArrB w g bs) (o : Obj) : ArrB (w.alloc o) g bs := (Below.heap_alloc w o g h.lt).trans h
theorem ArrB.below {b : Nat} (h : ArrB w g bs) (hb : Below b w w') (hg : g < b) : ArrB w' g bs := (hb.block g hg).trans h
theorem ArrB.far (h : ArrB w g bs) {p : Addr} (hp : g ≠ p.block) (u : Value) : ArrB (w.setCell p u) g bs := (Below.heap_setCell w p u g hp).trans h
theorem ArrB.set (h : ArrB w g bs) (k : Nat) (v : UInt8) : ArrB (w.setCell ⟨g, k, none⟩ (.int .u8 (v.toNat : Int))) g (bs.set k v) := by
  unfold ArrB at h ⊢
  simp [World.setCell, Array.getElem?_modify, h, bv, List.map_set]
theorem ArrB.sl (h : ArrB w g bs) {n : Nat} (hl : bs.length = n) (hm : n ≤ maxLen) : SlB w (some ⟨g, 0, none⟩) n n bs :=
  ⟨hl, Nat.le_refl _, hm, (fun e => by cases e), fun k hk => ⟨_, rfl, h.lt, fun j hj => by rw [add_plain, Nat.zero_add]; exact h.cell (by omega)⟩⟩
end
theorem zeros_rowB (n : Nat) : madeCells #[Value.int .u8 0] n = (bv (List.replicate n 0)).toArray := by
  unfold madeCells bv
  apply Array.ext_getElem?
  intro i
  by_cases hi : i < n
  · simp [hi, show i % 1 = 0 by omega]
  · simp [hi]
theorem ArrB.made (w : World) (n : Nat) : ArrB (w.alloc (.cells (madeCells #[Value.int .u8 0] n) 5)) w.heap.size (List.replicate n 0) := by
  unfold ArrB; rw [← zeros_rowB]; exact heap_alloc_new w _
theorem ArrB.lit (w : World) (bs : List UInt8) (cs : Array Value) (h : cs = (bv bs).toArray) : ArrB (w.alloc (.cells cs 5)) w.heap.size bs := by
  unfold ArrB; rw [← h]; exact heap_alloc_new w _
/-- a slice of the call's own, from block base on, that reads as bs -/
def OwnB (w : World) (base : Nat) (A : Option Addr) (n c : Nat) (bs : List UInt8) : Prop := w.ownsRow base 5 1 (.slice A n c) n (bv bs)
section
variable {w w' : World} {base : Nat} {A : Option Addr} {n c : Nat} {bs : List UInt8}
theorem OwnB.len (h : OwnB w base A n c bs) : bs.length = n := by have := h.1; rwa [bv_length, Nat.mul_one] at this
theorem OwnB.sl (h : OwnB w base A n c bs) : SlB w A n c bs := by
  refine ⟨h.len, ?_, ?_, ?_, ?_⟩
  · rcases h.2 with ⟨e, h0⟩ | ⟨g, cap, cur, e, _, _, hnc, _⟩ <;> cases e <;> omega
  · rcases h.2 with ⟨e, h0⟩ | ⟨g, cap, cur, e, _, _, hnc, hm, _⟩ <;> cases e
    · exact Nat.zero_le _
    · exact hm
  · intro hA; subst hA
    rcases h.2 with ⟨e, h0⟩ | ⟨g, cap, cur, e, _⟩ <;> cases e; rfl
  · intro k hk
    rcases h.2 with ⟨e, h0⟩ | ⟨g, cap, cur, e, _, hg, hnc, hm, hs, ht⟩
    · omega
    · cases e
      refine ⟨_, rfl, (Array.getElem?_eq_some_iff.1 hg).1, fun j hj => ?_⟩
      exact World.ownsRow.cells h (g := g) rfl j _ (bv_get bs j (by rw [h.len]; exact hj))
theorem OwnB.below (h : OwnB w base A n c bs) (hb : Below w.heap.size w w') : OwnB w' base A n c bs := by
  refine World.ownsRow.kept (row := Option.none) h ⟨hb.os, hb.tape, hb.output, hb.size, fun k hk _ => hb.block k hk⟩ ?_
  cases (Value.slice A n c).ownBlock with
  | none => exact .inl rfl
  | some k => exact .inr (by simp)
theorem OwnB.row_lt (h : OwnB w base A n c bs) : ∀ k, rowOf A = some k → k < w.heap.size := fun k hk => (World.ownsRow.lt h k (by rw [ownBlock_eq]; exact hk)).2
theorem OwnB.nil_ (w : World) (base : Nat) : OwnB w base none 0 0 [] := w.ownsRow_nil base _ 1
end
theorem infoU8 : (Tryz.prog.info? 5).map (fun i => (i.zero, i.size, i.bytes)) = some (some (.int .u8 0), 1, 1) := by kernel_rfl
theorem u8U : Tryz.prog.underlying 5 = some (.int .u8) := Tryz.underlying5
theorem slB : Tryz.prog.underlying 125 = some (.slice 5) := Tryz.underlying125
theorem strU : Tryz.prog.underlying 9 = some .string := Tryz.underlying9
theorem makeB_run (n : Nat) (h : n ≤ 4398046511104) (w : World) :
    (Instr.makeSlice 125 (.int .i64 (n : Int)) (.int .i64 (n : Int))).run Tryz.prog w = .ok (.slice (some ⟨w.heap.size, 0, none⟩) n n) (w.alloc (.cells (madeCells #[.int .u8 0] n) 5)) :=
  run_make_row' 125 5 (.int .u8 0) 1 slB infoU8 rfl .i64 .i64 n (by omega) (by omega) w
/-- append onto a row of the call's own -/
theorem wp_appB {w : World} {ops : Array Oper} {rest : List Oper} {o : Oper} {a : Act} {Q : Exit → Act → World → Prop} (hgd : o.guard = none) (s x : Operand)
    (ho : o.op = .call { callee := .builtin .append, args := #[s, x], argTypes := #[125, 125] })
    (base : Nat) {A : Option Addr} {n c : Nat} {xs : List UInt8} (hs : a.eval s = .slice A n c) (hown : OwnB w base A n c xs)
    {A' : Option Addr} {m d : Nat} {ys : List UInt8} (hx : a.eval x = .slice A' m d) (hr : SlB w A' m d ys) (hn : n ≤ 8796093022208) (hm : m ≤ 4398046511104) (hbase : base ≤ w.heap.size)
    (h : ∀ A'' c'' w', OwnB w' base A'' (n + m) c'' (xs ++ ys) → w.grownBy w' (rowOf A) → Below base w w' →
      wpList Tryz.prog ops Q rest (a.put o.dst (.slice A'' (n + m) c'')) w') : wpList Tryz.prog ops Q (o :: rest) a w := by
  obtain ⟨i0, hi, hz0, hz1, hz2⟩ := info_parts infoU8
  have hlt : ∀ k, rowOf A = some k → base ≤ k := fun k hk => (World.ownsRow.lt hown k (by rw [ownBlock_eq]; exact hk)).1
  have fin : ∀ (v' : Value) (w' : World), w'.ownsRow base 5 1 v' (n + m) (bv xs ++ bv ys) → w.grownBy w' (Value.slice A n c).ownBlock →
      wpList Tryz.prog ops Q rest (a.put o.dst v') w' := by
    intro v' w' hown' hg
    rw [ownBlock_eq] at hg
    have hb : Below base w w' := ⟨hg.os, hg.tape, hg.output, hg.size, fun k hk => hg.block k (Nat.lt_of_lt_of_le hk hbase) (fun e => by have := hlt k e.symm; omega)⟩
    rw [← bv_append] at hown'
    rcases hown'.2 with ⟨rfl, h0⟩ | ⟨g, cap, cur, rfl, rest'⟩
    · have := h none 0 w'
      rw [h0] at this hown'
      exact this hown' hg hb
    · exact h _ cap w' hown' hg hb
  cases A' with
  | none =>
    have hd := hr.nil rfl
    have hc := hr.cap
    obtain rfl : d = 0 := hd
    obtain rfl : m = 0 := by omega
    have hy : ys = [] := List.eq_nil_of_length_eq_zero hr.len
    subst hy
    refine wpList_append_own_none hgd s x 125 ho base 5 i0 1 slB hi _ n (bv xs) hs hown hx ?_
    exact fin _ w (by simpa [bv, OwnB] using hown) (World.grownBy.refl w _)
  | some ad =>
    refine wpList_append_own_at (w := w) hgd s x 125 ho base 5 i0 (.int .u8 0) 1 1 slB hi hz0 hz1 hz2 rfl (by omega) _ n (bv xs) hs hown ad m d (bv ys) hx (by rw [bv_length, hr.len, Nat.mul_one]) ?_ (bv_one ys) (by unfold maxLen; omega) (by omega) hbase ?_
    · intro j u hu
      have hj : j < ys.length := by have := (List.getElem?_eq_some_iff.1 hu).1; rwa [bv_length] at this
      rw [bv_get ys j hj] at hu
      injection hu with hu
      subst hu
      rw [hr.len] at hj
      obtain ⟨ad', e, _, hc⟩ := hr.cell hj
      injection e with e
      subst e
      exact hc
    · intro v' w' h2 h3 _ _
      exact fin v' w' h2 h3
theorem bv_dig (u : Nat) : #[Value.int .u8 (48 + (u : Int) % 10)] = (bv [UInt8.ofNat (48 + u % 10)]).toArray := by
  show _ = #[Value.int .u8 ((UInt8.ofNat (48 + u % 10)).toNat : Int)]
  rw [dig_nat (Nat.mod_lt _ (by omega)), show ((48 + u % 10 : Nat) : Int) = 48 + (u : Int) % 10 by omega]
/-- a string, byte by byte -/
def str (bs : List UInt8) : Value := .string ⟨bs.toArray⟩
theorem str_of (s : ByteArray) : Value.string s = str s.data.toList := by unfold str; cases s; simp
theorem str_len (bs : List UInt8) (t ty : TypeId) (ht : Tryz.prog.underlying t = some .string) (w : World) : (Builtin.len_ #[t] ty #[str bs]).run Tryz.prog w = .ok (.int .i64 (bs.length : Int)) w := by
  unfold str; rw [run_len_string w t ty _ ht]; rfl
theorem str_at (bs : List UInt8) (t : TypeId) (ht : Tryz.prog.underlying t = some .string) (k : IntKind) (i : Nat) (h : i < bs.length) (w : World) : (Instr.index t (str bs) (.int k (i : Int))).run Tryz.prog w = .ok (.int .u8 (bat bs i)) w := by
  unfold str
  have hs : (ByteArray.mk bs.toArray).size = bs.length := rfl
  rw [run_index_string w t _ k _ ht, dif_pos ⟨by omega, by rw [hs]; omega⟩, bat_get bs i h]
  rfl
theorem str_back (bs : List UInt8) (A : Option Addr) (n c : Nat) (w : World) (h : SlB w A n c bs) : (convert 125 9 (.slice A n c)).run Tryz.prog w = .ok (str bs) w := by
  cases A with
  | none =>
    have hc := h.nil rfl
    have hn := h.cap
    obtain rfl : n = 0 := by omega
    have hb : bs = [] := List.eq_nil_of_length_eq_zero h.len
    subst hb
    rw [run_convert_bytes_string w _ _ _ _ _ _ slB u8U strU]
    unfold str Conv.bytesToString
    simp
    rfl
  | some ad =>
    obtain rfl : n = bs.length := h.len.symm
    refine run_convert_bytes_back w _ _ _ ad c bs slB u8U strU fun j hj => ?_
    obtain ⟨ad', e, _, hc⟩ := h.cell hj
    injection e with e
    subst e
    rw [hc, bat_get bs j hj]
theorem str_eql (t : TypeId) (x y : List UInt8) (w : World) : (binOp .eql t (str x) (str y)).run Tryz.prog w = .ok (.bool (x == y)) w := by
  unfold str; rw [binOp_string_eql, ByteArray.toList_mk, ByteArray.toList_mk]; rfl
theorem str_neq (t : TypeId) (x y : List UInt8) (w : World) : (binOp .neq t (str x) (str y)).run Tryz.prog w = .ok (.bool (x != y)) w := by
  unfold str; rw [binOp_string_neq, ByteArray.toList_mk, ByteArray.toList_mk]; rfl
theorem str_lss (t : TypeId) (x y : List UInt8) (w : World) : (binOp .lss t (str x) (str y)).run Tryz.prog w = .ok (.bool (Go.Op.bytesLess x y)) w := by
  unfold str; rw [binOp_string_lss, ByteArray.toList_mk, ByteArray.toList_mk]; rfl
theorem str_add (t : TypeId) (x y : List UInt8) (w : World) (h : x.length + y.length ≤ 9223372036854775807) : (binOp .add t (str x) (str y)).run Tryz.prog w = .ok (str (x ++ y)) w := by
  unfold str; rw [binOp_string_add, run_string_add_sum w _ _ (by exact h), ByteArray.mk_append_mk]
end N
end Go.Proofs.YtfdpddlefobcpaaGreatDoor
/- Words for memory: a block that begins with a row of words, and calls that turn one block alone. No function of the program. -/
namespace Go.Proofs.YtfdpddlefobcpaaGreatDoor
open Go.RowKit
set_option linter.unusedVariables false
set_option maxRecDepth 20000
open N
namespace N
/-- the block g begins with the row xs; behind it are e places more -/
def ArP (w : World) (g e : Nat) (xs : List Int) : Prop := ∃ ext : List Value, ext.length = e ∧ w.heap[g]? = some (.cells (uv xs ++ ext).toArray 72 (0, 0))
section
variable {w w' : World} {g e : Nat} {xs : List Int}
theorem ArP.lt (h : ArP w g e xs) : g < w.heap.size := by
  obtain ⟨ext, _, h⟩ := h
  rcases Nat.lt_or_ge g w.heap.size with hlt | hge
  · exact hlt
  · rw [Array.getElem?_eq_none hge] at h; cases h
theorem ArP.cell (h : ArP w g e xs) {k : Nat} (hk : k < xs.length) : w.cell? ⟨g, k, none⟩ = some (.int .u64 (lim xs k)) := by
  obtain ⟨ext, _, h⟩ := h
  rw [cell_of_row w g k _ _ _ h]
  have := uv_get xs k hk
  rw [List.getElem?_toArray, List.getElem?_append_left (by rw [uv_length]; exact hk)]
  exact this
theorem ArP.frozen (h : ArP w g e xs) (k : Nat) : w.frozen? ⟨g, k, none⟩ = false := by
  obtain ⟨ext, _, h⟩ := h
  simp [World.frozen?, h]
theorem ArP.drewN (h : ArP w g e xs) (k : Nat) : ArP (w.drewN k) g e xs := h
theorem ArP.drew (h : ArP w g e xs) : ArP w.drew g e xs := h
theorem ArP.block (h : ArP w g e xs) (hb : w'.heap[g]? = w.heap[g]?) : ArP w' g e xs := by
  obtain ⟨ext, h1, h2⟩ := h
  exact ⟨ext, h1, hb.trans h2⟩
theorem ArP.alloc (h : ArP w g e xs) (o : Obj) : ArP (w.alloc o) g e xs := h.block (Below.heap_alloc w o g h.lt)
theorem ArP.below {b : Nat} (h : ArP w g e xs) (hb : Below b w w') (hg : g < b) : ArP w' g e xs := h.block (hb.block g hg)
theorem ArP.far (h : ArP w g e xs) {p : Addr} (hp : g ≠ p.block) (u : Value) : ArP (w.setCell p u) g e xs := h.block (Below.heap_setCell w p u g hp)
theorem ArP.set (h : ArP w g e xs) (k : Nat) (v : Int) (hk : k < xs.length) : ArP (w.setCell ⟨g, k, none⟩ (.int .u64 v)) g e (xs.set k v) := by
  obtain ⟨ext, h1, h2⟩ := h
  refine ⟨ext, h1, ?_⟩
  simp only [World.setCell, Array.getElem?_modify, h2]
  simp [uv, List.map_set, hk]
theorem ArP.own (h : ArP w g e xs) {base n c : Nat} (hb : base ≤ g) (hl : xs.length = n) (hc : n + e = c) (hm : c ≤ maxLen) (hd : Dg B xs) : N.Own w base (some ⟨g, 0, none⟩) n c xs := by
  obtain ⟨ext, h1, h2⟩ := h
  refine ⟨⟨by rw [uv_length, hl, Nat.mul_one], .inr ⟨g, c, _, rfl, hb, h2, by omega, hm, ?_, ?_⟩⟩, hd⟩
  · simp [uv_length, hl, h1, hc]
  · rw [Nat.mul_one]
    simp [uv_length, hl]
theorem Own.arp {base n c : Nat} {A : Option Addr} (h : N.Own w base A n c xs) (hn : 0 < n) : ∃ g, A = some ⟨g, 0, none⟩ ∧ base ≤ g ∧ n ≤ c ∧ c ≤ maxLen ∧ ArP w g (c - n) xs := by
  rcases h.row.2 with ⟨e, e0⟩ | ⟨g, cap, cur, e, hb, hh, hnc, hm, hsz, ht⟩
  · omega
  · cases e
    refine ⟨g, rfl, hb, hnc, hm, cur.toList.drop n, by simp [hsz], ?_⟩
    rw [hh, ← ht, Nat.mul_one, List.take_append_drop]
/-- a part of the row as a slice -/
theorem ArP.part (h : ArP w g e xs) (hd : Dg B xs) {i m c : Nat} (hi : i + m ≤ xs.length) (hm : m ≤ c) (hc : c ≤ maxLen) : Sl w (some ⟨g, i, none⟩) m c ((xs.drop i).take m) :=
  ⟨by rw [List.length_take, List.length_drop]; omega, hm, hc, (hd.drop i).take m, (fun e => by cases e), fun k hk => ⟨_, rfl, h.lt, fun j hj => by
    rw [add_plain, lim_take, if_pos hj, lim_drop]; exact h.cell (by omega)⟩⟩
end
theorem Own.keep {w w' : World} {base : Nat} {A : Option Addr} {n c : Nat} {xs : List Int} (h : N.Own w base A n c xs) {r : Option Nat} (hg : w.grownBy w' r) (hr : ∀ k, r = some k → k < base) : N.Own w' base A n c xs :=
  ⟨h.row.kept hg (by
    cases hb : (Value.slice A n c).ownBlock with
    | none => exact .inl rfl
    | some g =>
      refine .inr (fun e => ?_)
      have h1 := (h.row.lt g hb).1
      have h2 := hr g e.symm
      omega), h.dg⟩
/-- the slice A lies in another block than g -/
def Aw (A : Option Addr) (g : Nat) : Prop := ∀ ad, A = some ad → ad.block ≠ g
theorem Sl.grow {w w' : World} {A : Option Addr} {n c g : Nat} {xs : List Int} (h : Sl w A n c xs) (hg : w.grownBy w' (some g)) (ha : Aw A g) : Sl w' A n c xs :=
  ⟨h.len, h.cap, h.max, h.dg, h.nil, fun k hk => by
    obtain ⟨ad, e, hlt, hc⟩ := h.at' k hk
    exact ⟨ad, e, Nat.lt_of_lt_of_le hlt hg.size, fun j hj => (hg.cell (hc j hj) (by rw [add_block]; intro e'; injection e' with e'; exact ha ad e e'))⟩⟩
theorem grow_set (w : World) (g k : Nat) (u : Value) : w.grownBy (w.setCell ⟨g, k, none⟩ u) (some g) :=
  ⟨rfl, rfl, rfl, by rw [World.size_setCell]; exact Nat.le_refl _, fun j _ hne => Below.heap_setCell w _ _ j (fun e => hne (by subst e; rfl))⟩
theorem grow_trans {w w' w'' : World} {r : Option Nat} (h : w.grownBy w' r) (h' : w'.grownBy w'' r) : w.grownBy w'' r :=
  ⟨h'.os.trans h.os, h'.tape.trans h.tape, h'.output.trans h.output, Nat.le_trans h.size h'.size, fun k hk hne => (h'.block k (Nat.lt_of_lt_of_le hk h.size) hne).trans (h.block k hk hne)⟩
theorem grow_below {w w' : World} (hb : Below w.heap.size w w') (r : Option Nat) : w.grownBy w' r := ⟨hb.os, hb.tape, hb.output, hb.size, fun k hk _ => hb.block k hk⟩
theorem grow_drewN (w : World) (n : Nat) (r : Option Nat) : w.grownBy (w.drewN n) r := ⟨rfl, rfl, rfl, Nat.le_refl _, fun _ _ _ => rfl⟩
theorem below_grow {w w' : World} {r : Option Nat} {b : Nat} (h : w.grownBy w' r) (hb : b ≤ w.heap.size) (hr : ∀ k, r = some k → b ≤ k) : Below b w w' :=
  ⟨h.os, h.tape, h.output, h.size, fun k hk => h.block k (Nat.lt_of_lt_of_le hk hb) (fun e => by have := hr k e.symm; omega)⟩
end N
end Go.Proofs.YtfdpddlefobcpaaGreatDoor
