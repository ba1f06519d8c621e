/- Gathered: FreMath, I64Open, FreProg, FrePick, FreDraw, FreApp, FreRat, FreAwake, FreState, FreRef, FreRefS. -/
import Derived.Test.YtolfjhfmcgibbaaGreatDoorGMem
import Derived.Test.YtolfjhfmcgibbaaGreatDoorGFrame
import Derived.ChangeSlices
import Derived.Test.YtolfjhfmcgibbaaGreatDoorBlk
import Derived.Deep.RegionWith
import Derived.Test.YtolfjhfmcgibbaaGreatDoorBelProg
import Derived.Maps.AppendAt
import Derived.Laws.AppendOwnNone
import Derived.Test.YtolfjhfmcgibbaaGreatDoorBelCost
import Derived.Test.YtolfjhfmcgibbaaGreatDoorRatIs
import Derived.Test.YtolfjhfmcgibbaaGreatDoorRatShow
import Derived.Deep.RegionHeld3
import Derived.Test.YtolfjhfmcgibbaaGreatDoorBelRef
import Derived.Test.YtolfjhfmcgibbaaGreatDoorBelRefC
import Derived.Test.YtolfjhfmcgibbaaGreatDoorRefRatO
import Derived.Test.YtolfjhfmcgibbaaGreatDoorRegC
/- Weights: their sums from the front on, which place a number picks, what is wrong of them; rows of numbers in memory. No function of the program. -/
namespace Go.Proofs.YtolfjhfmcgibbaaGreatDoor
open Go.RowKit
set_option linter.unusedVariables false
set_option linter.unusedSimpArgs false
namespace N
/-- the sum of the first k weights -/
def pre : List Int → Nat → Int
  | [], _ => 0
  | _ :: _, 0 => 0
  | x :: t, k + 1 => x + pre t k
section
variable {ws vs : List Int} {x r : Int} {i j k : Nat}
theorem pre_zero : pre ws 0 = 0 := by cases ws <;> rfl
theorem pre_nil : pre [] k = 0 := by cases k <;> rfl
theorem pre_succ (h : ws[k]? = some x) : pre ws (k + 1) = pre ws k + x := by
  induction ws generalizing k with
  | nil => simp at h
  | cons y t ih =>
    cases k with
    | zero =>
      simp only [List.getElem?_cons_zero, Option.some.injEq] at h
      simp [pre, pre_zero, h]
    | succ k =>
      simp only [List.getElem?_cons_succ] at h
      rw [pre, pre, ih h]
      omega
theorem pre_over (h : ws.length ≤ k) : pre ws k = pre ws ws.length := by
  induction ws generalizing k with
  | nil => rw [pre_nil, pre_nil]
  | cons y t ih =>
    cases k with
    | zero => simp at h
    | succ k => rw [List.length_cons, pre, pre, ih (by simpa using h)]
def okW (ws : List Int) : Prop := ∀ x ∈ ws, 0 ≤ x ∧ x ≤ 1048576
instance : Decidable (okW ws) := by unfold okW; infer_instance
theorem okW.at (h : okW ws) (hk : k < ws.length) : ∃ x, ws[k]? = some x ∧ 0 ≤ x ∧ x ≤ 1048576 := ⟨ws[k], List.getElem?_eq_getElem hk, h _ (List.getElem_mem hk)⟩
theorem pre_step (h : okW ws) (k : Nat) : pre ws k ≤ pre ws (k + 1) ∧ pre ws (k + 1) ≤ pre ws k + 1048576 := by
  rcases Nat.lt_or_ge k ws.length with hk | hk
  · obtain ⟨x, hx, h0, h1⟩ := h.at hk
    rw [pre_succ hx]
    omega
  · rw [pre_over hk, pre_over (k := k + 1) (by omega)]
    omega
theorem pre_mono (h : okW ws) (hij : i ≤ j) : pre ws i ≤ pre ws j := by
  induction hij with
  | refl => exact Int.le_refl _
  | step _ ih => exact Int.le_trans ih (pre_step h _).1
theorem pre_le (h : okW ws) (k : Nat) : 0 ≤ pre ws k ∧ pre ws k ≤ 1048576 * (k : Int) := by
  induction k with
  | zero => rw [pre_zero]; omega
  | succ k ih =>
    have := pre_step h k
    omega
structure Wt (ws : List Int) : Prop where
  l0 : 0 < ws.length
  l1 : ws.length ≤ 64
  ok : okW ws
  pos : 0 < pre ws ws.length
theorem Wt.le (h : Wt ws) (hk : k ≤ ws.length) : 0 ≤ pre ws k ∧ pre ws k ≤ pre ws ws.length ∧ pre ws k ≤ 67108864 := by
  have h1 := pre_le h.ok k
  have h2 := h.l1
  exact ⟨h1.1, pre_mono h.ok hk, by omega⟩
/-- what is wrong of weights -/
def mayW (ws : List Int) : Int := if ws.length = 0 then 4 else if 64 < ws.length then 5 else if ¬ okW ws then 1 else if pre ws ws.length = 0 then 7 else 0
theorem mayW_zero : mayW ws = 0 ↔ Wt ws := by
  unfold mayW
  constructor
  · intro h
    split at h
    · cases h
    split at h
    · cases h
    split at h
    · cases h
    split at h
    · cases h
    · rename_i h1 h2 h3 h4
      have h3 := Decidable.not_not.1 h3
      have := (pre_le h3 ws.length).1
      exact ⟨by omega, by omega, h3, by omega⟩
  · intro h
    have h1 := h.l0
    have h2 := h.l1
    have h3 := h.pos
    rw [if_neg (by omega), if_neg (by omega), if_neg (fun e => e h.ok), if_neg (by omega)]
theorem mayW_ways (h : ¬ Wt ws) : ∃ e : Int, mayW ws = e ∧ ¬ e = 0 ∧ 0 ≤ e ∧ e ≤ 7 := by
  refine ⟨_, rfl, fun e => h (mayW_zero.1 e), ?_⟩
  unfold mayW
  (repeat' split) <;> decide
/-- the first k weights may be -/
def okTo (ws : List Int) (k : Nat) : Prop := ∀ j x, j < k → ws[j]? = some x → 0 ≤ x ∧ x ≤ 1048576
theorem okTo.zero : okTo ws 0 := fun j x h => absurd h (Nat.not_lt_zero _)
theorem okTo.succ (h : okTo ws k) (hx : ws[k]? = some x) (h0 : 0 ≤ x) (h1 : x ≤ 1048576) : okTo ws (k + 1) := fun j y hj hy => by
  rcases Nat.lt_or_ge j k with e | e
  · exact h j y e hy
  · obtain rfl : j = k := by omega
    rw [hx] at hy
    injection hy with hy
    subst hy
    exact ⟨h0, h1⟩
theorem okTo.all (h : okTo ws ws.length) : okW ws := fun x hx => by
  obtain ⟨j, hj⟩ := List.getElem?_of_mem hx
  exact h j x (List.getElem?_eq_some_iff.1 hj).1 hj
theorem okTo.le (h : okTo ws k) (hk : k ≤ ws.length) : 0 ≤ pre ws k ∧ pre ws k ≤ 1048576 * (k : Int) := by
  induction k with
  | zero => rw [pre_zero]; omega
  | succ k ih =>
    have hx : ws[k]? = some ws[k] := List.getElem?_eq_getElem (by omega)
    have h1 := h k _ (Nat.lt_succ_self k) hx
    have h2 := ih (fun j y hj hy => h j y (by omega) hy) (by omega)
    rw [pre_succ hx]
    omega
theorem mayW_bad (h0 : 0 < ws.length) (h1 : ws.length ≤ 64) (hx : ws[k]? = some x) (hb : ¬ (0 ≤ x ∧ x ≤ 1048576)) : mayW ws = 1 := by
  unfold mayW
  rw [if_neg (by omega), if_neg (by omega), if_pos (fun e => hb (e x (List.mem_of_getElem? hx)))]
theorem mayW_null (h0 : 0 < ws.length) (h1 : ws.length ≤ 64) (h : okW ws) (hz : pre ws ws.length = 0) : mayW ws = 7 := by
  unfold mayW
  rw [if_neg (by omega), if_neg (by omega), if_neg (fun e => e h), if_pos hz]
/-- the number r picks the place i -/
def Pk (ws : List Int) (r : Int) (i : Nat) : Prop := i < ws.length ∧ pre ws i ≤ r ∧ r < pre ws (i + 1)
theorem pk_some (h0 : 0 ≤ r) (h1 : r < pre ws ws.length) : ∃ i, Pk ws r i := by
  have aux : ∀ n, n ≤ ws.length → r < pre ws n → ∃ i, Pk ws r i := by
    intro n
    induction n with
    | zero => intro _ h; rw [pre_zero] at h; omega
    | succ n ih =>
      intro hn h
      by_cases h2 : r < pre ws n
      · exact ih (by omega) h2
      · exact ⟨n, by omega, by omega, h⟩
  exact aux _ (Nat.le_refl _) h1
theorem Pk.one (h : okW ws) (a : Pk ws r i) (b : Pk ws r j) : i = j := by
  obtain ⟨_, a1, a2⟩ := a
  obtain ⟨_, b1, b2⟩ := b
  rcases Nat.lt_trichotomy i j with e | e | e
  · have := pre_mono h (show i + 1 ≤ j by omega); omega
  · exact e
  · have := pre_mono h (show j + 1 ≤ i by omega); omega
theorem Pk.range (h : okW ws) (a : Pk ws r i) : 0 ≤ r ∧ r < pre ws ws.length := by
  obtain ⟨a0, a1, a2⟩ := a
  have := pre_mono h (show i + 1 ≤ ws.length by omega)
  have := (pre_le h i).1
  omega
theorem Pk.mono {r' : Int} (h : okW ws) (a : Pk ws r i) (b : Pk ws r' j) (hr : r ≤ r') : i ≤ j := by
  rcases Nat.lt_or_ge j i with e | e
  · have := pre_mono h (show j + 1 ≤ i by omega)
    have := a.2.1
    have := b.2.2
    omega
  · exact e
/-- what a walk from the front sees -/
theorem pk_front (h : okW ws) (hp : Pk ws r i) : r < pre ws (k + 1) ↔ i ≤ k := by
  constructor
  · intro h1
    rcases Nat.lt_or_ge k i with e | e
    · have := pre_mono h (show k + 1 ≤ i by omega)
      have := hp.2.1
      omega
    · exact e
  · intro h1
    have := pre_mono h (show i + 1 ≤ k + 1 by omega)
    have := hp.2.2
    omega
theorem pre_app : pre (vs ++ ws) (vs.length + k) = pre vs vs.length + pre ws k := by
  induction vs with
  | nil => simp [pre_nil]
  | cons y t ih =>
    rw [List.cons_append, List.length_cons, Nat.add_right_comm, pre, ih, pre]
    omega
theorem pre_app_le (h : k ≤ vs.length) : pre (vs ++ ws) k = pre vs k := by
  induction vs generalizing k with
  | nil =>
    obtain rfl : k = 0 := by simpa using h
    rw [pre_zero, pre_zero]
  | cons y t ih =>
    cases k with
    | zero => rw [pre_zero, pre_zero]
    | succ k => rw [List.cons_append, pre, pre, ih (by simpa using h)]
theorem pre_map (c : Int) : pre (ws.map (· * c)) k = pre ws k * c := by
  induction ws generalizing k with
  | nil => simp [pre_nil]
  | cons y t ih =>
    cases k with
    | zero => simp [pre_zero]
    | succ k => rw [List.map_cons, pre, pre, ih, Int.add_mul]
end
section
variable {ws : List Int} {xs ys : List Int} {x y : Int} {k : Nat}
/-- the front written over already -/
theorem mix_get (hl : ys.length = xs.length) (hx : xs[k]? = some x) : (ys.take k ++ xs.drop k)[k]? = some x := by
  have hk := (List.getElem?_eq_some_iff.1 hx).1
  rw [List.getElem?_append_right (by rw [List.length_take]; omega), List.length_take, Nat.min_eq_left (by omega), Nat.sub_self, List.getElem?_drop, Nat.add_zero]
  exact hx
theorem mix_set (hl : ys.length = xs.length) (hy : ys[k]? = some y) : (ys.take k ++ xs.drop k).set k y = ys.take (k + 1) ++ xs.drop (k + 1) := by
  obtain ⟨hk, e⟩ := List.getElem?_eq_some_iff.1 hy
  rw [List.set_append_right _ _ (by rw [List.length_take]; omega), List.length_take, Nat.min_eq_left (by omega), Nat.sub_self, List.drop_eq_getElem_cons (by omega : k < xs.length), List.set_cons_zero, List.take_succ_eq_append_getElem hk, e, List.append_assoc]
  rfl
theorem wt_map {b : Int} (h : Wt ws) (h0 : 0 < b) (h1 : b ≤ 255) : mayW (ws.map (· * b)) = 1 ∨ Wt (ws.map (· * b)) := by
  by_cases hok : okW (ws.map (· * b))
  · right
    refine ⟨by rw [List.length_map]; exact h.l0, by rw [List.length_map]; exact h.l1, hok, ?_⟩
    rw [List.length_map, pre_map]
    exact Int.mul_pos h.pos h0
  · left
    have a1 := h.l0
    have a2 := h.l1
    unfold mayW
    rw [List.length_map, if_neg (by omega), if_neg (by omega), if_pos hok]
end
/-- a row of numbers -/
def row (n : Nat) (f : Nat → Int) : List Value := (List.range n).map fun k => .int .i64 (f k)
section
variable {n k : Nat} {f g : Nat → Int}
theorem row_length : (row n f).length = n := by simp [row]
theorem row_get (h : k < n) : (row n f)[k]? = some (.int .i64 (f k)) := by simp [row, h]
theorem row_congr (h : ∀ k, k < n → f k = g k) : row n f = row n g := by
  apply List.ext_getElem?
  intro k
  rcases Nat.lt_or_ge k n with hk | hk
  · rw [row_get hk, row_get hk, h k hk]
  · rw [List.getElem?_eq_none (by rw [row_length]; exact hk), List.getElem?_eq_none (by rw [row_length]; exact hk)]
theorem row_set (x : Int) : (row n f).set k (.int .i64 x) = row n (fun j => if j = k then x else f j) := by
  apply List.ext_getElem?
  intro j
  rcases Nat.lt_or_ge j n with hj | hj
  · by_cases e : k = j
    · subst e
      rw [List.getElem?_set_self (by rw [row_length]; exact hj), row_get hj, if_pos rfl]
    · rw [List.getElem?_set_ne e, row_get hj, row_get hj, if_neg (fun h => e h.symm)]
  · rw [List.getElem?_eq_none (by rw [List.length_set, row_length]; exact hj), List.getElem?_eq_none (by rw [row_length]; exact hj)]
theorem row_zero : row n (fun _ => 0) = List.replicate n (.int .i64 0) := by
  apply List.ext_getElem?
  intro j
  rcases Nat.lt_or_ge j n with hj | hj
  · rw [row_get hj, List.getElem?_replicate, if_pos hj]
  · rw [List.getElem?_eq_none (by rw [row_length]; exact hj), List.getElem?_eq_none (by rw [List.length_replicate]; exact hj)]
end
end N
end Go.Proofs.YtolfjhfmcgibbaaGreatDoor
/- A slice of int64s that comes in as an argument, opened. -/
namespace Go.Proofs.YtolfjhfmcgibbaaGreatDoor
open Go.ChangeShapes Go.WideShapes Go.ChangeAt Go.RowKit
set_option linter.unusedVariables false
set_option maxRecDepth 20000
open N
namespace N
/-- reads as these ints -/
structure Il (w : World) (A : Option Addr) (n c : Nat) (xs : List Int) : Prop where
  len : xs.length = n
  cap : n ≤ c
  max : c ≤ maxLen
  wf : ∀ x ∈ xs, (Lit.int .i64 x).wf = true
  nil : A = none → c = 0
  at' : ∀ k, k < n → ∃ ad, A = some ad ∧ ad.block < w.heap.size ∧ ∀ j, j < n → w.cell? (ad.add j) = some (.int .i64 (xs.getD j 0))
theorem Il.below {w w' : World} {A : Option Addr} {n c : Nat} {xs : List Int} (h : Il w A n c xs) (hb : Below w.heap.size w w') : Il w' A n c xs :=
  ⟨h.len, h.cap, h.max, h.wf, h.nil, fun k hk => by
    obtain ⟨ad, e, hlt, hc⟩ := h.at' k hk
    exact ⟨ad, e, Nat.lt_of_lt_of_le hlt hb.size, fun j hj => by rw [hb.cell (by rw [add_block]; exact hlt)]; exact hc j hj⟩⟩
theorem Il.none {w : World} : Il w none 0 0 [] := ⟨rfl, Nat.le_refl _, Nat.zero_le _, (fun x hx => by cases hx), (fun _ => rfl), (fun k hk => by omega)⟩
/-- an element, as the walk reads it -/
theorem Il.one {w : World} {A : Option Addr} {n c : Nat} {xs : List Int} (h : Il w A n c xs) {k : Nat} (hk : k < n) : ∃ ad x, A = some ad ∧ xs[k]? = some x ∧ (Lit.int .i64 x).wf = true ∧ w.cell? (ad.add k) = some (.int .i64 x) := by
  obtain ⟨ad, e, _, hc⟩ := h.at' k hk
  have hl : k < xs.length := by rw [h.len]; exact hk
  refine ⟨ad, xs[k], e, List.getElem?_eq_getElem hl, h.wf _ (List.getElem_mem hl), ?_⟩
  rw [hc k hk, List.getD_eq_getElem?_getD, List.getElem?_eq_getElem hl]; rfl
theorem Il.the {w : World} {ad : Addr} {n c : Nat} {xs : List Int} (h : Il w (some ad) n c xs) {k : Nat} (hk : k < n) {x : Int} (hx : xs[k]? = some x) : w.cell? (ad.add k) = some (.int .i64 x) := by
  obtain ⟨ad', x', e, hx', _, hc⟩ := h.one hk
  injection e with e
  subst e
  rw [hx] at hx'
  injection hx' with hx'
  rw [hx']
  exact hc
end N
theorem cellsI6 : Tryz.prog.cellsOf 2 = 1 := by kernel_rfl
theorem laidOutI6 : laidOutB Tryz.prog = true := by kernel_rfl
theorem open_i64s_ {H : Type} {enc : TypeId × Value → H} {W : World} {base : Nat} {v : Value} {d : DataW H} {p : List MemPlace} (hok : Value.okWide Tryz.prog W .any base 22 v)
    (h : DataW.Trod enc Tryz.prog W 0 (fun _ => true) true 22 v d p) : ∃ A n c xs, v = .slice A n c ∧ Il W A n c xs := by
  obtain ⟨a0, len, cap, rfl⟩ := okWide_slice Tryz.underlying22 hok
  obtain ⟨fuel, hf⟩ := h
  rcases open_ints Tryz.underlying22 Tryz.underlying2 cellsI6 hf with ⟨hcs, hx⟩ | ⟨a, len', cap', zs, hcs, _, hl, hm, hz, hx, hcell, hwz⟩
  · simp [Value.cells] at hcs
    obtain ⟨rfl, rfl, rfl⟩ := hcs
    exact ⟨none, 0, 0, [], rfl, Il.none⟩
  · simp [Value.cells] at hcs
    obtain ⟨rfl, rfl, rfl⟩ := hcs
    simp only [if_true] at hz
    refine ⟨some a, len, cap, zs.take len, rfl, ⟨by rw [List.length_take, hz, Nat.min_eq_left hl], hl, hm, fun x hx => hwz x (List.mem_of_mem_take hx), (fun e => by cases e), fun k hk => ⟨a, rfl, ?_, fun j hj => ?_⟩⟩⟩
    · have := World.block_lt_of_cell? W _ (hcell k (by omega))
      rwa [add_block] at this
    · rw [hcell j (by omega)]
      simp [List.getD, hj]
end Go.Proofs.YtolfjhfmcgibbaaGreatDoor
/- What the program's New, Len, Sum, Pick of layer 10 answer over this translation. -/
namespace Go.Proofs.YtolfjhfmcgibbaaGreatDoor
open Go.RowKit Go.Shelf
set_option linter.unusedVariables false
set_option linter.unusedSimpArgs false
set_option maxRecDepth 20000
open N
theorem infoI64 : (Tryz.prog.info? 2).map (fun i => (i.zero, i.size, i.bytes)) = some (some (.int .i64 0), 1, 8) := by kernel_rfl
theorem slI64 : Tryz.prog.underlying 22 = some (.slice 2) := Tryz.underlying22
theorem zeros_row64 (n : Nat) : madeCells #[Value.int .i64 0] n = (row n (fun _ => 0)).toArray := by
  rw [row_zero]
  unfold madeCells
  apply Array.ext_getElem?
  intro i
  by_cases hi : i < n
  · simp [hi, show i % 1 = 0 by omega]
  · simp [hi]
theorem make64_run (n : Nat) (h : n ≤ 4398046511104) (w : World) :
    (Instr.makeSlice 22 (.int .i64 (n : Int)) (.int .i64 (n : Int))).run Tryz.prog w = .ok (.slice (some ⟨w.heap.size, 0, none⟩) n n) (w.alloc (.cells (row n (fun _ => 0)).toArray 2)) := by
  rw [← zeros_row64]
  exact run_make_row' 22 2 (.int .i64 0) 8 slI64 infoI64 rfl .i64 .i64 n (by omega) (by omega) w
/-- a table, and its row of ends -/
def TB (t g n : Nat) : Blk := ⟨t, [.slice (some ⟨g, 0, none⟩) n n], 64⟩
def EN (g : Nat) (ws : List Int) : Blk := ⟨g, row ws.length (fun k => pre ws (k + 1)), 2⟩
structure TbOk (w : World) (t g : Nat) (ws : List Int) : Prop where
  tb : BlkOk w (TB t g ws.length)
  en : BlkOk w (EN g ws)
theorem TbOk.on {w w' : World} {t g : Nat} {ws : List Int} (h : TbOk w t g ws) (hb : Below w.heap.size w w') : TbOk w' t g ws := ⟨h.tb.on hb, h.en.on hb⟩
theorem TbOk.cell {w : World} {t g : Nat} {ws : List Int} (h : TbOk w t g ws) {k : Nat} (hk : k < ws.length) : w.cell? ⟨g, k, none⟩ = some (.int .i64 (pre ws (k + 1))) := BlkOk.cell h.en (row_get hk)
/-- what New tells of weights that may be a table's -/
def NewOk (w : World) (ws : List Int) (e : Ending) (w' : World) : Prop :=
  ∃ t g, e = .returned (.tuple #[.pointer (some ⟨t, 0, none⟩), .int .i64 0]) ∧ TbOk w' t g ws ∧ w.heap.size ≤ t ∧ w.heap.size ≤ g ∧ t ≠ g ∧ Below w.heap.size w w'
/-- New at work: the place of the ends, how far it is -/
structure NwC (w : World) (g n k : Nat) (ws : List Int) (wr : World) : Prop where
  bl : Below w.heap.size w wr
  en : BlkOk wr ⟨g, row n (fun j => if j < k then pre ws (j + 1) else 0), 2⟩
section
variable {w w1 wr : World} {g n k : Nat} {ws : List Int}
theorem NwC.start (w : World) (n : Nat) (ws : List Int) : NwC w w.heap.size n 0 ws (w.alloc (.cells (row n (fun _ => 0)).toArray 2)) := by
  refine ⟨(Below.refl _ w).alloc (Nat.le_refl _) _, ?_⟩
  have e : row n (fun j => if j < 0 then pre ws (j + 1) else 0) = row n (fun _ => 0) := row_congr (fun j _ => by rw [if_neg (Nat.not_lt_zero _)])
  rw [e]
  exact heap_alloc_new w _
theorem NwC.cell (h : NwC w g n k ws wr) (hk : k < n) : wr.cell? ⟨g, k, none⟩ = some (.int .i64 0) := by
  have := BlkOk.cell h.en (row_get (f := fun j => if j < k then pre ws (j + 1) else 0) hk)
  rwa [if_neg (Nat.lt_irrefl _)] at this
theorem NwC.fr (h : NwC w g n k ws wr) : wr.frozen? ⟨g, k, none⟩ = false := BlkOk.fr h.en k
theorem NwC.put (h : NwC w g n k ws wr) (hg : w.heap.size ≤ g) {s : Int} (hs : pre ws (k + 1) = s) : NwC w g n (k + 1) ws (wr.setCell ⟨g, k, none⟩ (.int .i64 s)) := by
  refine ⟨h.bl.setCell (p := ⟨g, k, none⟩) hg _, ?_⟩
  have := BlkOk.set h.en k (.int .i64 s)
  simp only at this
  rw [row_set] at this
  rwa [row_congr (g := fun j => if j < k + 1 then pre ws (j + 1) else 0) (fun j _ => by
    by_cases e : j = k
    · subst e; simp [hs]
    · simp only [e, if_false]
      by_cases e2 : j < k
      · rw [if_pos e2, if_pos (by omega)]
      · rw [if_neg e2, if_neg (by omega)])] at this
theorem NwC.end_ (h : NwC w g n n ws wr) (hn : ws.length = n) : BlkOk wr (EN g ws) := by
  subst hn
  have := h.en
  rwa [row_congr (g := fun j => pre ws (j + 1)) (fun j hj => by rw [if_pos hj])] at this
end
theorem fnew_any {w : World} {A : Option Addr} {n c : Nat} {ws : List Int} (h : Il w A n c ws) :
    Calls Tryz.prog 11 #[.slice A n c] w fun e w' => (mayW ws = 0 ∧ NewOk w ws e w') ∨ (¬ mayW ws = 0 ∧ e = .returned (.tuple #[.pointer none, .int .i64 (mayW ws)]) ∧ Below w.heap.size w w') := by
  have hl := h.len
  have hcap : n ≤ 9223372036854775807 := by have := h.cap; have := h.max; unfold maxLen at this; omega
  by_cases c0 : n = 0
  · subst c0
    have hm : mayW ws = 4 := by unfold mayW; rw [if_pos hl]
    clear h hl hcap
    rw [hm]
    go_enter Tryz.func11, Tryz.ntmps11
    go_wp2
    go_ret2
    exact .inr ⟨by decide, rfl, Below.refl _ _⟩
  by_cases c1 : 64 < n
  · have hm : mayW ws = 5 := by unfold mayW; rw [if_neg (by omega), if_pos (by omega)]
    have hn0 : ¬ (n : Int) = 0 := by omega
    have hn1 : (64 : Int) < (n : Int) := by omega
    clear h hl hcap c0 c1
    rw [hm]
    go_enter Tryz.func11, Tryz.ntmps11
    go_wp2
    go_ret2
    exact .inr ⟨by decide, rfl, Below.refl _ _⟩
  have hn0 : ¬ (n : Int) = 0 := by omega
  have hn1 : ¬ (64 : Int) < (n : Int) := by omega
  have hn9 : n ≤ 64 := by omega
  have hmk := make64_run n (by omega)
  have HI := Lib.hid h
  have HL := Lib.hid (show ws.length = n ∧ 0 < n ∧ n ≤ 64 by omega)
  clear h hl hcap c0 c1
  go_enter Tryz.func11, Tryz.ntmps11
  go_wp2_with fail
  generalize hwa : World.alloc w _ = v1
  have h1 := NwC.start w n ws
  rw [hwa] at h1
  obtain ⟨g, hg⟩ : ∃ g, w.heap.size = g := ⟨_, rfl⟩
  have HG := Lib.hid (show w.heap.size ≤ g by omega)
  rw [show NwC w w.heap.size n 0 ws v1 = NwC w g n 0 ws v1 by rw [← hg]] at h1
  rw [hg]
  have HS := Lib.hid h1
  clear h1 hwa hg hmk
  go_loopw [5, 19] (fun s i wr => ∃ k : Nat, k ≤ n ∧ okTo ws k ∧ s = .int .i64 (pre ws k) ∧ i = .int .i64 k ∧ NwC w g n k ws wr) (fun _ i _ => n - (intOf i).toNat)
  case atStart => exact ⟨0, Nat.zero_le _, okTo.zero, by rw [pre_zero], rfl, HS.out⟩
  case round =>
    obtain ⟨k, hk, hok, rfl, rfl, hc⟩ := hrel
    clear HS
    have HC := Lib.hid hc
    clear hc
    by_cases hlt : k < n
    · obtain ⟨ad, x, rfl, hx, hwf, _⟩ := HI.out.one hlt
      have hcw : wr.cell? (ad.add k) = some (.int .i64 x) := (HI.out.below HC.out.bl).the hlt hx
      have HX := Lib.hid hx
      by_cases hbad : 0 ≤ x ∧ x ≤ 1048576
      · have hok2 := hok.succ hx hbad.1 hbad.2
        have hle := hok.le (by rw [HL.out.1]; omega)
        have hps := pre_succ hx
        obtain ⟨s, hs⟩ : ∃ s, pre ws k = s := ⟨_, rfl⟩
        rw [hs] at hps hle
        have hwr : IntKind.i64.wrap (s + x) = s + x := by rw [IntKind.wrap_i64]; omega
        have hx2 : ¬ x < 0 := by omega
        have hx3 : ¬ 1048576 < x := by omega
        have hc0 := HC.out.cell hlt
        have hf0 := HC.out.fr
        have HP := Lib.hid hps
        have HO := Lib.hid hok2
        clear hx hwf hps hle hbad hok hok2
        rw [hs]
        clear hs
        go_wp2
        go_roundw
        case rel => exact ⟨k + 1, hlt, HO.out, by rw [HP.out], by go_num, HC.out.put HG.out HP.out⟩
        case measure => simp [intOf]; omega
      · have hm := mayW_bad (by rw [HL.out.1]; exact HL.out.2.1) (by rw [HL.out.1]; exact HL.out.2.2) hx hbad
        have HM := Lib.hid hm
        have HB := Lib.hid HC.out.bl
        rcases Int.lt_or_le x 0 with hx2 | hx2
        · clear hx hwf hbad hok hm
          go_wp2
          go_ret2
          exact .inr ⟨by rw [HM.out]; decide, by rw [HM.out]; rfl, HB.out⟩
        · have hx3 : 1048576 < x := by omega
          have hx2 : ¬ x < 0 := by omega
          clear hx hwf hbad hok hm
          go_wp2
          go_ret2
          exact .inr ⟨by rw [HM.out]; decide, by rw [HM.out]; rfl, HB.out⟩
    · obtain rfl : k = n := by omega
      have hokw : okW ws := by
        have := HL.out.1
        exact okTo.all (by rw [this]; exact hok)
      by_cases hz : pre ws k = 0
      · have hm := mayW_null (by rw [HL.out.1]; exact HL.out.2.1) (by rw [HL.out.1]; exact HL.out.2.2) hokw (by rw [HL.out.1]; exact hz)
        rw [hz]
        have HM := Lib.hid hm
        have HB := Lib.hid HC.out.bl
        clear hok hokw hz hm
        go_wp2
        go_ret2
        exact .inr ⟨by rw [HM.out]; decide, by rw [HM.out]; rfl, HB.out⟩
      · have hm : mayW ws = 0 := by
          refine mayW_zero.2 ⟨by rw [HL.out.1]; exact HL.out.2.1, by rw [HL.out.1]; exact HL.out.2.2, hokw, ?_⟩
          have := (pre_le hokw k).1
          rw [HL.out.1]
          omega
        have HM := Lib.hid hm
        obtain ⟨s, hs⟩ : ∃ s, pre ws k = s := ⟨_, rfl⟩
        rw [hs] at hz
        rw [hs]
        clear hok hokw hm hs
        go_wp2
        go_ret2
        refine .inl ⟨HM.out, wr.heap.size, g, rfl, ⟨?_, ?_⟩, HC.out.bl.size, HG.out, ?_, HC.out.bl.alloc HC.out.bl.size _⟩
        · have := heap_alloc_new wr (.cells #[.slice (some ⟨g, 0, none⟩) k k] 64)
          rw [TB, HL.out.1]
          exact this
        · exact (HC.out.end_ HL.out.1).on ((Below.refl _ wr).alloc (Nat.le_refl _) _)
        · have := BlkOk.lt HC.out.en
          simp only at this
          omega
end Go.Proofs.YtolfjhfmcgibbaaGreatDoor
/- What the program's Len, Sum, Pick of layer 10 answer over this translation (and what they answer of nil, and of what nobody made). -/
namespace Go.Proofs.YtolfjhfmcgibbaaGreatDoor
open Go.RowKit Go.Shelf
set_option linter.unusedVariables false
set_option linter.unusedSimpArgs false
set_option maxRecDepth 20000
open N
section
variable {w : World} {t g n c : Nat} {A : Option Addr} {ws : List Int} {ty : TypeId} {r : Int} {p : Nat}
theorem tlen_blk (h : BlkOk w ⟨t, [.slice A n c], ty⟩) :
    Calls Tryz.prog 18 #[.pointer (some ⟨t, 0, none⟩)] w fun e w' => e = .returned (.int .i64 (n : Int)) ∧ w' = w := by
  have h0 := BlkOk.cell (k := 0) h rfl
  simp only at h0
  clear h
  go_enter Tryz.func18, Tryz.ntmps18
  go_wp2
  go_ret
  exact ⟨rfl, rfl⟩
theorem tlen_nil (w : World) :
    Calls Tryz.prog 18 #[.pointer none] w fun e w' => e = .returned (.int .i64 ((0 : Nat) : Int)) ∧ w' = w := by
  go_enter Tryz.func18, Tryz.ntmps18
  go_wp2
  go_ret
  exact ⟨rfl, rfl⟩
theorem tlen_any (h : TbOk w t g ws) :
    Calls Tryz.prog 18 #[.pointer (some ⟨t, 0, none⟩)] w fun e w' => e = .returned (.int .i64 (ws.length : Int)) ∧ w' = w := tlen_blk h.tb
theorem tend_z (w : World) (q : Option Addr) :
    Calls Tryz.prog 39 #[.pointer q, .int .i64 ((0 : Nat) : Int)] w fun e w' => e = .returned (.int .i64 0) ∧ w' = w := by
  go_enter Tryz.func39, Tryz.ntmps39
  go_wp2
  go_ret
  exact ⟨rfl, rfl⟩
theorem tend_any (h : TbOk w t g ws) {k : Nat} {v : Int} (hk : k ≤ ws.length) (hm : ws.length ≤ 64) (hv : pre ws k = v) :
    Calls Tryz.prog 39 #[.pointer (some ⟨t, 0, none⟩), .int .i64 (k : Int)] w fun e w' => e = .returned (.int .i64 v) ∧ w' = w := by
  cases k with
  | zero => rw [← hv, pre_zero]; exact tend_z w _
  | succ k =>
    have h0 : w.cell? ⟨t, 0, none⟩ = some (.slice (some ⟨g, 0, none⟩) ws.length ws.length) := BlkOk.cell (k := 0) h.tb rfl
    have hc := h.cell (k := k) (by omega)
    have hne : ¬ ((k + 1 : Nat) : Int) = 0 := by omega
    have hwr : IntKind.i64.wrap (((k + 1 : Nat) : Int) - 1) = (k : Int) := by rw [IntKind.wrap_i64]; omega
    obtain ⟨n, hn⟩ : ∃ n, ws.length = n := ⟨_, rfl⟩
    obtain ⟨m, hm1⟩ : ∃ m : Int, ((k + 1 : Nat) : Int) = m := ⟨_, rfl⟩
    rw [hn] at h0 hk
    rw [hv] at hc
    rw [hm1] at hne hwr ⊢
    have hlt : k < n := by omega
    clear hk hn h hm hv hm1
    go_enter Tryz.func39, Tryz.ntmps39
    go_wp2
    go_ret
    exact ⟨rfl, rfl⟩
theorem tsum_any (h : TbOk w t g ws) (hm : ws.length ≤ 64) {v : Int} (hv : pre ws ws.length = v) :
    Calls Tryz.prog 19 #[.pointer (some ⟨t, 0, none⟩)] w fun e w' => e = .returned (.int .i64 v) ∧ w' = w := by
  have HL := Lib.hid (tlen_any h)
  have HE := Lib.hid (tend_any h (Nat.le_refl _) hm hv)
  clear h hm hv
  go_enter Tryz.func19, Tryz.ntmps19
  go_wp2_with (first
    | (go_at_call 18; refine HL.out.mono ?_; rintro e w1 ⟨rfl, rfl⟩)
    | (go_at_call 39; refine HE.out.mono ?_; rintro e w1 ⟨rfl, rfl⟩))
  go_ret
  exact ⟨rfl, rfl⟩
theorem tsum_nil (w : World) :
    Calls Tryz.prog 19 #[.pointer none] w fun e w' => e = .returned (.int .i64 0) ∧ w' = w := by
  go_enter Tryz.func19, Tryz.ntmps19
  go_wp2_with (first
    | (go_at_call 18; refine (tlen_nil _).mono ?_; rintro e w1 ⟨rfl, rfl⟩)
    | (go_at_call 39; refine (tend_z _ _).mono ?_; rintro e w1 ⟨rfl, rfl⟩))
  go_ret
  exact ⟨rfl, rfl⟩
theorem tsum_fresh (h : BlkOk w ⟨t, [.slice none 0 0], ty⟩) :
    Calls Tryz.prog 19 #[.pointer (some ⟨t, 0, none⟩)] w fun e w' => e = .returned (.int .i64 0) ∧ w' = w := by
  have HL := Lib.hid (tlen_blk h)
  clear h
  go_enter Tryz.func19, Tryz.ntmps19
  go_wp2_with (first
    | (go_at_call 18; refine HL.out.mono ?_; rintro e w1 ⟨rfl, rfl⟩)
    | (go_at_call 39; refine (tend_z _ _).mono ?_; rintro e w1 ⟨rfl, rfl⟩))
  go_ret
  exact ⟨rfl, rfl⟩
/-- the function that is passed to the search -/
theorem idx1_any {b1 b2 k : Nat} {q : Bool} (h : TbOk w t g ws) (h1 : w.cell? ⟨b1, 0, none⟩ = some (.pointer (some ⟨t, 0, none⟩))) (h2 : w.cell? ⟨b2, 0, none⟩ = some (.int .i64 r)) (hk : k < ws.length) (hq : decide (r < pre ws (k + 1)) = q) :
    Calls Tryz.prog 62 #[.int .i64 (k : Int), .pointer (some ⟨b1, 0, none⟩), .pointer (some ⟨b2, 0, none⟩)] w fun e w' => e = .returned (.bool q) ∧ Below w.heap.size w w' := by
  have h0 : w.cell? ⟨t, 0, none⟩ = some (.slice (some ⟨g, 0, none⟩) ws.length ws.length) := BlkOk.cell (k := 0) h.tb rfl
  have hc := h.cell hk
  obtain ⟨n, hn⟩ : ∃ n, ws.length = n := ⟨_, rfl⟩
  obtain ⟨v, hv⟩ : ∃ v, pre ws (k + 1) = v := ⟨_, rfl⟩
  rw [hn] at h0 hk
  rw [hv] at hc hq
  clear hn hv h
  have HQ := Lib.hid hq
  clear hq
  go_enter Tryz.func62, Tryz.ntmps62
  go_wp2_with fail
  go_quiet (fail)
  go_wp2
  go_ret
  refine ⟨by rw [← HQ.out]; rfl, ⟨rfl, rfl, rfl, Nat.le_refl _, fun _ _ => rfl⟩⟩
theorem search_any {b1 b2 n : Nat} (h1 : BlkOk w ⟨b1, [.pointer (some ⟨t, 0, none⟩)], 24⟩) (h2 : BlkOk w ⟨b2, [.int .i64 r], 2⟩) (h : TbOk w t g ws) (hn : ws.length = n) (hok : okW ws) (hm : n ≤ 64) (hp : Pk ws r p) :
    Calls Tryz.prog 61 #[.int .i64 (n : Int), .func (.func 62) #[] #[.pointer (some ⟨b1, 0, none⟩), .pointer (some ⟨b2, 0, none⟩)]] w fun e w' => e = .returned (.int .i64 (p : Int)) ∧ Below w.heap.size w w' := by
  have HC := Lib.hid (fun (W : World) (hb : Below w.heap.size w W) (k : Nat) (hk : k < n) => idx1_any (k := k) (h.on hb) (BlkOk.cell (k := 0) (h1.on hb) rfl) (BlkOk.cell (k := 0) (h2.on hb) rfl) (by rw [hn]; exact hk) (show _ = decide (p ≤ k) from decide_eq_decide.2 (pk_front hok hp)))
  have HP := Lib.hid (show p < n by rw [← hn]; exact hp.1)
  have HB := Lib.hid (Below.refl w.heap.size w)
  clear h1 h2 h hn hok hp
  go_enter Tryz.func61, Tryz.ntmps61
  go_wp2_with fail
  go_loopw [5, 6] (fun i j wr => ∃ a b : Nat, a ≤ p ∧ p ≤ b ∧ b ≤ n ∧ i = .int .i64 (a : Int) ∧ j = .int .i64 (b : Int) ∧ Below w.heap.size w wr) (fun i j _ => (intOf j).toNat - (intOf i).toNat)
  case atStart => exact ⟨0, n, Nat.zero_le _, Nat.le_of_lt HP.out, Nat.le_refl _, rfl, rfl, HB.out⟩
  case round =>
    obtain ⟨a, b, ha, hb, hbn, rfl, rfl, hbw⟩ := hrel
    clear HB
    have HB := Lib.hid hbw
    clear hbw
    by_cases hlt : a < b
    · obtain ⟨m, hm2⟩ : ∃ m, (a + b) / 2 = m := ⟨_, rfl⟩
      obtain ⟨c, hc⟩ : ∃ c, a + b = c := ⟨_, rfl⟩
      have hw1 : IntKind.i64.wrap ((a : Int) + (b : Int)) = (c : Int) := by rw [IntKind.wrap_i64]; omega
      have hw2 : IntKind.u64.wrap (c : Int) = (c : Int) := by rw [IntKind.wrap_u64]; omega
      have hw3 : IntKind.i64.wrap (m : Int) = (m : Int) := by rw [IntKind.wrap_i64]; omega
      have hltI : (a : Int) < (b : Int) := by omega
      have hw4 : IntKind.i64.wrap ((m : Int) + 1) = ((m + 1 : Nat) : Int) := by rw [IntKind.wrap_i64]; omega
      have hsh : (c : Int) / 2 = (m : Int) := by omega
      by_cases hq : p ≤ m
      · have HM := HC.out wr HB.out m (by have := HP.out; omega)
        rw [decide_eq_true hq] at HM
        have HN := Lib.hid HM
        have HX := Lib.hid (show a ≤ p ∧ p ≤ m ∧ m ≤ n ∧ m - a < b - a by omega)
        clear HM ha hb hbn hlt hm2 hc hq
        go_wp2_with (go_at_call 62; refine (HN.out).mono ?_; rintro e w1 ⟨rfl, hb1⟩)
        go_roundw
        case rel => exact ⟨a, m, HX.out.1, HX.out.2.1, HX.out.2.2.1, rfl, rfl, HB.out.trans (hb1.mono HB.out.size)⟩
        case measure => simpa [intOf] using HX.out.2.2.2
      · have HM := HC.out wr HB.out m (by have := HP.out; omega)
        rw [decide_eq_false hq] at HM
        have HN := Lib.hid HM
        have HX := Lib.hid (show m + 1 ≤ p ∧ p ≤ b ∧ b ≤ n ∧ b - (m + 1) < b - a by omega)
        clear HM ha hb hbn hlt hm2 hc hq
        go_wp2_with (go_at_call 62; refine (HN.out).mono ?_; rintro e w1 ⟨rfl, hb1⟩)
        go_roundw
        case rel => exact ⟨m + 1, b, HX.out.1, HX.out.2.1, HX.out.2.2.1, rfl, rfl, HB.out.trans (hb1.mono HB.out.size)⟩
        case measure => simpa [intOf] using HX.out.2.2.2
    · obtain rfl : a = b := by omega
      obtain rfl : p = a := by omega
      have hltI : ¬ (p : Int) < (p : Int) := by omega
      go_wp2
      go_ret
      exact ⟨rfl, HB.out⟩
theorem index_any (h : TbOk w t g ws) (hw : Wt ws) (hp : Pk ws r p) :
    Calls Tryz.prog 38 #[.pointer (some ⟨t, 0, none⟩), .int .i64 r] w fun e w' => e = .returned (.int .i64 (p : Int)) ∧ Below w.heap.size w w' := by
  have hmf : ∀ (fn : Fn) (first cap : Array Value) (w : World), (Instr.makeFunc fn first cap).run Tryz.prog w = .ok (.func fn first cap) w := fun _ _ _ _ => rfl
  have h0 : w.cell? ⟨t, 0, none⟩ = some (.slice (some ⟨g, 0, none⟩) ws.length ws.length) := BlkOk.cell (k := 0) h.tb rfl
  obtain ⟨n, hn⟩ : ∃ n, ws.length = n := ⟨_, rfl⟩
  rw [hn] at h0
  have h1 := heap_alloc_new w (.cells #[.pointer (some ⟨t, 0, none⟩)] 24)
  have hb1 := (Below.refl _ w).alloc (Nat.le_refl _) (.cells #[.pointer (some ⟨t, 0, none⟩)] 24)
  have HX := Lib.hid (fun (W : World) (hW : (w.alloc (.cells #[.pointer (some ⟨t, 0, none⟩)] 24)).alloc (.cells #[.int .i64 r] 2) = W) => show BlkOk W ⟨w.heap.size, [.pointer (some ⟨t, 0, none⟩)], 24⟩ ∧ BlkOk W ⟨w.heap.size + 1, [.int .i64 r], 2⟩ ∧ TbOk W t g ws ∧ Below w.heap.size w W by
    subst hW
    have hs : (w.alloc (.cells #[.pointer (some ⟨t, 0, none⟩)] 24)).heap.size = w.heap.size + 1 := World.size_alloc ..
    have hb2 := hb1.alloc hb1.size (.cells #[.int .i64 r] 2)
    have h2 := heap_alloc_new (w.alloc (.cells #[.pointer (some ⟨t, 0, none⟩)] 24)) (.cells #[.int .i64 r] 2)
    rw [hs] at h2
    have h3 : BlkOk (w.alloc (.cells #[.pointer (some ⟨t, 0, none⟩)] 24)) ⟨w.heap.size, [.pointer (some ⟨t, 0, none⟩)], 24⟩ := h1
    exact ⟨h3.on ((Below.refl _ _).alloc (Nat.le_refl _) _), h2, h.on hb2, hb2⟩)
  have HS := Lib.hid (fun (W : World) (hW : (w.alloc (.cells #[.pointer (some ⟨t, 0, none⟩)] 24)).alloc (.cells #[.int .i64 r] 2) = W) => search_any (HX.out W hW).1 (HX.out W hW).2.1 (HX.out W hW).2.2.1 hn hw.ok (by have := hw.l1; omega) hp)
  have hc2 : ((w.alloc (.cells #[.pointer (some ⟨t, 0, none⟩)] 24)).alloc (.cells #[.int .i64 r] 2)).cell? ⟨t, 0, none⟩ = some (.slice (some ⟨g, 0, none⟩) n n) := by
    have := BlkOk.cell (k := 0) (HX.out _ rfl).2.2.1.tb rfl
    rwa [hn] at this
  clear h h1 hb1 hn hp hw h0
  go_enter Tryz.func38, Tryz.ntmps38
  go_wp2_with fail
  generalize hwa : World.alloc (World.alloc w _) _ = v1
  have HV := Lib.hid (HX.out _ hwa)
  have HS1 := Lib.hid (HS.out _ hwa)
  clear hwa HX HS hc2
  go_wp2_with (go_at_call 61; refine HS1.out.mono ?_; rintro e w1 ⟨rfl, hb1⟩)
  go_ret
  exact ⟨rfl, HV.out.2.2.2.trans (hb1.mono HV.out.2.2.2.size)⟩
theorem tpick_ok (h : TbOk w t g ws) (hw : Wt ws) (hp : Pk ws r p) :
    Calls Tryz.prog 13 #[.pointer (some ⟨t, 0, none⟩), .int .i64 r] w fun e w' => e = .returned (.tuple #[.int .i64 (p : Int), .int .i64 0]) ∧ Below w.heap.size w w' := by
  obtain ⟨s, hs⟩ : ∃ s, pre ws ws.length = s := ⟨_, rfl⟩
  have HL := Lib.hid (tlen_any h)
  have HS := Lib.hid (tsum_any h hw.l1 hs)
  have HI := Lib.hid (index_any h hw hp)
  obtain ⟨q0, q1⟩ := hp.range hw.ok
  rw [hs] at q1
  have hz : ¬ (ws.length : Int) = 0 := by have := hw.l0; omega
  have hr0 : ¬ r < 0 := by omega
  have hr1 : ¬ s ≤ r := by omega
  obtain ⟨n, hn⟩ : ∃ n, ws.length = n := ⟨_, rfl⟩
  rw [hn] at HL hz
  clear h hw hp hs q0 q1 hn
  go_enter Tryz.func13, Tryz.ntmps13
  go_wp2_with (first
    | (go_at_call 18; refine HL.out.mono ?_; rintro e w1 ⟨rfl, rfl⟩)
    | (go_at_call 19; refine HS.out.mono ?_; rintro e w1 ⟨rfl, rfl⟩)
    | (go_at_call 38; refine HI.out.mono ?_; rintro e w1 ⟨rfl, hb1⟩))
  go_ret2
  exact ⟨rfl, hb1⟩
theorem tpick_no (h : TbOk w t g ws) (hw : Wt ws) (hr : ¬ (0 ≤ r ∧ r < pre ws ws.length)) :
    Calls Tryz.prog 13 #[.pointer (some ⟨t, 0, none⟩), .int .i64 r] w fun e w' => e = .returned (.tuple #[.int .i64 ((0 : Nat) : Int), .int .i64 1]) ∧ Below w.heap.size w w' := by
  obtain ⟨s, hs⟩ : ∃ s, pre ws ws.length = s := ⟨_, rfl⟩
  have HL := Lib.hid (tlen_any h)
  have HS := Lib.hid (tsum_any h hw.l1 hs)
  rw [hs] at hr
  have hz : ¬ (ws.length : Int) = 0 := by have := hw.l0; omega
  obtain ⟨n, hn⟩ : ∃ n, ws.length = n := ⟨_, rfl⟩
  rw [hn] at HL hz
  clear h hw hs hn
  rcases Int.lt_or_le r 0 with h0 | h0
  · clear hr
    go_enter Tryz.func13, Tryz.ntmps13
    go_wp2_with (first
      | (go_at_call 18; refine HL.out.mono ?_; rintro e w1 ⟨rfl, rfl⟩)
      | (go_at_call 19; refine HS.out.mono ?_; rintro e w1 ⟨rfl, rfl⟩))
    go_ret2
    exact ⟨rfl, Below.refl _ _⟩
  · have h1 : s ≤ r := by omega
    have h2 : ¬ r < 0 := by omega
    clear hr h0
    go_enter Tryz.func13, Tryz.ntmps13
    go_wp2_with (first
      | (go_at_call 18; refine HL.out.mono ?_; rintro e w1 ⟨rfl, rfl⟩)
      | (go_at_call 19; refine HS.out.mono ?_; rintro e w1 ⟨rfl, rfl⟩))
    go_ret2
    exact ⟨rfl, Below.refl _ _⟩
theorem tpick_nil (w : World) (r : Int) :
    Calls Tryz.prog 13 #[.pointer none, .int .i64 r] w fun e w' => e = .returned (.tuple #[.int .i64 0, .int .i64 2]) ∧ Below w.heap.size w w' := by
  go_enter Tryz.func13, Tryz.ntmps13
  go_wp2_with (go_at_call 18; refine (tlen_nil _).mono ?_; rintro e w1 ⟨rfl, rfl⟩)
  go_ret2
  exact ⟨rfl, Below.refl _ _⟩
theorem tpick_fresh (h : BlkOk w ⟨t, [.slice none 0 0], ty⟩) (r : Int) :
    Calls Tryz.prog 13 #[.pointer (some ⟨t, 0, none⟩), .int .i64 r] w fun e w' => e = .returned (.tuple #[.int .i64 0, .int .i64 2]) ∧ Below w.heap.size w w' := by
  have HL := Lib.hid (tlen_blk h)
  clear h
  go_enter Tryz.func13, Tryz.ntmps13
  go_wp2_with (go_at_call 18; refine HL.out.mono ?_; rintro e w1 ⟨rfl, rfl⟩)
  go_ret2
  exact ⟨rfl, Below.refl _ _⟩
/-- does a number pick that place? -/
theorem picked_ok (h : TbOk w t g ws) (hw : Wt ws) (hp : Pk ws r p) {z : Int} (hz : (p : Int) = z) :
    Calls Tryz.prog 29 #[.pointer (some ⟨t, 0, none⟩), .int .i64 r, .int .i64 z] w fun e w' => e = .returned (.bool true) ∧ Below w.heap.size w w' := by
  have HP := Lib.hid (tpick_ok h hw hp)
  rw [hz] at HP
  clear h hw hp hz
  go_enter Tryz.func29, Tryz.ntmps29
  go_wp2_with (go_at_call 13; refine HP.out.mono ?_; rintro e w1 ⟨rfl, hb1⟩)
  go_ret
  exact ⟨rfl, hb1⟩
end
end Go.Proofs.YtolfjhfmcgibbaaGreatDoor
/- What the program's Draw of layer 10 answers over this translation. -/
namespace Go.Proofs.YtolfjhfmcgibbaaGreatDoor
open Go.RowKit Go.Shelf
set_option linter.unusedVariables false
set_option linter.unusedSimpArgs false
set_option maxRecDepth 20000
open N
theorem TbOk.grown {w w' : World} {t g gc : Nat} {ws : List Int} (h : TbOk w t g ws) (hg : w.grownBy w' (some gc)) (h1 : t ≠ gc) (h2 : g ≠ gc) : TbOk w' t g ws := ⟨h.tb.grown hg h1, h.en.grown hg h2⟩
theorem tdraw_any {w : World} {t g gc a v a2 m q : Nat} {gd o o2 : Bool} {l : List UInt8} {ws : List Int} (h : TbOk w t g ws) (hw : Wt ws) (hc : CuOk w gc l a o) (hB : isB l = true) (ha : a ≤ l.length) (hm : pre ws ws.length = (m : Int)) (hd : dr l a o m = (v, gd, a2, o2)) (h1 : t ≠ gc) (h2 : g ≠ gc) (hq : (gd = true ∧ Pk ws (v : Int) q) ∨ (gd = false ∧ q = 0)) :
    Calls Tryz.prog 23 #[.pointer (some ⟨t, 0, none⟩), .pointer (some ⟨gc, 0, none⟩)] w fun e w' => e = .returned (.tuple #[.int .i64 (q : Int), .bool gd]) ∧ w.grownBy w' (some gc) ∧ CuOk w' gc l a2 o2 := by
  have hm9 : (m : Int) ≤ 67108864 := by rw [← hm]; exact (hw.le (Nat.le_refl _)).2.2
  have HS := Lib.hid (tsum_any h hw.l1 hm)
  have hcw : IntKind.u64.wrap (m : Int) = (m : Int) := by rw [IntKind.wrap_u64]; omega
  have HD := Lib.hid (draw_any hc hB ha (by omega) hd)
  have HT := Lib.hid (fun (W : World) (hg : w.grownBy W (some gc)) => h.grown hg h1 h2)
  rcases hq with ⟨rfl, hp⟩ | ⟨rfl, rfl⟩
  · have hvw : IntKind.i64.wrap (v : Int) = (v : Int) := by
      have := hp.range hw.ok
      rw [hm] at this
      rw [IntKind.wrap_i64]
      omega
    have HI := Lib.hid (fun (W : World) (hT : TbOk W t g ws) => index_any hT hw hp)
    clear h hw hc hB ha hm hd h1 h2 hp hm9
    go_enter Tryz.func23, Tryz.ntmps23
    go_wp2_with (first
      | (go_at_call 19; refine HS.out.mono ?_; rintro e w1 ⟨rfl, rfl⟩)
      | (go_at_call 35; refine HD.out.mono ?_; rintro e w2 ⟨rfl, hg2, hc2⟩; have HG2 := Lib.hid hg2; have HC2 := Lib.hid hc2; clear hg2 hc2)
      | (go_at_call 38; refine (HI.out _ (HT.out _ HG2.out)).mono ?_; rintro e w3 ⟨rfl, hb3⟩))
    go_ret2
    exact ⟨rfl, grownBy_then HG2.out hb3, HC2.out.on hb3⟩
  · clear h hw hc hB ha hm hd h1 h2 hm9
    go_enter Tryz.func23, Tryz.ntmps23
    go_wp2_with (first
      | (go_at_call 19; refine HS.out.mono ?_; rintro e w1 ⟨rfl, rfl⟩)
      | (go_at_call 35; refine HD.out.mono ?_; rintro e w2 ⟨rfl, hg2, hc2⟩; have HG2 := Lib.hid hg2; have HC2 := Lib.hid hc2; clear hg2 hc2))
    go_ret2
    exact ⟨rfl, HG2.out, HC2.out⟩
/-- of a table that sums up to nothing: nil, or one that nobody made -/
theorem tdraw_zero {w : World} {p : Option Addr} {gc a : Nat} {o : Bool} {l : List UInt8} (hS : Calls Tryz.prog 19 #[.pointer p] w fun e w' => e = .returned (.int .i64 0) ∧ w' = w) (hc : CuOk w gc l a o) (hB : isB l = true) (ha : a ≤ l.length) :
    Calls Tryz.prog 23 #[.pointer p, .pointer (some ⟨gc, 0, none⟩)] w fun e w' => e = .returned (.tuple #[.int .i64 0, .bool false]) ∧ w.grownBy w' (some gc) ∧ CuOk w' gc l a o := by
  have HS := Lib.hid hS
  have hcw : IntKind.u64.wrap 0 = ((0 : Nat) : Int) := rfl
  have HD := Lib.hid (draw_any (m := 0) hc hB ha (by decide) (dr_no (.inl rfl)))
  clear hS hc hB ha
  go_enter Tryz.func23, Tryz.ntmps23
  go_wp2_with (first
    | (go_at_call 19; refine HS.out.mono ?_; rintro e w1 ⟨rfl, rfl⟩)
    | (go_at_call 35; refine HD.out.mono ?_; rintro e w2 ⟨rfl, hg2, hc2⟩; have HG2 := Lib.hid hg2; have HC2 := Lib.hid hc2; clear hg2 hc2))
  go_ret2
  exact ⟨rfl, HG2.out, HC2.out⟩
end Go.Proofs.YtolfjhfmcgibbaaGreatDoor
/- append over rows of int64s of a call's own, at this translation. -/
namespace Go.Proofs.YtolfjhfmcgibbaaGreatDoor
open Go.RowKit Go.Shelf
set_option linter.unusedVariables false
set_option linter.unusedSimpArgs false
set_option maxRecDepth 20000
open N
namespace N
/-- a row of int64s as values -/
def iw (xs : List Int) : List Value := xs.map (Value.int .i64)
theorem iw_length (xs : List Int) : (iw xs).length = xs.length := by simp [iw]
theorem iw_append (xs ys : List Int) : iw (xs ++ ys) = iw xs ++ iw ys := by simp [iw]
theorem iw_get (xs : List Int) (j : Nat) (h : j < xs.length) : (iw xs)[j]? = some (.int .i64 (xs.getD j 0)) := by
  unfold iw; rw [List.getElem?_map, List.getD_eq_getElem?_getD, List.getElem?_eq_getElem h]; rfl
theorem iw_set (xs : List Int) (j : Nat) (x : Int) : iw (xs.set j x) = (iw xs).set j (.int .i64 x) := by unfold iw; rw [List.map_set]
theorem iw_one (xs : List Int) : ∀ u ∈ iw xs, u.oneCell' = true := by
  intro u hu; unfold iw at hu
  obtain ⟨x, _, rfl⟩ := List.mem_map.1 hu; rfl
/-- a slice of int64s of the call's own, from block B on -/
structure OwnI (w : World) (B : Nat) (A : Option Addr) (n c : Nat) (xs : List Int) : Prop where
  row : w.ownsRow B 2 1 (.slice A n c) n (iw xs)
  wf : ∀ x ∈ xs, (Lit.int .i64 x).wf = true
section
variable {w w' : World} {B B' : Nat} {A : Option Addr} {n c : Nat} {xs : List Int}
theorem OwnI.len (h : OwnI w B A n c xs) : xs.length = n := by have := h.row.1; rwa [iw_length, Nat.mul_one] at this
theorem OwnI.ways (h : OwnI w B A n c xs) : (A = none ∧ n = 0 ∧ c = 0) ∨ ∃ g cur, A = some ⟨g, 0, none⟩ ∧ B ≤ g ∧ w.heap[g]? = some (.cells cur 2 (0, 0)) ∧ n ≤ c ∧ c ≤ maxLen ∧ cur.size = c ∧ cur.toList.take n = iw xs := by
  rcases h.row.2 with ⟨e, e0⟩ | ⟨g, cap, cur, e, hb, hh, hnc, hcm, hcs, ht⟩
  · injection e with e1 e2 e3; exact .inl ⟨e1, e2, e3⟩
  · injection e with e1 e2 e3
    subst e1 e3
    exact .inr ⟨g, cur, rfl, hb, hh, hnc, hcm, by omega, by rw [← ht, Nat.mul_one]⟩
theorem OwnI.kept (h : OwnI w B A n c xs) {row : Option Nat} (hb : w.grownBy w' row) (hne : (Value.slice A n c).ownBlock = none ∨ (Value.slice A n c).ownBlock ≠ row) : OwnI w' B A n c xs := ⟨World.ownsRow.kept h.row hb hne, h.wf⟩
theorem OwnI.below (h : OwnI w B A n c xs) (hb : Below w.heap.size w w') : OwnI w' B A n c xs :=
  h.kept (row := Option.none) ⟨hb.os, hb.tape, hb.output, hb.size, fun k hk _ => hb.block k hk⟩ (by
    cases (Value.slice A n c).ownBlock with
    | none => exact .inl rfl
    | some k => exact .inr (by simp))
theorem OwnI.il (h : OwnI w B A n c xs) : Il w A n c xs := by
  rcases h.ways with ⟨rfl, rfl, rfl⟩ | ⟨g, cur, rfl, hb, hh, hnc, hcm, hcs, ht⟩
  · have := List.eq_nil_of_length_eq_zero h.len
    subst this
    exact Il.none
  · refine ⟨h.len, hnc, hcm, h.wf, (fun e => by cases e), fun k hk => ⟨_, rfl, (Array.getElem?_eq_some_iff.1 hh).1, fun j hj => ?_⟩⟩
    rw [add_plain, Nat.zero_add, cell_of_row w g j _ _ _ hh]
    have h1 := iw_get xs j (by rw [h.len]; exact hj)
    rw [← ht, List.getElem?_take_of_lt hj] at h1
    simpa using h1
/-- a number written over -/
theorem OwnI.set {g : Nat} (h : OwnI w B (some ⟨g, 0, none⟩) n c xs) {k : Nat} {x : Int} (hx : (Lit.int .i64 x).wf = true) : OwnI (w.setCell ⟨g, k, none⟩ (.int .i64 x)) B (some ⟨g, 0, none⟩) n c (xs.set k x) := by
  rcases h.ways with ⟨e, _⟩ | ⟨g', cur, e, hb, hh, hnc, hcm, hcs, ht⟩
  · cases e
  · injection e with e
    injection e with e
    subst e
    refine ⟨⟨by rw [iw_length, List.length_set, h.len, Nat.mul_one], .inr ⟨g, c, cur.setIfInBounds k (.int .i64 x), rfl, hb, ?_, hnc, hcm, by simp [hcs], ?_⟩⟩, fun y hy => ?_⟩
    · simp [World.setCell, Array.getElem?_modify, hh]
    · rw [Nat.mul_one, iw_set, ← ht, Array.toList_setIfInBounds, List.take_set]
    · rcases List.mem_or_eq_of_mem_set hy with e | e
      · exact h.wf y e
      · rw [e]; exact hx
theorem OwnI.fr {g : Nat} (h : OwnI w B (some ⟨g, 0, none⟩) n c xs) (k : Nat) : w.frozen? ⟨g, k, none⟩ = false := by
  rcases h.ways with ⟨e, _⟩ | ⟨g', cur, e, hb, hh, _⟩
  · cases e
  · injection e with e
    injection e with e
    subst e
    simp [World.frozen?, hh]
theorem OwnI.ge {g : Nat} (h : OwnI w B (some ⟨g, 0, none⟩) n c xs) : B ≤ g ∧ g < w.heap.size := by
  rcases h.ways with ⟨e, _⟩ | ⟨g', cur, e, hb, hh, _⟩
  · cases e
  · injection e with e
    injection e with e
    subst e
    exact ⟨hb, (Array.getElem?_eq_some_iff.1 hh).1⟩
/-- a literal of no numbers -/
theorem OwnI.empty (h : BlkOk w ⟨B, [], 2⟩) {b : Nat} (hb : b ≤ B) : OwnI w b (some ⟨B, 0, none⟩) 0 0 [] :=
  ⟨⟨rfl, .inr ⟨B, 0, #[], rfl, hb, h, Nat.le_refl _, Nat.zero_le _, rfl, rfl⟩⟩, fun x hx => by cases hx⟩
end
end N
/-- append onto a row of the call's own -/
theorem run_app64 {w : World} (base : Nat) (ty : TypeId) {A : Option Addr} {n c : Nat} {xs : List Int} (hown : OwnI w base A n c xs) {A' : Option Addr} {m d : Nat} {ys : List Int} (hr : Il w A' m d ys) (hn : n ≤ 8796093022208) (hm : m ≤ 4398046511104) (hbase : base ≤ w.heap.size) :
    ∃ A'' c'' w', (Builtin.append_ #[22, 22] ty #[.slice A n c, .slice A' m d]).run Tryz.prog w = .ok (.slice A'' (n + m) c'') w' ∧ OwnI w' base A'' (n + m) c'' (xs ++ ys) ∧ w.grownBy w' (Value.slice A n c).ownBlock := by
  obtain ⟨i0, hi, hz0, hz1, hz2⟩ := info_parts infoI64
  have hwf : ∀ x ∈ xs ++ ys, (Lit.int .i64 x).wf = true := fun x hx => by
    rcases List.mem_append.1 hx with e | e
    · exact hown.wf x e
    · exact hr.wf x e
  cases A' with
  | none =>
    have hd := hr.nil rfl
    have hc := hr.cap
    obtain rfl : d = 0 := hd
    obtain rfl : m = 0 := by omega
    have hy : ys = [] := List.eq_nil_of_length_eq_zero hr.len
    subst hy
    refine ⟨A, c, w, ?_, by simpa using hown, World.grownBy.refl w _⟩
    have hnc := hown.il.cap
    cases A with
    | none => simp [Builtin.append_, run_underlying slI64, sizeOf, typeInfo, hi, Builtin.lenOf, Builtin.firstCells, hnc]
    | some ad => simp [Builtin.append_, run_underlying slI64, sizeOf, typeInfo, hi, Builtin.lenOf, Builtin.firstCells, loadCells, hnc, storeCells]
  | some ad =>
    obtain ⟨v', w', hrun, h2, h3, _, _⟩ := run_append_own_at (P := Tryz.prog) w base 22 ty 2 i0 (.int .i64 0) 1 8 slI64 hi hz0 hz1 hz2 rfl (by omega) (.slice A n c) n (iw xs) hown.row ad m d (iw ys) (by rw [iw_length, hr.len, Nat.mul_one]) (by
        intro j u hu
        have hj : j < ys.length := by have := (List.getElem?_eq_some_iff.1 hu).1; rwa [iw_length] at this
        rw [iw_get ys j hj] at hu
        injection hu with hu
        subst hu
        rw [hr.len] at hj
        obtain ⟨ad', e, _, hc⟩ := hr.at' j hj
        injection e with e
        subst e
        exact hc j hj) (iw_one ys) (by unfold maxLen; omega) (by omega) hbase
    rw [← iw_append] at h2
    rcases h2.2 with ⟨rfl, h0⟩ | ⟨g, cap, cur, rfl, rest'⟩
    · rw [h0] at h2
      refine ⟨none, 0, w', by rw [hrun, h0], ?_, h3⟩
      rw [h0]
      exact ⟨h2, hwf⟩
    · exact ⟨_, cap, w', hrun, ⟨h2, hwf⟩, h3⟩
/-- the same, where a walk stands at it -/
theorem wp_app64 {w : World} {ops : Array Oper} {rest : List Oper} {o : Oper} {a : Act} {Q : Exit → Act → World → Prop} (hgd : o.guard = none) (s x : Operand)
    (ho : o.op = .call { callee := .builtin .append, args := #[s, x], argTypes := #[22, 22] })
    (base : Nat) {A : Option Addr} {n c : Nat} {xs : List Int} (hs : a.eval s = .slice A n c) (hown : OwnI w base A n c xs)
    {A' : Option Addr} {m d : Nat} {ys : List Int} (hx : a.eval x = .slice A' m d) (hr : Il w A' m d ys) (hn : n ≤ 8796093022208) (hm : m ≤ 4398046511104) (hbase : base ≤ w.heap.size)
    (h : ∀ A'' c'' w', OwnI w' base A'' (n + m) c'' (xs ++ ys) → Below base w w' → wpList Tryz.prog ops Q rest (a.put o.dst (.slice A'' (n + m) c'')) w') : wpList Tryz.prog ops Q (o :: rest) a w := by
  obtain ⟨i0, hi, hz0, hz1, hz2⟩ := info_parts infoI64
  have hwf : ∀ x ∈ xs ++ ys, (Lit.int .i64 x).wf = true := fun x hx => by
    rcases List.mem_append.1 hx with e | e
    · exact hown.wf x e
    · exact hr.wf x e
  have hlt : ∀ k, (Value.slice A n c).ownBlock = some k → base ≤ k := fun k hk => (hown.row.lt k hk).1
  have fin : ∀ (v' : Value) (w' : World), w'.ownsRow base 2 1 v' (n + m) (iw xs ++ iw ys) → w.grownBy w' (Value.slice A n c).ownBlock → wpList Tryz.prog ops Q rest (a.put o.dst v') w' := by
    intro v' w' hown' hg
    have hb : Below base w w' := ⟨hg.os, hg.tape, hg.output, hg.size, fun k hk => hg.block k (Nat.lt_of_lt_of_le hk hbase) (fun e => by have := hlt k e.symm; omega)⟩
    rw [← iw_append] at hown'
    rcases hown'.2 with ⟨rfl, h0⟩ | ⟨g, cap, cur, rfl, rest'⟩
    · have := h none 0 w'
      rw [h0] at this hown'
      exact this ⟨hown', hwf⟩ hb
    · exact h _ cap w' ⟨hown', hwf⟩ hb
  cases A' with
  | none =>
    have hd := hr.nil rfl
    have hc := hr.cap
    obtain rfl : d = 0 := hd
    obtain rfl : m = 0 := by omega
    have hy : ys = [] := List.eq_nil_of_length_eq_zero hr.len
    subst hy
    refine wpList_append_own_none hgd s x 22 ho base 2 i0 1 slI64 hi _ n (iw xs) hs hown.row hx ?_
    exact fin _ w (by simpa [iw] using hown.row) (World.grownBy.refl w _)
  | some ad =>
    refine wpList_append_own_at (w := w) hgd s x 22 ho base 2 i0 (.int .i64 0) 1 8 slI64 hi hz0 hz1 hz2 rfl (by omega) _ n (iw xs) hs hown.row ad m d (iw ys) hx (by rw [iw_length, hr.len, Nat.mul_one]) ?_ (iw_one ys) (by unfold maxLen; omega) (by omega) hbase ?_
    · intro j u hu
      have hj : j < ys.length := by have := (List.getElem?_eq_some_iff.1 hu).1; rwa [iw_length] at this
      rw [iw_get ys j hj] at hu
      injection hu with hu
      subst hu
      rw [hr.len] at hj
      obtain ⟨ad', e, _, hc⟩ := hr.at' j hj
      injection e with e
      subst e
      exact hc j hj
    · intro v' w' h2 h3 _ _
      exact fin v' w' h2 h3
end Go.Proofs.YtolfjhfmcgibbaaGreatDoor
/- What the program's Cost and Share of layer 10 answer over this translation (mk_frerat.py). -/
namespace Go.Proofs.YtolfjhfmcgibbaaGreatDoor
open Go.RowKit
set_option linter.unusedVariables false
set_option linter.unusedSimpArgs false
set_option maxRecDepth 20000
open N
theorem SC.toR10 {w0 w : World} {S O : List Ent} {T : List Blk} {A A' : Option Addr} {n c m d k k' M : Nat} {xs ys : List Int} {v u : Int} {b : Bool} {r : Rat} (h : SC w0 w0 w S T O) (h1 : (⟨A, n, c, k, xs, v⟩ : Ent) ∈ O) (h2 : (⟨A', m, d, k', ys, u⟩ : Ent) ∈ O) (s1 : (⟨A, n, c, k, xs, v⟩ : Ent) ∈ S) (s2 : (⟨A', m, d, k', ys, u⟩ : Ent) ∈ S) (hk : k ≤ M) (hk' : k' ≤ M) (hb : b = sg r.num) (hx : xs = limbs (mg r.num)) (hy : ys = limbs r.den) :
    OutR w0 M r (.returned (.agg #[.bool b, .slice A n c, .slice A' m d])) w := by
  obtain ⟨A2, n2, c2, A2', n2', c2', he, h3⟩ := h.toRE2 (b := b) (j := 0) h1 h2 s1 s2 hk hk' hb hx hy
  cases he
  exact ⟨A, n, c, A', m, d, rfl, h3⟩
theorem tcost_any {w : World} {t g m : Nat} {ws : List Int} {r : Rat} (h : TbOk w t g ws) (hw : Wt ws) (hm : pre ws ws.length = (m : Int)) (hr : cR m = r) :
    Calls Tryz.prog 27 #[.pointer (some ⟨t, 0, none⟩)] w (OutR w 1030 r) := by
  have HX := Lib.hid (fun (W : World) (hb : Below w.heap.size w W) => tsum_any (h.on hb) hw.l1 hm)
  have hm9 := hw.le (Nat.le_refl _)
  have hm8 := hw.pos
  rw [hm] at hm9 hm8
  have hcw : IntKind.u64.wrap (m : Int) = (m : Int) := by rw [IntKind.wrap_u64]; omega
  have hm0 : m < 18446744073709551616 := by omega
  have hm1 : 0 < m := by omega
  clear hm9 hm8 hm h hw
  have hS := Lib.hid (SC.start w)
  go_enter Tryz.func27, Tryz.ntmps27
  have h1 := (hS.out.boxed (vs := [.bool false, .slice none 0 0, .slice none 0 0]) (ty := 37) rfl rfl)
  try simp only [World.size_alloc] at h1
  obtain ⟨p0_0, p1_0, p2_0⟩ := h1.cs3 0 rfl
  clear h1
  go_wp2_with fail
  clear p0_0 p1_0 p2_0
  generalize hwa : World.alloc w _ = v1
  have h1 := (hS.out.boxed (vs := [.bool false, .slice none 0 0, .slice none 0 0]) (ty := 37) rfl hwa)
  have hsz : v1.heap.size = w.heap.size + 1 := by rw [← hwa]; simp only [World.size_alloc]
  try rw [← hsz]
  clear hwa hsz
  clear hS; have hS := Lib.hid h1; clear h1
  obtain ⟨x0_0, x1_0, x2_0⟩ := hS.out.cs3 0 rfl
  go_wp2_with fail
  go_at_call 19
  with_reducible refine (HX.out _ hS.out.bl).mono ?_
  rintro e v2 ⟨rfl, rfl⟩
  clear x0_0 x1_0 x2_0
  have h1 := hS.out
  clear hS; have hS := Lib.hid h1; clear h1
  obtain ⟨x0_0, x1_0, x2_0⟩ := hS.out.cs3 0 rfl
  go_wp2_with fail
  go_at_call 36
  with_reducible refine (cost_any _ m hm0 hm1).mono ?_
  rintro e v3 ho
  clear x0_0 x1_0 x2_0
  rw [hr] at ho
  obtain ⟨A1, n1, c1, A2, n2, c2, rfl, h1⟩ := hS.out.rRE (Nat.le_refl _) ho
  clear hS; have hS := Lib.hid h1; clear h1
  obtain ⟨x0_0, x1_0, x2_0⟩ := hS.out.cs3 0 rfl
  have hm0 := hS.out.boxed (vs := [.bool (sg r.num), .slice A1 n1 c1, .slice A2 n2 c2]) (ty := 37) rfl rfl
  try simp only [World.size_alloc] at hm0
  obtain ⟨m00_0, m01_0, m02_0⟩ := hm0.cs3 0 rfl
  obtain ⟨m00_1, m01_1, m02_1⟩ := hm0.cs3 1 rfl
  have hp0 := hm0.put3 1 rfl (hm0.ge_ 1 rfl) (.bool (sg r.num)) (.slice A1 n1 c1) (.slice A2 n2 c2)
  simp only [List.set_cons_zero, List.set_cons_succ] at hp0
  have fz0_0 := hm0.frs 1 rfl 0
  have fz0_1 := hm0.frs 1 rfl 1
  have fz0_2 := hm0.frs 1 rfl 2
  have HPUT := Lib.hid hp0
  clear hp0
  clear hm0
  go_wp2_with fail
  refine bodyPost_ret (results_B rfl rfl (loadR (HPUT.out.box _ (List.mem_of_getElem? (i := 1) rfl)))) rfl ?_
  exact HPUT.out.toR10 (r := r) (by repeat (first | exact List.mem_cons_self | apply List.mem_cons_of_mem)) (by repeat (first | exact List.mem_cons_self | apply List.mem_cons_of_mem)) (by repeat (first | exact List.mem_cons_self | apply List.mem_cons_of_mem)) (by repeat (first | exact List.mem_cons_self | apply List.mem_cons_of_mem)) (by omega) (by omega) rfl rfl rfl
theorem tcost_zero {w : World} {p : Option Addr} {r : Rat} (h : ∀ W, Below w.heap.size w W → Calls Tryz.prog 19 #[.pointer p] W fun e w' => e = .returned (.int .i64 0) ∧ w' = W) (hr : mkRat 0 1 = r) :
    Calls Tryz.prog 27 #[.pointer p] w (OutR w 1 r) := by
  have HX := Lib.hid h
  have hcw : IntKind.u64.wrap 0 = 0 := rfl
  clear h
  have hS := Lib.hid (SC.start w)
  go_enter Tryz.func27, Tryz.ntmps27
  have h1 := (hS.out.boxed (vs := [.bool false, .slice none 0 0, .slice none 0 0]) (ty := 37) rfl rfl)
  try simp only [World.size_alloc] at h1
  obtain ⟨p0_0, p1_0, p2_0⟩ := h1.cs3 0 rfl
  clear h1
  go_wp2_with fail
  clear p0_0 p1_0 p2_0
  generalize hwa : World.alloc w _ = v1
  have h1 := (hS.out.boxed (vs := [.bool false, .slice none 0 0, .slice none 0 0]) (ty := 37) rfl hwa)
  have hsz : v1.heap.size = w.heap.size + 1 := by rw [← hwa]; simp only [World.size_alloc]
  try rw [← hsz]
  clear hwa hsz
  clear hS; have hS := Lib.hid h1; clear h1
  obtain ⟨x0_0, x1_0, x2_0⟩ := hS.out.cs3 0 rfl
  go_wp2_with fail
  go_at_call 19
  with_reducible refine (HX.out _ hS.out.bl).mono ?_
  rintro e v2 ⟨rfl, rfl⟩
  clear x0_0 x1_0 x2_0
  have h1 := hS.out
  clear hS; have hS := Lib.hid h1; clear h1
  obtain ⟨x0_0, x1_0, x2_0⟩ := hS.out.cs3 0 rfl
  go_wp2_with fail
  go_at_call 36
  with_reducible refine (cost_zero _).mono ?_
  rintro e v3 ho
  clear x0_0 x1_0 x2_0
  obtain ⟨rfl, h1⟩ := hS.out.tRZ ho
  clear hS; have hS := Lib.hid h1; clear h1
  obtain ⟨x0_0, x1_0, x2_0⟩ := hS.out.cs3 0 rfl
  have h1 := (hS.out.boxed (vs := [.bool false, .slice none 0 0, .slice none 0 0]) (ty := 37) rfl rfl)
  try simp only [World.size_alloc] at h1
  obtain ⟨p0_0, p1_0, p2_0⟩ := h1.cs3 0 rfl
  obtain ⟨p0_1, p1_1, p2_1⟩ := h1.cs3 1 rfl
  clear h1
  go_wp2_with fail
  clear x0_0 x1_0 x2_0
  clear p0_0 p1_0 p2_0 p0_1 p1_1 p2_1
  generalize hwa : World.alloc v3 _ = v4
  have h1 := (hS.out.boxed (vs := [.bool false, .slice none 0 0, .slice none 0 0]) (ty := 37) rfl hwa)
  have hsz : v4.heap.size = v3.heap.size + 1 := by rw [← hwa]; simp only [World.size_alloc]
  try rw [← hsz]
  clear hwa hsz
  clear hS; have hS := Lib.hid h1; clear h1
  obtain ⟨x0_0, x1_0, x2_0⟩ := hS.out.cs3 0 rfl
  obtain ⟨x0_1, x1_1, x2_1⟩ := hS.out.cs3 1 rfl
  go_wp2_with fail
  go_at_call 31
  with_reducible refine (fof_any _ 0 (by decide) (by decide)).mono ?_
  rintro e v5 ho
  clear x0_0 x1_0 x2_0 x0_1 x1_1 x2_1
  rw [hr] at ho
  obtain ⟨A1, n1, c1, A2, n2, c2, rfl, h1⟩ := hS.out.rR (Nat.le_refl _) ho
  clear hS; have hS := Lib.hid h1; clear h1
  obtain ⟨x0_0, x1_0, x2_0⟩ := hS.out.cs3 0 rfl
  obtain ⟨x0_1, x1_1, x2_1⟩ := hS.out.cs3 1 rfl
  have hp0 := hS.out.put3 1 rfl (hS.out.ge_ 1 rfl) (.bool (sg r.num)) (.slice A1 n1 c1) (.slice A2 n2 c2)
  simp only [List.set_cons_zero, List.set_cons_succ] at hp0
  have fz0_0 := hS.out.frs 1 rfl 0
  have fz0_1 := hS.out.frs 1 rfl 1
  have fz0_2 := hS.out.frs 1 rfl 2
  have HPUT := Lib.hid hp0
  clear hp0
  go_wp2_with fail
  refine bodyPost_ret (results_B rfl rfl (loadR (HPUT.out.box _ (List.mem_of_getElem? (i := 1) rfl)))) rfl ?_
  exact HPUT.out.toR10 (r := r) (by repeat (first | exact List.mem_cons_self | apply List.mem_cons_of_mem)) (by repeat (first | exact List.mem_cons_self | apply List.mem_cons_of_mem)) (by repeat (first | exact List.mem_cons_self | apply List.mem_cons_of_mem)) (by repeat (first | exact List.mem_cons_self | apply List.mem_cons_of_mem)) (by omega) (by omega) rfl rfl rfl
theorem tshare_ok {w : World} {t g i : Nat} {ws : List Int} {r : Rat} {x s : Int} (h : TbOk w t g ws) (hw : Wt ws) (hx : ws[i]? = some x) (hs : pre ws ws.length = s) (hr : mkRat x s.toNat = r) :
    Calls Tryz.prog 15 #[.pointer (some ⟨t, 0, none⟩), .int .i64 (i : Int)] w (OutRE w 1 r 0) := by
  have hi := (List.getElem?_eq_some_iff.1 hx).1
  have hps := pre_succ hx
  have hl := hw.l1
  obtain ⟨p, hp⟩ : ∃ p, pre ws i = p := ⟨_, rfl⟩
  obtain ⟨p', hp'⟩ : ∃ p, pre ws (i + 1) = p := ⟨_, rfl⟩
  obtain ⟨j, hj⟩ : ∃ j, i + 1 = j := ⟨_, rfl⟩
  have b1 := hw.le (k := i) (by omega)
  have b2 := hw.le (k := i + 1) (by omega)
  have b3 := hw.pos
  have b4 := hw.le (Nat.le_refl _)
  have HL := Lib.hid (fun (W : World) (hb : Below w.heap.size w W) => tlen_any (h.on hb))
  have HX := Lib.hid (fun (W : World) (hb : Below w.heap.size w W) => tsum_any (h.on hb) hl hs)
  have HE1 := Lib.hid (fun (W : World) (hb : Below w.heap.size w W) => tend_any (h.on hb) (k := i) (by omega) hl hp)
  have HE2 := Lib.hid (fun (W : World) (hb : Below w.heap.size w W) => (by rw [← hj]; exact tend_any (h.on hb) (k := i + 1) (by omega) hl hp' : Calls Tryz.prog 39 #[.pointer (some ⟨t, 0, none⟩), .int .i64 (j : Int)] W fun e w' => e = .returned (.int .i64 p') ∧ w' = W))
  rw [hp, hp'] at hps
  rw [hp] at b1
  rw [hp'] at b2
  rw [hs] at b3 b4
  have hwi : IntKind.i64.wrap ((i : Int) + 1) = (j : Int) := by rw [IntKind.wrap_i64]; omega
  have hwx : IntKind.i64.wrap (p' - p) = x := by rw [IntKind.wrap_i64]; omega
  have hz : ¬ (ws.length : Int) = 0 := by omega
  have hi0 : ¬ (i : Int) < 0 := by omega
  have hi1 : ¬ (ws.length : Int) ≤ (i : Int) := by omega
  have hx1 : -9223372036854775808 ≤ x := by omega
  have hx2 : x ≤ 9223372036854775807 := by omega
  have hy1 : -9223372036854775808 ≤ s := by omega
  have hy2 : s ≤ 9223372036854775807 := by omega
  have hy0 : 0 < s := by omega
  obtain ⟨n, hn⟩ : ∃ n, ws.length = n := ⟨_, rfl⟩
  rw [hn] at HL hz hi1
  clear h hw hx hs b1 b2 b3 b4 hl hps hp hp' hi hn hj
  have hS := Lib.hid (SC.start w)
  go_enter Tryz.func15, Tryz.ntmps15
  have h1 := (hS.out.boxed (vs := [.bool false, .slice none 0 0, .slice none 0 0]) (ty := 37) rfl rfl)
  try simp only [World.size_alloc] at h1
  obtain ⟨p0_0, p1_0, p2_0⟩ := h1.cs3 0 rfl
  clear h1
  go_wp2_with fail
  clear p0_0 p1_0 p2_0
  generalize hwa : World.alloc w _ = v1
  have h1 := (hS.out.boxed (vs := [.bool false, .slice none 0 0, .slice none 0 0]) (ty := 37) rfl hwa)
  have hsz : v1.heap.size = w.heap.size + 1 := by rw [← hwa]; simp only [World.size_alloc]
  try rw [← hsz]
  clear hwa hsz
  clear hS; have hS := Lib.hid h1; clear h1
  obtain ⟨x0_0, x1_0, x2_0⟩ := hS.out.cs3 0 rfl
  go_wp2_with fail
  go_at_call 18
  with_reducible refine (HL.out _ hS.out.bl).mono ?_
  rintro e v2 ⟨rfl, rfl⟩
  clear x0_0 x1_0 x2_0
  have h1 := hS.out
  clear hS; have hS := Lib.hid h1; clear h1
  obtain ⟨x0_0, x1_0, x2_0⟩ := hS.out.cs3 0 rfl
  go_wp2_with fail
  go_at_call 18
  with_reducible refine (HL.out _ hS.out.bl).mono ?_
  rintro e v3 ⟨rfl, rfl⟩
  clear x0_0 x1_0 x2_0
  have h1 := hS.out
  clear hS; have hS := Lib.hid h1; clear h1
  obtain ⟨x0_0, x1_0, x2_0⟩ := hS.out.cs3 0 rfl
  go_wp2_with fail
  go_at_call 39
  with_reducible refine (HE2.out _ hS.out.bl).mono ?_
  rintro e v4 ⟨rfl, rfl⟩
  clear x0_0 x1_0 x2_0
  have h1 := hS.out
  clear hS; have hS := Lib.hid h1; clear h1
  obtain ⟨x0_0, x1_0, x2_0⟩ := hS.out.cs3 0 rfl
  go_wp2_with fail
  go_at_call 39
  with_reducible refine (HE1.out _ hS.out.bl).mono ?_
  rintro e v5 ⟨rfl, rfl⟩
  clear x0_0 x1_0 x2_0
  have h1 := hS.out
  clear hS; have hS := Lib.hid h1; clear h1
  obtain ⟨x0_0, x1_0, x2_0⟩ := hS.out.cs3 0 rfl
  go_wp2_with fail
  go_at_call 19
  with_reducible refine (HX.out _ hS.out.bl).mono ?_
  rintro e v6 ⟨rfl, rfl⟩
  clear x0_0 x1_0 x2_0
  have h1 := hS.out
  clear hS; have hS := Lib.hid h1; clear h1
  obtain ⟨x0_0, x1_0, x2_0⟩ := hS.out.cs3 0 rfl
  go_wp2_with fail
  go_at_call 32
  with_reducible refine (fover_pos _ hx1 hx2 hy1 hy2 hy0 hr).mono ?_
  rintro e v7 ho
  clear x0_0 x1_0 x2_0
  obtain ⟨A1, n1, c1, A2, n2, c2, rfl, h1⟩ := hS.out.rRE (Nat.le_refl _) ho
  clear hS; have hS := Lib.hid h1; clear h1
  obtain ⟨x0_0, x1_0, x2_0⟩ := hS.out.cs3 0 rfl
  have hp0 := hS.out.put3 0 rfl (hS.out.ge_ 0 rfl) (.bool (sg r.num)) (.slice A1 n1 c1) (.slice A2 n2 c2)
  simp only [List.set_cons_zero, List.set_cons_succ] at hp0
  have fz0_0 := hS.out.frs 0 rfl 0
  have fz0_1 := hS.out.frs 0 rfl 1
  have fz0_2 := hS.out.frs 0 rfl 2
  have HPUT := Lib.hid hp0
  clear hp0
  go_wp2_with fail
  refine bodyPost_ret (results_B2 rfl rfl rfl (loadR (HPUT.out.box _ (List.mem_of_getElem? (i := 0) rfl)))) rfl ?_
  exact HPUT.out.toRE2 (r := r) (by repeat (first | exact List.mem_cons_self | apply List.mem_cons_of_mem)) (by repeat (first | exact List.mem_cons_self | apply List.mem_cons_of_mem)) (by repeat (first | exact List.mem_cons_self | apply List.mem_cons_of_mem)) (by repeat (first | exact List.mem_cons_self | apply List.mem_cons_of_mem)) (by omega) (by omega) rfl rfl rfl
theorem tshare_no {w : World} {t g : Nat} {z : Int} {ws : List Int} (h : TbOk w t g ws) (hw : Wt ws) (hz : ¬ (0 ≤ z ∧ z < ws.length)) :
    Calls Tryz.prog 15 #[.pointer (some ⟨t, 0, none⟩), .int .i64 z] w (OutRZ w 1) := by
  have HL := Lib.hid (fun (W : World) (hb : Below w.heap.size w W) => tlen_any (h.on hb))
  have hz0 : ¬ (ws.length : Int) = 0 := by have := hw.l0; omega
  obtain ⟨n, hn⟩ : ∃ n, ws.length = n := ⟨_, rfl⟩
  rw [hn] at HL hz0 hz
  clear h hw hn
  rcases Int.lt_or_le z 0 with h0 | h0
  · clear hz
    have hS := Lib.hid (SC.start w)
    go_enter Tryz.func15, Tryz.ntmps15
    have h1 := (hS.out.boxed (vs := [.bool false, .slice none 0 0, .slice none 0 0]) (ty := 37) rfl rfl)
    try simp only [World.size_alloc] at h1
    obtain ⟨p0_0, p1_0, p2_0⟩ := h1.cs3 0 rfl
    clear h1
    go_wp2_with fail
    clear p0_0 p1_0 p2_0
    generalize hwa : World.alloc w _ = v1
    have h1 := (hS.out.boxed (vs := [.bool false, .slice none 0 0, .slice none 0 0]) (ty := 37) rfl hwa)
    have hsz : v1.heap.size = w.heap.size + 1 := by rw [← hwa]; simp only [World.size_alloc]
    try rw [← hsz]
    clear hwa hsz
    clear hS; have hS := Lib.hid h1; clear h1
    obtain ⟨x0_0, x1_0, x2_0⟩ := hS.out.cs3 0 rfl
    go_wp2_with fail
    go_at_call 18
    with_reducible refine (HL.out _ hS.out.bl).mono ?_
    rintro e v2 ⟨rfl, rfl⟩
    clear x0_0 x1_0 x2_0
    have h1 := hS.out
    clear hS; have hS := Lib.hid h1; clear h1
    obtain ⟨x0_0, x1_0, x2_0⟩ := hS.out.cs3 0 rfl
    have hp0 := hS.out.put3 0 rfl (hS.out.ge_ 0 rfl) (.bool false) (.slice none 0 0) (.slice none 0 0)
    simp only [List.set_cons_zero, List.set_cons_succ] at hp0
    have fz0_0 := hS.out.frs 0 rfl 0
    have fz0_1 := hS.out.frs 0 rfl 1
    have fz0_2 := hS.out.frs 0 rfl 2
    have HPUT := Lib.hid hp0
    clear hp0
    go_wp2_with fail
    refine bodyPost_ret (results_B2 rfl rfl rfl (loadR (HPUT.out.box _ (List.mem_of_getElem? (i := 0) rfl)))) rfl ?_
    exact ⟨rfl, HPUT.out.bl⟩
  · have h1 : (n : Int) ≤ z := by omega
    have h2 : ¬ z < 0 := by omega
    clear hz h0
    have hS := Lib.hid (SC.start w)
    go_enter Tryz.func15, Tryz.ntmps15
    have h1 := (hS.out.boxed (vs := [.bool false, .slice none 0 0, .slice none 0 0]) (ty := 37) rfl rfl)
    try simp only [World.size_alloc] at h1
    obtain ⟨p0_0, p1_0, p2_0⟩ := h1.cs3 0 rfl
    clear h1
    go_wp2_with fail
    clear p0_0 p1_0 p2_0
    generalize hwa : World.alloc w _ = v1
    have h1 := (hS.out.boxed (vs := [.bool false, .slice none 0 0, .slice none 0 0]) (ty := 37) rfl hwa)
    have hsz : v1.heap.size = w.heap.size + 1 := by rw [← hwa]; simp only [World.size_alloc]
    try rw [← hsz]
    clear hwa hsz
    clear hS; have hS := Lib.hid h1; clear h1
    obtain ⟨x0_0, x1_0, x2_0⟩ := hS.out.cs3 0 rfl
    go_wp2_with fail
    go_at_call 18
    with_reducible refine (HL.out _ hS.out.bl).mono ?_
    rintro e v2 ⟨rfl, rfl⟩
    clear x0_0 x1_0 x2_0
    have h1 := hS.out
    clear hS; have hS := Lib.hid h1; clear h1
    obtain ⟨x0_0, x1_0, x2_0⟩ := hS.out.cs3 0 rfl
    go_wp2_with fail
    go_at_call 18
    with_reducible refine (HL.out _ hS.out.bl).mono ?_
    rintro e v3 ⟨rfl, rfl⟩
    clear x0_0 x1_0 x2_0
    have h1 := hS.out
    clear hS; have hS := Lib.hid h1; clear h1
    obtain ⟨x0_0, x1_0, x2_0⟩ := hS.out.cs3 0 rfl
    have hp0 := hS.out.put3 0 rfl (hS.out.ge_ 0 rfl) (.bool false) (.slice none 0 0) (.slice none 0 0)
    simp only [List.set_cons_zero, List.set_cons_succ] at hp0
    have fz0_0 := hS.out.frs 0 rfl 0
    have fz0_1 := hS.out.frs 0 rfl 1
    have fz0_2 := hS.out.frs 0 rfl 2
    have HPUT := Lib.hid hp0
    clear hp0
    go_wp2_with fail
    refine bodyPost_ret (results_B2 rfl rfl rfl (loadR (HPUT.out.box _ (List.mem_of_getElem? (i := 0) rfl)))) rfl ?_
    exact ⟨rfl, HPUT.out.bl⟩
theorem tshare_zero {w : World} {p : Option Addr} {z : Int} (h : ∀ W, Below w.heap.size w W → Calls Tryz.prog 18 #[.pointer p] W fun e w' => e = .returned (.int .i64 ((0 : Nat) : Int)) ∧ w' = W) :
    Calls Tryz.prog 15 #[.pointer p, .int .i64 z] w (OutRZ w 2) := by
  have HL := Lib.hid h
  clear h
  have hS := Lib.hid (SC.start w)
  go_enter Tryz.func15, Tryz.ntmps15
  have h1 := (hS.out.boxed (vs := [.bool false, .slice none 0 0, .slice none 0 0]) (ty := 37) rfl rfl)
  try simp only [World.size_alloc] at h1
  obtain ⟨p0_0, p1_0, p2_0⟩ := h1.cs3 0 rfl
  clear h1
  go_wp2_with fail
  clear p0_0 p1_0 p2_0
  generalize hwa : World.alloc w _ = v1
  have h1 := (hS.out.boxed (vs := [.bool false, .slice none 0 0, .slice none 0 0]) (ty := 37) rfl hwa)
  have hsz : v1.heap.size = w.heap.size + 1 := by rw [← hwa]; simp only [World.size_alloc]
  try rw [← hsz]
  clear hwa hsz
  clear hS; have hS := Lib.hid h1; clear h1
  obtain ⟨x0_0, x1_0, x2_0⟩ := hS.out.cs3 0 rfl
  go_wp2_with fail
  go_at_call 18
  with_reducible refine (HL.out _ hS.out.bl).mono ?_
  rintro e v2 ⟨rfl, rfl⟩
  clear x0_0 x1_0 x2_0
  have h1 := hS.out
  clear hS; have hS := Lib.hid h1; clear h1
  obtain ⟨x0_0, x1_0, x2_0⟩ := hS.out.cs3 0 rfl
  have hp0 := hS.out.put3 0 rfl (hS.out.ge_ 0 rfl) (.bool false) (.slice none 0 0) (.slice none 0 0)
  simp only [List.set_cons_zero, List.set_cons_succ] at hp0
  have fz0_0 := hS.out.frs 0 rfl 0
  have fz0_1 := hS.out.frs 0 rfl 1
  have fz0_2 := hS.out.frs 0 rfl 2
  have HPUT := Lib.hid hp0
  clear hp0
  go_wp2_with fail
  refine bodyPost_ret (results_B2 rfl rfl rfl (loadR (HPUT.out.box _ (List.mem_of_getElem? (i := 0) rfl)))) rfl ?_
  exact ⟨rfl, HPUT.out.bl⟩
end Go.Proofs.YtolfjhfmcgibbaaGreatDoor
/- The law's own call 'drawn', and the examples of layer 10 as a call (mk_freawake.py). -/
namespace Go.Proofs.YtolfjhfmcgibbaaGreatDoor
open Go.RowKit
set_option linter.unusedVariables false
set_option linter.unusedSimpArgs false
set_option maxRecDepth 20000
open N
theorem grown_below10 {w w1 w2 : World} {g : Nat} (hb : Below w.heap.size w w1) (hg : w.heap.size ≤ g) (h : w1.grownBy w2 (some g)) : Below w.heap.size w w2 :=
  hb.grown h hb.size (fun k e => by injection e with e; rw [← e]; exact hg)
theorem SC.fresh {w0 w : World} (hb : Below w0.heap.size w0 w) : SC w0 w w [] [] [] :=
  ⟨⟨hb, fun t ht => by cases ht⟩, Below.refl _ _, (fun q hq => by cases hq), (fun q hq => by cases hq), List.nodup_nil, (fun t ht => by cases ht), (fun t ht => by cases ht), (fun t ht => by cases ht)⟩
theorem shR_lit10 {bs : List UInt8} {r : Rat} (h : rdK bs = 0) (h2 : rdR bs = r) : shR r = bs := by rw [← h2]; exact sh_rdR h
/-- a slice's block, read as numbers -/
theorem Il.of_blk {w : World} {g : Nat} {vs : List Value} {ty : TypeId} {n c : Nat} {xs : List Int} (h : BlkOk w ⟨g, vs, ty⟩) (hl : xs.length = n) (hc : n ≤ c) (hm : c ≤ maxLen) (hx : ∀ x ∈ xs, -9223372036854775808 ≤ x ∧ x ≤ 9223372036854775807) (hv : ∀ j, j < n → vs[j]? = some (.int .i64 (xs.getD j 0))) : Il w (some ⟨g, 0, none⟩) n c xs :=
  ⟨hl, hc, hm, fun x hx' => (by have h1 : IntKind.i64.min ≤ x := (hx x hx').1; have h2 : x ≤ IntKind.i64.max := (hx x hx').2; simp [Lit.wf, h1, h2, (hx x hx').1, (hx x hx').2]), (fun e => by cases e), fun k hk => ⟨⟨g, 0, none⟩, rfl, BlkOk.lt h, fun j hj => by rw [add_plain, Nat.zero_add]; exact BlkOk.cell h (hv j hj)⟩⟩
theorem drawn_ok {w : World} {A : Option Addr} {n c q v a m : Nat} {gd o : Bool} {l : List UInt8} {ws : List Int} {z y : Int} (h : Il w A n c ws) (hw : Wt ws) (hB : isB l = true) (hm : pre ws ws.length = (m : Int)) (hd : dr l 0 false m = (v, gd, a, o)) (hq : (gd = true ∧ Pk ws (v : Int) q) ∨ (gd = false ∧ q = 0)) (hz : (q : Int) = z) (hy : (a : Int) = y) :
    Calls Tryz.prog 37 #[.slice A n c, .string ⟨l.toArray⟩, .int .i64 z, .bool gd, .int .i64 y] w fun e w' => e = .returned (.bool true) ∧ Below w.heap.size w w' := by
  have HN := Lib.hid (show Calls Tryz.prog 11 #[.slice A n c] w (NewOk w ws) by
    refine (fnew_any h).mono ?_
    rintro e w' (⟨_, h1⟩ | ⟨h1, _⟩)
    · exact h1
    · exact absurd (mayW_zero.2 hw) h1)
  have HC := Lib.hid (fun W : World => new_yes W l hB)
  have HD := Lib.hid (fun (W : World) (t g gc : Nat) (hT : TbOk W t g ws) (hc : CuOk W gc l 0 false) (h1 : t ≠ gc) (h2 : g ≠ gc) => tdraw_any hT hw hc hB (Nat.zero_le _) hm hd h1 h2 hq)
  rw [hz] at HD
  clear h hw hB hm hd hq hz
  have hgg : (gd == gd) = true := by cases gd <;> rfl
  go_enter Tryz.func37, Tryz.ntmps37
  go_wp2_with (first
    | (go_at_call 11; refine HN.out.mono ?_; rintro e w1 ⟨t, g, rfl, hT, ht, hg, htg, hb1⟩; have HT := Lib.hid hT; have HB1 := Lib.hid hb1; clear hT hb1)
    | (go_at_call 21; refine (HC.out _).mono ?_; rintro e w2 ⟨gc, rfl, hgc, hc, hb2⟩; have HT2 := Lib.hid (HT.out.on hb2); have HCC := Lib.hid hc; have HB2 := Lib.hid (HB1.out.trans (hb2.mono HB1.out.size)); have HNE := Lib.hid (show t ≠ gc ∧ g ≠ gc ∧ w.heap.size ≤ gc by (have h1 := HB1.out.size; have h2 := BlkOk.lt HT.out.tb; have h3 := BlkOk.lt HT.out.en; simp only [TB, EN] at h2 h3; omega)); clear hb2 hc hgc ht hg htg)
    | (go_at_call 23; refine (HD.out _ _ _ _ HT2.out HCC.out HNE.out.1 HNE.out.2.1).mono ?_; rintro e w3 ⟨rfl, hg3, hc3⟩; have HC3 := Lib.hid hc3; have HB3 := Lib.hid (grown_below10 HB2.out HNE.out.2.2 hg3); clear hg3 hc3)
    | (go_at_call 25; refine (at_any HC3.out).mono ?_; rintro e w4 ⟨rfl, hb4⟩; have HB4 := Lib.hid (HB3.out.trans (hb4.mono HB3.out.size)); clear hb4))
  go_ret
  refine ⟨?_, HB4.out⟩
  simp
theorem tshare_lit {w : World} {t g i : Nat} {ws : List Int} {r : Rat} {x s z : Int} (hz : (i : Int) = z) (h : TbOk w t g ws) (hw : Wt ws) (hx : ws[i]? = some x) (hs : pre ws ws.length = s) (hr : mkRat x s.toNat = r) :
    Calls Tryz.prog 15 #[.pointer (some ⟨t, 0, none⟩), .int .i64 z] w (OutRE w 1 r 0) := by
  subst hz
  exact tshare_ok h hw hx hs hr
set_option maxHeartbeats 4000000 in
theorem awake10 (w : World) : Calls Tryz.prog 10 #[] w fun e w' => e = .returned (.bool true) ∧ Below w.heap.size w w' := by
  obtain ⟨ws, hws⟩ : ∃ ws : List Int, [1, 0, 3] = ws := ⟨_, rfl⟩
  have HWS := Lib.hid hws
  have HW := Lib.hid (show Wt ws by rw [← hws]; exact ⟨by decide, by decide, by decide, by decide⟩)
  have HM := Lib.hid (show pre ws ws.length = ((4 : Nat) : Int) by rw [← hws]; decide)
  have HM4 := Lib.hid (show pre ws ws.length = (4 : Int) by rw [← hws]; decide)
  have HP0 := Lib.hid (show Pk ws 0 0 by rw [← hws]; exact ⟨by decide, by decide, by decide⟩)
  have HP1 := Lib.hid (show Pk ws 1 2 by rw [← hws]; exact ⟨by decide, by decide, by decide⟩)
  have HP3 := Lib.hid (show Pk ws 3 2 by rw [← hws]; exact ⟨by decide, by decide, by decide⟩)
  have HQ0 := Lib.hid (show Pk ws ((0 : Nat) : Int) 0 from HP0.out)
  have HQ1 := Lib.hid (show Pk ws ((1 : Nat) : Int) 2 from HP1.out)
  have HP4 := Lib.hid (show ¬ (0 ≤ (4 : Int) ∧ 4 < pre ws ws.length) by rw [← hws]; decide)
  have HX := Lib.hid (show ws[0]? = some 1 ∧ ws[1]? = some 0 ∧ ws[2]? = some 3 by rw [← hws]; exact ⟨rfl, rfl, rfl⟩)
  have HI := Lib.hid (show Il (w.alloc (.cells #[.int .i64 1, .int .i64 0, .int .i64 3] 2)) (some ⟨w.heap.size, 0, none⟩) 3 3 ws by
    rw [← hws]
    refine Il.of_blk (vs := [.int .i64 1, .int .i64 0, .int .i64 3]) (ty := 2) (heap_alloc_new w _) rfl (by decide) (by decide) (by decide) ?_
    intro j hj
    match j, hj with
    | 0, _ => rfl
    | 1, _ => rfl
    | 2, _ => rfl)
  have HB0 := Lib.hid ((Below.refl _ w).alloc (Nat.le_refl _) (.cells #[.int .i64 1, .int .i64 0, .int .i64 3] 2))
  clear hws
  go_enter Tryz.func10, Tryz.ntmps10
  go_wp2_with fail
  generalize hwa : World.alloc w _ = v0
  rw [hwa] at HI HB0
  clear hwa
  go_at_call 11
  refine (show Calls Tryz.prog 11 #[.slice (some ⟨w.heap.size, 0, none⟩) 3 3] v0 (NewOk v0 ws) by
      refine (fnew_any HI.out).mono ?_
      rintro e w' (⟨_, h1⟩ | ⟨h1, _⟩)
      · exact h1
      · exact absurd (mayW_zero.2 HW.out) h1).mono ?_
  rintro e v1 ⟨t, g, rfl, hT, _, _, _, hb⟩
  have HT := Lib.hid hT
  have HI1 := Lib.hid (HI.out.below hb)
  have HB1 := Lib.hid (HB0.out.trans (hb.mono HB0.out.size))
  clear hT hb
  have hS := Lib.hid (SC.fresh HB1.out)
  go_wp2_with fail
  go_at_call 13
  with_reducible refine (tpick_no (r := 4) (HT.out.on hS.out.bl) HW.out HP4.out).mono ?_
  rintro e v2 ⟨rfl, hb⟩
  have h1 := hS.out.below hb
  clear hb
  clear hS; have hS := Lib.hid h1; clear h1
  obtain ⟨q1, hq1⟩ : ∃ q : Rat, mkRat 1 4 = q := ⟨_, rfl⟩
  have Hq1 := Lib.hid hq1
  clear hq1
  go_wp2_with fail
  go_at_call 15
  with_reducible refine (tshare_lit (i := 0) (z := 0) (x := 1) (s := 4) (r := q1) rfl (HT.out.on hS.out.bl) HW.out HX.out.1 HM4.out (by rw [← Hq1.out]; decide +kernel)).mono ?_
  rintro e v3 ho
  obtain ⟨A11, n11, c11, A12, n12, c12, rfl, h1⟩ := hS.out.rRE (Nat.le_refl _) ho
  clear hS; have hS := Lib.hid h1; clear h1
  have h1 := (hS.out.boxed (vs := [.bool (sg (q1).num), .slice A11 n11 c11, .slice A12 n12 c12]) (ty := 37) rfl rfl)
  try simp only [World.size_alloc] at h1
  obtain ⟨p0_0, p1_0, p2_0⟩ := h1.cs3 0 rfl
  clear h1
  go_wp2_with fail
  clear p0_0 p1_0 p2_0
  generalize hwa : World.alloc v3 _ = v4
  have h1 := (hS.out.boxed (vs := [.bool (sg (q1).num), .slice A11 n11 c11, .slice A12 n12 c12]) (ty := 37) rfl hwa)
  have hsz : v4.heap.size = v3.heap.size + 1 := by rw [← hwa]; simp only [World.size_alloc]
  try rw [← hsz]
  clear hwa hsz
  clear hS; have hS := Lib.hid h1; clear h1
  obtain ⟨x0_0, x1_0, x2_0⟩ := hS.out.cs3 0 rfl
  obtain ⟨q2, hq2⟩ : ∃ q : Rat, mkRat 0 4 = q := ⟨_, rfl⟩
  have Hq2 := Lib.hid hq2
  clear hq2
  go_wp2_with fail
  go_at_call 15
  with_reducible refine (tshare_lit (i := 1) (z := 1) (x := 0) (s := 4) (r := q2) rfl (HT.out.on hS.out.bl) HW.out HX.out.2.1 HM4.out (by rw [← Hq2.out]; decide +kernel)).mono ?_
  rintro e v5 ho
  clear x0_0 x1_0 x2_0
  obtain ⟨A13, n13, c13, A14, n14, c14, rfl, h1⟩ := hS.out.rRE (Nat.le_refl _) ho
  clear hS; have hS := Lib.hid h1; clear h1
  obtain ⟨x0_0, x1_0, x2_0⟩ := hS.out.cs3 0 rfl
  have h1 := (hS.out.boxed (vs := [.bool (sg (q2).num), .slice A13 n13 c13, .slice A14 n14 c14]) (ty := 37) rfl rfl)
  try simp only [World.size_alloc] at h1
  obtain ⟨p0_0, p1_0, p2_0⟩ := h1.cs3 0 rfl
  obtain ⟨p0_1, p1_1, p2_1⟩ := h1.cs3 1 rfl
  clear h1
  go_wp2_with fail
  clear x0_0 x1_0 x2_0
  clear p0_0 p1_0 p2_0 p0_1 p1_1 p2_1
  generalize hwa : World.alloc v5 _ = v6
  have h1 := (hS.out.boxed (vs := [.bool (sg (q2).num), .slice A13 n13 c13, .slice A14 n14 c14]) (ty := 37) rfl hwa)
  have hsz : v6.heap.size = v5.heap.size + 1 := by rw [← hwa]; simp only [World.size_alloc]
  try rw [← hsz]
  clear hwa hsz
  clear hS; have hS := Lib.hid h1; clear h1
  obtain ⟨x0_0, x1_0, x2_0⟩ := hS.out.cs3 0 rfl
  obtain ⟨x0_1, x1_1, x2_1⟩ := hS.out.cs3 1 rfl
  obtain ⟨q3, hq3⟩ : ∃ q : Rat, mkRat 3 4 = q := ⟨_, rfl⟩
  have Hq3 := Lib.hid hq3
  clear hq3
  go_wp2_with fail
  go_at_call 15
  with_reducible refine (tshare_lit (i := 2) (z := 2) (x := 3) (s := 4) (r := q3) rfl (HT.out.on hS.out.bl) HW.out HX.out.2.2 HM4.out (by rw [← Hq3.out]; decide +kernel)).mono ?_
  rintro e v7 ho
  clear x0_0 x1_0 x2_0 x0_1 x1_1 x2_1
  obtain ⟨A15, n15, c15, A16, n16, c16, rfl, h1⟩ := hS.out.rRE (Nat.le_refl _) ho
  clear hS; have hS := Lib.hid h1; clear h1
  obtain ⟨x0_0, x1_0, x2_0⟩ := hS.out.cs3 0 rfl
  obtain ⟨x0_1, x1_1, x2_1⟩ := hS.out.cs3 1 rfl
  have h1 := (hS.out.boxed (vs := [.bool (sg (q3).num), .slice A15 n15 c15, .slice A16 n16 c16]) (ty := 37) rfl rfl)
  try simp only [World.size_alloc] at h1
  obtain ⟨p0_0, p1_0, p2_0⟩ := h1.cs3 0 rfl
  obtain ⟨p0_1, p1_1, p2_1⟩ := h1.cs3 1 rfl
  obtain ⟨p0_2, p1_2, p2_2⟩ := h1.cs3 2 rfl
  clear h1
  go_wp2_with fail
  clear x0_0 x1_0 x2_0 x0_1 x1_1 x2_1
  clear p0_0 p1_0 p2_0 p0_1 p1_1 p2_1 p0_2 p1_2 p2_2
  generalize hwa : World.alloc v7 _ = v8
  have h1 := (hS.out.boxed (vs := [.bool (sg (q3).num), .slice A15 n15 c15, .slice A16 n16 c16]) (ty := 37) rfl hwa)
  have hsz : v8.heap.size = v7.heap.size + 1 := by rw [← hwa]; simp only [World.size_alloc]
  try rw [← hsz]
  clear hwa hsz
  clear hS; have hS := Lib.hid h1; clear h1
  obtain ⟨x0_0, x1_0, x2_0⟩ := hS.out.cs3 0 rfl
  obtain ⟨x0_1, x1_1, x2_1⟩ := hS.out.cs3 1 rfl
  obtain ⟨x0_2, x1_2, x2_2⟩ := hS.out.cs3 2 rfl
  obtain ⟨q4, hq4⟩ : ∃ q : Rat, cR 4 = q := ⟨_, rfl⟩
  have Hq4 := Lib.hid hq4
  clear hq4
  go_wp2_with (first
    | (go_at_call 19; (with_reducible refine (tsum_any (HT.out.on hS.out.bl) HW.out.l1 (v := 4) HM4.out).mono ?_); rintro e w' ⟨rfl, rfl⟩; have h1 := hS.out; clear x0_0 x1_0 x2_0 x0_1 x1_1 x2_1 x0_2 x1_2 x2_2; clear hS; have hS := Lib.hid h1; clear h1; obtain ⟨x0_0, x1_0, x2_0⟩ := hS.out.cs3 0 rfl; obtain ⟨x0_1, x1_1, x2_1⟩ := hS.out.cs3 1 rfl; obtain ⟨x0_2, x1_2, x2_2⟩ := hS.out.cs3 2 rfl)
    | (go_at_call 29; (with_reducible refine (picked_ok (r := 0) (p := 0) (z := 0) (HT.out.on hS.out.bl) HW.out HP0.out rfl).mono ?_); rintro e w' ⟨rfl, hb⟩; have h1 := hS.out.below hb; clear hb; clear x0_0 x1_0 x2_0 x0_1 x1_1 x2_1 x0_2 x1_2 x2_2; clear hS; have hS := Lib.hid h1; clear h1; obtain ⟨x0_0, x1_0, x2_0⟩ := hS.out.cs3 0 rfl; obtain ⟨x0_1, x1_1, x2_1⟩ := hS.out.cs3 1 rfl; obtain ⟨x0_2, x1_2, x2_2⟩ := hS.out.cs3 2 rfl)
    | (go_at_call 29; (with_reducible refine (picked_ok (r := 1) (p := 2) (z := 2) (HT.out.on hS.out.bl) HW.out HP1.out rfl).mono ?_); rintro e w' ⟨rfl, hb⟩; have h1 := hS.out.below hb; clear hb; clear x0_0 x1_0 x2_0 x0_1 x1_1 x2_1 x0_2 x1_2 x2_2; clear hS; have hS := Lib.hid h1; clear h1; obtain ⟨x0_0, x1_0, x2_0⟩ := hS.out.cs3 0 rfl; obtain ⟨x0_1, x1_1, x2_1⟩ := hS.out.cs3 1 rfl; obtain ⟨x0_2, x1_2, x2_2⟩ := hS.out.cs3 2 rfl)
    | (go_at_call 29; (with_reducible refine (picked_ok (r := 3) (p := 2) (z := 2) (HT.out.on hS.out.bl) HW.out HP3.out rfl).mono ?_); rintro e w' ⟨rfl, hb⟩; have h1 := hS.out.below hb; clear hb; clear x0_0 x1_0 x2_0 x0_1 x1_1 x2_1 x0_2 x1_2 x2_2; clear hS; have hS := Lib.hid h1; clear h1; obtain ⟨x0_0, x1_0, x2_0⟩ := hS.out.cs3 0 rfl; obtain ⟨x0_1, x1_1, x2_1⟩ := hS.out.cs3 1 rfl; obtain ⟨x0_2, x1_2, x2_2⟩ := hS.out.cs3 2 rfl)
    | (go_at_call 30; (with_reducible refine (fshow_any _ (hS.out.frm0 (r := q1) (M := 1) (A := A11) (n := n11) (c := c11) (A' := A12) (m := n12) (d := c12) (by repeat (first | exact List.mem_cons_self | apply List.mem_cons_of_mem)) (by repeat (first | exact List.mem_cons_self | apply List.mem_cons_of_mem)) (Nat.le_refl _) (Nat.le_refl _) (rv_self _)) (by decide) (by decide) (Z := [49, 47, 52]) (shR_lit10 (by decide +kernel) (by rw [← Hq1.out]; decide +kernel))).mono ?_); rintro e w' ⟨rfl, hb⟩; have h1 := hS.out.below hb; clear hb; clear x0_0 x1_0 x2_0 x0_1 x1_1 x2_1 x0_2 x1_2 x2_2; clear hS; have hS := Lib.hid h1; clear h1; obtain ⟨x0_0, x1_0, x2_0⟩ := hS.out.cs3 0 rfl; obtain ⟨x0_1, x1_1, x2_1⟩ := hS.out.cs3 1 rfl; obtain ⟨x0_2, x1_2, x2_2⟩ := hS.out.cs3 2 rfl)
    | (go_at_call 30; (with_reducible refine (fshow_any _ (hS.out.frm0 (r := q2) (M := 1) (A := A13) (n := n13) (c := c13) (A' := A14) (m := n14) (d := c14) (by repeat (first | exact List.mem_cons_self | apply List.mem_cons_of_mem)) (by repeat (first | exact List.mem_cons_self | apply List.mem_cons_of_mem)) (Nat.le_refl _) (Nat.le_refl _) (rv_self _)) (by decide) (by decide) (Z := [48]) (shR_lit10 (by decide +kernel) (by rw [← Hq2.out]; decide +kernel))).mono ?_); rintro e w' ⟨rfl, hb⟩; have h1 := hS.out.below hb; clear hb; clear x0_0 x1_0 x2_0 x0_1 x1_1 x2_1 x0_2 x1_2 x2_2; clear hS; have hS := Lib.hid h1; clear h1; obtain ⟨x0_0, x1_0, x2_0⟩ := hS.out.cs3 0 rfl; obtain ⟨x0_1, x1_1, x2_1⟩ := hS.out.cs3 1 rfl; obtain ⟨x0_2, x1_2, x2_2⟩ := hS.out.cs3 2 rfl)
    | (go_at_call 30; (with_reducible refine (fshow_any _ (hS.out.frm0 (r := q3) (M := 1) (A := A15) (n := n15) (c := c15) (A' := A16) (m := n16) (d := c16) (by repeat (first | exact List.mem_cons_self | apply List.mem_cons_of_mem)) (by repeat (first | exact List.mem_cons_self | apply List.mem_cons_of_mem)) (Nat.le_refl _) (Nat.le_refl _) (rv_self _)) (by decide) (by decide) (Z := [51, 47, 52]) (shR_lit10 (by decide +kernel) (by rw [← Hq3.out]; decide +kernel))).mono ?_); rintro e w' ⟨rfl, hb⟩; have h1 := hS.out.below hb; clear hb; clear x0_0 x1_0 x2_0 x0_1 x1_1 x2_1 x0_2 x1_2 x2_2; clear hS; have hS := Lib.hid h1; clear h1; obtain ⟨x0_0, x1_0, x2_0⟩ := hS.out.cs3 0 rfl; obtain ⟨x0_1, x1_1, x2_1⟩ := hS.out.cs3 1 rfl; obtain ⟨x0_2, x1_2, x2_2⟩ := hS.out.cs3 2 rfl)
    | (go_at_call 27; (with_reducible refine (tcost_any (m := 4) (r := q4) (HT.out.on hS.out.bl) HW.out HM.out Hq4.out).mono ?_); rintro e w' ho; obtain ⟨A17, n17, c17, A18, n18, c18, rfl, h1⟩ := hS.out.rR (Nat.le_refl _) ho; clear x0_0 x1_0 x2_0 x0_1 x1_1 x2_1 x0_2 x1_2 x2_2; clear hS; have hS := Lib.hid h1; clear h1; obtain ⟨x0_0, x1_0, x2_0⟩ := hS.out.cs3 0 rfl; obtain ⟨x0_1, x1_1, x2_1⟩ := hS.out.cs3 1 rfl; obtain ⟨x0_2, x1_2, x2_2⟩ := hS.out.cs3 2 rfl)
    | (go_at_call 30; (with_reducible refine (fshow_any _ (hS.out.frm0 (r := q4) (M := 1030) (A := A17) (n := n17) (c := c17) (A' := A18) (m := n18) (d := c18) (by repeat (first | exact List.mem_cons_self | apply List.mem_cons_of_mem)) (by repeat (first | exact List.mem_cons_self | apply List.mem_cons_of_mem)) (Nat.le_refl _) (Nat.le_refl _) (rv_self _)) (by decide) (by decide) (Z := [50]) (shR_lit10 (by decide +kernel) (by rw [← Hq4.out]; decide +kernel))).mono ?_); rintro e w' ⟨rfl, hb⟩; have h1 := hS.out.below hb; clear hb; clear x0_0 x1_0 x2_0 x0_1 x1_1 x2_1 x0_2 x1_2 x2_2; clear hS; have hS := Lib.hid h1; clear h1; obtain ⟨x0_0, x1_0, x2_0⟩ := hS.out.cs3 0 rfl; obtain ⟨x0_1, x1_1, x2_1⟩ := hS.out.cs3 1 rfl; obtain ⟨x0_2, x1_2, x2_2⟩ := hS.out.cs3 2 rfl)
    | (go_at_call 37; (with_reducible refine (drawn_ok (l := [48, 48]) (q := 0) (v := 0) (a := 2) (gd := true) (o := false) (m := 4) (z := 0) (y := 2) (HI1.out.below hS.out.bl) HW.out (by decide) HM.out (by decide +kernel) (.inl ⟨rfl, HQ0.out⟩) rfl rfl).mono ?_); rintro e w' ⟨rfl, hb⟩; have h1 := hS.out.below hb; clear hb; clear x0_0 x1_0 x2_0 x0_1 x1_1 x2_1 x0_2 x1_2 x2_2; clear hS; have hS := Lib.hid h1; clear h1; obtain ⟨x0_0, x1_0, x2_0⟩ := hS.out.cs3 0 rfl; obtain ⟨x0_1, x1_1, x2_1⟩ := hS.out.cs3 1 rfl; obtain ⟨x0_2, x1_2, x2_2⟩ := hS.out.cs3 2 rfl)
    | (go_at_call 37; (with_reducible refine (drawn_ok (l := [48, 49]) (q := 2) (v := 1) (a := 2) (gd := true) (o := false) (m := 4) (z := 2) (y := 2) (HI1.out.below hS.out.bl) HW.out (by decide) HM.out (by decide +kernel) (.inl ⟨rfl, HQ1.out⟩) rfl rfl).mono ?_); rintro e w' ⟨rfl, hb⟩; have h1 := hS.out.below hb; clear hb; clear x0_0 x1_0 x2_0 x0_1 x1_1 x2_1 x0_2 x1_2 x2_2; clear hS; have hS := Lib.hid h1; clear h1; obtain ⟨x0_0, x1_0, x2_0⟩ := hS.out.cs3 0 rfl; obtain ⟨x0_1, x1_1, x2_1⟩ := hS.out.cs3 1 rfl; obtain ⟨x0_2, x1_2, x2_2⟩ := hS.out.cs3 2 rfl)
    | (go_at_call 37; (with_reducible refine (drawn_ok (l := [49]) (q := 0) (v := 0) (a := 0) (gd := false) (o := true) (m := 4) (z := 0) (y := 0) (HI1.out.below hS.out.bl) HW.out (by decide) HM.out (by decide +kernel) (.inr ⟨rfl, rfl⟩) rfl rfl).mono ?_); rintro e w' ⟨rfl, hb⟩; have h1 := hS.out.below hb; clear hb; clear x0_0 x1_0 x2_0 x0_1 x1_1 x2_1 x0_2 x1_2 x2_2; clear hS; have hS := Lib.hid h1; clear h1; obtain ⟨x0_0, x1_0, x2_0⟩ := hS.out.cs3 0 rfl; obtain ⟨x0_1, x1_1, x2_1⟩ := hS.out.cs3 1 rfl; obtain ⟨x0_2, x1_2, x2_2⟩ := hS.out.cs3 2 rfl))
  go_wp2
  go_ret
  exact ⟨rfl, hS.out.st.1⟩
end Go.Proofs.YtolfjhfmcgibbaaGreatDoor
/- The calls of layer 10 over a state of cursors and tables. -/
namespace Go.Proofs.YtolfjhfmcgibbaaGreatDoor
open Go.RowKit Go.Shelf
set_option linter.unusedVariables false
set_option linter.unusedSimpArgs false
set_option maxRecDepth 20000
open N
section
variable {w0 w w' : World} {T : List Blk} {t g gc a a2 m v n c q : Nat} {gd o o2 : Bool} {l : List UInt8} {ws : List Int} {A : Option Addr}
theorem CS.tb (h : CS w0 w T) (i : Nat) (hi : T[i]? = some (TB t g ws.length)) (j : Nat) (hj : T[j]? = some (EN g ws)) : TbOk w t g ws := ⟨h.get i hi, h.get j hj⟩
theorem CS.ne (h : CS w0 w T) {p q : Blk} (i k : Nat) (hi : T[i]? = some p) (hk : T[k]? = some q) (hne : i ≠ k) : p.g ≠ q.g := by
  obtain ⟨hi1, hi2⟩ := List.getElem?_eq_some_iff.1 hi
  obtain ⟨hk1, hk2⟩ := List.getElem?_eq_some_iff.1 hk
  intro e
  refine hne ((List.getElem_inj (i := i) (j := k) (h₀ := by rw [List.length_map]; exact hi1) (h₁ := by rw [List.length_map]; exact hk1) h.nd).1 ?_)
  rw [List.getElem_map, List.getElem_map, hi2, hk2, e]
theorem SC.wb {w0 v0 w : World} {S O : List Ent} {T : List Blk} (h : SC w0 v0 w S T O) : Below w0.heap.size w0 w := h.st.1
theorem tlen_n {w : World} (h : TbOk w t g ws) (hl : ws.length = n) : Calls Tryz.prog 18 #[.pointer (some ⟨t, 0, none⟩)] w fun e w' => e = .returned (.int .i64 (n : Int)) ∧ w' = w := by
  subst hl
  exact tlen_any h
theorem CS.sc (h : CS w0 w T) : SC w0 w w [] [] [] := SC.fresh h.bl
theorem awake10_s (h : CS w0 w T) : Calls Tryz.prog 10 #[] w fun e w' => e = .returned (.bool true) ∧ CS w0 w' T := by
  refine (awake10 w).mono ?_
  rintro e w' ⟨rfl, hb⟩
  exact ⟨rfl, h.below hb⟩
theorem new10_s (h : CS w0 w T) (hi : Il w A n c ws) (hm : mayW ws = 0) :
    Calls Tryz.prog 11 #[.slice A n c] w fun e w' => ∃ t g, e = .returned (.tuple #[.pointer (some ⟨t, 0, none⟩), .int .i64 0]) ∧ CS w0 w' (TB t g ws.length :: EN g ws :: T) := by
  refine (fnew_any hi).mono ?_
  rintro e w' (⟨_, t, g, rfl, hT, ht, hg, htg, hb⟩ | ⟨h1, _⟩)
  · refine ⟨t, g, rfl, ?_⟩
    have h1 := h.new (q := EN g ws) hb hT.en hg
    refine ⟨h1.bl, fun r hr => ?_, fun r hr => ?_, ?_⟩
    · rcases List.mem_cons.1 hr with e | e
      · rw [e]; exact hT.tb
      · exact h1.box r e
    · rcases List.mem_cons.1 hr with e | e
      · rw [e]; exact Nat.le_trans h.bl.size ht
      · exact h1.from_ r e
    · refine List.nodup_cons.2 ⟨fun hm => ?_, h1.nd⟩
      obtain ⟨r, hr, e⟩ := List.mem_map.1 hm
      have e : r.g = t := e
      rcases List.mem_cons.1 hr with e1 | e1
      · subst e1
        exact htg e.symm
      · have := BlkOk.lt (h.box r e1)
        omega
  · exact absurd hm h1
theorem new10_no (h : CS w0 w T) (hi : Il w A n c ws) {z : Int} (hm : mayW ws = z) (hz : ¬ z = 0) :
    Calls Tryz.prog 11 #[.slice A n c] w fun e w' => e = .returned (.tuple #[.pointer none, .int .i64 z]) ∧ CS w0 w' T := by
  subst hm
  refine (fnew_any hi).mono ?_
  rintro e w' (⟨h1, _⟩ | ⟨_, h1, hb⟩)
  · exact absurd h1 hz
  · exact ⟨h1, h.below hb⟩
theorem fnew_ok {w : World} (hi : Il w A n c ws) (hm : mayW ws = 0) : Calls Tryz.prog 11 #[.slice A n c] w (NewOk w ws) := by
  refine (fnew_any hi).mono ?_
  rintro e w' (⟨_, h1⟩ | ⟨h1, _⟩)
  · exact h1
  · exact absurd hm h1
theorem fnew_no {w : World} (hi : Il w A n c ws) {z : Int} (hm : mayW ws = z) (hz : ¬ z = 0) :
    Calls Tryz.prog 11 #[.slice A n c] w fun e w' => e = .returned (.tuple #[.pointer none, .int .i64 z]) ∧ Below w.heap.size w w' := by
  subst hm
  refine (fnew_any hi).mono ?_
  rintro e w' (⟨h1, _⟩ | ⟨_, h1, hb⟩)
  · exact absurd h1 hz
  · exact ⟨h1, hb⟩
theorem cnew10_no (h : CS w0 w T) (hl : l.length ≤ maxLen) (hB : isB l = false) :
    Calls Tryz.prog 21 #[.string ⟨l.toArray⟩] w fun e w' => e = .returned (.tuple #[.pointer none, .int .i64 3]) ∧ CS w0 w' T := by
  refine (new_no w l hl hB).mono ?_
  rintro e w' ⟨rfl, hb⟩
  exact ⟨rfl, h.below hb⟩
theorem sum10_s (h : CS w0 w T) (i j : Nat) (hi : T[i]? = some (TB t g ws.length)) (hj : T[j]? = some (EN g ws)) (hw : Wt ws) {s : Int} (hs : pre ws ws.length = s) :
    Calls Tryz.prog 19 #[.pointer (some ⟨t, 0, none⟩)] w fun e w' => e = .returned (.int .i64 s) ∧ CS w0 w' T := by
  refine (tsum_any (h.tb i hi j hj) hw.l1 hs).mono ?_
  rintro e w' ⟨rfl, rfl⟩
  exact ⟨rfl, h⟩
theorem draw10_s (h : CS w0 w T) (k : Nat) (hk : T[k]? = some (K gc l a o)) (hB : isB l = true) (ha : a ≤ l.length) (hm : m < 18446744073709551616) (hd : dr l a o m = (v, gd, a2, o2)) :
    Calls Tryz.prog 35 #[.pointer (some ⟨gc, 0, none⟩), .int .u64 (m : Nat)] w fun e w' => e = .returned (.tuple #[.int .u64 (v : Nat), .bool gd]) ∧ CS w0 w' (T.set k (K gc l a2 o2)) := by
  refine (draw_any (h.get k hk) hB ha hm hd).mono ?_
  rintro e w' ⟨rfl, hg, hq⟩
  exact ⟨rfl, h.turn k hk hg hq⟩
theorem tdraw_s (h : CS w0 w T) (i j k : Nat) (hi : T[i]? = some (TB t g ws.length)) (hj : T[j]? = some (EN g ws)) (hk : T[k]? = some (K gc l a o)) (h1 : i ≠ k) (h2 : j ≠ k) (hw : Wt ws) (hB : isB l = true) (ha : a ≤ l.length) (hm : pre ws ws.length = (m : Int)) (hd : dr l a o m = (v, gd, a2, o2)) (hq : (gd = true ∧ Pk ws (v : Int) q) ∨ (gd = false ∧ q = 0)) :
    Calls Tryz.prog 23 #[.pointer (some ⟨t, 0, none⟩), .pointer (some ⟨gc, 0, none⟩)] w fun e w' => e = .returned (.tuple #[.int .i64 (q : Int), .bool gd]) ∧ CS w0 w' (T.set k (K gc l a2 o2)) := by
  refine (tdraw_any (h.tb i hi j hj) hw (h.get k hk) hB ha hm hd (h.ne i k hi hk h1) (h.ne j k hj hk h2) hq).mono ?_
  rintro e w' ⟨rfl, hg, hc⟩
  exact ⟨rfl, h.turn k hk hg hc⟩
theorem pick10_ok (h : CS w0 w T) (i j : Nat) (hi : T[i]? = some (TB t g ws.length)) (hj : T[j]? = some (EN g ws)) (hw : Wt ws) {r : Int} (hp : Pk ws r q) :
    Calls Tryz.prog 13 #[.pointer (some ⟨t, 0, none⟩), .int .i64 r] w fun e w' => e = .returned (.tuple #[.int .i64 (q : Int), .int .i64 0]) ∧ CS w0 w' T := by
  refine (tpick_ok (h.tb i hi j hj) hw hp).mono ?_
  rintro e w' ⟨rfl, hb⟩
  exact ⟨rfl, h.below hb⟩
theorem pick10_no (h : CS w0 w T) (i j : Nat) (hi : T[i]? = some (TB t g ws.length)) (hj : T[j]? = some (EN g ws)) (hw : Wt ws) {r : Int} (hr : ¬ (0 ≤ r ∧ r < pre ws ws.length)) :
    Calls Tryz.prog 13 #[.pointer (some ⟨t, 0, none⟩), .int .i64 r] w fun e w' => e = .returned (.tuple #[.int .i64 ((0 : Nat) : Int), .int .i64 1]) ∧ CS w0 w' T := by
  refine (tpick_no (h.tb i hi j hj) hw hr).mono ?_
  rintro e w' ⟨rfl, hb⟩
  exact ⟨rfl, h.below hb⟩
/-- what a draw picks -/
theorem pk_of (hw : Wt ws) (hm : pre ws ws.length = (m : Int)) (hd : dr l a o m = (v, gd, a2, o2)) : ∃ q, (gd = true ∧ Pk ws (v : Int) q) ∨ (gd = false ∧ q = 0) := by
  rcases (dr_ways hd).2.2 with ⟨h1, h2, _⟩ | ⟨h1, _⟩
  · obtain ⟨q, hq⟩ := pk_some (ws := ws) (r := (v : Int)) (by omega) (by rw [hm]; omega)
    exact ⟨q, .inl ⟨h1, hq⟩⟩
  · exact ⟨0, .inr ⟨h1, rfl⟩⟩
end
end Go.Proofs.YtolfjhfmcgibbaaGreatDoor
/- What the document's package of layer 10 answers over this translation: May, Sum, Pick, Draw. -/
namespace Go.Proofs.YtolfjhfmcgibbaaGreatDoor
open Go.RowKit Go.Shelf
set_option linter.unusedVariables false
set_option linter.unusedSimpArgs false
set_option maxRecDepth 20000
open N
section
variable {w : World} {A : Option Addr} {n c p : Nat} {ws : List Int} {r s : Int}
theorem rsum_any (h : Il w A n c ws) (hok : okW ws) (hn : n ≤ 200) (hs : pre ws n = s) :
    Calls Tryz.prog 20 #[.slice A n c] w fun e w' => e = .returned (.int .i64 s) ∧ w' = w := by
  have HI := Lib.hid h
  have HL := Lib.hid h.len
  have HO := Lib.hid hok
  have HS := Lib.hid hs
  clear h hok hs
  go_enter Tryz.func20, Tryz.ntmps20
  go_wp2
  go_loop [3, 4] (fun s i => ∃ k : Nat, k ≤ n ∧ s = .int .i64 (pre ws k) ∧ i = .int .i64 k) (fun _ i => n - (intOf i).toNat)
  case atStart => exact ⟨0, Nat.zero_le _, by rw [pre_zero], rfl⟩
  case round =>
    obtain ⟨k, hk, rfl, rfl⟩ := hrel
    by_cases hlt : k < n
    · obtain ⟨ad, x, rfl, hx, hwf, hcw⟩ := HI.out.one hlt
      have hps := pre_succ hx
      have hle := pre_le HO.out k
      have hxb := HO.out x (List.mem_of_getElem? hx)
      obtain ⟨q, hq⟩ : ∃ q, pre ws k = q := ⟨_, rfl⟩
      rw [hq] at hps hle
      have hwr : IntKind.i64.wrap (q + x) = q + x := by rw [IntKind.wrap_i64]; omega
      have HP := Lib.hid hps
      clear hx hwf hps hle hxb
      rw [hq]
      clear hq
      go_wp2
      go_round
      case rel => exact ⟨k + 1, hlt, by rw [HP.out], by go_num⟩
      case measure => simp [intOf]; omega
    · obtain rfl : k = n := by omega
      rw [HS.out]
      go_wp2
      go_ret
      exact ⟨rfl, rfl⟩
theorem rmay_any (h : Il w A n c ws) :
    Calls Tryz.prog 12 #[.slice A n c] w fun e w' => e = .returned (.int .i64 (mayW ws)) ∧ w' = w := by
  have hl := h.len
  by_cases c0 : n = 0
  · subst c0
    have HM := Lib.hid (show mayW ws = 4 by unfold mayW; rw [if_pos hl])
    clear h hl
    go_enter Tryz.func12, Tryz.ntmps12
    go_wp2
    go_ret
    exact ⟨by rw [HM.out]; rfl, rfl⟩
  by_cases c1 : 64 < n
  · have HM := Lib.hid (show mayW ws = 5 by unfold mayW; rw [if_neg (by omega), if_pos (by omega)])
    have hn0 : ¬ (n : Int) = 0 := by omega
    have hn1 : (64 : Int) < (n : Int) := by omega
    clear h hl c0 c1
    go_enter Tryz.func12, Tryz.ntmps12
    go_wp2
    go_ret
    exact ⟨by rw [HM.out]; rfl, rfl⟩
  have hn0 : ¬ (n : Int) = 0 := by omega
  have hn1 : ¬ (64 : Int) < (n : Int) := by omega
  have HI := Lib.hid h
  have HL := Lib.hid (show ws.length = n ∧ 0 < n ∧ n ≤ 64 by omega)
  have HM := Lib.hid (rfl : mayW ws = mayW ws)
  clear h hl c0 c1
  go_enter Tryz.func12, Tryz.ntmps12
  go_wp2_with fail
  go_loop [3] (fun i => ∃ k : Nat, k ≤ n ∧ okTo ws k ∧ i = .int .i64 k) (fun i => n - (intOf i).toNat)
  case atStart => exact ⟨0, Nat.zero_le _, okTo.zero, rfl⟩
  case round =>
    obtain ⟨k, hk, hok, rfl⟩ := hrel
    by_cases hlt : k < n
    · obtain ⟨ad, x, rfl, hx, hwf, hcw⟩ := HI.out.one hlt
      by_cases hbad : 0 ≤ x ∧ x ≤ 1048576
      · have HO := Lib.hid (hok.succ hx hbad.1 hbad.2)
        have hx2 : ¬ x < 0 := by omega
        have hx3 : ¬ 1048576 < x := by omega
        clear hx hwf hbad hok
        go_wp2
        go_round
        case rel => exact ⟨k + 1, hlt, HO.out, by go_num⟩
        case measure => simp [intOf]; omega
      · have HM := Lib.hid (mayW_bad (by rw [HL.out.1]; exact HL.out.2.1) (by rw [HL.out.1]; exact HL.out.2.2) hx hbad)
        rcases Int.lt_or_le x 0 with hx2 | hx2
        · clear hx hwf hbad hok
          go_wp2
          go_ret
          exact ⟨by rw [HM.out]; rfl, rfl⟩
        · have hx3 : 1048576 < x := by omega
          have hx2 : ¬ x < 0 := by omega
          clear hx hwf hbad hok
          go_wp2
          go_ret
          exact ⟨by rw [HM.out]; rfl, rfl⟩
    · obtain rfl : k = n := by omega
      have hokw : okW ws := by
        have := HL.out.1
        exact okTo.all (by rw [this]; exact hok)
      have HX := Lib.hid (rsum_any (s := pre ws k) HI.out hokw (by omega) rfl)
      by_cases hz : pre ws k = 0
      · have HM := Lib.hid (mayW_null (by rw [HL.out.1]; exact HL.out.2.1) (by rw [HL.out.1]; exact HL.out.2.2) hokw (by rw [HL.out.1]; exact hz))
        rw [hz] at HX
        clear hok hokw hz
        go_wp2_with (go_at_call 20; refine HX.out.mono ?_; rintro e w1 ⟨rfl, rfl⟩)
        go_ret
        exact ⟨by rw [HM.out]; rfl, rfl⟩
      · have HM := Lib.hid (show mayW ws = 0 by
          refine mayW_zero.2 ⟨by rw [HL.out.1]; exact HL.out.2.1, by rw [HL.out.1]; exact HL.out.2.2, hokw, ?_⟩
          have := (pre_le hokw k).1
          rw [HL.out.1]
          omega)
        obtain ⟨q, hq⟩ : ∃ q, pre ws k = q := ⟨_, rfl⟩
        rw [hq] at hz HX
        clear hok hokw hq
        go_wp2_with (go_at_call 20; refine HX.out.mono ?_; rintro e w1 ⟨rfl, rfl⟩)
        go_ret
        exact ⟨by rw [HM.out]; rfl, rfl⟩
theorem rpick_no (h : Il w A n c ws) (hw : Wt ws) (hr : ¬ (0 ≤ r ∧ r < pre ws ws.length)) :
    Calls Tryz.prog 14 #[.slice A n c, .int .i64 r] w fun e w' => e = .returned (.tuple #[.int .i64 ((0 : Nat) : Int), .int .i64 1]) ∧ w' = w := by
  have hl := h.len
  obtain ⟨s, hs⟩ : ∃ s, pre ws ws.length = s := ⟨_, rfl⟩
  have HS := Lib.hid (rsum_any (s := s) h hw.ok (by have := hw.l1; omega) (by rw [← hl]; exact hs))
  rw [hs] at hr
  clear h hw hs hl
  rcases Int.lt_or_le r 0 with h0 | h0
  · clear hr
    go_enter Tryz.func14, Tryz.ntmps14
    go_wp2_with (go_at_call 20; refine HS.out.mono ?_; rintro e w1 ⟨rfl, rfl⟩)
    go_ret2
    exact ⟨rfl, rfl⟩
  · have h1 : s ≤ r := by omega
    have h2 : ¬ r < 0 := by omega
    clear hr h0
    go_enter Tryz.func14, Tryz.ntmps14
    go_wp2_with (go_at_call 20; refine HS.out.mono ?_; rintro e w1 ⟨rfl, rfl⟩)
    go_ret2
    exact ⟨rfl, rfl⟩
theorem rpick_ok (h : Il w A n c ws) (hw : Wt ws) (hp : Pk ws r p) :
    Calls Tryz.prog 14 #[.slice A n c, .int .i64 r] w fun e w' => e = .returned (.tuple #[.int .i64 (p : Int), .int .i64 0]) ∧ w' = w := by
  have hl := h.len
  obtain ⟨s, hs⟩ : ∃ s, pre ws ws.length = s := ⟨_, rfl⟩
  have HS := Lib.hid (rsum_any (s := s) h hw.ok (by have := hw.l1; omega) (by rw [← hl]; exact hs))
  obtain ⟨q0, q1⟩ := hp.range hw.ok
  rw [hs] at q1
  have hr0 : ¬ r < 0 := by omega
  have hr1 : ¬ s ≤ r := by omega
  have HI := Lib.hid h
  have HW := Lib.hid hw
  have HP := Lib.hid hp
  have HN := Lib.hid (show p < n ∧ n ≤ 64 by have := hp.1; have := hw.l1; omega)
  clear h hw hp hs hl q0 q1
  go_enter Tryz.func14, Tryz.ntmps14
  go_wp2_with (first | (go_at_call 20; refine HS.out.mono ?_; rintro e w1 ⟨rfl, rfl⟩) | fail)
  go_loop [6, 7] (fun s i => ∃ k : Nat, k ≤ p ∧ s = .int .i64 (pre ws k) ∧ i = .int .i64 k) (fun _ i => n - (intOf i).toNat)
  case atStart => exact ⟨0, Nat.zero_le _, by rw [pre_zero], rfl⟩
  case round =>
    obtain ⟨k, hk, rfl, rfl⟩ := hrel
    have hlt : k < n := by have := HN.out; omega
    obtain ⟨ad, x, rfl, hx, hwf, hcw⟩ := HI.out.one hlt
    have hps := pre_succ hx
    have hle := pre_le HW.out.ok k
    have hxb := HW.out.ok x (List.mem_of_getElem? hx)
    have hfr := pk_front (k := k) HW.out.ok HP.out
    obtain ⟨q, hq⟩ : ∃ q, pre ws k = q := ⟨_, rfl⟩
    rw [hq] at hps hle
    have hwr : IntKind.i64.wrap (q + x) = q + x := by have := HN.out; rw [IntKind.wrap_i64]; omega
    have HPS := Lib.hid hps
    by_cases hpk : p ≤ k
    · obtain rfl : k = p := by omega
      have hgo : r < q + x := by rw [← hps]; exact hfr.2 hpk
      clear hx hwf hps hle hxb hfr hpk
      rw [hq]
      clear hq
      go_wp2
      go_ret2
      exact ⟨rfl, rfl⟩
    · have hgo : ¬ r < q + x := by rw [← hps]; exact fun e => hpk (hfr.1 e)
      have hn9 : n ≤ 64 := HN.out.2
      have HK := Lib.hid (show k + 1 ≤ p ∧ n - (k + 1) < n - k by omega)
      clear hx hwf hps hle hxb hfr
      rw [hq]
      clear hq
      go_wp2
      go_round
      case rel => exact ⟨k + 1, HK.out.1, by rw [HPS.out], by go_num⟩
      case measure => have := HK.out.2; simp [intOf]; omega
theorem rdraw10_any {gc a v a2 m q : Nat} {gd o o2 : Bool} {l : List UInt8} (h : Il w A n c ws) (hw : Wt ws) (hc : RuOk w gc l a o) (hB : isB l = true) (ha : a ≤ l.length) (hm : pre ws ws.length = (m : Int)) (hd : dr l a o m = (v, gd, a2, o2)) (hA : ∀ (W : World), w.grownBy W (some gc) → Il W A n c ws) (hq : (gd = true ∧ Pk ws (v : Int) q) ∨ (gd = false ∧ q = 0)) :
    Calls Tryz.prog 24 #[.slice A n c, .pointer (some ⟨gc, 0, none⟩)] w fun e w' => e = .returned (.tuple #[.int .i64 (q : Int), .bool gd]) ∧ w.grownBy w' (some gc) ∧ RuOk w' gc l a2 o2 := by
  have hm9 : (m : Int) ≤ 67108864 := by rw [← hm]; exact (hw.le (Nat.le_refl _)).2.2
  have hl := h.len
  have HS := Lib.hid (rsum_any (s := (m : Int)) h hw.ok (by have := hw.l1; omega) (by rw [← hl]; exact hm))
  have hcw : IntKind.u64.wrap (m : Int) = (m : Int) := by rw [IntKind.wrap_u64]; omega
  have HD := Lib.hid (rdraw_any hc hB ha (by omega) hd)
  have HT := Lib.hid hA
  rcases hq with ⟨rfl, hp⟩ | ⟨rfl, rfl⟩
  · have hvw : IntKind.i64.wrap (v : Int) = (v : Int) := by
      have := hp.range hw.ok
      rw [hm] at this
      rw [IntKind.wrap_i64]
      omega
    have HI := Lib.hid (fun (W : World) (hT : Il W A n c ws) => rpick_ok hT hw hp)
    clear h hw hc hB ha hm hd hp hm9 hA hl
    go_enter Tryz.func24, Tryz.ntmps24
    go_wp2_with (first
      | (go_at_call 20; refine HS.out.mono ?_; rintro e w1 ⟨rfl, rfl⟩)
      | (go_at_call 45; refine HD.out.mono ?_; rintro e w2 ⟨rfl, hg2, hc2⟩; have HG2 := Lib.hid hg2; have HC2 := Lib.hid hc2; clear hg2 hc2)
      | (go_at_call 14; refine (HI.out _ (HT.out _ HG2.out)).mono ?_; rintro e w3 ⟨rfl, rfl⟩))
    go_ret2
    exact ⟨rfl, HG2.out, HC2.out⟩
  · clear h hw hc hB ha hm hd hm9 hA hl
    go_enter Tryz.func24, Tryz.ntmps24
    go_wp2_with (first
      | (go_at_call 20; refine HS.out.mono ?_; rintro e w1 ⟨rfl, rfl⟩)
      | (go_at_call 45; refine HD.out.mono ?_; rintro e w2 ⟨rfl, hg2, hc2⟩; have HG2 := Lib.hid hg2; have HC2 := Lib.hid hc2; clear hg2 hc2))
    go_ret2
    exact ⟨rfl, HG2.out, HC2.out⟩
end
end Go.Proofs.YtolfjhfmcgibbaaGreatDoor
/- What the document's Cost and Share of layer 10 answer over this translation (mk_frerefs.py). -/
namespace Go.Proofs.YtolfjhfmcgibbaaGreatDoor
open Go.RowKit
set_option linter.unusedVariables false
set_option linter.unusedSimpArgs false
set_option maxRecDepth 20000
open N
open RC
section
variable {w0 v0 w w' : World} {S O : List Ent} {T : List Blk} {A : Option Addr} {n c : Nat} {ws : List Int}
theorem rsum_c (h : SC w0 v0 w S T O) (hI : Il w0 A n c ws) (hok : okW ws) (hn : n ≤ 200) {s : Int} (hs : pre ws n = s) :
    Calls Tryz.prog 20 #[.slice A n c] w fun e w' => e = .returned (.int .i64 s) ∧ SC w0 v0 w' S T O := by
  refine (rsum_any (hI.below h.st.1) hok hn hs).mono ?_
  rintro e w' ⟨rfl, rfl⟩
  exact ⟨rfl, h⟩
theorem r6over_c (h : SC w0 v0 w S T O) {x y : Int} (hx1 : -9223372036854775808 ≤ x) (hx2 : x ≤ 9223372036854775807) (hy1 : -9223372036854775808 ≤ y) (hy2 : y ≤ 9223372036854775807) (hy : 0 < y) {r : Rat} (hr : mkRat x y.toNat = r) :
    Calls Tryz.prog 40 #[.int .i64 x, .int .i64 y] w fun e w' => ∃ A n c A' n' c', e = .returned (.tuple #[.agg #[.bool (sg r.num), .slice A n c, .slice A' n' c'], .int .i64 0]) ∧
      SC w0 v0 w' (⟨A, n, c, 1, limbs (mg r.num), mg r.num⟩ :: ⟨A', n', c', 1, limbs r.den, r.den⟩ :: S) T (⟨A, n, c, 1, limbs (mg r.num), mg r.num⟩ :: ⟨A', n', c', 1, limbs r.den, r.den⟩ :: O) :=
  (r6over_pos w hx1 hx2 hy1 hy2 hy hr).mono fun e w' ho => h.rRE (Nat.le_refl _) ho
theorem rnew10_no {l : List UInt8} (h : CS w0 w T) (hl : l.length ≤ maxLen) (hB : isB l = false) :
    Calls Tryz.prog 22 #[.string ⟨l.toArray⟩] w fun e w' => e = .returned (.tuple #[.pointer none, .int .i64 3]) ∧ CS w0 w' T := by
  refine (rnew_no w l hl hB).mono ?_
  rintro e w' ⟨rfl, rfl⟩
  exact ⟨rfl, h⟩
theorem rdraw10_s {gc a a2 m v q : Nat} {gd o o2 : Bool} {l : List UInt8} (h : CS w0 w T) (k : Nat) (hk : T[k]? = some (R gc l a o)) (hI : Il w0 A n c ws) (hw : Wt ws) (hB : isB l = true) (ha : a ≤ l.length) (hm : pre ws ws.length = (m : Int)) (hd : dr l a o m = (v, gd, a2, o2)) (hq : (gd = true ∧ Pk ws (v : Int) q) ∨ (gd = false ∧ q = 0)) :
    Calls Tryz.prog 24 #[.slice A n c, .pointer (some ⟨gc, 0, none⟩)] w fun e w' => e = .returned (.tuple #[.int .i64 (q : Int), .bool gd]) ∧ CS w0 w' (T.set k (R gc l a2 o2)) := by
  refine (rdraw10_any (hI.below h.bl) hw (h.get k hk) hB ha hm hd (fun W hg => hI.below (grown_below10 h.bl (h.ge_ k hk) hg)) hq).mono ?_
  rintro e w' ⟨rfl, hg, hc⟩
  exact ⟨rfl, h.turn k hk hg hc⟩
end
theorem rcost10 {w : World} {A : Option Addr} {n c m : Nat} {ws : List Int} {r : Rat} (h : Il w A n c ws) (hw : Wt ws) (hm : pre ws ws.length = (m : Int)) (hr : cR m = r) :
    Calls Tryz.prog 28 #[.slice A n c] w (OutR w 4 r) := by
  have hl := h.len
  have hm9 := hw.le (Nat.le_refl _)
  have hm8 := hw.pos
  have hl1 := hw.l1
  rw [hm] at hm9 hm8
  have hs : pre ws n = (m : Int) := by rw [← hl]; exact hm
  have hn : n ≤ 200 := by omega
  have hcw : IntKind.u64.wrap (m : Int) = (m : Int) := by rw [IntKind.wrap_u64]; omega
  have hm0 : m < 18446744073709551616 := by omega
  have hm1 : 0 < m := by omega
  have HI := Lib.hid h
  have HW := Lib.hid hw
  clear hm9 hm8 hm h hw hl hl1
  have hS := Lib.hid (SC.start w)
  go_enter Tryz.func28, Tryz.ntmps28
  have h1 := (hS.out.boxed (vs := [.bool false, .slice none 0 0, .slice none 0 0]) (ty := 37) rfl rfl)
  try simp only [World.size_alloc] at h1
  obtain ⟨p0_0, p1_0, p2_0⟩ := h1.cs3 0 rfl
  clear h1
  go_wp2_with fail
  clear p0_0 p1_0 p2_0
  generalize hwa : World.alloc w _ = v1
  have h1 := (hS.out.boxed (vs := [.bool false, .slice none 0 0, .slice none 0 0]) (ty := 37) rfl hwa)
  have hsz : v1.heap.size = w.heap.size + 1 := by rw [← hwa]; simp only [World.size_alloc]
  try rw [← hsz]
  clear hwa hsz
  clear hS; have hS := Lib.hid h1; clear h1
  obtain ⟨x0_0, x1_0, x2_0⟩ := hS.out.cs3 0 rfl
  go_wp2_with fail
  go_at_call 20
  with_reducible refine (rsum_c hS.out HI.out HW.out.ok hn hs).mono ?_
  rintro e v2 ⟨rfl, h1⟩
  clear x0_0 x1_0 x2_0
  clear hS; have hS := Lib.hid h1; clear h1
  obtain ⟨x0_0, x1_0, x2_0⟩ := hS.out.cs3 0 rfl
  go_wp2_with fail
  go_at_call 46
  with_reducible refine (rcost_any _ m hm0 hm1).mono ?_
  rintro e v3 ho
  clear x0_0 x1_0 x2_0
  rw [hr] at ho
  obtain ⟨A1, n1, c1, A2, n2, c2, rfl, h1⟩ := hS.out.rRE (Nat.le_refl _) ho
  clear hS; have hS := Lib.hid h1; clear h1
  obtain ⟨x0_0, x1_0, x2_0⟩ := hS.out.cs3 0 rfl
  have hm0 := hS.out.boxed (vs := [.bool (sg r.num), .slice A1 n1 c1, .slice A2 n2 c2]) (ty := 37) rfl rfl
  try simp only [World.size_alloc] at hm0
  obtain ⟨m00_0, m01_0, m02_0⟩ := hm0.cs3 0 rfl
  obtain ⟨m00_1, m01_1, m02_1⟩ := hm0.cs3 1 rfl
  have hp0 := hm0.put3 1 rfl (hm0.ge_ 1 rfl) (.bool (sg r.num)) (.slice A1 n1 c1) (.slice A2 n2 c2)
  simp only [List.set_cons_zero, List.set_cons_succ] at hp0
  have fz0_0 := hm0.frs 1 rfl 0
  have fz0_1 := hm0.frs 1 rfl 1
  have fz0_2 := hm0.frs 1 rfl 2
  have HPUT := Lib.hid hp0
  clear hp0
  clear hm0
  go_wp2_with fail
  refine bodyPost_ret (results_B rfl rfl (loadR (HPUT.out.box _ (List.mem_of_getElem? (i := 1) rfl)))) rfl ?_
  exact HPUT.out.toR10 (r := r) (by repeat (first | exact List.mem_cons_self | apply List.mem_cons_of_mem)) (by repeat (first | exact List.mem_cons_self | apply List.mem_cons_of_mem)) (by repeat (first | exact List.mem_cons_self | apply List.mem_cons_of_mem)) (by repeat (first | exact List.mem_cons_self | apply List.mem_cons_of_mem)) (by omega) (by omega) rfl rfl rfl
theorem rshare_no {w : World} {A : Option Addr} {n c : Nat} {z : Int} (hz : ¬ (0 ≤ z ∧ z < n)) :
    Calls Tryz.prog 16 #[.slice A n c, .int .i64 z] w (OutRZ w 1) := by
  rcases Int.lt_or_le z 0 with h0 | h0
  · clear hz
    have hS := Lib.hid (SC.start w)
    go_enter Tryz.func16, Tryz.ntmps16
    have hm0 := hS.out.boxed (vs := [.bool false, .slice none 0 0, .slice none 0 0]) (ty := 37) rfl rfl
    obtain ⟨m0, m1, m2⟩ := hm0.cs3 0 rfl
    have f0 := hm0.frs 0 rfl 0
    have f1 := hm0.frs 0 rfl 1
    have f2 := hm0.frs 0 rfl 2
    have HM := Lib.hid hm0
    clear hm0
    go_wp2_with fail
    refine bodyPost_ret (results_B2 rfl rfl rfl (loadR (HM.out.box _ (List.mem_of_getElem? (i := 0) rfl)))) rfl ?_
    exact ⟨rfl, HM.out.bl⟩
  · have h1 : (n : Int) ≤ z := by omega
    have h2 : ¬ z < 0 := by omega
    clear hz h0
    have hS := Lib.hid (SC.start w)
    go_enter Tryz.func16, Tryz.ntmps16
    have hm0 := hS.out.boxed (vs := [.bool false, .slice none 0 0, .slice none 0 0]) (ty := 37) rfl rfl
    obtain ⟨m0, m1, m2⟩ := hm0.cs3 0 rfl
    have f0 := hm0.frs 0 rfl 0
    have f1 := hm0.frs 0 rfl 1
    have f2 := hm0.frs 0 rfl 2
    have HM := Lib.hid hm0
    clear hm0
    go_wp2_with fail
    refine bodyPost_ret (results_B2 rfl rfl rfl (loadR (HM.out.box _ (List.mem_of_getElem? (i := 0) rfl)))) rfl ?_
    exact ⟨rfl, HM.out.bl⟩
set_option maxHeartbeats 1000000 in
theorem rshare_ok {w : World} {A : Option Addr} {n c iq : Nat} {ws : List Int} {r : Rat} {x s : Int} (h : Il w A n c ws) (hw : Wt ws) (hx : ws[iq]? = some x) (hs0 : pre ws ws.length = s) (hr : mkRat x s.toNat = r) :
    Calls Tryz.prog 16 #[.slice A n c, .int .i64 (iq : Int)] w (OutRE w 1 r 0) := by
  have hl := h.len
  have hl1 := hw.l1
  have hi9 : iq < n := by rw [← hl]; exact (List.getElem?_eq_some_iff.1 hx).1
  have hn : n ≤ 200 := by omega
  have hs : pre ws n = s := by rw [← hl]; exact hs0
  have b3 := hw.pos
  have b4 := hw.le (Nat.le_refl _)
  rw [hs0] at b3 b4
  have hxb := hw.ok x (List.mem_of_getElem? hx)
  have hx1 : -9223372036854775808 ≤ x := by omega
  have hx2 : x ≤ 9223372036854775807 := by omega
  have hy1 : -9223372036854775808 ≤ s := by omega
  have hy2 : s ≤ 9223372036854775807 := by omega
  have hy0 : 0 < s := by omega
  have hi0 : ¬ (iq : Int) < 0 := by omega
  have hi1 : ¬ (n : Int) ≤ (iq : Int) := by omega
  obtain ⟨ad, rfl⟩ : ∃ ad, A = some ad := by
    obtain ⟨ad, e, _⟩ := h.at' iq hi9
    exact ⟨ad, e⟩
  have HI := Lib.hid h
  have HW := Lib.hid hw
  have HX := Lib.hid hx
  clear h hw hx hs0 b3 b4 hl hl1 hxb
  have hS := Lib.hid (SC.start w)
  go_enter Tryz.func16, Tryz.ntmps16
  have h1 := (hS.out.boxed (vs := [.bool false, .slice none 0 0, .slice none 0 0]) (ty := 37) rfl rfl)
  try simp only [World.size_alloc] at h1
  obtain ⟨p0_0, p1_0, p2_0⟩ := h1.cs3 0 rfl
  clear h1
  go_wp2_with fail
  clear p0_0 p1_0 p2_0
  generalize hwa : World.alloc w _ = v1
  have h1 := (hS.out.boxed (vs := [.bool false, .slice none 0 0, .slice none 0 0]) (ty := 37) rfl hwa)
  have hsz : v1.heap.size = w.heap.size + 1 := by rw [← hwa]; simp only [World.size_alloc]
  try rw [← hsz]
  clear hwa hsz
  clear hS; have hS := Lib.hid h1; clear h1
  obtain ⟨x0_0, x1_0, x2_0⟩ := hS.out.cs3 0 rfl
  go_wp2_with fail
  clear x0_0 x1_0 x2_0
  refine wp_region_rc (fs [[.val 15 (mV (.slice (some ad) n c))], [.val 16 (mV (.int .i64 (iq : Int)))], [.val 17 (mV (.pointer (some (ad.add iq))))], [.val 18 (mV (.int .i64 x))], [.val 19 (mV (.slice (some ad) n c))], [.val 20 (mV (.int .i64 s))], [.val 21 (mR2 (r) (1) (0))], [.val 22 (mR (r) (1))], [.val 23 (mV (.int .i64 (0)))], [.old 0 (mR (r) (1))], [.val 5 (mV (.int .i64 (0)))]]) [5, 15, 16, 17, 18, 19, 20, 21, 22, 23] hS.out ?_ (by kernel_rfl) ?_ (fun j hj => fs_big hj)
  · intro i hi L a w' S Bn T1 O D hp hno hni
    match i, hi with
    | 0, _ =>
      have p : a.eval (.tmp 0) = .slice (some ad) n c := D.at0 rfl rfl
      exact st_pure (v := .slice (some ad) n c) D hno rfl rfl rfl (by simp only [Act.eval] at p; simp only [execOp, Act.eval]; go_simp) (of_decide_eq_true rfl) (of_decide_eq_true rfl) (by kernel_rfl) rfl rfl
    | 1, _ =>
      have p : a.eval (.tmp 1) = .int .i64 (iq : Int) := D.at0 rfl rfl
      exact st_pure (v := .int .i64 (iq : Int)) D hno rfl rfl rfl (by simp only [Act.eval] at p; simp only [execOp, Act.eval]; go_simp) (of_decide_eq_true rfl) (of_decide_eq_true rfl) (by kernel_rfl) rfl rfl
    | 2, _ =>
      have p15 : a.eval (.tmp 15) = .slice (some ad) n c := D.vt (hp 0 (by kernel_rfl)) rfl
      have p16 : a.eval (.tmp 16) = .int .i64 (iq : Int) := D.vt (hp 1 (by kernel_rfl)) rfl
      exact st_pure (v := .pointer (some (ad.add iq))) D hno rfl rfl rfl (by simp only [Act.eval] at p15 p16; simp only [execOp, Act.eval]; go_simp) (of_decide_eq_true rfl) (of_decide_eq_true rfl) (by kernel_rfl) rfl rfl
    | 3, _ =>
      have p17 : a.eval (.tmp 17) = .pointer (some (ad.add iq)) := D.vt (hp 2 (by kernel_rfl)) rfl
      have hcell : w'.cell? (ad.add iq) = some (.int .i64 x) := (HI.out.below D.sc.st.1).the hi9 HX.out
      exact st_pure (v := .int .i64 x) D hno rfl rfl rfl (by simp only [Act.eval] at p17; simp only [execOp, Act.eval]; go_simp) (of_decide_eq_true rfl) (of_decide_eq_true rfl) (by kernel_rfl) rfl rfl
    | 4, _ =>
      have p : a.eval (.tmp 0) = .slice (some ad) n c := D.at0 rfl rfl
      exact st_pure (v := .slice (some ad) n c) D hno rfl rfl rfl (by simp only [Act.eval] at p; simp only [execOp, Act.eval]; go_simp) (of_decide_eq_true rfl) (of_decide_eq_true rfl) (by kernel_rfl) rfl rfl
    | 5, _ =>
      have pq0 : a.eval (.tmp 19) = .slice (some ad) n c := D.vt (hp 4 (by kernel_rfl)) rfl
      have hv : #[Operand.tmp 19].map a.eval = #[.slice (some ad) n c] := by simp only [List.map_toArray, List.map_cons, List.map_nil, pq0]
      refine st_call D hno rfl hv Tryz.func20 (by kernel_rfl) rfl (rsum_c D.sc HI.out HW.out.ok hn hs) (of_decide_eq_true rfl) (of_decide_eq_true rfl) (by kernel_rfl) rfl ?_
      rintro e w2 ⟨rfl, h1⟩
      exact ⟨_, _, _, rfl, h1, fun t ht => ht, fun t ht => ht, rfl⟩
    | 6, _ =>
      have pq0 : a.eval (.tmp 18) = .int .i64 x := D.vt (hp 3 (by kernel_rfl)) rfl
      have pq1 : a.eval (.tmp 20) = .int .i64 s := D.vt (hp 5 (by kernel_rfl)) rfl
      have hv : #[Operand.tmp 18, Operand.tmp 20].map a.eval = #[.int .i64 x, .int .i64 s] := by simp only [List.map_toArray, List.map_cons, List.map_nil, pq0, pq1]
      refine st_call D hno rfl hv Tryz.func40 (by kernel_rfl) rfl (r6over_c D.sc hx1 hx2 hy1 hy2 hy0 hr) (of_decide_eq_true rfl) (of_decide_eq_true rfl) (by kernel_rfl) rfl ?_
      rintro e w2 ⟨A, n, c, A', n', c', rfl, h1⟩
      exact ⟨_, _, _, rfl, h1, fun t ht => List.mem_cons_of_mem _ (List.mem_cons_of_mem _ ht), fun t ht => List.mem_cons_of_mem _ (List.mem_cons_of_mem _ ht), ⟨A, n, c, A', n', c', rfl, List.mem_cons_self, List.mem_cons_of_mem _ List.mem_cons_self, List.mem_cons_self, List.mem_cons_of_mem _ List.mem_cons_self⟩⟩
    | 7, _ =>
      obtain ⟨Aq, nq, cq, Aq', nq', cq', eq, mq, mq', oq, oq'⟩ := D.vt (t := 21) (hp 6 (by kernel_rfl)) rfl
      exact st_pure (v := .agg #[.bool (sg (r).num), .slice Aq nq cq, .slice Aq' nq' cq']) D hno rfl rfl rfl (by simp only [Act.eval] at eq; simp only [execOp, Act.eval]; go_simp) (of_decide_eq_true rfl) (of_decide_eq_true rfl) (by kernel_rfl) rfl ⟨_, _, _, _, _, _, rfl, mq, mq', oq, oq'⟩
    | 8, _ =>
      obtain ⟨Aq, nq, cq, Aq', nq', cq', eq, mq, mq', oq, oq'⟩ := D.vt (t := 21) (hp 6 (by kernel_rfl)) rfl
      exact st_pure (v := .int .i64 (0)) D hno rfl rfl rfl (by simp only [Act.eval] at eq; simp only [execOp, Act.eval]; go_simp) (of_decide_eq_true rfl) (of_decide_eq_true rfl) (by kernel_rfl) rfl rfl
    | 9, _ =>
      obtain ⟨Aq, nq, cq, Aq', nq', cq', eq, mq, mq', oq, oq'⟩ := D.vt (t := 22) (hp 7 (by kernel_rfl)) rfl
      have p : a.eval (.tmp 4) = .pointer (some ⟨w.heap.size, 0, none⟩) := D.at0 rfl rfl
      exact st_put (m := mR (r) (1)) (i0 := 0) D hni rfl (by decide) rfl ((hS.out.ge_ 0 rfl)) p eq (⟨_, _, _, _, _, _, rfl, mq, mq', oq, oq'⟩) (by kernel_rfl) rfl infoRat rfl (by simp [Value.oneCell'])
    | 10, _ =>
      have p : a.eval (.tmp 23) = .int .i64 (0) := D.vt (hp 8 (by kernel_rfl)) rfl
      exact st_pure (v := .int .i64 (0)) D hno rfl rfl rfl (by simp only [Act.eval] at p; simp only [execOp, Act.eval]; go_simp) (of_decide_eq_true rfl) (of_decide_eq_true rfl) (by kernel_rfl) rfl rfl
    | i + 11, hi => exact absurd hi (by show ¬ (i + 11 < 11); omega)
  · intro a w5 S Bn T1 O hfr hsc hs0 ho0 htags hgs hkeep hf
    obtain ⟨QP, hQP, AP, nP, cP, AP', nP', cP', evP, mP, mP', oP, oP'⟩ : Ft.ok a S O Bn T1 (.old 0 (mR (r) (1))) := hf 9 (by decide) _ (List.mem_singleton.2 rfl)
    have hgP := blk_eq (g_old hgs (i := 0) rfl hQP) evP
    rw [hgP] at hQP
    have ek5 : a.eval (.tmp 5) = .int .i64 (0) := hf 10 (by decide) _ (List.mem_singleton.2 rfl)
    obtain rfl := list_1 (by simpa using congrArg List.length hgs) hQP
    have h1 := end_old hsc (mem_more mP' (mem_more mP hs0)) (mem_more oP' (mem_more oP ho0))
    obtain ⟨tyP, htyP⟩ : ∃ t, QP.ty = t := ⟨_, rfl⟩
    rw [htyP] at h1
    clear htyP
    have hc := hfr.closed
    simp only [List.map_cons, List.map_nil] at hc
    rw [ek5] at hc
    clear hfr hsc hs0 ho0 htags hgs hkeep hf
    clear mP
    clear mP'
    clear oP
    clear oP'
    clear hQP hgP evP QP
    clear ek5
    generalize a.eval (.tmp 15) = u15_ at hc
    generalize a.eval (.tmp 16) = u16_ at hc
    generalize a.eval (.tmp 17) = u17_ at hc
    generalize a.eval (.tmp 18) = u18_ at hc
    generalize a.eval (.tmp 19) = u19_ at hc
    generalize a.eval (.tmp 20) = u20_ at hc
    generalize a.eval (.tmp 21) = u21_ at hc
    generalize a.eval (.tmp 22) = u22_ at hc
    generalize a.eval (.tmp 23) = u23_ at hc
    subst hc
    clear hS; have hS := Lib.hid h1; clear h1
    simp only [putAll, List.foldl_cons, List.foldl_nil, Act.put, List.setIfInBounds_toArray, List.set_cons_zero, List.set_cons_succ]
    go_wp2_with fail
    refine bodyPost_ret (results_B2 rfl rfl rfl (loadR (hS.out.box _ (List.mem_of_getElem? (i := 0) rfl)))) rfl ?_
    exact hS.out.toRE2 (r := r) (by repeat (first | exact List.mem_cons_self | apply List.mem_cons_of_mem)) (by repeat (first | exact List.mem_cons_self | apply List.mem_cons_of_mem)) (by repeat (first | exact List.mem_cons_self | apply List.mem_cons_of_mem)) (by repeat (first | exact List.mem_cons_self | apply List.mem_cons_of_mem)) (by omega) (by omega) rfl rfl rfl
end Go.Proofs.YtolfjhfmcgibbaaGreatDoor
