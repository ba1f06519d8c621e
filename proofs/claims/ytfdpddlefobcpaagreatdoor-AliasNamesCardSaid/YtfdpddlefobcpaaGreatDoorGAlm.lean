/- Gathered: FreMath, I64Open, FreProg. -/
import Derived.Test.YtfdpddlefobcpaaGreatDoorGMem
import Derived.Test.YtfdpddlefobcpaaGreatDoorGFrame
import Derived.ChangeSlices
import Derived.Test.YtfdpddlefobcpaaGreatDoorBlk
import Derived.Deep.RegionWith
/- Weights: their sums from the front on, which place a number picks, what is wrong of them; rows of numbers in memory. No function of the program. -/
namespace Go.Proofs.YtfdpddlefobcpaaGreatDoor
open Go.RowKit
set_option linter.unusedVariables false
set_option linter.unusedSimpArgs false
namespace N
/-- the sum of the first k weights -/
def pre : List Int → Nat → Int
  | [], _ => 0
  | _ :: _, 0 => 0
  | x :: t, k + 1 => x + pre t k
section
variable {ws vs : List Int} {x r : Int} {i j k : Nat}
theorem pre_zero : pre ws 0 = 0 := by cases ws <;> rfl
theorem pre_nil : pre [] k = 0 := by cases k <;> rfl
theorem pre_succ (h : ws[k]? = some x) : pre ws (k + 1) = pre ws k + x := by
  induction ws generalizing k with
  | nil => simp at h
  | cons y t ih =>
    cases k with
    | zero =>
      simp only [List.getElem?_cons_zero, Option.some.injEq] at h
      simp [pre, pre_zero, h]
    | succ k =>
      simp only [List.getElem?_cons_succ] at h
      rw [pre, pre, ih h]
      omega
theorem pre_over (h : ws.length ≤ k) : pre ws k = pre ws ws.length := by
  induction ws generalizing k with
  | nil => rw [pre_nil, pre_nil]
  | cons y t ih =>
    cases k with
    | zero => simp at h
    | succ k => rw [List.length_cons, pre, pre, ih (by simpa using h)]
def okW (ws : List Int) : Prop := ∀ x ∈ ws, 0 ≤ x ∧ x ≤ 1048576
instance : Decidable (okW ws) := by unfold okW; infer_instance
theorem okW.at (h : okW ws) (hk : k < ws.length) : ∃ x, ws[k]? = some x ∧ 0 ≤ x ∧ x ≤ 1048576 := ⟨ws[k], List.getElem?_eq_getElem hk, h _ (List.getElem_mem hk)⟩
theorem pre_step (h : okW ws) (k : Nat) : pre ws k ≤ pre ws (k + 1) ∧ pre ws (k + 1) ≤ pre ws k + 1048576 := by
  rcases Nat.lt_or_ge k ws.length with hk | hk
  · obtain ⟨x, hx, h0, h1⟩ := h.at hk
    rw [pre_succ hx]
    omega
  · rw [pre_over hk, pre_over (k := k + 1) (by omega)]
    omega
theorem pre_mono (h : okW ws) (hij : i ≤ j) : pre ws i ≤ pre ws j := by
  induction hij with
  | refl => exact Int.le_refl _
  | step _ ih => exact Int.le_trans ih (pre_step h _).1
theorem pre_le (h : okW ws) (k : Nat) : 0 ≤ pre ws k ∧ pre ws k ≤ 1048576 * (k : Int) := by
  induction k with
  | zero => rw [pre_zero]; omega
  | succ k ih =>
    have := pre_step h k
    omega
structure Wt (ws : List Int) : Prop where
  l0 : 0 < ws.length
  l1 : ws.length ≤ 64
  ok : okW ws
  pos : 0 < pre ws ws.length
theorem Wt.le (h : Wt ws) (hk : k ≤ ws.length) : 0 ≤ pre ws k ∧ pre ws k ≤ pre ws ws.length ∧ pre ws k ≤ 67108864 := by
  have h1 := pre_le h.ok k
  have h2 := h.l1
  exact ⟨h1.1, pre_mono h.ok hk, by omega⟩
/-- what is wrong of weights -/
def mayW (ws : List Int) : Int := if ws.length = 0 then 4 else if 64 < ws.length then 5 else if ¬ okW ws then 1 else if pre ws ws.length = 0 then 7 else 0
theorem mayW_zero : mayW ws = 0 ↔ Wt ws := by
  unfold mayW
  constructor
  · intro h
    split at h
    · cases h
    split at h
    · cases h
    split at h
    · cases h
    split at h
    · cases h
    · rename_i h1 h2 h3 h4
      have h3 := Decidable.not_not.1 h3
      have := (pre_le h3 ws.length).1
      exact ⟨by omega, by omega, h3, by omega⟩
  · intro h
    have h1 := h.l0
    have h2 := h.l1
    have h3 := h.pos
    rw [if_neg (by omega), if_neg (by omega), if_neg (fun e => e h.ok), if_neg (by omega)]
theorem mayW_ways (h : ¬ Wt ws) : ∃ e : Int, mayW ws = e ∧ ¬ e = 0 ∧ 0 ≤ e ∧ e ≤ 7 := by
  refine ⟨_, rfl, fun e => h (mayW_zero.1 e), ?_⟩
  unfold mayW
  (repeat' split) <;> decide
/-- the first k weights may be -/
def okTo (ws : List Int) (k : Nat) : Prop := ∀ j x, j < k → ws[j]? = some x → 0 ≤ x ∧ x ≤ 1048576
theorem okTo.zero : okTo ws 0 := fun j x h => absurd h (Nat.not_lt_zero _)
theorem okTo.succ (h : okTo ws k) (hx : ws[k]? = some x) (h0 : 0 ≤ x) (h1 : x ≤ 1048576) : okTo ws (k + 1) := fun j y hj hy => by
  rcases Nat.lt_or_ge j k with e | e
  · exact h j y e hy
  · obtain rfl : j = k := by omega
    rw [hx] at hy
    injection hy with hy
    subst hy
    exact ⟨h0, h1⟩
theorem okTo.all (h : okTo ws ws.length) : okW ws := fun x hx => by
  obtain ⟨j, hj⟩ := List.getElem?_of_mem hx
  exact h j x (List.getElem?_eq_some_iff.1 hj).1 hj
theorem okTo.le (h : okTo ws k) (hk : k ≤ ws.length) : 0 ≤ pre ws k ∧ pre ws k ≤ 1048576 * (k : Int) := by
  induction k with
  | zero => rw [pre_zero]; omega
  | succ k ih =>
    have hx : ws[k]? = some ws[k] := List.getElem?_eq_getElem (by omega)
    have h1 := h k _ (Nat.lt_succ_self k) hx
    have h2 := ih (fun j y hj hy => h j y (by omega) hy) (by omega)
    rw [pre_succ hx]
    omega
theorem mayW_bad (h0 : 0 < ws.length) (h1 : ws.length ≤ 64) (hx : ws[k]? = some x) (hb : ¬ (0 ≤ x ∧ x ≤ 1048576)) : mayW ws = 1 := by
  unfold mayW
  rw [if_neg (by omega), if_neg (by omega), if_pos (fun e => hb (e x (List.mem_of_getElem? hx)))]
theorem mayW_null (h0 : 0 < ws.length) (h1 : ws.length ≤ 64) (h : okW ws) (hz : pre ws ws.length = 0) : mayW ws = 7 := by
  unfold mayW
  rw [if_neg (by omega), if_neg (by omega), if_neg (fun e => e h), if_pos hz]
/-- the number r picks the place i -/
def Pk (ws : List Int) (r : Int) (i : Nat) : Prop := i < ws.length ∧ pre ws i ≤ r ∧ r < pre ws (i + 1)
theorem pk_some (h0 : 0 ≤ r) (h1 : r < pre ws ws.length) : ∃ i, Pk ws r i := by
  have aux : ∀ n, n ≤ ws.length → r < pre ws n → ∃ i, Pk ws r i := by
    intro n
    induction n with
    | zero => intro _ h; rw [pre_zero] at h; omega
    | succ n ih =>
      intro hn h
      by_cases h2 : r < pre ws n
      · exact ih (by omega) h2
      · exact ⟨n, by omega, by omega, h⟩
  exact aux _ (Nat.le_refl _) h1
theorem Pk.one (h : okW ws) (a : Pk ws r i) (b : Pk ws r j) : i = j := by
  obtain ⟨_, a1, a2⟩ := a
  obtain ⟨_, b1, b2⟩ := b
  rcases Nat.lt_trichotomy i j with e | e | e
  · have := pre_mono h (show i + 1 ≤ j by omega); omega
  · exact e
  · have := pre_mono h (show j + 1 ≤ i by omega); omega
theorem Pk.range (h : okW ws) (a : Pk ws r i) : 0 ≤ r ∧ r < pre ws ws.length := by
  obtain ⟨a0, a1, a2⟩ := a
  have := pre_mono h (show i + 1 ≤ ws.length by omega)
  have := (pre_le h i).1
  omega
theorem Pk.mono {r' : Int} (h : okW ws) (a : Pk ws r i) (b : Pk ws r' j) (hr : r ≤ r') : i ≤ j := by
  rcases Nat.lt_or_ge j i with e | e
  · have := pre_mono h (show j + 1 ≤ i by omega)
    have := a.2.1
    have := b.2.2
    omega
  · exact e
/-- what a walk from the front sees -/
theorem pk_front (h : okW ws) (hp : Pk ws r i) : r < pre ws (k + 1) ↔ i ≤ k := by
  constructor
  · intro h1
    rcases Nat.lt_or_ge k i with e | e
    · have := pre_mono h (show k + 1 ≤ i by omega)
      have := hp.2.1
      omega
    · exact e
  · intro h1
    have := pre_mono h (show i + 1 ≤ k + 1 by omega)
    have := hp.2.2
    omega
theorem pre_app : pre (vs ++ ws) (vs.length + k) = pre vs vs.length + pre ws k := by
  induction vs with
  | nil => simp [pre_nil]
  | cons y t ih =>
    rw [List.cons_append, List.length_cons, Nat.add_right_comm, pre, ih, pre]
    omega
theorem pre_app_le (h : k ≤ vs.length) : pre (vs ++ ws) k = pre vs k := by
  induction vs generalizing k with
  | nil =>
    obtain rfl : k = 0 := by simpa using h
    rw [pre_zero, pre_zero]
  | cons y t ih =>
    cases k with
    | zero => rw [pre_zero, pre_zero]
    | succ k => rw [List.cons_append, pre, pre, ih (by simpa using h)]
theorem pre_map (c : Int) : pre (ws.map (· * c)) k = pre ws k * c := by
  induction ws generalizing k with
  | nil => simp [pre_nil]
  | cons y t ih =>
    cases k with
    | zero => simp [pre_zero]
    | succ k => rw [List.map_cons, pre, pre, ih, Int.add_mul]
end
section
variable {ws : List Int} {xs ys : List Int} {x y : Int} {k : Nat}
/-- the front written over already -/
theorem mix_get (hl : ys.length = xs.length) (hx : xs[k]? = some x) : (ys.take k ++ xs.drop k)[k]? = some x := by
  have hk := (List.getElem?_eq_some_iff.1 hx).1
  rw [List.getElem?_append_right (by rw [List.length_take]; omega), List.length_take, Nat.min_eq_left (by omega), Nat.sub_self, List.getElem?_drop, Nat.add_zero]
  exact hx
theorem mix_set (hl : ys.length = xs.length) (hy : ys[k]? = some y) : (ys.take k ++ xs.drop k).set k y = ys.take (k + 1) ++ xs.drop (k + 1) := by
  obtain ⟨hk, e⟩ := List.getElem?_eq_some_iff.1 hy
  rw [List.set_append_right _ _ (by rw [List.length_take]; omega), List.length_take, Nat.min_eq_left (by omega), Nat.sub_self, List.drop_eq_getElem_cons (by omega : k < xs.length), List.set_cons_zero, List.take_succ_eq_append_getElem hk, e, List.append_assoc]
  rfl
theorem wt_map {b : Int} (h : Wt ws) (h0 : 0 < b) (h1 : b ≤ 255) : mayW (ws.map (· * b)) = 1 ∨ Wt (ws.map (· * b)) := by
  by_cases hok : okW (ws.map (· * b))
  · right
    refine ⟨by rw [List.length_map]; exact h.l0, by rw [List.length_map]; exact h.l1, hok, ?_⟩
    rw [List.length_map, pre_map]
    exact Int.mul_pos h.pos h0
  · left
    have a1 := h.l0
    have a2 := h.l1
    unfold mayW
    rw [List.length_map, if_neg (by omega), if_neg (by omega), if_pos hok]
end
/-- a row of numbers -/
def row (n : Nat) (f : Nat → Int) : List Value := (List.range n).map fun k => .int .i64 (f k)
section
variable {n k : Nat} {f g : Nat → Int}
theorem row_length : (row n f).length = n := by simp [row]
theorem row_get (h : k < n) : (row n f)[k]? = some (.int .i64 (f k)) := by simp [row, h]
theorem row_congr (h : ∀ k, k < n → f k = g k) : row n f = row n g := by
  apply List.ext_getElem?
  intro k
  rcases Nat.lt_or_ge k n with hk | hk
  · rw [row_get hk, row_get hk, h k hk]
  · rw [List.getElem?_eq_none (by rw [row_length]; exact hk), List.getElem?_eq_none (by rw [row_length]; exact hk)]
theorem row_set (x : Int) : (row n f).set k (.int .i64 x) = row n (fun j => if j = k then x else f j) := by
  apply List.ext_getElem?
  intro j
  rcases Nat.lt_or_ge j n with hj | hj
  · by_cases e : k = j
    · subst e
      rw [List.getElem?_set_self (by rw [row_length]; exact hj), row_get hj, if_pos rfl]
    · rw [List.getElem?_set_ne e, row_get hj, row_get hj, if_neg (fun h => e h.symm)]
  · rw [List.getElem?_eq_none (by rw [List.length_set, row_length]; exact hj), List.getElem?_eq_none (by rw [row_length]; exact hj)]
theorem row_zero : row n (fun _ => 0) = List.replicate n (.int .i64 0) := by
  apply List.ext_getElem?
  intro j
  rcases Nat.lt_or_ge j n with hj | hj
  · rw [row_get hj, List.getElem?_replicate, if_pos hj]
  · rw [List.getElem?_eq_none (by rw [row_length]; exact hj), List.getElem?_eq_none (by rw [List.length_replicate]; exact hj)]
end
end N
end Go.Proofs.YtfdpddlefobcpaaGreatDoor
/- A slice of int64s that comes in as an argument, opened. -/
namespace Go.Proofs.YtfdpddlefobcpaaGreatDoor
open Go.ChangeShapes Go.WideShapes Go.ChangeAt Go.RowKit
set_option linter.unusedVariables false
set_option maxRecDepth 20000
open N
namespace N
/-- reads as these ints -/
structure Il (w : World) (A : Option Addr) (n c : Nat) (xs : List Int) : Prop where
  len : xs.length = n
  cap : n ≤ c
  max : c ≤ maxLen
  wf : ∀ x ∈ xs, (Lit.int .i64 x).wf = true
  nil : A = none → c = 0
  at' : ∀ k, k < n → ∃ ad, A = some ad ∧ ad.block < w.heap.size ∧ ∀ j, j < n → w.cell? (ad.add j) = some (.int .i64 (xs.getD j 0))
theorem Il.below {w w' : World} {A : Option Addr} {n c : Nat} {xs : List Int} (h : Il w A n c xs) (hb : Below w.heap.size w w') : Il w' A n c xs :=
  ⟨h.len, h.cap, h.max, h.wf, h.nil, fun k hk => by
    obtain ⟨ad, e, hlt, hc⟩ := h.at' k hk
    exact ⟨ad, e, Nat.lt_of_lt_of_le hlt hb.size, fun j hj => by rw [hb.cell (by rw [add_block]; exact hlt)]; exact hc j hj⟩⟩
theorem Il.none {w : World} : Il w none 0 0 [] := ⟨rfl, Nat.le_refl _, Nat.zero_le _, (fun x hx => by cases hx), (fun _ => rfl), (fun k hk => by omega)⟩
/-- an element, as the walk reads it -/
theorem Il.one {w : World} {A : Option Addr} {n c : Nat} {xs : List Int} (h : Il w A n c xs) {k : Nat} (hk : k < n) : ∃ ad x, A = some ad ∧ xs[k]? = some x ∧ (Lit.int .i64 x).wf = true ∧ w.cell? (ad.add k) = some (.int .i64 x) := by
  obtain ⟨ad, e, _, hc⟩ := h.at' k hk
  have hl : k < xs.length := by rw [h.len]; exact hk
  refine ⟨ad, xs[k], e, List.getElem?_eq_getElem hl, h.wf _ (List.getElem_mem hl), ?_⟩
  rw [hc k hk, List.getD_eq_getElem?_getD, List.getElem?_eq_getElem hl]; rfl
theorem Il.the {w : World} {ad : Addr} {n c : Nat} {xs : List Int} (h : Il w (some ad) n c xs) {k : Nat} (hk : k < n) {x : Int} (hx : xs[k]? = some x) : w.cell? (ad.add k) = some (.int .i64 x) := by
  obtain ⟨ad', x', e, hx', _, hc⟩ := h.one hk
  injection e with e
  subst e
  rw [hx] at hx'
  injection hx' with hx'
  rw [hx']
  exact hc
end N
theorem cellsI6 : Tryz.prog.cellsOf 2 = 1 := by kernel_rfl
theorem laidOutI6 : laidOutB Tryz.prog = true := by kernel_rfl
theorem open_i64s_ {H : Type} {enc : TypeId × Value → H} {W : World} {base : Nat} {v : Value} {d : DataW H} {p : List MemPlace} (hok : Value.okWide Tryz.prog W .any base 22 v)
    (h : DataW.Trod enc Tryz.prog W 0 (fun _ => true) true 22 v d p) : ∃ A n c xs, v = .slice A n c ∧ Il W A n c xs := by
  obtain ⟨a0, len, cap, rfl⟩ := okWide_slice Tryz.underlying22 hok
  obtain ⟨fuel, hf⟩ := h
  rcases open_ints Tryz.underlying22 Tryz.underlying2 cellsI6 hf with ⟨hcs, hx⟩ | ⟨a, len', cap', zs, hcs, _, hl, hm, hz, hx, hcell, hwz⟩
  · simp [Value.cells] at hcs
    obtain ⟨rfl, rfl, rfl⟩ := hcs
    exact ⟨none, 0, 0, [], rfl, Il.none⟩
  · simp [Value.cells] at hcs
    obtain ⟨rfl, rfl, rfl⟩ := hcs
    simp only [if_true] at hz
    refine ⟨some a, len, cap, zs.take len, rfl, ⟨by rw [List.length_take, hz, Nat.min_eq_left hl], hl, hm, fun x hx => hwz x (List.mem_of_mem_take hx), (fun e => by cases e), fun k hk => ⟨a, rfl, ?_, fun j hj => ?_⟩⟩⟩
    · have := World.block_lt_of_cell? W _ (hcell k (by omega))
      rwa [add_block] at this
    · rw [hcell j (by omega)]
      simp [List.getD, hj]
end Go.Proofs.YtfdpddlefobcpaaGreatDoor
/- What the program's New, Len, Sum, Pick of layer 10 answer over this translation. -/
namespace Go.Proofs.YtfdpddlefobcpaaGreatDoor
open Go.RowKit Go.Shelf
set_option linter.unusedVariables false
set_option linter.unusedSimpArgs false
set_option maxRecDepth 20000
open N
theorem infoI64 : (Tryz.prog.info? 2).map (fun i => (i.zero, i.size, i.bytes)) = some (some (.int .i64 0), 1, 8) := by kernel_rfl
theorem slI64 : Tryz.prog.underlying 22 = some (.slice 2) := Tryz.underlying22
theorem zeros_row64 (n : Nat) : madeCells #[Value.int .i64 0] n = (row n (fun _ => 0)).toArray := by
  rw [row_zero]
  unfold madeCells
  apply Array.ext_getElem?
  intro i
  by_cases hi : i < n
  · simp [hi, show i % 1 = 0 by omega]
  · simp [hi]
theorem make64_run (n : Nat) (h : n ≤ 4398046511104) (w : World) :
    (Instr.makeSlice 22 (.int .i64 (n : Int)) (.int .i64 (n : Int))).run Tryz.prog w = .ok (.slice (some ⟨w.heap.size, 0, none⟩) n n) (w.alloc (.cells (row n (fun _ => 0)).toArray 2)) := by
  rw [← zeros_row64]
  exact run_make_row' 22 2 (.int .i64 0) 8 slI64 infoI64 rfl .i64 .i64 n (by omega) (by omega) w
def EN (g : Nat) (ws : List Int) : Blk := ⟨g, row ws.length (fun k => pre ws (k + 1)), 2⟩
/-- New at work: the place of the ends, how far it is -/
structure NwC (w : World) (g n k : Nat) (ws : List Int) (wr : World) : Prop where
  bl : Below w.heap.size w wr
  en : BlkOk wr ⟨g, row n (fun j => if j < k then pre ws (j + 1) else 0), 2⟩
section
variable {w w1 wr : World} {g n k : Nat} {ws : List Int}
theorem NwC.start (w : World) (n : Nat) (ws : List Int) : NwC w w.heap.size n 0 ws (w.alloc (.cells (row n (fun _ => 0)).toArray 2)) := by
  refine ⟨(Below.refl _ w).alloc (Nat.le_refl _) _, ?_⟩
  have e : row n (fun j => if j < 0 then pre ws (j + 1) else 0) = row n (fun _ => 0) := row_congr (fun j _ => by rw [if_neg (Nat.not_lt_zero _)])
  rw [e]
  exact heap_alloc_new w _
theorem NwC.cell (h : NwC w g n k ws wr) (hk : k < n) : wr.cell? ⟨g, k, none⟩ = some (.int .i64 0) := by
  have := BlkOk.cell h.en (row_get (f := fun j => if j < k then pre ws (j + 1) else 0) hk)
  rwa [if_neg (Nat.lt_irrefl _)] at this
theorem NwC.fr (h : NwC w g n k ws wr) : wr.frozen? ⟨g, k, none⟩ = false := BlkOk.fr h.en k
theorem NwC.put (h : NwC w g n k ws wr) (hg : w.heap.size ≤ g) {s : Int} (hs : pre ws (k + 1) = s) : NwC w g n (k + 1) ws (wr.setCell ⟨g, k, none⟩ (.int .i64 s)) := by
  refine ⟨h.bl.setCell (p := ⟨g, k, none⟩) hg _, ?_⟩
  have := BlkOk.set h.en k (.int .i64 s)
  simp only at this
  rw [row_set] at this
  rwa [row_congr (g := fun j => if j < k + 1 then pre ws (j + 1) else 0) (fun j _ => by
    by_cases e : j = k
    · subst e; simp [hs]
    · simp only [e, if_false]
      by_cases e2 : j < k
      · rw [if_pos e2, if_pos (by omega)]
      · rw [if_neg e2, if_neg (by omega)])] at this
theorem NwC.end_ (h : NwC w g n n ws wr) (hn : ws.length = n) : BlkOk wr (EN g ws) := by
  subst hn
  have := h.en
  rwa [row_congr (g := fun j => pre ws (j + 1)) (fun j hj => by rw [if_pos hj])] at this
end
end Go.Proofs.YtfdpddlefobcpaaGreatDoor
