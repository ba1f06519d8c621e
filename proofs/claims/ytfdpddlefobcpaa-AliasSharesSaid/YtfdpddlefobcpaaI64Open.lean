/- A slice of int64s that comes in as an argument, opened. -/
import Derived.Test.YtfdpddlefobcpaaGFrame
import Derived.Test.YtfdpddlefobcpaaGMem
import Derived.ChangeSlices
namespace Go.Proofs.Ytfdpddlefobcpaa
open Go.ChangeShapes Go.WideShapes Go.ChangeAt Go.RowKit
set_option linter.unusedVariables false
set_option maxRecDepth 20000
open N
namespace N
/-- reads as these ints -/
structure Il (w : World) (A : Option Addr) (n c : Nat) (xs : List Int) : Prop where
  len : xs.length = n
  cap : n ≤ c
  max : c ≤ maxLen
  wf : ∀ x ∈ xs, (Lit.int .i64 x).wf = true
  nil : A = none → c = 0
  at' : ∀ k, k < n → ∃ ad, A = some ad ∧ ad.block < w.heap.size ∧ ∀ j, j < n → w.cell? (ad.add j) = some (.int .i64 (xs.getD j 0))
theorem Il.below {w w' : World} {A : Option Addr} {n c : Nat} {xs : List Int} (h : Il w A n c xs) (hb : Below w.heap.size w w') : Il w' A n c xs :=
  ⟨h.len, h.cap, h.max, h.wf, h.nil, fun k hk => by
    obtain ⟨ad, e, hlt, hc⟩ := h.at' k hk
    exact ⟨ad, e, Nat.lt_of_lt_of_le hlt hb.size, fun j hj => by rw [hb.cell (by rw [add_block]; exact hlt)]; exact hc j hj⟩⟩
theorem Il.none {w : World} : Il w none 0 0 [] := ⟨rfl, Nat.le_refl _, Nat.zero_le _, (fun x hx => by cases hx), (fun _ => rfl), (fun k hk => by omega)⟩
/-- an element, as the walk reads it -/
theorem Il.one {w : World} {A : Option Addr} {n c : Nat} {xs : List Int} (h : Il w A n c xs) {k : Nat} (hk : k < n) : ∃ ad x, A = some ad ∧ xs[k]? = some x ∧ (Lit.int .i64 x).wf = true ∧ w.cell? (ad.add k) = some (.int .i64 x) := by
  obtain ⟨ad, e, _, hc⟩ := h.at' k hk
  have hl : k < xs.length := by rw [h.len]; exact hk
  refine ⟨ad, xs[k], e, List.getElem?_eq_getElem hl, h.wf _ (List.getElem_mem hl), ?_⟩
  rw [hc k hk, List.getD_eq_getElem?_getD, List.getElem?_eq_getElem hl]; rfl
theorem Il.the {w : World} {ad : Addr} {n c : Nat} {xs : List Int} (h : Il w (some ad) n c xs) {k : Nat} (hk : k < n) {x : Int} (hx : xs[k]? = some x) : w.cell? (ad.add k) = some (.int .i64 x) := by
  obtain ⟨ad', x', e, hx', _, hc⟩ := h.one hk
  injection e with e
  subst e
  rw [hx] at hx'
  injection hx' with hx'
  rw [hx']
  exact hc
end N
theorem cellsI6 : Try.prog.cellsOf 2 = 1 := by kernel_rfl
theorem laidOutI6 : laidOutB Try.prog = true := by kernel_rfl
theorem open_i64s_ {H : Type} {enc : TypeId × Value → H} {W : World} {base : Nat} {v : Value} {d : DataW H} {p : List MemPlace} (hok : Value.okWide Try.prog W .any base 22 v)
    (h : DataW.Trod enc Try.prog W 0 (fun _ => true) true 22 v d p) : ∃ A n c xs, v = .slice A n c ∧ Il W A n c xs := by
  obtain ⟨a0, len, cap, rfl⟩ := okWide_slice Try.underlying22 hok
  obtain ⟨fuel, hf⟩ := h
  rcases open_ints Try.underlying22 Try.underlying2 cellsI6 hf with ⟨hcs, hx⟩ | ⟨a, len', cap', zs, hcs, _, hl, hm, hz, hx, hcell, hwz⟩
  · simp [Value.cells] at hcs
    obtain ⟨rfl, rfl, rfl⟩ := hcs
    exact ⟨none, 0, 0, [], rfl, Il.none⟩
  · simp [Value.cells] at hcs
    obtain ⟨rfl, rfl, rfl⟩ := hcs
    simp only [if_true] at hz
    refine ⟨some a, len, cap, zs.take len, rfl, ⟨by rw [List.length_take, hz, Nat.min_eq_left hl], hl, hm, fun x hx => hwz x (List.mem_of_mem_take hx), (fun e => by cases e), fun k hk => ⟨a, rfl, ?_, fun j hj => ?_⟩⟩⟩
    · have := World.block_lt_of_cell? W _ (hcell k (by omega))
      rwa [add_block] at this
    · rw [hcell j (by omega)]
      simp [List.getD, hj]
end Go.Proofs.Ytfdpddlefobcpaa
