/- A slice of words that comes in as an argument, opened. -/
import Derived.Test.YtfmhghemlcbapaaDoorGFrame
import Derived.Test.YtfmhghemlcbapaaDoorGMem
import Derived.ChangeSlices
namespace Go.Proofs.YtfmhghemlcbapaaDoor
open Go.ChangeShapes Go.WideShapes Go.ChangeAt Go.RowKit
set_option linter.unusedVariables false
set_option maxRecDepth 20000
open N
/-- an element, as the walk reads it -/
theorem N.Sl.one9 {w : World} {A : Option Addr} {n c : Nat} {xs : List Int} (h : Sl w A n c xs) {k : Nat} (hk : k < n) : ∃ ad, ∃ x : Nat, A = some ad ∧ x < 18446744073709551616 ∧ lim xs k = (x : Int) ∧ w.cell? (ad.add k) = some (.int .u64 (x : Int)) := by
  obtain ⟨ad, e, _, hc⟩ := h.cell hk
  have hl : k < xs.length := by rw [h.len]; exact hk
  have h1 := h.dg _ (List.getElem_mem hl)
  have h2 : lim xs k = xs[k] := by unfold lim; simp [List.getD_eq_getElem?_getD, List.getElem?_eq_getElem hl]
  rw [← h2] at h1
  have h3 : (0 : Int) ≤ lim xs k ∧ lim xs k < 18446744073709551616 := h1
  obtain ⟨x, hx⟩ := Int.eq_ofNat_of_zero_le h3.1
  exact ⟨ad, x, e, by omega, hx, by rw [hc, hx]⟩
theorem N.Sl.the9 {w : World} {ad : Addr} {n c : Nat} {xs : List Int} (h : Sl w (some ad) n c xs) {k : Nat} (hk : k < n) {x : Nat} (hx : lim xs k = (x : Int)) : w.cell? (ad.add k) = some (.int .u64 (x : Int)) := by
  obtain ⟨ad', e, _, hc⟩ := h.cell hk
  injection e with e
  subst e
  rw [hc, hx]
theorem cellsU9 : Tryd.prog.cellsOf 31 = 1 := by kernel_rfl
theorem open_u64s_ {H : Type} {enc : TypeId × Value → H} {W : World} {base : Nat} {v : Value} {d : DataW H} {p : List MemPlace} (hok : Value.okWide Tryd.prog W .any base 22 v)
    (h : DataW.Trod enc Tryd.prog W 0 (fun _ => true) true 22 v d p) : ∃ A n c xs, v = .slice A n c ∧ Sl W A n c xs := by
  obtain ⟨a0, len, cap, rfl⟩ := okWide_slice Tryd.underlying22 hok
  obtain ⟨fuel, hf⟩ := h
  rcases open_ints Tryd.underlying22 Tryd.underlying31 cellsU9 hf with ⟨hcs, hx⟩ | ⟨a, len', cap', zs, hcs, _, hl, hm, hz, hx, hcell, hwz⟩
  · simp [Value.cells] at hcs
    obtain ⟨rfl, rfl, rfl⟩ := hcs
    exact ⟨none, 0, 0, [], rfl, Sl.none⟩
  · simp [Value.cells] at hcs
    obtain ⟨rfl, rfl, rfl⟩ := hcs
    simp only [if_true] at hz
    refine ⟨some a, len, cap, zs.take len, rfl, ⟨by rw [List.length_take, hz, Nat.min_eq_left hl], hl, hm, fun x hx => ?_, (fun e => by cases e), fun k hk => ⟨a, rfl, ?_, fun j hj => ?_⟩⟩⟩
    · have := bounds_u64 (hwz x (List.mem_of_mem_take hx))
      exact ⟨this.1, by show x < 18446744073709551616; omega⟩
    · have := World.block_lt_of_cell? W _ (hcell k (by omega))
      rwa [add_block] at this
    · rw [hcell j (by omega)]
      unfold lim
      simp [List.getD, hj]
end Go.Proofs.YtfmhghemlcbapaaDoor
