/- A natural that comes in as an argument, opened. -/
import Derived.Test.YtbadbjmhmadbmaaDoorLawFrame
import Derived.Test.YtbadbjmhmadbmaaDoorNatMem
import Derived.ChangeSlices
namespace Go.Proofs.YtbadbjmhmadbmaaDoor
open Go.ChangeShapes Go.WideShapes Go.ChangeAt Go.RowKit
set_option linter.unusedVariables false
set_option maxRecDepth 20000
open N
theorem cellsU : Tryd.prog.cellsOf 33 = 1 := by kernel_rfl
theorem laidOut : laidOutB Tryd.prog = true := by kernel_rfl
theorem open_natural {H : Type} {enc : TypeId × Value → H} {W : World} {base : Nat} {v : Value} {d : DataW H} {p : List MemPlace} (hok : Value.okWide Tryd.prog W .any base 23 v)
    (h : DataW.Trod enc Tryd.prog W 0 (fun _ => true) true 23 v d p) : ∃ A n c xs, v = .slice A n c ∧ Sl W A n c xs := by
  obtain ⟨a0, len, cap, rfl⟩ := okWide_slice Tryd.underlying23 hok
  obtain ⟨fuel, hf⟩ := h
  rcases open_ints Tryd.underlying23 Tryd.underlying33 cellsU hf with ⟨hcs, hx⟩ | ⟨a, len', cap', zs, hcs, _, hl, hm, hz, hx, hcell, hwz⟩
  · simp [Value.cells] at hcs
    obtain ⟨rfl, rfl, rfl⟩ := hcs
    exact ⟨none, 0, 0, [], rfl, Sl.none⟩
  · simp [Value.cells] at hcs
    obtain ⟨rfl, rfl, rfl⟩ := hcs
    simp only [if_true] at hz
    refine ⟨some a, len, cap, zs.take len, rfl, ⟨by rw [List.length_take, hz, Nat.min_eq_left hl], hl, hm, fun x hx => ?_, (fun e => by cases e), fun k hk => ⟨a, rfl, ?_, fun j hj => ?_⟩⟩⟩
    · have := bounds_u64 (hwz x (List.mem_of_mem_take hx))
      exact ⟨this.1, by show x < 18446744073709551616; omega⟩
    · have := World.block_lt_of_cell? W _ (hcell k (by omega))
      rwa [add_block] at this
    · rw [hcell j (by omega)]
      unfold lim
      simp [List.getD, hj]
end Go.Proofs.YtbadbjmhmadbmaaDoor
