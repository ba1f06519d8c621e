/- A fraction that comes in as an argument, opened. -/
import Derived.Test.YtpokcocfdchfeaaGreatDoorGFrame
import Derived.ChangeArms
namespace Go.Proofs.YtpokcocfdchfeaaGreatDoor
open Go.ChangeShapes Go.WideShapes Go.ChangeAt Go.RowKit
set_option linter.unusedVariables false
set_option maxRecDepth 20000
open N
theorem cellsF : Tryz.prog.cellsOf 27 = 3 := by kernel_rfl
theorem open_natcells {H : Type} {enc : TypeId × Value → H} {W : World} {fuel : Nat} {cs : List Value} {x : DataW H × List MemPlace} (hy1 : DataW.trod enc Tryz.prog W 0 (fun _ => true) true fuel 23 cs = some x) : ∃ A n c xs, cs = [.slice A n c] ∧ Sl W A n c xs := by
  rcases open_ints Tryz.underlying23 Tryz.underlying38 cellsU hy1 with ⟨hcs, hx⟩ | ⟨a, len, cap, zs, hcs, _, hl, hm, hz, hx, hcell, hwz⟩
  · exact ⟨none, 0, 0, [], hcs, Sl.none⟩
  · simp only [if_true] at hz
    refine ⟨some a, len, cap, zs.take len, hcs, ⟨by rw [List.length_take, hz, Nat.min_eq_left hl], hl, hm, fun x hx => ?_, (fun e => by cases e), fun k hk => ⟨a, rfl, ?_, fun j hj => ?_⟩⟩⟩
    · have := bounds_u64 (hwz x (List.mem_of_mem_take hx))
      exact ⟨this.1, by show x < 18446744073709551616; omega⟩
    · have := World.block_lt_of_cell? W _ (hcell k (by omega))
      rwa [add_block] at this
    · rw [hcell j (by omega)]
      unfold lim
      simp [List.getD, hj]
theorem open_frac {H : Type} {enc : TypeId × Value → H} {W : World} {base : Nat} {v : Value} {d : DataW H} {p : List MemPlace} (hok : Value.okWide Tryz.prog W .any base 27 v)
    (h : DataW.Trod enc Tryz.prog W 0 (fun _ => true) true 27 v d p) : ∃ b A n c xs A' n' c' ys, v = .agg #[.bool b, .slice A n c, .slice A' n' c'] ∧ Sl W A n c xs ∧ Sl W A' n' c' ys := by
  obtain ⟨cs, rfl, hsz⟩ := okWide_struct Tryz.underlying27 hok
  rw [cellsF] at hsz
  obtain ⟨l⟩ := cs
  match l, hsz with
  | [c0, c1, c2], _ =>
  obtain ⟨fuel, hf⟩ := h
  obtain ⟨y0, y1, m, hx, _, hy0, hy1⟩ := trod_struct2 Tryz.underlying27 hf
  simp [Value.cells, cellsI, cellsNt] at hy0 hy1
  obtain ⟨z0, z1, m2, hx2, _, hz0, hz1⟩ := trod_struct2 Tryz.underlying25 hy0
  obtain ⟨b, e0, _⟩ := DataW.trod_bool Tryz.underlying4 hz0
  simp [cellsBo] at e0
  subst e0
  simp [cellsNt] at hz1
  obtain ⟨A, n, c, xs, e1, s1⟩ := open_natcells hz1
  obtain ⟨A', n', c', ys, e2, s2⟩ := open_natcells hy1
  injection e1 with e1
  injection e2 with e2
  subst e1 e2
  exact ⟨b, A, n, c, xs, A', n', c', ys, rfl, s1, s2⟩
end Go.Proofs.YtpokcocfdchfeaaGreatDoor
