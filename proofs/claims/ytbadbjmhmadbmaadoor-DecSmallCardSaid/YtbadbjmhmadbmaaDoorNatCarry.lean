/- The closure that keeps the carry (carrying), and the steps that it is made of, over this translation. -/
import Derived.Test.YtbadbjmhmadbmaaDoorNatBare
import Derived.Test.YtbadbjmhmadbmaaDoorNatApp
import Derived.Test.YtbadbjmhmadbmaaDoorNatMath2
namespace Go.Proofs.YtbadbjmhmadbmaaDoor
open Go.RowKit
set_option linter.unusedVariables false
set_option maxRecDepth 20000
open N
theorem carrying_any (w : World) (k : FuncId) (caps : Array Value) :
    Calls Tryd.prog 42 #[.func (.func k) #[] caps] w fun e w' =>
      e = .returned (.func (.func 57) #[] #[.pointer (some ⟨w.heap.size, 0, none⟩), .pointer (some ⟨w.heap.size + 1, 0, none⟩)]) ∧
      w' = (w.alloc (.cells #[.func (.func k) #[] caps] 68)).alloc (.cells #[.int .u64 0] 33) := by
  go_enter Tryd.func42, Tryd.ntmps42
  go_wp2
  go_ret
  exact ⟨rfl, rfl⟩
theorem carry_add (w : World) (b1 b2 : Nat) (x y c : Int) (hx : W.Wd x) (hy : W.Wd y) (hc : W.Wd c)
    (h1 : w.cell? ⟨b1, 0, none⟩ = some (.func (.func 43) #[] #[])) (h2 : w.cell? ⟨b2, 0, none⟩ = some (.int .u64 c)) (hf : w.frozen? ⟨b2, 0, none⟩ = false) :
    Calls Tryd.prog 57 #[.int .u64 x, .int .u64 y, .pointer (some ⟨b1, 0, none⟩), .pointer (some ⟨b2, 0, none⟩)] w fun e w' =>
      e = .returned (.int .u64 (W.addS x y c)) ∧ w' = w.setCell ⟨b2, 0, none⟩ (.int .u64 (W.addC x y c)) := by
  go_enter Tryd.func57, Tryd.ntmps57
  go_wp2_with (go_at_call 43; refine (add_any _ _ _ hx hy hc _).mono ?_; rintro e w' ⟨rfl, rfl⟩)
  go_ret
  exact ⟨rfl, rfl⟩
theorem carry_sub (w : World) (b1 b2 : Nat) (x y c : Int) (hx : W.Wd x) (hy : W.Wd y) (hc : W.Wd c)
    (h1 : w.cell? ⟨b1, 0, none⟩ = some (.func (.func 83) #[] #[])) (h2 : w.cell? ⟨b2, 0, none⟩ = some (.int .u64 c)) (hf : w.frozen? ⟨b2, 0, none⟩ = false) :
    Calls Tryd.prog 57 #[.int .u64 x, .int .u64 y, .pointer (some ⟨b1, 0, none⟩), .pointer (some ⟨b2, 0, none⟩)] w fun e w' =>
      e = .returned (.int .u64 (W.subS x y c)) ∧ w' = w.setCell ⟨b2, 0, none⟩ (.int .u64 (W.subC x y c)) := by
  go_enter Tryd.func57, Tryd.ntmps57
  go_wp2_with (go_at_call 83; refine (sub_any _ _ _ hx hy hc _).mono ?_; rintro e w' ⟨rfl, rfl⟩)
  go_ret
  exact ⟨rfl, rfl⟩
/-- a place of a natural without its 0s at the end -/
theorem limb_tr (w : World) (A : Option Addr) (n c : Nat) (xs : List Int) (h : Sl w A n c xs) (i : Nat) (hi : i ≤ 9223372036854775807) :
    Calls Tryd.prog 41 #[.slice A (nn xs) c, .int .i64 i] w fun e w' => e = .returned (.int .u64 (lim xs i)) ∧ w' = w :=
  (limb_any w A (nn xs) c (tr xs) h.tr i hi).mono fun e w' ⟨h1, h2⟩ => ⟨by rw [h1, lim_tr], h2⟩
/-- the row gs that is filled, the step in the box b1, the carry in the box b2 -/
structure Cry (w : World) (gs b1 b2 : Nat) (F : Value) (zs : List Int) (c : Int) (wr : World) : Prop where
  arr : Arr wr gs zs
  fn : wr.cell? ⟨b1, 0, none⟩ = some F
  cy : wr.cell? ⟨b2, 0, none⟩ = some (.int .u64 c)
  fz : wr.frozen? ⟨b2, 0, none⟩ = false
  bl : Below w.heap.size w wr
theorem Cry.start (w : World) (Nn : Nat) (F : Value) (t : TypeId) :
    Cry w w.heap.size (w.heap.size + 1) (w.heap.size + 1 + 1) F (List.replicate Nn 0) 0 (((w.alloc (.cells (madeCells #[.int .u64 0] Nn) 33)).alloc (.cells #[F] t)).alloc (.cells #[.int .u64 0] 33)) := by
  have ha := Arr.made w Nn
  generalize hw1 : w.alloc (.cells (madeCells #[.int .u64 0] Nn) 33) = w1 at *
  have e1 : w1.heap.size = w.heap.size + 1 := by rw [← hw1]; exact World.size_alloc ..
  have b1 : Below w.heap.size w w1 := by rw [← hw1]; exact (Below.refl _ w).alloc (Nat.le_refl _) _
  have h2 := heap_alloc_new w1 (.cells #[F] t)
  have b2 := b1.alloc (by omega) (.cells #[F] t)
  generalize hw2 : w1.alloc (.cells #[F] t) = w2 at *
  have e2 : w2.heap.size = w.heap.size + 1 + 1 := by rw [← hw2, ← e1]; exact World.size_alloc ..
  have h3 := heap_alloc_new w2 (.cells #[.int .u64 0] 33)
  have h2' := (Below.heap_alloc w2 (.cells #[.int .u64 0] 33) w1.heap.size (by omega)).trans h2
  rw [e1] at h2'
  rw [e2] at h3
  refine ⟨?_, ?_, ?_, ?_, b2.alloc (by omega) _⟩
  · have : Arr w2 w.heap.size (List.replicate Nn 0) := by rw [← hw2]; exact ha.alloc _
    exact this.alloc _
  · rw [cell_of_row _ _ 0 _ _ _ h2']; rfl
  · rw [cell_of_row _ _ 0 _ _ _ h3]; rfl
  · simp [World.frozen?, h3]
theorem Cry.carry {w : World} {gs b1 b2 : Nat} {F : Value} {zs : List Int} {c : Int} {wr : World} (h : Cry w gs b1 b2 F zs c wr) (h1 : gs ≠ b2) (h2 : b1 ≠ b2) (hb : w.heap.size ≤ b2) (c' : Int) :
    Cry w gs b1 b2 F zs c' (wr.setCell ⟨b2, 0, none⟩ (.int .u64 c')) :=
  ⟨h.arr.far h1 _, by rw [World.cell?_setCell_other _ _ _ _ (fun e => h2 (congrArg Addr.block e).symm)]; exact h.fn,
   World.cell?_setCell_same' _ _ _ (by rw [h.cy]; rfl), by rw [World.frozen?_setCell]; exact h.fz, h.bl.setCell hb _⟩
theorem Cry.store {w : World} {gs b1 b2 : Nat} {F : Value} {zs : List Int} {c : Int} {wr : World} (h : Cry w gs b1 b2 F zs c wr) (h1 : gs ≠ b2) (h2 : gs ≠ b1) (hb : w.heap.size ≤ gs) (k : Nat) (v : Int) :
    Cry w gs b1 b2 F (zs.set k v) c (wr.setCell ⟨gs, k, none⟩ (.int .u64 v)) :=
  ⟨h.arr.set k v, by rw [World.cell?_setCell_other _ _ _ _ (fun e => h2 (congrArg Addr.block e))]; exact h.fn,
   by rw [World.cell?_setCell_other _ _ _ _ (fun e => h1 (congrArg Addr.block e))]; exact h.cy, by rw [World.frozen?_setCell]; exact h.fz, h.bl.setCell hb _⟩
theorem Cry.drew {w : World} {gs b1 b2 : Nat} {F : Value} {zs : List Int} {c : Int} {wr : World} (h : Cry w gs b1 b2 F zs c wr) : Cry w gs b1 b2 F zs c wr.drew := ⟨h.arr, h.fn, h.cy, h.fz, h.bl.drew⟩
theorem Cry.drewN {w : World} {gs b1 b2 : Nat} {F : Value} {zs : List Int} {c : Int} {wr : World} (h : Cry w gs b1 b2 F zs c wr) (k : Nat) : Cry w gs b1 b2 F zs c (wr.drewN k) := ⟨h.arr, h.fn, h.cy, h.fz, ⟨h.bl.os, h.bl.tape, h.bl.output, h.bl.size, h.bl.block⟩⟩
end Go.Proofs.YtbadbjmhmadbmaaDoor
