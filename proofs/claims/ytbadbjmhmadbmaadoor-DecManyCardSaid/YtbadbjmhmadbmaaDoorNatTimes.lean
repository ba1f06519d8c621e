/- The step of a product (times), and the closure that keeps its carry, over this translation. -/
import Derived.Test.YtbadbjmhmadbmaaDoorNatCarry
namespace Go.Proofs.YtbadbjmhmadbmaaDoor
open Go.RowKit
set_option linter.unusedVariables false
set_option maxRecDepth 20000
open N
namespace N
/-- what a step of a product comes to: the low word, and what is carried -/
def tmT (x m y c : Int) : Int := x * m + y + c
def tmL (x m y c : Int) : Int := tmT x m y c % 18446744073709551616
def tmH (x m y c : Int) : Int := tmT x m y c / 18446744073709551616
theorem tmT_lt {x m y c : Int} (hx : W.Wd x) (hm : W.Wd m) (hy : W.Wd y) (hc : W.Wd c) : 0 ≤ tmT x m y c ∧ tmT x m y c ≤ 340282366920938463463374607431768211455 := by
  have := W.mul_lt hx hm
  unfold tmT W.Wd at *; omega
theorem wd_tmL (x m y c : Int) : W.Wd (tmL x m y c) := by unfold tmL W.Wd; omega
theorem wd_tmH {x m y c : Int} (hx : W.Wd x) (hm : W.Wd m) (hy : W.Wd y) (hc : W.Wd c) : W.Wd (tmH x m y c) := by
  have := tmT_lt hx hm hy hc
  unfold tmH W.Wd; omega
theorem tm_eq (x m y c : Int) : tmL x m y c + tmH x m y c * 18446744073709551616 = x * m + y + c := by unfold tmL tmH tmT; omega
theorem tm_steps {x m y c : Int} (hx : W.Wd x) (hm : W.Wd m) (hy : W.Wd y) (hc : W.Wd c) :
    W.addS (W.addS (W.mulL x m) y 0) c 0 = tmL x m y c ∧ W.mulH x m + W.addC (W.mulL x m) y 0 + W.addC (W.addS (W.mulL x m) y 0) c 0 = tmH x m y c := by
  have h1 := tmT_lt hx hm hy hc
  have h2 := W.mul_lt hx hm
  unfold tmL tmH tmT W.addS W.addC W.mulL W.mulH W.Wd at *
  generalize x * m = p at *
  omega
end N
theorem times_any (w : World) (m : Int) :
    Calls Tryd.prog 44 #[.int .u64 m] w fun e w' =>
      e = .returned (.func (.func 60) #[] #[.pointer (some ⟨w.heap.size, 0, none⟩)]) ∧ w' = w.alloc (.cells #[.int .u64 m] 33) := by
  go_enter Tryd.func44, Tryd.ntmps44
  go_wp2
  go_ret
  exact ⟨rfl, rfl⟩
theorem times1_any (w : World) (bm : Nat) (x m y c : Int) (hx : W.Wd x) (hm : W.Wd m) (hy : W.Wd y) (hc : W.Wd c) (h : w.cell? ⟨bm, 0, none⟩ = some (.int .u64 m)) :
    Calls Tryd.prog 60 #[.int .u64 x, .int .u64 y, .int .u64 c, .pointer (some ⟨bm, 0, none⟩)] w fun e w' =>
      e = .returned (.tuple #[.int .u64 (tmL x m y c), .int .u64 (tmH x m y c)]) ∧ w' = w := by
  have hml := W.wd_mulL x m
  have hmh := W.wd_mulH hx hm
  have hs1 := W.wd_addS (W.mulL x m) y 0
  have hc1 := W.addC_le hml hy W.wd_0
  have hc2 := W.addC_le hs1 hc W.wd_0
  have hE := Lib.hid (tm_steps hx hm hy hc)
  have hH := wd_tmH hx hm hy hc
  have hsum : W.mulH x m + W.addC (W.mulL x m) y 0 + W.addC (W.addS (W.mulL x m) y 0) c 0 < 18446744073709551616 := by rw [hE.out.2]; exact hH.2
  have hmh0 := hmh.1
  have hmh1 := hmh.2
  go_enter Tryd.func60, Tryd.ntmps60
  go_wp2_with (first
    | (go_at_call 61; refine (mul_any _ _ hx hm _).mono ?_; rintro e w' ⟨rfl, rfl⟩)
    | (go_at_call_of 43 (Value.int .u64 (W.mulL x m)); refine (add_any _ _ _ hml hy W.wd_0 _).mono ?_; rintro e w' ⟨rfl, rfl⟩)
    | (go_at_call_of 43 (Value.int .u64 (W.addS (W.mulL x m) y 0)); refine (add_any _ _ _ hs1 hc W.wd_0 _).mono ?_; rintro e w' ⟨rfl, rfl⟩))
  go_ret2
  rw [← hE.out.1, ← hE.out.2]
  exact ⟨rfl, rfl⟩
theorem carry_times (w : World) (b1 b2 bm : Nat) (x m y c : Int) (hx : W.Wd x) (hm : W.Wd m) (hy : W.Wd y) (hc : W.Wd c)
    (h0 : w.cell? ⟨bm, 0, none⟩ = some (.int .u64 m)) (h1 : w.cell? ⟨b1, 0, none⟩ = some (.func (.func 60) #[] #[.pointer (some ⟨bm, 0, none⟩)])) (h2 : w.cell? ⟨b2, 0, none⟩ = some (.int .u64 c)) (hf : w.frozen? ⟨b2, 0, none⟩ = false) :
    Calls Tryd.prog 57 #[.int .u64 x, .int .u64 y, .pointer (some ⟨b1, 0, none⟩), .pointer (some ⟨b2, 0, none⟩)] w fun e w' =>
      e = .returned (.int .u64 (tmL x m y c)) ∧ w' = w.setCell ⟨b2, 0, none⟩ (.int .u64 (tmH x m y c)) := by
  go_enter Tryd.func57, Tryd.ntmps57
  go_wp2_with (go_at_call 60; refine (times1_any _ bm x m y c hx hm hy hc h0).mono ?_; rintro e w' ⟨rfl, rfl⟩)
  go_ret
  exact ⟨rfl, rfl⟩
end Go.Proofs.YtbadbjmhmadbmaaDoor
