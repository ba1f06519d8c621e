/- Gathered: NatSub, NatTimes, NatMul, NatShl, NatShrMath, NatShr, NatState, NatState2, NatAwake, NatTail. -/
import Derived.Test.YtfdpddlefobcpaaGreatDoorGNatA
import Derived.Deep.RegionWith
import Derived.RangeFuncNested
import Derived.RangeFuncBound
import Derived.RegionIn
import Derived.Laws.EntriesVeiled
import Derived.Shelf.RegionOpen
/- What Sub of layer 2 answers, over this translation. -/
namespace Go.Proofs.YtfdpddlefobcpaaGreatDoor
open Go.RowKit
set_option linter.unusedVariables false
set_option maxRecDepth 20000
open N
namespace N
theorem sub_step {xs ys zs : List Int} {c : Int} {k : Nat} (hx : Dg B xs) (hy : Dg B ys) (hk : k < zs.length) (hz : lim zs k = 0) (h0 : 0 ≤ c) (h1 : c ≤ 1)
    (h : val B zs - c * Q B k = lo B xs k - lo B ys k) :
    val B (zs.set k (W.subS (lim xs k) (lim ys k) c)) - W.subC (lim xs k) (lim ys k) c * Q B (k + 1) = lo B xs (k + 1) - lo B ys (k + 1) := by
  have ha := hx.lim (by decide) k
  have hb := hy.lim (by decide) k
  rw [val_set B zs k _ hk, hz, lo_succ, lo_succ, Q_succ]
  have e : W.subS (lim xs k) (lim ys k) c - W.subC (lim xs k) (lim ys k) c * B = lim xs k - lim ys k - c := by
    unfold W.subS W.subC; rw [Int.min_eq_left h1]; show _ - _ * (18446744073709551616 : Int) = _; omega
  generalize W.subS (lim xs k) (lim ys k) c = s at *
  generalize W.subC (lim xs k) (lim ys k) c = t at *
  have e2 : s * Q B k - t * (Q B k * B) = (lim xs k - lim ys k - c) * Q B k := by
    rw [← e, Int.sub_mul, Int.mul_right_comm t, Int.mul_assoc t]
  rw [Int.sub_mul, Int.sub_mul] at e2
  rw [Int.sub_zero]
  omega
theorem subC_le {a b c : Int} (ha : W.Wd a) (hb : W.Wd b) (h0 : 0 ≤ c) (h1 : c ≤ 1) : 0 ≤ W.subC a b c ∧ W.subC a b c ≤ 1 := by
  unfold W.subC W.Wd at *; rw [Int.min_eq_left h1]; omega
theorem sub_last {xs ys zs : List Int} {c : Int} (hx : Dg B xs) (hy : Dg B ys) (hz : Dg B zs) (hl : zs.length = nn xs) (hle : val B ys ≤ val B xs) (hc : 0 ≤ c) (h : val B zs - c * Q B (nn xs) = lo B xs (nn xs) - lo B ys (nn xs)) :
    val B zs = val B xs - val B ys := by
  have e1 := val_lt_nn hx (Nat.le_refl _)
  rw [lo_all_nn hx (Nat.le_refl _)] at h
  have e2 : lo B ys (nn xs) = val B ys := by
    rw [← (val_div (by decide) hy (nn xs)).2]
    exact Int.emod_eq_of_lt (val_nonneg (by decide) hy) (by omega)
  rw [e2] at h
  have e3 := val_lt (b := B) (by decide) hz
  rw [hl] at e3
  have e4 := Q_pos (b := B) (by decide) (nn xs)
  have : c = 0 := by
    apply Classical.byContradiction; intro hne
    have e6 : 1 * Q B (nn xs) ≤ c * Q B (nn xs) := Int.mul_le_mul_of_nonneg_right (by omega) (by omega)
    omega
  subst this
  omega
end N
def SubRel (w : World) (xs ys : List Int) (Nn gs b1 b2 : Nat) (F : Value) (i : Value) (wr : World) : Prop :=
  ∃ (k : Nat) (zs : List Int) (c : Int), i = .int .i64 k ∧ k ≤ Nn ∧ zs.length = Nn ∧ Dg B zs ∧ 0 ≤ c ∧ c ≤ 1 ∧ (∀ j, k ≤ j → lim zs j = 0) ∧ val B zs - c * Q B k = lo B xs k - lo B ys k ∧ Cry w gs b1 b2 F zs c wr
theorem nsub_no (w : World) (A A' : Option Addr) (n c m d : Nat) (xs ys : List Int) (hx : Sl w A n c xs) (hy : Sl w A' m d ys) (hn : n ≤ 1099511627776) (hm : m ≤ 1099511627776) (hlt : val B xs < val B ys) :
    Calls Tryz.prog 129 #[.slice A n c, .slice A' m d] w fun e w' => e = .returned (.tuple #[.slice none 0 0, .int .i64 8]) ∧ Below w.heap.size w w' := by
  have HC := Lib.hid (cmpI_lt hlt)
  go_enter Tryz.func129, Tryz.ntmps129
  go_wp2_with (go_at_call 126; refine (ncmp_any _ _ _ _ _ _ _ xs ys hx hy hn hm).mono ?_; rintro e w1 ⟨rfl, hb1⟩; rw [HC.out])
  go_ret2
  exact ⟨rfl, hb1⟩
set_option maxHeartbeats 1000000 in
theorem nsub_yes (w : World) (A A' : Option Addr) (n c m d : Nat) (xs ys : List Int) (hx : Sl w A n c xs) (hy : Sl w A' m d ys) (hn : n ≤ 1099511627776) (hm : m ≤ 1099511627776) (hle : val B ys ≤ val B xs) :
    Calls Tryz.prog 129 #[.slice A n c, .slice A' m d] w (Out2 w n (val B xs - val B ys) 0) := by
  obtain ⟨cc, hcc, hc0⟩ : ∃ cc : Int, cmpI (val B xs) (val B ys) = cc ∧ 0 ≤ cc := by
    rcases Int.lt_or_eq_of_le hle with h | h
    · exact ⟨1, cmpI_gt h, by omega⟩
    · exact ⟨0, cmpI_eq h.symm, by omega⟩
  have HC := Lib.hid hcc
  clear hcc
  have hnx := nn_le xs
  rw [hx.len] at hnx
  have hmk : ∀ W : World, (Instr.makeSlice 58 (.int .i64 (nn xs : Nat)) (.int .i64 (nn xs : Nat))).run Tryz.prog W = .ok (.slice (some ⟨W.heap.size, 0, none⟩) (nn xs) (nn xs)) (W.alloc (.cells (madeCells #[.int .u64 0] (nn xs)) 72)) :=
    fun W => make_run _ slNat _ (by omega) W
  go_enter Tryz.func129, Tryz.ntmps129
  go_wp2_with (first
      | (go_at_call 126; refine (ncmp_any _ _ _ _ _ _ _ xs ys hx hy hn hm).mono ?_; rintro e w1 ⟨rfl, hb1⟩; rw [HC.out]; have hx1 := hx.below hb1; have hy1 := hy.below hb1)
      | (go_at_call_of 95 (Value.slice A n c); refine (bare_any _ _ _ _ xs hx1).mono ?_; rintro e w' ⟨rfl, rfl⟩)
      | (go_at_call_of 95 (Value.slice A' m d); refine (bare_any _ _ _ _ ys hy1).mono ?_; rintro e w' ⟨rfl, rfl⟩)
      | (go_at_call 96; refine (carrying_any _ _ _).mono ?_; rintro e w2 ⟨rfl, rfl⟩))
  have HX := Lib.hid hx1
  have HY := Lib.hid hy1
  have HB := Lib.hid hb1
  have hnn := hx1.cap
  have HM := Lib.hid hle
  clear hx1 hy1 hmk hx hy hb1 hle
  go_loopw [23] (fun i wr => SubRel w' xs ys (nn xs) w'.heap.size (w'.heap.size + 1) (w'.heap.size + 1 + 1) (.func (.func 149) #[] #[]) i wr) (fun i _ => nn xs - (intOf i).toNat)
  case atStart =>
    refine ⟨0, List.replicate (nn xs) 0, 0, rfl, Nat.zero_le _, by simp, Dg.zeros (by decide) _, by omega, by omega, fun j _ => lim_zeros _ _, by rw [val_zeros, lo_zero, lo_zero]; omega, ?_⟩
    exact Cry.start w' (nn xs) _ _
  case round =>
    obtain ⟨k, zs, c', rfl, hk, hl, hd, h0, h1, hz, hv, hC⟩ := hrel
    obtain ⟨wo, rfl⟩ : ∃ wo : World, wo = wr := ⟨_, rfl⟩
    by_cases hlt : k < nn xs
    · have hxk := HX.out.dg.lim (b := B) (by decide) k
      have hyk := HY.out.dg.lim (b := B) (by decide) k
      have hs := Lib.hid (sub_step HX.out.dg HY.out.dg (by omega : k < zs.length) (hz k (Nat.le_refl _)) h0 h1 hv)
      have HZ' := Lib.hid (lim_set_beyond (v := W.subS (lim xs k) (lim ys k) c') (by omega : k < zs.length) hz)
      have hw := W.wd_subS (lim xs k) (lim ys k) c'
      have hc' := subC_le (a := lim xs k) (b := lim ys k) hxk hyk h0 h1
      have hY := (HY.out.below hC.bl).drew
      have C1 := hC.carry (by omega) (by omega) (by omega) (W.subC (lim xs k) (lim ys k) c')
      obtain ⟨ad, rfl, _, hcx⟩ := (HX.out.below hC.bl).cell (k := k) (by omega)
      have hcell : wo.cell? ⟨w'.heap.size, k, none⟩ = some (.int .u64 (lim zs k)) := hC.arr.cell (by omega)
      have hfz : wo.frozen? ⟨w'.heap.size, k, none⟩ = false := hC.arr.frozen k
      have hcell1 := C1.arr.cell (k := k) (by omega)
      have hfz1 := C1.arr.frozen k
      have f1 := hC.fn
      have f2 := hC.cy
      have f3 := hC.fz
      have HV := Lib.hid hv
      have HZ := Lib.hid hz
      have HLn := Lib.hid hl
      clear hv hz hl
      go_wp2
      go_region_with (first
        | (go_at_call 99; refine (limb_tr _ _ _ _ ys hY k (by omega)).mono ?_; rintro e w3 ⟨rfl, rfl⟩)
        | (go_at_call 112; refine (carry_sub wo.drew _ _ _ _ c' hxk hyk ⟨h0, by omega⟩ f1 f2 f3).mono ?_; rintro e w3 ⟨rfl, rfl⟩))
      all_goals
        go_wp2
        go_roundw
        case rel => exact ⟨k + 1, _, _, by go_num, by omega, by rw [List.length_set]; exact HLn.out, hd.set k hw.1 hw.2, hc'.1, hc'.2, HZ'.out, hs.out, (C1.store (by omega) (by omega) (by omega) k _).drew⟩
        case measure => simp [intOf]; omega
    · obtain rfl : k = nn xs := by omega
      have hS := hC.arr.sl hl (by unfold maxLen; omega) hd
      have hE := Lib.hid (sub_last HX.out.dg HY.out.dg hd hl HM.out h0 hv)
      have hnz := nn_le zs
      rw [hl] at hnz
      have HLn := Lib.hid hl
      clear hv hz hl
      go_wp2_with (first
        | (go_at_call 95; refine (bare_any _ _ _ _ zs hS).mono ?_; rintro e w3 ⟨rfl, rfl⟩))
      go_ret2
      refine Out2.lift HB.out ⟨_, _, _, rfl, by omega, ?_, hC.bl⟩
      rw [← hE.out, limbs_of hd]
      exact ⟨hC.arr.own (Nat.le_refl _) HLn.out (by unfold maxLen; omega) hnz, hd.take _⟩
end Go.Proofs.YtfdpddlefobcpaaGreatDoor
/- The step of a product (times), and the closure that keeps its carry, over this translation. -/
namespace Go.Proofs.YtfdpddlefobcpaaGreatDoor
open Go.RowKit
set_option linter.unusedVariables false
set_option maxRecDepth 20000
open N
namespace N
/-- what a step of a product comes to: the low word, and what is carried -/
def tmT (x m y c : Int) : Int := x * m + y + c
def tmL (x m y c : Int) : Int := tmT x m y c % 18446744073709551616
def tmH (x m y c : Int) : Int := tmT x m y c / 18446744073709551616
theorem tmT_lt {x m y c : Int} (hx : W.Wd x) (hm : W.Wd m) (hy : W.Wd y) (hc : W.Wd c) : 0 ≤ tmT x m y c ∧ tmT x m y c ≤ 340282366920938463463374607431768211455 := by
  have := W.mul_lt hx hm
  unfold tmT W.Wd at *; omega
theorem wd_tmL (x m y c : Int) : W.Wd (tmL x m y c) := by unfold tmL W.Wd; omega
theorem wd_tmH {x m y c : Int} (hx : W.Wd x) (hm : W.Wd m) (hy : W.Wd y) (hc : W.Wd c) : W.Wd (tmH x m y c) := by
  have := tmT_lt hx hm hy hc
  unfold tmH W.Wd; omega
theorem tm_eq (x m y c : Int) : tmL x m y c + tmH x m y c * 18446744073709551616 = x * m + y + c := by unfold tmL tmH tmT; omega
theorem tm_steps {x m y c : Int} (hx : W.Wd x) (hm : W.Wd m) (hy : W.Wd y) (hc : W.Wd c) :
    W.addS (W.addS (W.mulL x m) y 0) c 0 = tmL x m y c ∧ W.mulH x m + W.addC (W.mulL x m) y 0 + W.addC (W.addS (W.mulL x m) y 0) c 0 = tmH x m y c := by
  have h1 := tmT_lt hx hm hy hc
  have h2 := W.mul_lt hx hm
  unfold tmL tmH tmT W.addS W.addC W.mulL W.mulH W.Wd at *
  generalize x * m = p at *
  omega
end N
theorem times_any (w : World) (m : Int) :
    Calls Tryz.prog 121 #[.int .u64 m] w fun e w' =>
      e = .returned (.func (.func 134) #[] #[.pointer (some ⟨w.heap.size, 0, none⟩)]) ∧ w' = w.alloc (.cells #[.int .u64 m] 72) := by
  go_enter Tryz.func121, Tryz.ntmps121
  go_wp2
  go_ret
  exact ⟨rfl, rfl⟩
theorem times1_any (w : World) (bm : Nat) (x m y c : Int) (hx : W.Wd x) (hm : W.Wd m) (hy : W.Wd y) (hc : W.Wd c) (h : w.cell? ⟨bm, 0, none⟩ = some (.int .u64 m)) :
    Calls Tryz.prog 134 #[.int .u64 x, .int .u64 y, .int .u64 c, .pointer (some ⟨bm, 0, none⟩)] w fun e w' =>
      e = .returned (.tuple #[.int .u64 (tmL x m y c), .int .u64 (tmH x m y c)]) ∧ w' = w := by
  have hml := W.wd_mulL x m
  have hmh := W.wd_mulH hx hm
  have hs1 := W.wd_addS (W.mulL x m) y 0
  have hc1 := W.addC_le hml hy W.wd_0
  have hc2 := W.addC_le hs1 hc W.wd_0
  have hE := Lib.hid (tm_steps hx hm hy hc)
  have hH := wd_tmH hx hm hy hc
  have hsum : W.mulH x m + W.addC (W.mulL x m) y 0 + W.addC (W.addS (W.mulL x m) y 0) c 0 < 18446744073709551616 := by rw [hE.out.2]; exact hH.2
  have hmh0 := hmh.1
  have hmh1 := hmh.2
  go_enter Tryz.func134, Tryz.ntmps134
  go_wp2_with (first
    | (go_at_call 135; refine (mul_any _ _ hx hm _).mono ?_; rintro e w' ⟨rfl, rfl⟩)
    | (go_at_call_of 130 (Value.int .u64 (W.mulL x m)); refine (add_any _ _ _ hml hy W.wd_0 _).mono ?_; rintro e w' ⟨rfl, rfl⟩)
    | (go_at_call_of 130 (Value.int .u64 (W.addS (W.mulL x m) y 0)); refine (add_any _ _ _ hs1 hc W.wd_0 _).mono ?_; rintro e w' ⟨rfl, rfl⟩))
  go_ret2
  rw [← hE.out.1, ← hE.out.2]
  exact ⟨rfl, rfl⟩
theorem carry_times (w : World) (b1 b2 bm : Nat) (x m y c : Int) (hx : W.Wd x) (hm : W.Wd m) (hy : W.Wd y) (hc : W.Wd c)
    (h0 : w.cell? ⟨bm, 0, none⟩ = some (.int .u64 m)) (h1 : w.cell? ⟨b1, 0, none⟩ = some (.func (.func 134) #[] #[.pointer (some ⟨bm, 0, none⟩)])) (h2 : w.cell? ⟨b2, 0, none⟩ = some (.int .u64 c)) (hf : w.frozen? ⟨b2, 0, none⟩ = false) :
    Calls Tryz.prog 112 #[.int .u64 x, .int .u64 y, .pointer (some ⟨b1, 0, none⟩), .pointer (some ⟨b2, 0, none⟩)] w fun e w' =>
      e = .returned (.int .u64 (tmL x m y c)) ∧ w' = w.setCell ⟨b2, 0, none⟩ (.int .u64 (tmH x m y c)) := by
  go_enter Tryz.func112, Tryz.ntmps112
  go_wp2_with (go_at_call 134; refine (times1_any _ bm x m y c hx hm hy hc h0).mono ?_; rintro e w' ⟨rfl, rfl⟩)
  go_ret
  exact ⟨rfl, rfl⟩
end Go.Proofs.YtfdpddlefobcpaaGreatDoor
/- What Mul of layer 2 answers, over this translation. -/
namespace Go.Proofs.YtfdpddlefobcpaaGreatDoor
open Go.RowKit
set_option linter.unusedVariables false
set_option maxRecDepth 20000
open N
namespace N
theorem mul_step {ys zs : List Int} {x c V : Int} {i j : Nat} (hk : i + j < zs.length) 
    (h : val B zs + c * Q B (i + j) = V + x * lo B ys j * Q B i) :
    val B (zs.set (i + j) (tmL (lim ys j) x (lim zs (i + j)) c)) + tmH (lim ys j) x (lim zs (i + j)) c * Q B (i + j + 1) = V + x * lo B ys (j + 1) * Q B i := by
  rw [val_set B zs _ _ hk, lo_succ, Q_succ]
  have e := tm_eq (lim ys j) x (lim zs (i + j)) c
  generalize tmL (lim ys j) x (lim zs (i + j)) c = s at *
  generalize tmH (lim ys j) x (lim zs (i + j)) c = t at *
  generalize lim zs (i + j) = z at *
  generalize lim ys j = y at *
  have e2 : (s - z) * Q B (i + j) + t * (Q B (i + j) * B) = (y * x + c) * Q B (i + j) := by
    rw [← Int.mul_assoc t, Int.mul_right_comm t, ← Int.add_mul]
    congr 1
    show s - z + t * 18446744073709551616 = _
    omega
  have e3 : x * (lo B ys j + y * Q B j) * Q B i = x * lo B ys j * Q B i + y * x * Q B (i + j) := by
    rw [Q_add, Int.mul_add, Int.add_mul]
    congr 1
    rw [show x * (y * Q B j) = y * x * Q B j by rw [← Int.mul_assoc, Int.mul_comm x y], Int.mul_assoc, Int.mul_comm (Q B j)]
  rw [Int.add_mul] at e2
  rw [e3]
  omega
theorem mul_last {xs ys zs : List Int} {c : Int} {i : Nat} (hy : Dg B ys) (hk : i + nn ys < zs.length) (hz : lim zs (i + nn ys) = 0)
    (h : val B zs + c * Q B (i + nn ys) = lo B xs i * val B ys + lim xs i * lo B ys (nn ys) * Q B i) :
    val B (zs.set (i + nn ys) c) = lo B xs (i + 1) * val B ys := by
  rw [val_set B zs _ _ hk, hz, Int.sub_zero, lo_succ, Int.add_mul, h, lo_all_nn hy (Nat.le_refl _)]
  congr 1
  rw [Int.mul_right_comm]
theorem tm_zero {x c : Int} (hc : W.Wd c) : tmL 0 x 0 c = c ∧ tmH 0 x 0 c = 0 := by
  unfold tmL tmH tmT W.Wd at *; rw [Int.zero_mul]; omega
end N
theorem Cry.startM {w wo : World} {g : Nat} {zs : List Int} (ha : Arr wo g zs) (hb : Below w.heap.size w wo) (F : Value) (t : TypeId) (x : Int) :
    Cry w g (wo.heap.size + 1) (wo.heap.size + 1 + 1) F zs 0 (((wo.alloc (.cells #[.int .u64 x] 72)).alloc (.cells #[F] t)).alloc (.cells #[.int .u64 0] 72)) ∧
    (((wo.alloc (.cells #[.int .u64 x] 72)).alloc (.cells #[F] t)).alloc (.cells #[.int .u64 0] 72)).cell? ⟨wo.heap.size, 0, none⟩ = some (.int .u64 x) := by
  have h1 := heap_alloc_new wo (.cells #[.int .u64 x] 72)
  have ha1 := ha.alloc (.cells #[.int .u64 x] 72)
  have b1 := hb.alloc hb.size (.cells #[.int .u64 x] 72)
  generalize hw1 : wo.alloc (.cells #[.int .u64 x] 72) = w1 at *
  have e1 : w1.heap.size = wo.heap.size + 1 := by rw [← hw1]; exact World.size_alloc ..
  have h2 := heap_alloc_new w1 (.cells #[F] t)
  have h1' := (Below.heap_alloc w1 (.cells #[F] t) wo.heap.size (by omega)).trans h1
  have ha2 := ha1.alloc (.cells #[F] t)
  have b2 := b1.alloc b1.size (.cells #[F] t)
  generalize hw2 : w1.alloc (.cells #[F] t) = w2 at *
  have e2 : w2.heap.size = wo.heap.size + 1 + 1 := by rw [← hw2, ← e1]; exact World.size_alloc ..
  have h3 := heap_alloc_new w2 (.cells #[.int .u64 0] 72)
  have h2' := (Below.heap_alloc w2 (.cells #[.int .u64 0] 72) w1.heap.size (by omega)).trans h2
  have h1'' := (Below.heap_alloc w2 (.cells #[.int .u64 0] 72) wo.heap.size (by omega)).trans h1'
  rw [e1] at h2'
  rw [e2] at h3
  refine ⟨⟨ha2.alloc _, ?_, ?_, ?_, b2.alloc b2.size _⟩, ?_⟩
  · rw [cell_of_row _ _ 0 _ _ _ h2']; rfl
  · rw [cell_of_row _ _ 0 _ _ _ h3]; rfl
  · simp [World.frozen?, h3]
  · rw [cell_of_row _ _ 0 _ _ _ h1'']; rfl
def MulRel (w : World) (xs ys : List Int) (g : Nat) (i : Value) (wr : World) : Prop :=
  ∃ (k : Nat) (zs : List Int), i = .int .i64 k ∧ k ≤ nn xs ∧ zs.length = nn xs + nn ys ∧ Dg B zs ∧ (∀ j, k + nn ys ≤ j → lim zs j = 0) ∧ val B zs = lo B xs k * val B ys ∧ Arr wr g zs ∧ Below w.heap.size w wr
def MulIn (w : World) (xs ys : List Int) (g b1 b2 bm k : Nat) (F : Value) (i : Value) (wr : World) : Prop :=
  ∃ (j : Nat) (zs : List Int) (c : Int), i = .int .i64 j ∧ j ≤ nn ys ∧ zs.length = nn xs + nn ys ∧ Dg B zs ∧ W.Wd c ∧ (∀ j, k + nn ys ≤ j → lim zs j = 0) ∧
    val B zs + c * Q B (k + j) = lo B xs k * val B ys + lim xs k * lo B ys j * Q B k ∧ Cry w g b1 b2 F zs c wr ∧ wr.cell? ⟨bm, 0, none⟩ = some (.int .u64 (lim xs k))
set_option maxHeartbeats 1000000 in
theorem nmul_any (w : World) (A A' : Option Addr) (n c m d : Nat) (xs ys : List Int) (hx : Sl w A n c xs) (hy : Sl w A' m d ys) (hn : n ≤ 1099511627776) (hm : m ≤ 1099511627776) :
    Calls Tryz.prog 103 #[.slice A n c, .slice A' m d] w (Out w (n + m) (val B xs * val B ys)) := by
  have hnx := nn_le xs
  have hny := nn_le ys
  rw [hx.len] at hnx
  rw [hy.len] at hny
  have hmk : ∀ W : World, (Instr.makeSlice 58 (.int .i64 ((nn xs : Nat) + (nn ys : Nat) : Int)) (.int .i64 ((nn xs : Nat) + (nn ys : Nat) : Int))).run Tryz.prog W = .ok (.slice (some ⟨W.heap.size, 0, none⟩) (nn xs + nn ys) (nn xs + nn ys)) (W.alloc (.cells (madeCells #[.int .u64 0] (nn xs + nn ys)) 72)) := by
    intro W
    have := make_run _ slNat (nn xs + nn ys) (by omega) W
    rwa [Int.natCast_add] at this
  go_enter Tryz.func103, Tryz.ntmps103
  go_wp2_with (first
      | (go_at_call_of 95 (Value.slice A n c); refine (bare_any _ _ _ _ xs hx).mono ?_; rintro e w' ⟨rfl, rfl⟩)
      | (go_at_call_of 95 (Value.slice A' m d); refine (bare_any _ _ _ _ ys hy).mono ?_; rintro e w' ⟨rfl, rfl⟩))
  have HX := Lib.hid hx
  have HY := Lib.hid hy
  have hcx := hx.cap
  have hcy := hy.cap
  clear hx hy hmk
  go_loopw [24] (fun i wr => MulRel w' xs ys w'.heap.size i wr) (fun i _ => nn xs - (intOf i).toNat)
  case atStart =>
    exact ⟨0, List.replicate (nn xs + nn ys) 0, rfl, Nat.zero_le _, by simp, Dg.zeros (by decide) _, fun j _ => lim_zeros _ _, by rw [val_zeros, lo_zero]; simp, Arr.made _ _, (Below.refl _ _).alloc (Nat.le_refl _) _⟩
  case round =>
    obtain ⟨k, zs, rfl, hk, hl, hd, hz, hv, hA, hB⟩ := hrel
    obtain ⟨wo, rfl⟩ : ∃ wo : World, wo = wr := ⟨_, rfl⟩
    by_cases hlt : k < nn xs
    · have hxk := HX.out.dg.lim (b := B) (by decide) k
      obtain ⟨ad, rfl, _, hcx⟩ := (HX.out.below hB).cell (k := k) (by omega)
      have HL := Lib.hid hl
      have HZ := Lib.hid hz
      have HV := Lib.hid hv
      have hg := hB.size
      have hg2 := hA.lt
      clear hl hz hv
      go_wp2_with (first
        | (go_at_call 121; refine (times_any _ _).mono ?_; rintro e w3 ⟨rfl, rfl⟩)
        | (go_at_call 96; refine (carrying_any _ _ _).mono ?_; rintro e w3 ⟨rfl, rfl⟩))
      obtain ⟨hS1, hS2⟩ := Cry.startM hA hB (.func (.func 134) #[] #[.pointer (some ⟨wo.heap.size, 0, none⟩)]) 152 (lim xs k)
      go_loopw [37] (fun i wr => MulIn w' xs ys w'.heap.size (wo.heap.size + 1) (wo.heap.size + 1 + 1) wo.heap.size k (.func (.func 134) #[] #[.pointer (some ⟨wo.heap.size, 0, none⟩)]) i wr) (fun i _ => nn ys - (intOf i).toNat)
      case atStart =>
        exact ⟨0, zs, 0, rfl, Nat.zero_le _, HL.out, hd, W.wd_0, HZ.out, by rw [lo_zero, HV.out]; simp, hS1, hS2⟩
      case round =>
        obtain ⟨j, zs', c', rfl, hj, hl, hd', hc', hz, hv, hC, hm'⟩ := hrel
        obtain ⟨wi, rfl⟩ : ∃ wi : World, wi = wr := ⟨_, rfl⟩
        by_cases hjl : j < nn ys
        · have hyj := HY.out.dg.lim (b := B) (by decide) j
          have hzk := hd'.lim (by decide) (k + j)
          obtain ⟨ad', rfl, _, hcy⟩ := (HY.out.below hC.bl).cell (k := j) (by omega)
          have hcell : wi.cell? ⟨w'.heap.size, k + j, none⟩ = some (.int .u64 (lim zs' (k + j))) := hC.arr.cell (by omega)
          have hs := Lib.hid (mul_step (by omega : k + j < zs'.length) hv)
          have hw := wd_tmL (lim ys j) (lim xs k) (lim zs' (k + j)) c'
          have hw2 := wd_tmH (x := lim ys j) (m := lim xs k) (y := lim zs' (k + j)) (c := c') hyj hxk hzk hc'
          have C1 := hC.carry (by omega) (by omega) (by omega) (tmH (lim ys j) (lim xs k) (lim zs' (k + j)) c')
          have hcell1 := C1.arr.cell (k := k + j) (by omega)
          have hfz1 := C1.arr.frozen (k + j)
          have f1 := hC.fn
          have f2 := hC.cy
          have f3 := hC.fz
          have HLn := Lib.hid hl
          have HZ2 := Lib.hid hz
          have HV2 := Lib.hid hv
          clear hl hz hv
          go_wp2_with (first
            | (go_at_call 112; refine (carry_times wi _ _ wo.heap.size _ (lim xs k) _ c' hyj hxk hzk hc' hm' f1 f2 f3).mono ?_; rintro e w3 ⟨rfl, rfl⟩))
          go_roundw
          case rel =>
            refine ⟨j + 1, _, _, by go_num, by omega, by rw [List.length_set]; exact HLn.out, hd'.set (k + j) hw.1 hw.2, hw2, ?_, hs.out, C1.store (by omega) (by omega) (by omega) (k + j) _, ?_⟩
            · intro jj hjj
              rw [lim_set _ _ _ _ (by rw [HLn.out]; omega), if_neg (by omega)]
              exact HZ2.out jj hjj
            · rw [World.cell?_setCell_other _ _ _ _ (fun e => absurd (congrArg Addr.block e) (by show ¬ w'.heap.size = wo.heap.size; omega)), World.cell?_setCell_other _ _ _ _ (fun e => absurd (congrArg Addr.block e) (by show ¬ wo.heap.size + 1 + 1 = wo.heap.size; omega))]
              exact hm'
          case measure => simp [intOf]; omega
        · obtain rfl : j = nn ys := by omega
          have hcell : wi.cell? ⟨w'.heap.size, k + nn ys, none⟩ = some (.int .u64 (lim zs' (k + nn ys))) := hC.arr.cell (by omega)
          have hz0 := hz (k + nn ys) (Nat.le_refl _)
          have hs := Lib.hid (mul_last HY.out.dg (by omega : k + nn ys < zs'.length) hz0 hv)
          obtain ⟨t1, t2⟩ := tm_zero (x := lim xs k) hc'
          have T1 := Lib.hid t1
          have T2 := Lib.hid t2
          have C1 := hC.carry (by omega) (by omega) (by omega) 0
          have hcell1 := C1.arr.cell (k := k + nn ys) (by omega)
          have hfz1 := C1.arr.frozen (k + nn ys)
          have f1 := hC.fn
          have f2 := hC.cy
          have f3 := hC.fz
          have HLn := Lib.hid hl
          have HZ2 := Lib.hid hz
          have HV2 := Lib.hid hv
          clear hl hz hv hz0 t1 t2
          go_wp2_with (first
            | (go_at_call 112; refine (carry_times wi _ _ wo.heap.size 0 (lim xs k) 0 c' W.wd_0 hxk W.wd_0 hc' hm' f1 f2 f3).mono ?_; rw [T1.out, T2.out]; rintro e w3 ⟨rfl, rfl⟩))
          go_roundw
          case rel =>
            refine ⟨k + 1, _, by go_num, by omega, by rw [List.length_set]; exact HLn.out, hd'.set (k + nn ys) hc'.1 hc'.2, ?_, hs.out, (C1.store (by omega) (by omega) (by omega) (k + nn ys) _).arr, (C1.store (by omega) (by omega) (by omega) (k + nn ys) c').bl⟩
            intro jj hjj
            rw [lim_set _ _ _ _ (by rw [HLn.out]; omega), if_neg (by omega)]
            exact HZ2.out jj (by omega)
          case measure => simp [intOf]; omega
    · obtain rfl : k = nn xs := by omega
      have hS := hA.sl hl (by unfold maxLen; omega) hd
      have hE : val B zs = val B xs * val B ys := by rw [hv, lo_all_nn HX.out.dg (Nat.le_refl _)]
      have HE := Lib.hid hE
      have hnz := nn_le zs
      rw [hl] at hnz
      have HLn := Lib.hid hl
      clear hv hz hl hE
      go_wp2_with (first
        | (go_at_call 95; refine (bare_any _ _ _ _ zs hS).mono ?_; rintro e w3 ⟨rfl, rfl⟩))
      go_ret
      refine ⟨_, _, _, rfl, by omega, ?_, hB⟩
      rw [← HE.out, limbs_of hd]
      exact ⟨hA.own (Nat.le_refl _) HLn.out (by unfold maxLen; omega) hnz, hd.take _⟩
end Go.Proofs.YtfdpddlefobcpaaGreatDoor
/- What Shl of layer 2 answers, over this translation. -/
namespace Go.Proofs.YtfdpddlefobcpaaGreatDoor
open Go.RowKit
set_option linter.unusedVariables false
set_option maxRecDepth 20000
open N
theorem nwithin_yes (n : Int) (h0 : 0 ≤ n) (h1 : n ≤ 65536) (w : World) :
    Calls Tryz.prog 94 #[.int .i64 n] w fun e w' => e = .returned (.bool true) ∧ w' = w := by
  go_enter Tryz.func94, Tryz.ntmps94
  go_wp2
  go_ret
  exact ⟨retb (by simp), rfl⟩
theorem nwithin_no (n : Int) (h : n < 0 ∨ 65536 < n) (w : World) :
    Calls Tryz.prog 94 #[.int .i64 n] w fun e w' => e = .returned (.bool false) ∧ w' = w := by
  by_cases h0 : 0 ≤ n
  · have h1 : ¬ n ≤ 65536 := by omega
    clear h
    go_enter Tryz.func94, Tryz.ntmps94
    go_wp2
    go_ret
    exact ⟨retb (by simp), rfl⟩
  · clear h
    go_enter Tryz.func94, Tryz.ntmps94
    go_wp2
    go_ret
    exact ⟨retb (by simp), rfl⟩
theorem nshl_no (w : World) (A : Option Addr) (n c : Nat) (xs : List Int) (h : Sl w A n c xs) (k : Int) (hk : k < 0 ∨ 65536 < k) :
    Calls Tryz.prog 65 #[.slice A n c, .int .i64 k] w fun e w' => e = .returned (.tuple #[.slice none 0 0, .int .i64 1]) ∧ w' = w := by
  have HK := Lib.hid hk
  clear hk
  go_enter Tryz.func65, Tryz.ntmps65
  go_wp2_with (go_at_call 94; refine (nwithin_no _ HK.out _).mono ?_; rintro e w' ⟨rfl, rfl⟩)
  go_ret2
  exact ⟨rfl, rfl⟩
namespace N
/-- what a step of a shift to the left comes to -/
def slL (x r c : Int) : Int := W.shlL x r + c
theorem shl_low (x r c : Int) (hx : W.Wd x) (h0 : 0 ≤ r) (h1 : r < 64) (hc : 0 ≤ c) (hc1 : c < 2 ^ r.toNat) : bits .or .u64 (W.shlL x r) c = slL x r c ∧ W.Wd (slL x r c) := by
  obtain ⟨m, rfl⟩ := Int.eq_ofNat_of_zero_le h0
  obtain ⟨c, rfl⟩ := Int.eq_ofNat_of_zero_le hc
  obtain ⟨x, rfl⟩ := Int.eq_ofNat_of_zero_le hx.1
  rw [Int.toNat_natCast] at hc1
  have hp := W.pow_pos m
  have hs := W.pow_split m (by omega)
  have e1 : W.shlL (x : Int) m = (x : Int) % 2 ^ (64 - m) * 2 ^ m := by
    unfold W.shlL
    rw [Int.toNat_natCast, hs, Int.mul_comm (2 ^ (64 - m)), Int.mul_comm (x : Int), Int.mul_emod_mul_of_pos _ _ hp, Int.mul_comm]
  have e2 : W.shlL (x : Int) m = ((x % 2 ^ (64 - m) * 2 ^ m : Nat) : Int) := by
    rw [e1, Int.natCast_mul, W.cast_pow, Int.natCast_emod, W.cast_pow]
  have hc2 : c < 2 ^ m := by rw [← W.cast_pow] at hc1; omega
  have hlt : x % 2 ^ (64 - m) * 2 ^ m + c < 18446744073709551616 := by
    have h3 : x % 2 ^ (64 - m) < 2 ^ (64 - m) := Nat.mod_lt _ (Nat.two_pow_pos _)
    have h4 : (x % 2 ^ (64 - m) + 1) * 2 ^ m ≤ 2 ^ (64 - m) * 2 ^ m := Nat.mul_le_mul_right _ (by omega)
    rw [← Nat.pow_add, show 64 - m + m = 64 by omega, Nat.add_mul] at h4
    omega
  unfold slL
  rw [e2]
  refine ⟨?_, by unfold W.Wd; omega⟩
  rw [bits_or_u64_nat _ _ (by omega) (by omega), Nat.or_comm, W.nat_or _ _ _ hc2]
  omega
theorem shl_high {x r : Int} (hx : W.Wd x) (h0 : 0 ≤ r) (h1 : r < 64) : 0 ≤ W.shlH x r ∧ W.shlH x r < 2 ^ r.toNat := by
  obtain ⟨m, rfl⟩ := Int.eq_ofNat_of_zero_le h0
  unfold W.shlH
  rw [Int.toNat_natCast]
  have hp := W.pow_pos m
  refine ⟨Int.ediv_nonneg (Int.mul_nonneg hx.1 (by omega)) (by omega), ?_⟩
  refine Int.ediv_lt_of_lt_mul (by omega) ?_
  rw [Int.mul_comm (2 ^ m)]
  exact Int.mul_lt_mul_of_pos_right hx.2 hp
theorem shl_eq (x r : Int) : W.shlL x r + W.shlH x r * 18446744073709551616 = x * 2 ^ r.toNat := by unfold W.shlL W.shlH; omega
end N
theorem shl1_any (w : World) (br : Nat) (x y c r : Int) (hx : W.Wd x) (h0 : 0 ≤ r) (h1 : r < 64) (hc : 0 ≤ c) (hc1 : c < 2 ^ r.toNat) (h : w.cell? ⟨br, 0, none⟩ = some (.int .i64 r)) :
    Calls Tryz.prog 97 #[.int .u64 x, .int .u64 y, .int .u64 c, .pointer (some ⟨br, 0, none⟩)] w fun e w' =>
      e = .returned (.tuple #[.int .u64 (slL x r c), .int .u64 (W.shlH x r)]) ∧ ∃ k, w' = w.drewN k := by
  have HL := Lib.hid (shl_low x r c hx h0 h1 hc hc1)
  go_enter Tryz.func97, Tryz.ntmps97
  go_wp2_with (go_at_call 98; refine (shl_yes _ _ hx h0 (by omega) _).mono ?_; rintro e w' ⟨rfl, k, rfl⟩)
  go_ret2
  rw [← HL.out.1]
  exact ⟨rfl, _, rfl⟩
theorem carry_shl (w : World) (b1 b2 br : Nat) (x y c r : Int) (hx : W.Wd x) (h0 : 0 ≤ r) (h1 : r < 64) (hc : 0 ≤ c) (hc1 : c < 2 ^ r.toNat)
    (h : w.cell? ⟨br, 0, none⟩ = some (.int .i64 r)) (g1 : w.cell? ⟨b1, 0, none⟩ = some (.func (.func 97) #[] #[.pointer (some ⟨br, 0, none⟩)])) (g2 : w.cell? ⟨b2, 0, none⟩ = some (.int .u64 c)) (hf : w.frozen? ⟨b2, 0, none⟩ = false) :
    Calls Tryz.prog 112 #[.int .u64 x, .int .u64 y, .pointer (some ⟨b1, 0, none⟩), .pointer (some ⟨b2, 0, none⟩)] w fun e w' =>
      e = .returned (.int .u64 (slL x r c)) ∧ ∃ k, w' = (w.setCell ⟨b2, 0, none⟩ (.int .u64 (W.shlH x r))).drewN k := by
  go_enter Tryz.func112, Tryz.ntmps112
  go_wp2_with (go_at_call 97; refine (shl1_any _ br x y c r hx h0 h1 hc hc1 h).mono ?_; rintro e w' ⟨rfl, k, rfl⟩)
  go_ret
  exact ⟨rfl, k, rfl⟩
namespace N
theorem shl_step {xs zs : List Int} {c r : Int} {wh k : Nat} (hk : wh + k < zs.length) (hz : lim zs (wh + k) = 0)
    (h : val B zs + c * Q B (wh + k) = lo B xs k * 2 ^ r.toNat * Q B wh) :
    val B (zs.set (wh + k) (slL (lim xs k) r c)) + W.shlH (lim xs k) r * Q B (wh + (k + 1)) = lo B xs (k + 1) * 2 ^ r.toNat * Q B wh := by
  rw [val_set B zs _ _ hk, hz, Int.sub_zero, lo_succ, show wh + (k + 1) = wh + k + 1 by omega, Q_succ]
  have e := shl_eq (lim xs k) r
  unfold slL
  generalize W.shlL (lim xs k) r = s at *
  generalize W.shlH (lim xs k) r = t at *
  generalize lim xs k = x at *
  generalize (2 : Int) ^ r.toNat = p at *
  have e2 : (s + c) * Q B (wh + k) + t * (Q B (wh + k) * B) = (x * p + c) * Q B (wh + k) := by
    rw [← e, ← Int.mul_assoc t, Int.mul_right_comm t, ← Int.add_mul]
    congr 1
    show s + c + t * 18446744073709551616 = _
    omega
  have e3 : (lo B xs k + x * Q B k) * p * Q B wh = lo B xs k * p * Q B wh + x * p * Q B (wh + k) := by
    rw [Int.add_mul, Int.add_mul, Q_add]
    congr 1
    rw [Int.mul_assoc, Int.mul_assoc x p, Int.mul_assoc x]
    congr 1
    rw [Int.mul_comm (Q B k), Int.mul_assoc]
  rw [Int.add_mul (x * p)] at e2
  rw [e3]
  omega
theorem shl_last {xs zs : List Int} {c n : Int} {wh r : Nat} (hx : Dg B xs) (hz : Dg B zs) (hl : zs.length = wh + nn xs + 1) (hc : 0 ≤ c) (hn : n = 64 * wh + r) (hr : r < 64)
    (h : val B zs + c * Q B (wh + (nn xs + 1)) = lo B xs (nn xs + 1) * 2 ^ (r : Int).toNat * Q B wh) : val B zs = val B xs * 2 ^ n.toNat := by
  rw [lo_all_nn hx (by omega), Int.toNat_natCast] at h
  have e : (2 : Int) ^ n.toNat = 2 ^ r * Q B wh := by
    rw [Q_two, ← Int.pow_add]; congr 1; omega
  rw [e, ← Int.mul_assoc, ← h]
  have e1 := val_lt_nn hx (Nat.le_refl _)
  have e5 := val_nonneg (b := B) (by decide) hz
  have e0 := val_nonneg (b := B) (by decide) hx
  have hq := Q_pos (b := B) (by decide) (wh + (nn xs + 1))
  have hqw := Q_pos (b := B) (by decide) wh
  have hqn := Q_pos (b := B) (by decide) (nn xs)
  have hp : (2 : Int) ^ r ≤ B := by
    have : (2 : Int) ^ r ≤ 2 ^ 64 := by rw [← W.cast_pow, ← W.cast_pow]; exact Int.ofNat_le.2 (Nat.pow_le_pow_right (by omega) (by omega))
    exact this
  have hp0 := W.pow_pos r
  have e2 : val B xs * 2 ^ r * Q B wh < Q B (wh + (nn xs + 1)) := by
    rw [Q_add, Q_succ, Int.mul_comm (Q B wh)]
    refine Int.mul_lt_mul_of_pos_right ?_ hqw
    have h1 : val B xs * 2 ^ r < Q B (nn xs) * 2 ^ r := Int.mul_lt_mul_of_pos_right e1 hp0
    have h2 : Q B (nn xs) * 2 ^ r ≤ Q B (nn xs) * B := Int.mul_le_mul_of_nonneg_left hp (by omega)
    omega
  have : c = 0 := by
    apply Classical.byContradiction; intro hne
    have e6 : 1 * Q B (wh + (nn xs + 1)) ≤ c * Q B (wh + (nn xs + 1)) := Int.mul_le_mul_of_nonneg_right (by omega) (by omega)
    omega
  subst this
  omega
end N
def ShlRel (w : World) (xs : List Int) (wh : Nat) (r : Nat) (g b1 b2 br : Nat) (F : Value) (i : Value) (wr : World) : Prop :=
  ∃ (k : Nat) (zs : List Int) (c : Int), i = .int .i64 k ∧ k ≤ nn xs + 1 ∧ zs.length = wh + nn xs + 1 ∧ Dg B zs ∧ 0 ≤ c ∧ c < 2 ^ (r : Int).toNat ∧ (∀ j, wh + k ≤ j → lim zs j = 0) ∧
    val B zs + c * Q B (wh + k) = lo B xs k * 2 ^ (r : Int).toNat * Q B wh ∧ Cry w g b1 b2 F zs c wr ∧ wr.cell? ⟨br, 0, none⟩ = some (.int .i64 r)
theorem Cry.after {w w1 : World} (hb : Below w.heap.size w w1) (h1 : w.heap.size ≤ w1.heap.size) {gs b1 b2 : Nat} {F : Value} {zs : List Int} {c : Int} {wr : World} (h : Cry w1 gs b1 b2 F zs c wr) : Cry w gs b1 b2 F zs c wr :=
  ⟨h.arr, h.fn, h.cy, h.fz, hb.trans (h.bl.mono h1)⟩
set_option maxHeartbeats 1000000 in
theorem nshl_any (w : World) (A : Option Addr) (n c : Nat) (xs : List Int) (hx : Sl w A n c xs) (hn : n ≤ 1099511627776) (m : Int) (h0 : 0 ≤ m) (h1 : m ≤ 65536) :
    Calls Tryz.prog 65 #[.slice A n c, .int .i64 m] w (Out2 w (n + 1025) (val B xs * 2 ^ m.toNat) 0) := by
  have hnx := nn_le xs
  rw [hx.len] at hnx
  obtain ⟨wh, hwh⟩ : ∃ wh : Nat, m / 64 = (wh : Int) := ⟨(m / 64).toNat, by omega⟩
  obtain ⟨r, hr⟩ : ∃ r : Nat, m % 64 = (r : Int) := ⟨(m % 64).toNat, by omega⟩
  have hr64 : r < 64 := by omega
  have hwl : wh ≤ 1024 := by omega
  have HM := Lib.hid (by omega : m = 64 * wh + r)
  have hmk : ∀ W : World, (Instr.makeSlice 58 (.int .i64 ((wh : Int) + (nn xs : Nat) + 1)) (.int .i64 ((wh : Int) + (nn xs : Nat) + 1))).run Tryz.prog W = .ok (.slice (some ⟨W.heap.size, 0, none⟩) (wh + nn xs + 1) (wh + nn xs + 1)) (W.alloc (.cells (madeCells #[.int .u64 0] (wh + nn xs + 1)) 72)) := by
    intro W
    have := make_run _ slNat (wh + nn xs + 1) (by omega) W
    rwa [Int.natCast_add, Int.natCast_add] at this
  go_enter Tryz.func65, Tryz.ntmps65
  go_wp2_with (first
      | (go_at_call 94; refine (nwithin_yes _ h0 h1 _).mono ?_; rintro e w' ⟨rfl, rfl⟩)
      | (go_at_call 95; refine (bare_any _ _ _ _ xs hx).mono ?_; rintro e w' ⟨rfl, rfl⟩)
      | (go_at_call 96; refine (carrying_any _ _ _).mono ?_; rintro e w2 ⟨rfl, rfl⟩))
  have HX := Lib.hid hx
  have hst := Cry.start (w'.alloc (.cells #[.int .i64 r] 3)) (wh + nn xs + 1) (.func (.func 97) #[] #[.pointer (some ⟨w'.heap.size, 0, none⟩)]) 152
  have hst1 := hst.after ((Below.refl _ w').alloc (Nat.le_refl _) _) (by simp)
  have hbr := (hst.bl.cell (p := ⟨w'.heap.size, 0, none⟩) (by simp)).trans (World.cell?_alloc_new w' #[.int .i64 r] 3 0)
  rw [World.size_alloc] at hst1
  clear hx hmk hst
  go_loopw [31] (fun i wr => ShlRel w' xs wh r (w'.heap.size + 1) (w'.heap.size + 1 + 1) (w'.heap.size + 1 + 1 + 1) w'.heap.size (.func (.func 97) #[] #[.pointer (some ⟨w'.heap.size, 0, none⟩)]) i wr) (fun i _ => nn xs + 1 - (intOf i).toNat)
  case atStart =>
    refine ⟨0, List.replicate (wh + nn xs + 1) 0, 0, rfl, Nat.zero_le _, by simp, Dg.zeros (by decide) _, by omega, W.pow_pos _, fun j _ => lim_zeros _ _, by rw [val_zeros, lo_zero]; simp, hst1, hbr⟩
  case round =>
    obtain ⟨k, zs, c', rfl, hk, hl, hd, hc0, hc1, hz, hv, hC, hbr'⟩ := hrel
    obtain ⟨wo, rfl⟩ : ∃ wo : World, wo = wr := ⟨_, rfl⟩
    by_cases hlt : k < nn xs + 1
    · have hxk := HX.out.dg.lim (b := B) (by decide) k
      have hs := Lib.hid (shl_step (r := (r : Int)) (by omega : wh + k < zs.length) (hz (wh + k) (Nat.le_refl _)) hv)
      have hw := (shl_low (lim xs k) r c' hxk (by omega) (by omega) hc0 hc1).2
      have hw2 := shl_high (x := lim xs k) (r := (r : Int)) hxk (by omega) (by omega)
      have hX := HX.out.below hC.bl
      have C1 := hC.carry (by omega) (by omega) (by omega) (W.shlH (lim xs k) r)
      have hcell1 := C1.arr.cell (k := wh + k) (by omega)
      have hfz1 := C1.arr.frozen (wh + k)
      have f1 := hC.fn
      have f2 := hC.cy
      have f3 := hC.fz
      have HV := Lib.hid hv
      have HZ := Lib.hid hz
      have HLn := Lib.hid hl
      have HC1 := Lib.hid hc1
      have HW2 := Lib.hid hw2
      clear hv hz hl hc1 hw2
      have ei : ((wh : Int) + (k : Int)).toNat = wh + k := by omega
      go_wp2_with (first
        | (go_at_call 99; refine (limb_tr _ _ _ _ xs hX k (by omega)).mono ?_; rintro e w3 ⟨rfl, rfl⟩)
        | (go_at_call 112; refine (carry_shl _ _ _ w'.heap.size _ _ c' r hxk (by omega) (by omega) hc0 HC1.out hbr' f1 f2 f3).mono ?_; rintro e w3 ⟨rfl, q, rfl⟩))
      go_roundw
      case rel =>
        refine ⟨k + 1, _, _, by go_num, by omega, by rw [List.length_set]; exact HLn.out, hd.set (wh + k) hw.1 hw.2, HW2.out.1, HW2.out.2, ?_, hs.out, (C1.store (by omega) (by omega) (by omega) (wh + k) _).drewN _, ?_⟩
        · intro j hj
          rw [lim_set _ _ _ _ (by rw [HLn.out]; omega), if_neg (by omega)]
          exact HZ.out j (by omega)
        · refine (World.cell?_setCell_other _ ⟨w'.heap.size + 1, wh + k, none⟩ _ _ (fun e => absurd (congrArg Addr.block e) (by show ¬ w'.heap.size + 1 = w'.heap.size; omega))).trans ?_
          exact (World.cell?_setCell_other _ _ _ _ (fun e => absurd (congrArg Addr.block e) (by show ¬ w'.heap.size + 1 + 1 + 1 = w'.heap.size; omega))).trans hbr'
      case measure => simp [intOf]; omega
    · obtain rfl : k = nn xs + 1 := by omega
      have hS := hC.arr.sl hl (by unfold maxLen; omega) hd
      have hE := Lib.hid (shl_last HX.out.dg hd hl hc0 HM.out hr64 hv)
      have hnz := nn_le zs
      rw [hl] at hnz
      have HLn := Lib.hid hl
      have HC1 := Lib.hid hc1
      clear hv hz hl hc1
      go_wp2_with (first
        | (go_at_call 95; refine (bare_any _ _ _ _ zs hS).mono ?_; rintro e w3 ⟨rfl, rfl⟩))
      go_ret2
      refine ⟨_, _, _, rfl, by omega, ?_, hC.bl⟩
      rw [← hE.out, limbs_of hd]
      exact ⟨hC.arr.own (by omega) HLn.out (by unfold maxLen; omega) hnz, hd.take _⟩
end Go.Proofs.YtfdpddlefobcpaaGreatDoor
/- Plain mathematics of a shift to the right that goes from the highest limb down. -/
namespace Go.Proofs.YtfdpddlefobcpaaGreatDoor
set_option linter.unusedVariables false
set_option maxRecDepth 20000
namespace N
/-- the row, and the limb above, behind one round -/
def stStep (ys : List Int) (r : Int) {ln : Nat} (s : List Int × Int) (x : Fin ln) : List Int × Int := (s.1.set x.val (W.shr s.2 (lim ys x.val) r), lim ys x.val)
def st (ys : List Int) (r : Int) (ln : Nat) (pre : List (Fin ln)) : List Int × Int := pre.foldl (stStep ys r) (List.replicate ln 0, 0)
theorem st_snoc (ys : List Int) (r : Int) (ln : Nat) (pre : List (Fin ln)) (x : Fin ln) : st ys r ln (pre ++ [x]) = stStep ys r (st ys r ln pre) x := by simp [st, List.foldl_append]
theorem st_ok {ys : List Int} (hy : Dg B ys) (r : Int) (ln : Nat) : ∀ (pre : List (Fin ln)) (s : List Int × Int), s.1.length = ln → Dg B s.1 → W.Wd s.2 →
    (pre.foldl (stStep ys r) s).1.length = ln ∧ Dg B (pre.foldl (stStep ys r) s).1 ∧ W.Wd (pre.foldl (stStep ys r) s).2
  | [], s, h1, h2, h3 => ⟨h1, h2, h3⟩
  | x :: t, s, h1, h2, h3 => by
    rw [List.foldl_cons]
    have hw := W.wd_shr s.2 (lim ys x.val) r
    exact st_ok hy r ln t _ (by simp [stStep, h1]) (h2.set _ hw.1 hw.2) (hy.lim (by decide) _)
theorem st_ok' {ys : List Int} (hy : Dg B ys) (r : Int) (ln : Nat) (pre : List (Fin ln)) : (st ys r ln pre).1.length = ln ∧ Dg B (st ys r ln pre).1 ∧ W.Wd (st ys r ln pre).2 :=
  st_ok hy r ln pre _ (by simp) (Dg.zeros (by decide) _) W.wd_0
theorem st_dn {ys : List Int} (hy : Dg B ys) (r : Int) (ln : Nat) (h0 : lim ys ln = 0) : ∀ (k : Nat) (pre : List (Fin ln)), k ≤ ln → pre.map Fin.val = dn ln k →
    (st ys r ln pre).2 = lim ys (ln - k) ∧ ∀ j, lim (st ys r ln pre).1 j = if ln - k ≤ j ∧ j < ln then W.shr (lim ys (j + 1)) (lim ys j) r else 0 := by
  intro k
  induction k with
  | zero =>
    intro pre _ hp
    have : pre = [] := by simpa [dn, upto] using hp
    subst this
    refine ⟨h0.symm, fun j => ?_⟩
    rw [if_neg (by omega)]
    exact lim_zeros _ _
  | succ k ih =>
    intro pre hk hp
    rcases List.eq_nil_or_concat pre with e | ⟨ini, last, e⟩
    · subst e
      have := congrArg List.length hp
      rw [dn, upto_length] at this; simp at this
    · subst e
      rw [List.concat_eq_append, dn_succ, List.map_append] at hp
      obtain ⟨e1, e2⟩ := List.append_inj' hp rfl
      have e3 : last.val = ln - 1 - k := by simpa using e2
      obtain ⟨i1, i2⟩ := ih ini (by omega) e1
      have hl := (st_ok' hy r ln ini).1
      rw [List.concat_eq_append, st_snoc]
      unfold stStep
      refine ⟨by show lim ys last.val = _; rw [e3, show ln - 1 - k = ln - (k + 1) by omega], fun j => ?_⟩
      show lim ((st ys r ln ini).1.set last.val _) j = _
      rw [lim_set _ _ _ _ (by rw [hl]; exact last.2), i1, i2 j, e3]
      by_cases hj : j = ln - 1 - k
      · rw [if_pos hj, if_pos (by omega), hj, show ln - 1 - k + 1 = ln - k by omega]
      · rw [if_neg hj]
        by_cases hj2 : ln - k ≤ j ∧ j < ln
        · rw [if_pos hj2, if_pos (by omega)]
        · rw [if_neg hj2, if_neg (by omega)]
theorem shr_zero (r : Int) : W.shr 0 0 r = 0 := by unfold W.shr; simp
/-- a limb of a value over 2 to the power of r, by two limbs of the value -/
theorem shr_lim {ys : List Int} (hy : Dg B ys) (r : Nat) (hr : r < 64) (j : Nat) : W.shr (lim ys (j + 1)) (lim ys j) (r : Int) = val B ys / 2 ^ r / Q B j % B := by
  have hq := Q_pos (b := B) (by decide) j
  have hp := W.pow_pos r
  have e1 : val B ys / 2 ^ r / Q B j = val B ys / Q B j / 2 ^ r := by
    rw [Int.ediv_ediv_of_nonneg (by omega), Int.ediv_ediv_of_nonneg (by omega), Int.mul_comm]
  have e2 : lim ys (j + 1) = val B ys / Q B j / 18446744073709551616 % 18446744073709551616 := by
    rw [lim_div (by decide) hy, Q_succ, ← Int.ediv_ediv_of_nonneg (by omega)]
  have e3 : lim ys j = val B ys / Q B j % 18446744073709551616 := lim_div (by decide) hy j
  rw [e1, e2, e3]
  unfold W.shr
  rw [Int.toNat_natCast]
  show _ = val B ys / Q B j / 2 ^ r % 18446744073709551616
  have hv : 0 ≤ val B ys / Q B j := Int.ediv_nonneg (val_nonneg (by decide) hy) (by omega)
  generalize val B ys / Q B j = v at *
  have hs := W.pow_split r (by omega)
  generalize hpp : (2 : Int) ^ r = p at *
  generalize (2 : Int) ^ (64 - r) = s at *
  have e4 : v = (v / 18446744073709551616 % 18446744073709551616 * 18446744073709551616 + v % 18446744073709551616) + p * (s * 18446744073709551616 * (v / 18446744073709551616 / 18446744073709551616)) := by
    have : p * (s * 18446744073709551616 * (v / 18446744073709551616 / 18446744073709551616)) = (s * p) * (18446744073709551616 * (v / 18446744073709551616 / 18446744073709551616)) := by
      rw [Int.mul_assoc s, ← Int.mul_assoc p, Int.mul_comm p s]
    rw [this, ← hs]
    omega
  generalize hu : v / 18446744073709551616 % 18446744073709551616 * 18446744073709551616 + v % 18446744073709551616 = u at *
  rw [e4, Int.add_mul_ediv_left _ _ (by omega)]
  rw [Int.mul_right_comm, Int.mul_comm (s * _), Int.add_mul_emod_self_left]
theorem lim_limbs {n : Int} (hn : 0 ≤ n) (j : Nat) : lim (limbs n) j = n / Q B j % B := by
  rw [lim_div (by decide) (limbs_dg n), limbs_val hn]
theorem shr_done {ys : List Int} (hy : Dg B ys) (r : Nat) (hr : r < 64) (ln : Nat) (h0 : ∀ j, ln ≤ j → lim ys j = 0) (pre : List (Fin ln)) (hp : pre.map Fin.val = dn ln ln) :
    val B (st ys r ln pre).1 = val B ys / 2 ^ r := by
  have h := (st_dn hy r ln (h0 ln (Nat.le_refl _)) ln pre (Nat.le_refl _) hp).2
  have hv : 0 ≤ val B ys / 2 ^ r := Int.ediv_nonneg (val_nonneg (by decide) hy) (Int.le_of_lt (W.pow_pos r))
  rw [← limbs_val hv]
  refine val_of_lim B (fun j => ?_)
  rw [lim_limbs hv, ← shr_lim hy r hr, h j]
  by_cases hj : j < ln
  · rw [if_pos ⟨by omega, hj⟩]
  · rw [if_neg (by omega), h0 j (by omega), h0 (j + 1) (by omega), shr_zero]
end N
end Go.Proofs.YtfdpddlefobcpaaGreatDoor
/- What Shr of layer 2 answers, over this translation. -/
namespace Go.Proofs.YtfdpddlefobcpaaGreatDoor
open Go.RowKit Go.Shelf
set_option linter.unusedVariables false
set_option maxRecDepth 20000
open N
attribute [local go_sem] Oper.semAt_some
abbrev ShrK (S : Nat) : Value := .func (.func 112) #[] #[.pointer (some ⟨S + 1 + 1 + 1, 0, none⟩), .pointer (some ⟨S + 1 + 1 + 1 + 1, 0, none⟩)]
theorem keeps_two (V : World) (p p' : Addr) (u u' : Value) (k : Nat) : KeepsOthers V (((V.setCell p u).drewN k).setCell p' u') :=
  (KeepsOthers.setCell V p u).trans (KeepsOthers.trans (⟨Nat.le_refl _, fun _ _ h _ => h⟩ : KeepsOthers (V.setCell p u) ((V.setCell p u).drewN k)) (KeepsOthers.setCell _ _ _))
theorem KpB.two {n₀ Bs : Nat} (V : World) {p p' : Addr} (h : n₀ ≤ p.block) (hB : Bs ≠ p.block) (h' : n₀ ≤ p'.block) (hB' : Bs ≠ p'.block) (u u' : Value) (k : Nat) : KpB n₀ Bs V (((V.setCell p u).drewN k).setCell p' u') :=
  (KpB.set V h hB u).trans (KpB.trans (⟨⟨rfl, rfl, rfl, Nat.le_refl _, fun _ _ => rfl⟩, rfl⟩ : KpB n₀ Bs (V.setCell p u) ((V.setCell p u).drewN k)) (KpB.set _ h' hB' u'))
theorem ownFrom_of_below {β : Type} {B : Nat} {I : β → World → Prop} (h : ∀ s W W', I s W → Below B W W' → I s W') (hs : ∀ s W, I s W → B ≤ W.heap.size) : OwnFrom B I :=
  fun s W W' row hi hg hr => h s W W' hi ⟨hg.os, hg.tape, hg.output, hg.size, fun k hk => hg.block k (Nat.lt_of_lt_of_le hk (hs s W hi)) (fun e => by have := (hr k e.symm).1; omega)⟩
end Go.Proofs.YtfdpddlefobcpaaGreatDoor
/- What is known of the naturals that a statement has at hand, carried from call to call. -/
namespace Go.Proofs.YtfdpddlefobcpaaGreatDoor
open Go.RowKit
set_option linter.unusedVariables false
set_option maxRecDepth 20000
open N
/-- a natural at hand: its slice value, how many limbs it has at most, its limbs, its value -/
structure Ent where
  A : Option Addr
  n : Nat
  c : Nat
  k : Nat
  xs : List Int
  v : Int
def Ok (w : World) (t : Ent) : Prop := Sl w t.A t.n t.c t.xs ∧ t.n ≤ t.k ∧ val B t.xs = t.v
/-- since w0 nothing of what was there has turned, and each natural at hand reads as it did -/
def St (w0 w : World) (S : List Ent) : Prop := Below w0.heap.size w0 w ∧ ∀ t ∈ S, Ok w t
section
variable {w0 w w' : World} {S : List Ent}
theorem St.below (h : St w0 w S) (hb : Below w.heap.size w w') : St w0 w' S := ⟨h.1.trans (hb.mono h.1.size), fun t ht => ⟨(h.2 t ht).1.below hb, (h.2 t ht).2⟩⟩
theorem St.alloc (h : St w0 w S) (o : Obj) : St w0 (w.alloc o) S := h.below ((Below.refl _ _).alloc (Nat.le_refl _) _)
theorem St.drewN (h : St w0 w S) (k : Nat) : St w0 (w.drewN k) S := h.below ⟨rfl, rfl, rfl, Nat.le_refl _, fun _ _ => rfl⟩
theorem St.drew (h : St w0 w S) : St w0 w.drew S := h.below ⟨rfl, rfl, rfl, Nat.le_refl _, fun _ _ => rfl⟩
theorem St.get (h : St w0 w S) {A : Option Addr} {n c k : Nat} {xs : List Int} {v : Int} (hm : (⟨A, n, c, k, xs, v⟩ : Ent) ∈ S) : Sl w A n c xs ∧ n ≤ k ∧ val B xs = v := h.2 _ hm
theorem St.cons (h : St w0 w S) {A : Option Addr} {n c k : Nat} {xs : List Int} {v : Int} (h1 : Sl w A n c xs) (h2 : n ≤ k) (h3 : val B xs = v) : St w0 w (⟨A, n, c, k, xs, v⟩ :: S) :=
  ⟨h.1, fun t ht => by
    rcases List.mem_cons.1 ht with e | e
    · subst e; exact ⟨h1, h2, h3⟩
    · exact h.2 t e⟩
theorem St.nil_ (w : World) : St w w [] := ⟨Below.refl _ _, fun t ht => by cases ht⟩
theorem St.zero (h : St w0 w S) : St w0 w (⟨none, 0, 0, 0, [], 0⟩ :: S) := h.cons Sl.none (Nat.le_refl _) rfl
/-- a literal natural, just made -/
theorem St.lit (h : St w0 w S) (xs : List Int) (hd : Dg B xs) (hl : xs.length ≤ 1000) : St w0 (w.alloc (.cells (uv xs).toArray 72)) (⟨some ⟨w.heap.size, 0, none⟩, xs.length, xs.length, xs.length, xs, val B xs⟩ :: S) :=
  (h.alloc _).cons (Sl.lit w xs _ xs.length rfl hd rfl (by omega)) (Nat.le_refl _) rfl
theorem St.out (h : St w0 w S) {m : Nat} {r : Int} {e : Ending} (hr : 0 ≤ r) (ho : Out w m r e w') : ∃ A n c, e = .returned (.slice A n c) ∧ St w0 w' (⟨A, n, c, m, limbs r, r⟩ :: S) := by
  obtain ⟨A, n, c, he, hn, hown, hb⟩ := ho
  exact ⟨A, n, c, he, (h.below hb).cons hown.sl hn (limbs_val hr)⟩
theorem St.out2 (h : St w0 w S) {m : Nat} {r q : Int} {e : Ending} (hr : 0 ≤ r) (ho : Out2 w m r q e w') : ∃ A n c, e = .returned (.tuple #[.slice A n c, .int .i64 q]) ∧ St w0 w' (⟨A, n, c, m, limbs r, r⟩ :: S) := by
  obtain ⟨A, n, c, he, hn, hown, hb⟩ := ho
  exact ⟨A, n, c, he, (h.below hb).cons hown.sl hn (limbs_val hr)⟩
theorem Ok.nonneg {t : Ent} (h : Ok w t) : 0 ≤ t.v := by rw [← h.2.2]; exact val_nonneg (by decide) h.1.dg
variable {A A' : Option Addr} {n c m d k k' : Nat} {xs ys : List Int} {v u : Int}
theorem add_s (h : St w0 w S) (h1 : (⟨A, n, c, k, xs, v⟩ : Ent) ∈ S) (h2 : (⟨A', m, d, k', ys, u⟩ : Ent) ∈ S) (hk : k ≤ 1099511627776) (hk' : k' ≤ 1099511627776) :
    Calls Tryz.prog 118 #[.slice A n c, .slice A' m d] w fun e w' => ∃ A n c, e = .returned (.slice A n c) ∧ St w0 w' (⟨A, n, c, k + k' + 1, limbs (v + u), v + u⟩ :: S) := by
  obtain ⟨a1, a2, rfl⟩ := h.get h1
  obtain ⟨b1, b2, rfl⟩ := h.get h2
  refine (nadd_any w A A' n c m d xs ys a1 b1 (by omega) (by omega)).mono fun e w' ho => ?_
  obtain ⟨A, n, c, he, hn, hown, hb⟩ := ho
  exact h.out (by have := val_nonneg (b := B) (by decide) a1.dg; have := val_nonneg (b := B) (by decide) b1.dg; omega) ⟨A, n, c, he, by omega, hown, hb⟩
theorem mul_s (h : St w0 w S) (h1 : (⟨A, n, c, k, xs, v⟩ : Ent) ∈ S) (h2 : (⟨A', m, d, k', ys, u⟩ : Ent) ∈ S) (hk : k ≤ 1099511627776) (hk' : k' ≤ 1099511627776) :
    Calls Tryz.prog 103 #[.slice A n c, .slice A' m d] w fun e w' => ∃ A n c, e = .returned (.slice A n c) ∧ St w0 w' (⟨A, n, c, k + k', limbs (v * u), v * u⟩ :: S) := by
  obtain ⟨a1, a2, rfl⟩ := h.get h1
  obtain ⟨b1, b2, rfl⟩ := h.get h2
  refine (nmul_any w A A' n c m d xs ys a1 b1 (by omega) (by omega)).mono fun e w' ho => ?_
  obtain ⟨A, n, c, he, hn, hown, hb⟩ := ho
  exact h.out (Int.mul_nonneg (val_nonneg (b := B) (by decide) a1.dg) (val_nonneg (b := B) (by decide) b1.dg)) ⟨A, n, c, he, by omega, hown, hb⟩
theorem trim_s (h : St w0 w S) (h1 : (⟨A, n, c, k, xs, v⟩ : Ent) ∈ S) (hk : k ≤ 1099511627776) :
    Calls Tryz.prog 82 #[.slice A n c] w fun e w' => ∃ A n c, e = .returned (.slice A n c) ∧ St w0 w' (⟨A, n, c, k, limbs v, v⟩ :: S) := by
  obtain ⟨a1, a2, rfl⟩ := h.get h1
  refine (trim_any w A n c xs a1 (by omega)).mono fun e w' ho => ?_
  obtain ⟨A, n, c, he, hn, hown, hb⟩ := ho
  exact h.out (val_nonneg (b := B) (by decide) a1.dg) ⟨A, n, c, he, by omega, hown, hb⟩
theorem sub_s (h : St w0 w S) (h1 : (⟨A, n, c, k, xs, v⟩ : Ent) ∈ S) (h2 : (⟨A', m, d, k', ys, u⟩ : Ent) ∈ S) (hk : k ≤ 1099511627776) (hk' : k' ≤ 1099511627776) (hle : u ≤ v) :
    Calls Tryz.prog 129 #[.slice A n c, .slice A' m d] w fun e w' => ∃ A n c, e = .returned (.tuple #[.slice A n c, .int .i64 0]) ∧ St w0 w' (⟨A, n, c, k, limbs (v - u), v - u⟩ :: S) := by
  obtain ⟨a1, a2, rfl⟩ := h.get h1
  obtain ⟨b1, b2, rfl⟩ := h.get h2
  refine (nsub_yes w A A' n c m d xs ys a1 b1 (by omega) (by omega) hle).mono fun e w' ho => ?_
  obtain ⟨A, n, c, he, hn, hown, hb⟩ := ho
  exact h.out2 (by omega) ⟨A, n, c, he, by omega, hown, hb⟩
theorem sub_n (h : St w0 w S) (h1 : (⟨A, n, c, k, xs, v⟩ : Ent) ∈ S) (h2 : (⟨A', m, d, k', ys, u⟩ : Ent) ∈ S) (hk : k ≤ 1099511627776) (hk' : k' ≤ 1099511627776) (hlt : v < u) :
    Calls Tryz.prog 129 #[.slice A n c, .slice A' m d] w fun e w' => e = .returned (.tuple #[.slice none 0 0, .int .i64 8]) ∧ St w0 w' S := by
  obtain ⟨a1, a2, rfl⟩ := h.get h1
  obtain ⟨b1, b2, rfl⟩ := h.get h2
  exact (nsub_no w A A' n c m d xs ys a1 b1 (by omega) (by omega) hlt).mono fun e w' ⟨he, hb⟩ => ⟨he, h.below hb⟩
theorem cmp_s (h : St w0 w S) (h1 : (⟨A, n, c, k, xs, v⟩ : Ent) ∈ S) (h2 : (⟨A', m, d, k', ys, u⟩ : Ent) ∈ S) (hk : k ≤ 1099511627776) (hk' : k' ≤ 1099511627776) :
    Calls Tryz.prog 126 #[.slice A n c, .slice A' m d] w fun e w' => e = .returned (.int .i64 (cmpI v u)) ∧ St w0 w' S := by
  obtain ⟨a1, a2, rfl⟩ := h.get h1
  obtain ⟨b1, b2, rfl⟩ := h.get h2
  exact (ncmp_any w A A' n c m d xs ys a1 b1 (by omega) (by omega)).mono fun e w' ⟨he, hb⟩ => ⟨he, h.below hb⟩
theorem shl_s (h : St w0 w S) (h1 : (⟨A, n, c, k, xs, v⟩ : Ent) ∈ S) (hk : k ≤ 1099511627776) {q : Int} (h0 : 0 ≤ q) (hq : q ≤ 65536) :
    Calls Tryz.prog 65 #[.slice A n c, .int .i64 q] w fun e w' => ∃ A n c, e = .returned (.tuple #[.slice A n c, .int .i64 0]) ∧ St w0 w' (⟨A, n, c, k + 1025, limbs (v * 2 ^ q.toNat), v * 2 ^ q.toNat⟩ :: S) := by
  obtain ⟨a1, a2, rfl⟩ := h.get h1
  refine (nshl_any w A n c xs a1 (by omega) q h0 hq).mono fun e w' ho => ?_
  obtain ⟨A, n, c, he, hn, hown, hb⟩ := ho
  exact h.out2 (Int.mul_nonneg (val_nonneg (b := B) (by decide) a1.dg) (Int.le_of_lt (W.pow_pos _))) ⟨A, n, c, he, by omega, hown, hb⟩
theorem shl_n (h : St w0 w S) (h1 : (⟨A, n, c, k, xs, v⟩ : Ent) ∈ S) {q : Int} (hq : q < 0 ∨ 65536 < q) :
    Calls Tryz.prog 65 #[.slice A n c, .int .i64 q] w fun e w' => e = .returned (.tuple #[.slice none 0 0, .int .i64 1]) ∧ St w0 w' S := by
  obtain ⟨a1, a2, rfl⟩ := h.get h1
  exact (nshl_no w A n c xs a1 q hq).mono fun e w' ⟨he, hb⟩ => ⟨he, by rw [hb]; exact h⟩
theorem len_s (h : St w0 w S) (h1 : (⟨A, n, c, k, xs, v⟩ : Ent) ∈ S) (hk : k ≤ 1099511627776) :
    Calls Tryz.prog 140 #[.slice A n c] w fun e w' => e = .returned (.int .i64 (W.len v)) ∧ St w0 w' S := by
  obtain ⟨a1, a2, rfl⟩ := h.get h1
  exact (nlen_any w A n c xs a1 (by omega)).mono fun e w' ⟨he, hb⟩ => ⟨he, by rw [hb]; exact h⟩
theorem zero_s (h : St w0 w S) (h1 : (⟨A, n, c, k, xs, v⟩ : Ent) ∈ S) (hv : v = 0) :
    Calls Tryz.prog 79 #[.slice A n c] w fun e w' => e = .returned (.bool true) ∧ St w0 w' S := by
  obtain ⟨a1, a2, rfl⟩ := h.get h1
  exact (zero_yes w A n c xs a1 hv).mono fun e w' ⟨he, hb⟩ => ⟨he, by rw [hb]; exact h⟩
theorem zero_n (h : St w0 w S) (h1 : (⟨A, n, c, k, xs, v⟩ : Ent) ∈ S) (hv : 0 < v) :
    Calls Tryz.prog 79 #[.slice A n c] w fun e w' => e = .returned (.bool false) ∧ St w0 w' S := by
  obtain ⟨a1, a2, rfl⟩ := h.get h1
  exact (zero_no w A n c xs a1 hv).mono fun e w' ⟨he, hb⟩ => ⟨he, by rw [hb]; exact h⟩
theorem same_s (h : St w0 w S) (h1 : (⟨A, n, c, k, xs, v⟩ : Ent) ∈ S) (h2 : (⟨A', m, d, k', ys, u⟩ : Ent) ∈ S) (he : xs = ys) :
    Calls Tryz.prog 43 #[.slice A n c, .slice A' m d] w fun e w' => e = .returned (.bool true) ∧ St w0 w' S := by
  obtain ⟨a1, a2, _⟩ := h.get h1
  obtain ⟨b1, b2, _⟩ := h.get h2
  refine (same_any w A A' n c m d xs ys a1 b1).mono fun e w' ⟨h1, q, h2⟩ => ⟨?_, by rw [h2]; exact h.drewN q⟩
  rw [h1, decide_eq_true he]
theorem same_n (h : St w0 w S) (h1 : (⟨A, n, c, k, xs, v⟩ : Ent) ∈ S) (h2 : (⟨A', m, d, k', ys, u⟩ : Ent) ∈ S) (he : v ≠ u) :
    Calls Tryz.prog 43 #[.slice A n c, .slice A' m d] w fun e w' => e = .returned (.bool false) ∧ St w0 w' S := by
  obtain ⟨a1, a2, a3⟩ := h.get h1
  obtain ⟨b1, b2, b3⟩ := h.get h2
  refine (same_any w A A' n c m d xs ys a1 b1).mono fun e w' ⟨h1, q, h2⟩ => ⟨?_, by rw [h2]; exact h.drewN q⟩
  rw [h1, decide_eq_false (fun e => he (by rw [← a3, ← b3, e]))]
theorem of_s (h : St w0 w S) {x : Int} (hx : W.Wd x) :
    Calls Tryz.prog 56 #[.int .u64 x] w fun e w' => ∃ A n c, e = .returned (.slice A n c) ∧ St w0 w' (⟨A, n, c, 1, limbs x, x⟩ :: S) :=
  (of_any w x hx).mono fun e w' ho => h.out hx.1 ho
end
end Go.Proofs.YtfdpddlefobcpaaGreatDoor
/- The same for shifts to the right. -/
namespace Go.Proofs.YtfdpddlefobcpaaGreatDoor
open Go.RowKit
set_option linter.unusedVariables false
set_option maxRecDepth 20000
open N
section
variable {w0 w w' : World} {S : List Ent} {A A' : Option Addr} {n c m d k k' : Nat} {xs ys : List Int} {v u : Int}
end
end Go.Proofs.YtfdpddlefobcpaaGreatDoor
/- The examples of the document hold of the program: what each statement of layer 2 asks first, or last. -/
namespace Go.Proofs.YtfdpddlefobcpaaGreatDoor
open Go.RowKit
set_option linter.unusedVariables false
set_option maxRecDepth 20000
open N
section
variable {w0 w w' : World} {S : List Ent}
theorem St.lit1 (h : St w0 w S) (x : Int) (hx : 0 ≤ x ∧ x < 18446744073709551616) : St w0 (w.alloc (.cells #[.int .u64 x] 72)) (⟨some ⟨w.heap.size, 0, none⟩, 1, 1, 1, [x], x⟩ :: S) := by
  have := h.lit [x] (Dg.one hx.1 hx.2) (by simp)
  rw [show val B [x] = x by simp [val]] at this
  exact this
theorem St.lit2 (h : St w0 w S) (x y : Int) (hx : 0 ≤ x ∧ x < 18446744073709551616) (hy : 0 ≤ y ∧ y < 18446744073709551616) :
    St w0 (w.alloc (.cells #[.int .u64 x, .int .u64 y] 72)) (⟨some ⟨w.heap.size, 0, none⟩, 2, 2, 2, [x, y], x + 18446744073709551616 * y⟩ :: S) := by
  have := h.lit [x, y] (Dg.cons hx.1 hx.2 (Dg.one hy.1 hy.2)) (by simp)
  rw [show val B [x, y] = x + 18446744073709551616 * y by simp [val]] at this
  exact this
end
theorem limbs_is (xs : List Int) {v : Int} (h : v = val B xs) (h1 : Dg B xs) (h2 : nn xs = xs.length) : limbs v = xs := limbs_lit xs v h1 h2 h.symm
theorem len_is {v : Int} {k : Nat} (h0 : 0 ≤ v) (h1 : v < 2 ^ k) (h2 : k = 0 ∨ 2 ^ (k - 1) ≤ v) : W.len v = k := len_of' v k h0 h1 h2
section
variable {w0 w w' : World} {S : List Ent}
theorem nats_lit (w : World) (l : List (Option Addr × Nat × Nat)) (cs : Array Value) (h : cs = (l.map fun t => Value.slice t.1 t.2.1 t.2.2).toArray) : Nats (w.alloc (.cells cs 58)) w.heap.size l := by
  intro k hk
  refine ⟨l[k].1, l[k].2.1, l[k].2.2, List.getElem?_eq_getElem hk, ?_⟩
  rw [World.cell?_alloc_new, h]
  simp [hk]
end
end Go.Proofs.YtfdpddlefobcpaaGreatDoor
/- append of made 0s, and the statement's helpers tail and trimmed, over this translation. -/
namespace Go.Proofs.YtfdpddlefobcpaaGreatDoor
open Go.RowKit
set_option linter.unusedVariables false
set_option maxRecDepth 20000
open N
theorem intK : Tryz.prog.underlying 3 = some (.int .i64) := Tryz.underlying3
theorem zeroCells_uv (m : Nat) : Builtin.zeroCells #[Value.int .u64 0] m = (uv (List.replicate m 0)).toArray := by
  unfold Builtin.zeroCells
  rw [← zeros_row]
  first | rfl | (unfold madeCells; simp)
abbrev Own' := @N.Own
/-- append of m made 0s onto a row of the call's own -/
theorem run_zeros {w : World} (base : Nat) (ty : TypeId) {A : Option Addr} {n c : Nat} {xs : List Int} (hown : N.Own w base A n c xs) (m : Nat) (hn : n ≤ 1099511627776) (hm : m ≤ 1000) (hbase : base ≤ w.heap.size) :
    ∃ A'' c'' w', (Builtin.append_ #[58, 3] ty #[.slice A n c, .int .i64 (m : Int)]).run Tryz.prog w = .ok (.slice A'' (n + m) c'') w' ∧ N.Own w' base A'' (n + m) c'' (xs ++ List.replicate m 0) ∧ Below base w w' := by
  obtain ⟨i0, hi, hz0, hz1, hz2⟩ := info_parts infoU
  have hw : IntKind.i64.wrap (m : Int) = m := IntWalk.i64_in _ (by omega)
  have hneg : ¬ ((m : Int) < 0) := by omega
  have hbig : ¬ ((281474976710656 : Int) < (m : Int) * 8) := by omega
  have hsmall : n + m ≤ 9223372036854775807 := by omega
  have hl : (uv (xs ++ List.replicate m 0)).length = (n + m) * 1 := by rw [uv_length, List.length_append, List.length_replicate, hown.len, Nat.mul_one]
  have hdg := hown.dg.append (Dg.zeros (b := B) (by decide) m)
  have grown : ∀ (old : Nat), old < n + m →
      Own' (w.drew.alloc (.cells ((uv xs).toArray ++ (uv (List.replicate m 0)).toArray ++ Builtin.zeroCells #[Value.int .u64 0] (grownCap w (n + m) old 72 - (n + m))) 72)) base (some ⟨w.heap.size, 0, none⟩) (n + m) (grownCap w (n + m) old 72) (xs ++ List.replicate m 0) ∧
      Below base w (w.drew.alloc (.cells ((uv xs).toArray ++ (uv (List.replicate m 0)).toArray ++ Builtin.zeroCells #[Value.int .u64 0] (grownCap w (n + m) old 72 - (n + m))) 72)) := by
    intro old ho
    have hge := grownCap_ge w (n + m) old 72
    have hcm := grownCap_le_maxLen w (n + m) old 72 (by unfold maxLen; omega)
    refine ⟨⟨⟨hl, .inr ⟨w.heap.size, _, _, rfl, hbase, heap_alloc_new w.drew _, hge, hcm, ?_, ?_⟩⟩, hdg⟩, (Below.refl base w).drew.alloc hbase _⟩
    · simp only [Array.size_append, List.size_toArray, size_zeroCells, uv_length, List.length_replicate, hown.len]
      simp
      omega
    · simp only [Array.toList_append, List.append_assoc]
      rw [← hl, ← List.append_assoc, ← uv_append]
      exact List.take_left
  have hz0' : i0.zero = some (.int .u64 0) := hz0
  have hcell : (Value.int .u64 0).cells = #[Value.int .u64 0] := rfl
  by_cases hm0 : m = 0
  · subst hm0
    have hw0 : IntKind.i64.wrap 0 = 0 := by decide
    refine ⟨A, c, w, ?_, by simpa using hown, Below.refl _ _⟩
    have hnc := hown.sl.cap
    cases A with
    | none => simp [Builtin.append_, run_underlying slNat, run_underlying intK, sizeOf, typeInfo, hi, asInt, asIntOf, hw0, hnc]
    | some ad => simp [Builtin.append_, run_underlying slNat, run_underlying intK, sizeOf, typeInfo, hi, asInt, asIntOf, hw0, hnc, storeCells]
  rcases hown.row.2 with ⟨e, e0⟩ | ⟨g, cap, cur, e, hbg, hg, hnc, hcm, hcs, htake⟩
  · cases e
    have hx : xs = [] := List.eq_nil_of_length_eq_zero hown.len
    subst hx
    have hgr := grown 0 (by omega)
    have hne : ¬ (0 + m ≤ 0) := by omega
    have h63' : ¬ ((9223372036854775807 : Int) < (m : Int)) := by omega
    have h48' : ¬ (281474976710656 < Builtin.nextslicecap m 0 * 8) := by rw [nextslicecap_zero (by omega)]; omega
    refine ⟨_, _, _, ?_, hgr.1, hgr.2⟩
    simp [Builtin.append_, run_underlying slNat, run_underlying intK, sizeOf, typeInfo, zeroValue, hi, hz0', hz1, hz2, asInt, asIntOf, hw, hneg, hbig, hm0, h63', h48', Question.forced, Builtin.firstCells, newRow, grownCap]
    rw [hcell, zeroCells_uv, zeroCells_uv]
    simp [uv]
  · cases e
    have hcu : cur.size = c := by omega
    have htk : cur.toList.take n = uv xs := by rw [← htake, Nat.mul_one]
    by_cases hroom : n + m ≤ c
    · have hst := run_storeCells_at Tryz.prog g n 72 (uv (List.replicate m 0)) 0 cur w hg (by rw [uv_length, List.length_replicate]; omega) (uv_one _)
      simp only [Nat.add_zero] at hst
      refine ⟨some ⟨g, 0, none⟩, c, w.setRow g (cur.toList.take n ++ uv (List.replicate m 0) ++ cur.toList.drop (n + (uv (List.replicate m 0)).length)).toArray, ?_,
        ⟨⟨hl, .inr ⟨g, c, _, rfl, hbg, setRow_heap w g cur _ _ _ hg, hroom, hcm, ?_, ?_⟩⟩, hdg⟩, ⟨rfl, rfl, rfl, by simp, fun k hk => setRow_other w g k _ (by omega)⟩⟩
      · simp [Builtin.append_, run_underlying slNat, run_underlying intK, sizeOf, typeInfo, zeroValue, hi, hz0', hz1, hz2, asInt, asIntOf, hw, hneg, hbig, hm0, hroom, Addr.add_lit]
        rw [hcell, zeroCells_uv]
        simp [hst]
      · simp only [List.size_toArray, List.length_append, List.length_take, List.length_drop, Array.length_toList, uv_length, List.length_replicate]
        omega
      · rw [htk, ← hl, ← uv_append]
        exact List.take_left
    · have hgr := grown c (by omega)
      have holds : ∀ j u, (uv xs)[j]? = some u → w.cell? ((⟨g, 0, none⟩ : Addr).add j) = some u := hown.row.cells (g := g) rfl
      have hfo := run_firstCells_some (P := Tryz.prog) w.drew 1 n ⟨g, 0, none⟩ n c (uv xs) (by rw [uv_length, hown.len, Nat.mul_one]) (by simpa using holds)
      have h63' : ¬ ((9223372036854775807 : Int) < (n : Int) + (m : Int)) := by omega
      have h48' : ¬ (281474976710656 < Builtin.nextslicecap (n + m) c * 8) := by
        have := growslice_fits (need := n + m) (old := c) (bytes := 8) (by omega) (by omega)
        omega
      refine ⟨_, _, _, ?_, hgr.1, hgr.2⟩
      simp [Builtin.append_, run_underlying slNat, run_underlying intK, sizeOf, typeInfo, zeroValue, hi, hz0', hz1, hz2, asInt, asIntOf, hw, hneg, hbig, hm0, hroom, h63', h48', Question.forced, hfo, newRow, grownCap]
      rw [hcell, zeroCells_uv, zeroCells_uv]
      congr 2
      apply Array.ext'
      simp [List.append_assoc]
theorem wp_zeros {w : World} {ops : Array Oper} {rest : List Oper} {o : Oper} {a : Act} {Q : Exit → Act → World → Prop} (hgd : o.guard = none) (s x : Operand)
    (ho : o.op = .call { callee := .builtin .append, args := #[s, x], argTypes := #[58, 3] })
    (base : Nat) {A : Option Addr} {n c : Nat} {xs : List Int} (hs : a.eval s = .slice A n c) (hown : N.Own w base A n c xs) (m : Nat) (hx : a.eval x = .int .i64 (m : Int)) (hn : n ≤ 1099511627776) (hm : m ≤ 1000) (hbase : base ≤ w.heap.size)
    (h : ∀ A'' c'' w', N.Own w' base A'' (n + m) c'' (xs ++ List.replicate m 0) → Below base w w' → wpList Tryz.prog ops Q rest (a.put o.dst (.slice A'' (n + m) c'')) w') : wpList Tryz.prog ops Q (o :: rest) a w := by
  obtain ⟨A'', c'', w', hr, h1, h2⟩ := run_zeros base o.type hown m hn hm hbase
  refine wpList_plain hgd fun K hK => ?_
  unfold Oper.wp execOp
  simp only [ho, resolve, invoke, builtin, Sem.run_bind, Sem.run_pure, Result.andThen_ok, List.map_toArray, List.map_cons, List.map_nil, hs, hx, hr]
  exact hK _ _ (h A'' c'' w' h1 h2)
theorem val_zeros_behind (b : Int) (xs : List Int) (m : Nat) : val b (xs ++ List.replicate m 0) = val b xs := by rw [val_append, val_zeros]; simp
section
variable {w0 w w' : World} {S : List Ent} {A A' : Option Addr} {n c m d k k' : Nat} {xs ys : List Int} {v u : Int}
theorem zero_b (h : St w0 w S) (h1 : (⟨A, n, c, k, xs, v⟩ : Ent) ∈ S) :
    Calls Tryz.prog 79 #[.slice A n c] w fun e w' => e = .returned (.bool (decide (v = 0))) ∧ St w0 w' S := by
  by_cases hv : v = 0
  · rw [decide_eq_true hv]; exact zero_s h h1 hv
  · rw [decide_eq_false hv]
    have := Ok.nonneg (h.2 _ h1)
    exact zero_n h h1 (by have : 0 ≤ v := this; omega)
end
end Go.Proofs.YtfdpddlefobcpaaGreatDoor
