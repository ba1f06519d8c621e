/- What Sub of layer 2 answers, over this translation. -/
import Derived.Test.YtbjhfnkdflnnoaaNatCarry
import Derived.Test.YtbjhfnkdflnnoaaNatTell
import Derived.Test.YtbjhfnkdflnnoaaNatAdd
import Derived.Test.YtbjhfnkdflnnoaaNatCmp
import Derived.Deep.RegionWith
namespace Go.Proofs.Ytbjhfnkdflnnoaa
open Go.RowKit
set_option linter.unusedVariables false
open N
namespace N
theorem sub_step {xs ys zs : List Int} {c : Int} {k : Nat} (hx : Dg B xs) (hy : Dg B ys) (hk : k < zs.length) (hz : lim zs k = 0) (h0 : 0 ≤ c) (h1 : c ≤ 1)
    (h : val B zs - c * Q B k = lo B xs k - lo B ys k) :
    val B (zs.set k (W.subS (lim xs k) (lim ys k) c)) - W.subC (lim xs k) (lim ys k) c * Q B (k + 1) = lo B xs (k + 1) - lo B ys (k + 1) := by
  have ha := hx.lim (by decide) k
  have hb := hy.lim (by decide) k
  rw [val_set B zs k _ hk, hz, lo_succ, lo_succ, Q_succ]
  have e : W.subS (lim xs k) (lim ys k) c - W.subC (lim xs k) (lim ys k) c * B = lim xs k - lim ys k - c := by
    unfold W.subS W.subC; rw [Int.min_eq_left h1]; show _ - _ * (18446744073709551616 : Int) = _; omega
  generalize W.subS (lim xs k) (lim ys k) c = s at *
  generalize W.subC (lim xs k) (lim ys k) c = t at *
  have e2 : s * Q B k - t * (Q B k * B) = (lim xs k - lim ys k - c) * Q B k := by
    rw [← e, Int.sub_mul, Int.mul_right_comm t, Int.mul_assoc t]
  rw [Int.sub_mul, Int.sub_mul] at e2
  rw [Int.sub_zero]
  omega
theorem subC_le {a b c : Int} (ha : W.Wd a) (hb : W.Wd b) (h0 : 0 ≤ c) (h1 : c ≤ 1) : 0 ≤ W.subC a b c ∧ W.subC a b c ≤ 1 := by
  unfold W.subC W.Wd at *; rw [Int.min_eq_left h1]; omega
theorem sub_last {xs ys zs : List Int} {c : Int} (hx : Dg B xs) (hy : Dg B ys) (hz : Dg B zs) (hl : zs.length = nn xs) (hle : val B ys ≤ val B xs) (hc : 0 ≤ c) (h : val B zs - c * Q B (nn xs) = lo B xs (nn xs) - lo B ys (nn xs)) :
    val B zs = val B xs - val B ys := by
  have e1 := val_lt_nn hx (Nat.le_refl _)
  rw [lo_all_nn hx (Nat.le_refl _)] at h
  have e2 : lo B ys (nn xs) = val B ys := by
    rw [← (val_div (by decide) hy (nn xs)).2]
    exact Int.emod_eq_of_lt (val_nonneg (by decide) hy) (by omega)
  rw [e2] at h
  have e3 := val_lt (b := B) (by decide) hz
  rw [hl] at e3
  have e4 := Q_pos (b := B) (by decide) (nn xs)
  have : c = 0 := by
    apply Classical.byContradiction; intro hne
    have e6 : 1 * Q B (nn xs) ≤ c * Q B (nn xs) := Int.mul_le_mul_of_nonneg_right (by omega) (by omega)
    omega
  subst this
  omega
end N
def SubRel (w : World) (xs ys : List Int) (Nn gs b1 b2 : Nat) (F : Value) (i : Value) (wr : World) : Prop :=
  ∃ (k : Nat) (zs : List Int) (c : Int), i = .int .i64 k ∧ k ≤ Nn ∧ zs.length = Nn ∧ Dg B zs ∧ 0 ≤ c ∧ c ≤ 1 ∧ (∀ j, k ≤ j → lim zs j = 0) ∧ val B zs - c * Q B k = lo B xs k - lo B ys k ∧ Cry w gs b1 b2 F zs c wr
theorem nsub_no (w : World) (A A' : Option Addr) (n c m d : Nat) (xs ys : List Int) (hx : Sl w A n c xs) (hy : Sl w A' m d ys) (hn : n ≤ 1099511627776) (hm : m ≤ 1099511627776) (hlt : val B xs < val B ys) :
    Calls Try.prog 61 #[.slice A n c, .slice A' m d] w fun e w' => e = .returned (.tuple #[.slice none 0 0, .int .i64 8]) ∧ Below w.heap.size w w' := by
  have HC := Lib.hid (cmpI_lt hlt)
  go_enter Try.func61, Try.ntmps61
  go_wp2_with (go_at_call 24; refine (ncmp_any _ _ _ _ _ _ _ xs ys hx hy hn hm).mono ?_; rintro e w1 ⟨rfl, hb1⟩; rw [HC.out])
  go_ret2
  exact ⟨rfl, hb1⟩
set_option maxHeartbeats 1000000 in
theorem nsub_yes (w : World) (A A' : Option Addr) (n c m d : Nat) (xs ys : List Int) (hx : Sl w A n c xs) (hy : Sl w A' m d ys) (hn : n ≤ 1099511627776) (hm : m ≤ 1099511627776) (hle : val B ys ≤ val B xs) :
    Calls Try.prog 61 #[.slice A n c, .slice A' m d] w (Out2 w n (val B xs - val B ys) 0) := by
  obtain ⟨cc, hcc, hc0⟩ : ∃ cc : Int, cmpI (val B xs) (val B ys) = cc ∧ 0 ≤ cc := by
    rcases Int.lt_or_eq_of_le hle with h | h
    · exact ⟨1, cmpI_gt h, by omega⟩
    · exact ⟨0, cmpI_eq h.symm, by omega⟩
  have HC := Lib.hid hcc
  clear hcc
  have hnx := nn_le xs
  rw [hx.len] at hnx
  have hmk : ∀ W : World, (Instr.makeSlice 23 (.int .i64 (nn xs : Nat)) (.int .i64 (nn xs : Nat))).run Try.prog W = .ok (.slice (some ⟨W.heap.size, 0, none⟩) (nn xs) (nn xs)) (W.alloc (.cells (madeCells #[.int .u64 0] (nn xs)) 40)) :=
    fun W => make_run _ slNat _ (by omega) W
  go_enter Try.func61, Try.ntmps61
  go_wp2_with (first
      | (go_at_call 24; refine (ncmp_any _ _ _ _ _ _ _ xs ys hx hy hn hm).mono ?_; rintro e w1 ⟨rfl, hb1⟩; rw [HC.out]; have hx1 := hx.below hb1; have hy1 := hy.below hb1)
      | (go_at_call_of 50 (Value.slice A n c); refine (bare_any _ _ _ _ xs hx1).mono ?_; rintro e w' ⟨rfl, rfl⟩)
      | (go_at_call_of 50 (Value.slice A' m d); refine (bare_any _ _ _ _ ys hy1).mono ?_; rintro e w' ⟨rfl, rfl⟩)
      | (go_at_call 54; refine (carrying_any _ _ _).mono ?_; rintro e w2 ⟨rfl, rfl⟩))
  have HX := Lib.hid hx1
  have HY := Lib.hid hy1
  have HB := Lib.hid hb1
  have hnn := hx1.cap
  have HM := Lib.hid hle
  clear hx1 hy1 hmk hx hy hb1 hle
  go_loopw [23] (fun i wr => SubRel w' xs ys (nn xs) w'.heap.size (w'.heap.size + 1) (w'.heap.size + 1 + 1) (.func (.func 81) #[] #[]) i wr) (fun i _ => nn xs - (intOf i).toNat)
  case atStart =>
    refine ⟨0, List.replicate (nn xs) 0, 0, rfl, Nat.zero_le _, by simp, Dg.zeros (by decide) _, by omega, by omega, fun j _ => lim_zeros _ _, by rw [val_zeros, lo_zero, lo_zero]; omega, ?_⟩
    exact Cry.start w' (nn xs) _ _
  case round =>
    obtain ⟨k, zs, c', rfl, hk, hl, hd, h0, h1, hz, hv, hC⟩ := hrel
    obtain ⟨wo, rfl⟩ : ∃ wo : World, wo = wr := ⟨_, rfl⟩
    by_cases hlt : k < nn xs
    · have hxk := HX.out.dg.lim (b := B) (by decide) k
      have hyk := HY.out.dg.lim (b := B) (by decide) k
      have hs := Lib.hid (sub_step HX.out.dg HY.out.dg (by omega : k < zs.length) (hz k (Nat.le_refl _)) h0 h1 hv)
      have HZ' := Lib.hid (lim_set_beyond (v := W.subS (lim xs k) (lim ys k) c') (by omega : k < zs.length) hz)
      have hw := W.wd_subS (lim xs k) (lim ys k) c'
      have hc' := subC_le (a := lim xs k) (b := lim ys k) hxk hyk h0 h1
      have hY := (HY.out.below hC.bl).drew
      have C1 := hC.carry (by omega) (by omega) (by omega) (W.subC (lim xs k) (lim ys k) c')
      obtain ⟨ad, rfl, _, hcx⟩ := (HX.out.below hC.bl).cell (k := k) (by omega)
      have hcell : wo.cell? ⟨w'.heap.size, k, none⟩ = some (.int .u64 (lim zs k)) := hC.arr.cell (by omega)
      have hfz : wo.frozen? ⟨w'.heap.size, k, none⟩ = false := hC.arr.frozen k
      have hcell1 := C1.arr.cell (k := k) (by omega)
      have hfz1 := C1.arr.frozen k
      have f1 := hC.fn
      have f2 := hC.cy
      have f3 := hC.fz
      have HV := Lib.hid hv
      have HZ := Lib.hid hz
      have HLn := Lib.hid hl
      clear hv hz hl
      go_wp2
      go_region_with (first
        | (go_at_call 56; refine (limb_tr _ _ _ _ ys hY k (by omega)).mono ?_; rintro e w3 ⟨rfl, rfl⟩)
        | (go_at_call 75; refine (carry_sub wo.drew _ _ _ _ c' hxk hyk ⟨h0, by omega⟩ f1 f2 f3).mono ?_; rintro e w3 ⟨rfl, rfl⟩))
      all_goals
        go_wp2
        go_roundw
        case rel => exact ⟨k + 1, _, _, by go_num, by omega, by rw [List.length_set]; exact HLn.out, hd.set k hw.1 hw.2, hc'.1, hc'.2, HZ'.out, hs.out, (C1.store (by omega) (by omega) (by omega) k _).drew⟩
        case measure => simp [intOf]; omega
    · obtain rfl : k = nn xs := by omega
      have hS := hC.arr.sl hl (by unfold maxLen; omega) hd
      have hE := Lib.hid (sub_last HX.out.dg HY.out.dg hd hl HM.out h0 hv)
      have hnz := nn_le zs
      rw [hl] at hnz
      have HLn := Lib.hid hl
      clear hv hz hl
      go_wp2_with (first
        | (go_at_call 50; refine (bare_any _ _ _ _ zs hS).mono ?_; rintro e w3 ⟨rfl, rfl⟩))
      go_ret2
      refine Out2.lift HB.out ⟨_, _, _, rfl, by omega, ?_, hC.bl⟩
      rw [← hE.out, limbs_of hd]
      exact ⟨hC.arr.own (Nat.le_refl _) HLn.out (by unfold maxLen; omega) hnz, hd.take _⟩
end Go.Proofs.Ytbjhfnkdflnnoaa
