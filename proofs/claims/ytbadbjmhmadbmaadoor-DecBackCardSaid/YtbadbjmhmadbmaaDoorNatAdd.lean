/- What Add of layer 2 answers, over this translation. -/
import Derived.Test.YtbadbjmhmadbmaaDoorNatCarry
import Derived.Test.YtbadbjmhmadbmaaDoorNatTell
namespace Go.Proofs.YtbadbjmhmadbmaaDoor
open Go.RowKit
set_option linter.unusedVariables false
set_option maxRecDepth 20000
open N
namespace N
theorem add_step {xs ys zs : List Int} {c : Int} {k : Nat} (hx : Dg B xs) (hy : Dg B ys) (hk : k < zs.length) (hz : lim zs k = 0) (h0 : 0 ≤ c) (h1 : c ≤ 1)
    (h : val B zs + c * Q B k = lo B xs k + lo B ys k) :
    val B (zs.set k (W.addS (lim xs k) (lim ys k) c)) + W.addC (lim xs k) (lim ys k) c * Q B (k + 1) = lo B xs (k + 1) + lo B ys (k + 1) := by
  have ha := hx.lim (by decide) k
  have hb := hy.lim (by decide) k
  rw [val_set B zs k _ hk, hz, lo_succ, lo_succ, Q_succ]
  have e : W.addS (lim xs k) (lim ys k) c + W.addC (lim xs k) (lim ys k) c * B = lim xs k + lim ys k + c := by
    unfold W.addS W.addC; rw [Int.min_eq_left h1]; show _ + _ * (18446744073709551616 : Int) = _; omega
  generalize W.addS (lim xs k) (lim ys k) c = s at *
  generalize W.addC (lim xs k) (lim ys k) c = t at *
  have e2 : (s - 0) * Q B k + t * (Q B k * B) = (lim xs k + lim ys k + c) * Q B k := by
    rw [← e, Int.sub_zero, Int.add_mul, Int.mul_right_comm t, Int.mul_assoc t]
  rw [Int.add_mul, Int.add_mul] at e2
  omega
theorem val_lt_nn {xs : List Int} (h : Dg B xs) {k : Nat} (hk : nn xs ≤ k) : val B xs < Q B k := by
  have := (limbs_len_le (val_nonneg (by decide) h) k).1
  rw [← nn_limbs h] at this
  exact this hk
theorem lo_all_nn {xs : List Int} (h : Dg B xs) {k : Nat} (hk : nn xs ≤ k) : lo B xs k = val B xs := by
  rw [← (val_div (by decide) h k).2]
  exact Int.emod_eq_of_lt (val_nonneg (by decide) h) (val_lt_nn h hk)
theorem add_last {xs ys zs : List Int} {c : Int} {k : Nat} (hx : Dg B xs) (hy : Dg B ys) (hz : Dg B zs) (h1 : nn xs < k) (h2 : nn ys < k) (hc : 0 ≤ c) (h : val B zs + c * Q B k = lo B xs k + lo B ys k) :
    val B zs = val B xs + val B ys := by
  rw [lo_all_nn hx (by omega), lo_all_nn hy (by omega)] at h
  have e1 := val_lt_nn hx (show nn xs ≤ k - 1 by omega)
  have e2 := val_lt_nn hy (show nn ys ≤ k - 1 by omega)
  have e3 : Q B k = Q B (k - 1) * 18446744073709551616 := by rw [← Q_succ, show k - 1 + 1 = k by omega]
  have e4 := Q_pos (b := B) (by decide) k
  have e5 := val_nonneg (b := B) (by decide) hz
  have : c = 0 := by
    apply Classical.byContradiction; intro hne
    have e6 : 1 * Q B k ≤ c * Q B k := Int.mul_le_mul_of_nonneg_right (by omega) (by omega)
    omega
  subst this
  omega
theorem lim_set_beyond {zs : List Int} {k : Nat} {v : Int} (hk : k < zs.length) (h : ∀ j, k ≤ j → lim zs j = 0) : ∀ j, k + 1 ≤ j → lim (zs.set k v) j = 0 := by
  intro j hj
  rw [lim_set _ _ _ _ hk, if_neg (by omega)]
  exact h j (by omega)
end N
def AddRel (w : World) (xs ys : List Int) (Nn gs b1 b2 : Nat) (F : Value) (i : Value) (wr : World) : Prop :=
  ∃ (k : Nat) (zs : List Int) (c : Int), i = .int .i64 k ∧ k ≤ Nn ∧ zs.length = Nn ∧ Dg B zs ∧ 0 ≤ c ∧ c ≤ 1 ∧ (∀ j, k ≤ j → lim zs j = 0) ∧ val B zs + c * Q B k = lo B xs k + lo B ys k ∧ Cry w gs b1 b2 F zs c wr
theorem nadd_any (w : World) (A A' : Option Addr) (n c m d : Nat) (xs ys : List Int) (hx : Sl w A n c xs) (hy : Sl w A' m d ys) (hn : n ≤ 1099511627776) (hm : m ≤ 1099511627776) :
    Calls Tryd.prog 26 #[.slice A n c, .slice A' m d] w (Out w (n + m + 1) (val B xs + val B ys)) := by
  have hnx := nn_le xs
  have hny := nn_le ys
  rw [hx.len] at hnx
  rw [hy.len] at hny
  obtain ⟨Nn, hN1, hN2, hN3, hN4⟩ : ∃ Nn : Nat, nn xs < Nn ∧ nn ys < Nn ∧ Nn ≤ n + m + 1 ∧ (max (nn xs : Int) (nn ys : Int) + 1) = (Nn : Int) := ⟨max (nn xs) (nn ys) + 1, by omega, by omega, by omega, by omega⟩
  have hmk : ∀ W : World, (Instr.makeSlice 23 (.int .i64 (max (nn xs : Int) (nn ys : Int) + 1)) (.int .i64 (max (nn xs : Int) (nn ys : Int) + 1))).run Tryd.prog W = .ok (.slice (some ⟨W.heap.size, 0, none⟩) Nn Nn) (W.alloc (.cells (madeCells #[.int .u64 0] Nn) 33)) := by
    intro W; rw [hN4]; exact make_run _ slNat Nn (by omega) W
  clear hN4
  go_enter Tryd.func26, Tryd.ntmps26
  go_wp2_with (first
      | (go_at_call_of 40 (Value.slice A n c); refine (bare_any _ _ _ _ xs hx).mono ?_; rintro e w' ⟨rfl, rfl⟩)
      | (go_at_call_of 40 (Value.slice A' m d); refine (bare_any _ _ _ _ ys hy).mono ?_; rintro e w' ⟨rfl, rfl⟩)
      | (go_at_call 42; refine (carrying_any _ _ _).mono ?_; rintro e w2 ⟨rfl, rfl⟩))
  have HX := Lib.hid hx
  have HY := Lib.hid hy
  clear hx hy hmk
  go_loopw [22] (fun i wr => AddRel w' xs ys Nn w'.heap.size (w'.heap.size + 1) (w'.heap.size + 1 + 1) (.func (.func 43) #[] #[]) i wr) (fun i _ => Nn - (intOf i).toNat)
  case atStart =>
    refine ⟨0, List.replicate Nn 0, 0, rfl, Nat.zero_le _, by simp, Dg.zeros (by decide) _, by omega, by omega, fun j _ => lim_zeros _ _, by rw [val_zeros, lo_zero, lo_zero]; omega, ?_⟩
    exact Cry.start w' Nn _ _
  case round =>
    obtain ⟨k, zs, c', rfl, hk, hl, hd, h0, h1, hz, hv, hC⟩ := hrel
    obtain ⟨wo, rfl⟩ : ∃ wo : World, wo = wr := ⟨_, rfl⟩
    by_cases hlt : k < Nn
    · have hxk := HX.out.dg.lim (b := B) (by decide) k
      have hyk := HY.out.dg.lim (b := B) (by decide) k
      have hs := Lib.hid (add_step HX.out.dg HY.out.dg (by omega : k < zs.length) (hz k (Nat.le_refl _)) h0 h1 hv)
      have HZ' := Lib.hid (lim_set_beyond (v := W.addS (lim xs k) (lim ys k) c') (by omega : k < zs.length) hz)
      have hw := W.wd_addS (lim xs k) (lim ys k) c'
      have hc' := W.addC_le (a := lim xs k) (b := lim ys k) (c := c') hxk hyk ⟨h0, by omega⟩
      have hX := HX.out.below hC.bl
      have hY := HY.out.below hC.bl
      have C1 := hC.carry (by omega) (by omega) (by omega) (W.addC (lim xs k) (lim ys k) c')
      have hcell : wo.cell? ⟨w'.heap.size, k, none⟩ = some (.int .u64 (lim zs k)) := hC.arr.cell (by omega)
      have hfz : wo.frozen? ⟨w'.heap.size, k, none⟩ = false := hC.arr.frozen k
      have hcell1 := C1.arr.cell (k := k) (by omega)
      have hfz1 := C1.arr.frozen k
      have f1 := hC.fn
      have f2 := hC.cy
      have f3 := hC.fz
      have HV := Lib.hid hv
      have HZ := Lib.hid hz
      have HLn := Lib.hid hl
      clear hv hz hl
      go_wp2_with (first
        | (go_at_call_of 41 (Value.slice A (nn xs) c); refine (limb_tr _ _ _ _ xs hX k (by omega)).mono ?_; rintro e w3 ⟨rfl, rfl⟩)
        | (go_at_call_of 41 (Value.slice A' (nn ys) d); refine (limb_tr _ _ _ _ ys hY k (by omega)).mono ?_; rintro e w3 ⟨rfl, rfl⟩)
        | (go_at_call 57; refine (carry_add _ _ _ _ _ c' hxk hyk ⟨h0, by omega⟩ f1 f2 f3).mono ?_; rintro e w3 ⟨rfl, rfl⟩))
      go_roundw
      case rel => exact ⟨k + 1, _, _, by go_num, by omega, by rw [List.length_set]; exact HLn.out, hd.set k hw.1 hw.2, hc'.1, hc'.2, HZ'.out, hs.out, C1.store (by omega) (by omega) (by omega) k _⟩
      case measure => simp [intOf]; omega
    · obtain rfl : k = Nn := by omega
      have hS := hC.arr.sl hl (by unfold maxLen; omega) hd
      have hE := Lib.hid (add_last HX.out.dg HY.out.dg hd hN1 hN2 h0 hv)
      have hnz := nn_le zs
      rw [hl] at hnz
      have HLn := Lib.hid hl
      clear hv hz hl
      go_wp2_with (first
        | (go_at_call 40; refine (bare_any _ _ _ _ zs hS).mono ?_; rintro e w3 ⟨rfl, rfl⟩))
      go_ret
      refine ⟨_, _, _, rfl, by omega, ?_, hC.bl⟩
      rw [← hE.out, limbs_of hd]
      exact ⟨hC.arr.own (Nat.le_refl _) HLn.out (by unfold maxLen; omega) hnz, hd.take _⟩
end Go.Proofs.YtbadbjmhmadbmaaDoor
