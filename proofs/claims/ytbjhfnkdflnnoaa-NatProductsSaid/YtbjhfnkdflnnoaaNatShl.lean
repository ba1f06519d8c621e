/- What Shl of layer 2 answers, over this translation. -/
import Derived.Test.YtbjhfnkdflnnoaaNatCarry
import Derived.Test.YtbjhfnkdflnnoaaNatTell
import Derived.Test.YtbjhfnkdflnnoaaNatAdd
namespace Go.Proofs.Ytbjhfnkdflnnoaa
open Go.RowKit
set_option linter.unusedVariables false
open N
theorem nwithin_yes (n : Int) (h0 : 0 ≤ n) (h1 : n ≤ 65536) (w : World) :
    Calls Try.prog 58 #[.int .i64 n] w fun e w' => e = .returned (.bool true) ∧ w' = w := by
  go_enter Try.func58, Try.ntmps58
  go_wp2
  go_ret
  exact ⟨retb (by simp), rfl⟩
theorem nwithin_no (n : Int) (h : n < 0 ∨ 65536 < n) (w : World) :
    Calls Try.prog 58 #[.int .i64 n] w fun e w' => e = .returned (.bool false) ∧ w' = w := by
  by_cases h0 : 0 ≤ n
  · have h1 : ¬ n ≤ 65536 := by omega
    clear h
    go_enter Try.func58, Try.ntmps58
    go_wp2
    go_ret
    exact ⟨retb (by simp), rfl⟩
  · clear h
    go_enter Try.func58, Try.ntmps58
    go_wp2
    go_ret
    exact ⟨retb (by simp), rfl⟩
theorem nshl_no (w : World) (A : Option Addr) (n c : Nat) (xs : List Int) (h : Sl w A n c xs) (k : Int) (hk : k < 0 ∨ 65536 < k) :
    Calls Try.prog 28 #[.slice A n c, .int .i64 k] w fun e w' => e = .returned (.tuple #[.slice none 0 0, .int .i64 1]) ∧ w' = w := by
  have HK := Lib.hid hk
  clear hk
  go_enter Try.func28, Try.ntmps28
  go_wp2_with (go_at_call 58; refine (nwithin_no _ HK.out _).mono ?_; rintro e w' ⟨rfl, rfl⟩)
  go_ret2
  exact ⟨rfl, rfl⟩
theorem nshr_no (w : World) (A : Option Addr) (n c : Nat) (xs : List Int) (h : Sl w A n c xs) (k : Int) (hk : k < 0 ∨ 65536 < k) :
    Calls Try.prog 34 #[.slice A n c, .int .i64 k] w fun e w' => e = .returned (.tuple #[.slice none 0 0, .int .i64 1]) ∧ w' = w := by
  have HK := Lib.hid hk
  clear hk
  go_enter Try.func34, Try.ntmps34
  go_wp2_with (go_at_call 58; refine (nwithin_no _ HK.out _).mono ?_; rintro e w' ⟨rfl, rfl⟩)
  go_ret2
  exact ⟨rfl, rfl⟩
namespace N
/-- what a step of a shift to the left comes to -/
def slL (x r c : Int) : Int := W.shlL x r + c
theorem shl_low (x r c : Int) (hx : W.Wd x) (h0 : 0 ≤ r) (h1 : r < 64) (hc : 0 ≤ c) (hc1 : c < 2 ^ r.toNat) : bits .or .u64 (W.shlL x r) c = slL x r c ∧ W.Wd (slL x r c) := by
  obtain ⟨m, rfl⟩ := Int.eq_ofNat_of_zero_le h0
  obtain ⟨c, rfl⟩ := Int.eq_ofNat_of_zero_le hc
  obtain ⟨x, rfl⟩ := Int.eq_ofNat_of_zero_le hx.1
  rw [Int.toNat_natCast] at hc1
  have hp := W.pow_pos m
  have hs := W.pow_split m (by omega)
  have e1 : W.shlL (x : Int) m = (x : Int) % 2 ^ (64 - m) * 2 ^ m := by
    unfold W.shlL
    rw [Int.toNat_natCast, hs, Int.mul_comm (2 ^ (64 - m)), Int.mul_comm (x : Int), Int.mul_emod_mul_of_pos _ _ hp, Int.mul_comm]
  have e2 : W.shlL (x : Int) m = ((x % 2 ^ (64 - m) * 2 ^ m : Nat) : Int) := by
    rw [e1, Int.natCast_mul, W.cast_pow, Int.natCast_emod, W.cast_pow]
  have hc2 : c < 2 ^ m := by rw [← W.cast_pow] at hc1; omega
  have hlt : x % 2 ^ (64 - m) * 2 ^ m + c < 18446744073709551616 := by
    have h3 : x % 2 ^ (64 - m) < 2 ^ (64 - m) := Nat.mod_lt _ (Nat.two_pow_pos _)
    have h4 : (x % 2 ^ (64 - m) + 1) * 2 ^ m ≤ 2 ^ (64 - m) * 2 ^ m := Nat.mul_le_mul_right _ (by omega)
    rw [← Nat.pow_add, show 64 - m + m = 64 by omega, Nat.add_mul] at h4
    omega
  unfold slL
  rw [e2]
  refine ⟨?_, by unfold W.Wd; omega⟩
  rw [bits_or_u64_nat _ _ (by omega) (by omega), Nat.or_comm, W.nat_or _ _ _ hc2]
  omega
theorem shl_high {x r : Int} (hx : W.Wd x) (h0 : 0 ≤ r) (h1 : r < 64) : 0 ≤ W.shlH x r ∧ W.shlH x r < 2 ^ r.toNat := by
  obtain ⟨m, rfl⟩ := Int.eq_ofNat_of_zero_le h0
  unfold W.shlH
  rw [Int.toNat_natCast]
  have hp := W.pow_pos m
  refine ⟨Int.ediv_nonneg (Int.mul_nonneg hx.1 (by omega)) (by omega), ?_⟩
  refine Int.ediv_lt_of_lt_mul (by omega) ?_
  rw [Int.mul_comm (2 ^ m)]
  exact Int.mul_lt_mul_of_pos_right hx.2 hp
theorem shl_eq (x r : Int) : W.shlL x r + W.shlH x r * 18446744073709551616 = x * 2 ^ r.toNat := by unfold W.shlL W.shlH; omega
end N
theorem shl1_any (w : World) (br : Nat) (x y c r : Int) (hx : W.Wd x) (h0 : 0 ≤ r) (h1 : r < 64) (hc : 0 ≤ c) (hc1 : c < 2 ^ r.toNat) (h : w.cell? ⟨br, 0, none⟩ = some (.int .i64 r)) :
    Calls Try.prog 59 #[.int .u64 x, .int .u64 y, .int .u64 c, .pointer (some ⟨br, 0, none⟩)] w fun e w' =>
      e = .returned (.tuple #[.int .u64 (slL x r c), .int .u64 (W.shlH x r)]) ∧ ∃ k, w' = w.drewN k := by
  have HL := Lib.hid (shl_low x r c hx h0 h1 hc hc1)
  go_enter Try.func59, Try.ntmps59
  go_wp2_with (go_at_call 60; refine (shl_yes _ _ hx h0 (by omega) _).mono ?_; rintro e w' ⟨rfl, k, rfl⟩)
  go_ret2
  rw [← HL.out.1]
  exact ⟨rfl, _, rfl⟩
theorem carry_shl (w : World) (b1 b2 br : Nat) (x y c r : Int) (hx : W.Wd x) (h0 : 0 ≤ r) (h1 : r < 64) (hc : 0 ≤ c) (hc1 : c < 2 ^ r.toNat)
    (h : w.cell? ⟨br, 0, none⟩ = some (.int .i64 r)) (g1 : w.cell? ⟨b1, 0, none⟩ = some (.func (.func 59) #[] #[.pointer (some ⟨br, 0, none⟩)])) (g2 : w.cell? ⟨b2, 0, none⟩ = some (.int .u64 c)) (hf : w.frozen? ⟨b2, 0, none⟩ = false) :
    Calls Try.prog 75 #[.int .u64 x, .int .u64 y, .pointer (some ⟨b1, 0, none⟩), .pointer (some ⟨b2, 0, none⟩)] w fun e w' =>
      e = .returned (.int .u64 (slL x r c)) ∧ ∃ k, w' = (w.setCell ⟨b2, 0, none⟩ (.int .u64 (W.shlH x r))).drewN k := by
  go_enter Try.func75, Try.ntmps75
  go_wp2_with (go_at_call 59; refine (shl1_any _ br x y c r hx h0 h1 hc hc1 h).mono ?_; rintro e w' ⟨rfl, k, rfl⟩)
  go_ret
  exact ⟨rfl, k, rfl⟩
namespace N
theorem shl_step {xs zs : List Int} {c r : Int} {wh k : Nat} (hk : wh + k < zs.length) (hz : lim zs (wh + k) = 0)
    (h : val B zs + c * Q B (wh + k) = lo B xs k * 2 ^ r.toNat * Q B wh) :
    val B (zs.set (wh + k) (slL (lim xs k) r c)) + W.shlH (lim xs k) r * Q B (wh + (k + 1)) = lo B xs (k + 1) * 2 ^ r.toNat * Q B wh := by
  rw [val_set B zs _ _ hk, hz, Int.sub_zero, lo_succ, show wh + (k + 1) = wh + k + 1 by omega, Q_succ]
  have e := shl_eq (lim xs k) r
  unfold slL
  generalize W.shlL (lim xs k) r = s at *
  generalize W.shlH (lim xs k) r = t at *
  generalize lim xs k = x at *
  generalize (2 : Int) ^ r.toNat = p at *
  have e2 : (s + c) * Q B (wh + k) + t * (Q B (wh + k) * B) = (x * p + c) * Q B (wh + k) := by
    rw [← e, ← Int.mul_assoc t, Int.mul_right_comm t, ← Int.add_mul]
    congr 1
    show s + c + t * 18446744073709551616 = _
    omega
  have e3 : (lo B xs k + x * Q B k) * p * Q B wh = lo B xs k * p * Q B wh + x * p * Q B (wh + k) := by
    rw [Int.add_mul, Int.add_mul, Q_add]
    congr 1
    rw [Int.mul_assoc, Int.mul_assoc x p, Int.mul_assoc x]
    congr 1
    rw [Int.mul_comm (Q B k), Int.mul_assoc]
  rw [Int.add_mul (x * p)] at e2
  rw [e3]
  omega
theorem shl_last {xs zs : List Int} {c n : Int} {wh r : Nat} (hx : Dg B xs) (hz : Dg B zs) (hl : zs.length = wh + nn xs + 1) (hc : 0 ≤ c) (hn : n = 64 * wh + r) (hr : r < 64)
    (h : val B zs + c * Q B (wh + (nn xs + 1)) = lo B xs (nn xs + 1) * 2 ^ (r : Int).toNat * Q B wh) : val B zs = val B xs * 2 ^ n.toNat := by
  rw [lo_all_nn hx (by omega), Int.toNat_natCast] at h
  have e : (2 : Int) ^ n.toNat = 2 ^ r * Q B wh := by
    rw [Q_two, ← Int.pow_add]; congr 1; omega
  rw [e, ← Int.mul_assoc, ← h]
  have e1 := val_lt_nn hx (Nat.le_refl _)
  have e5 := val_nonneg (b := B) (by decide) hz
  have e0 := val_nonneg (b := B) (by decide) hx
  have hq := Q_pos (b := B) (by decide) (wh + (nn xs + 1))
  have hqw := Q_pos (b := B) (by decide) wh
  have hqn := Q_pos (b := B) (by decide) (nn xs)
  have hp : (2 : Int) ^ r ≤ B := by
    have : (2 : Int) ^ r ≤ 2 ^ 64 := by rw [← W.cast_pow, ← W.cast_pow]; exact Int.ofNat_le.2 (Nat.pow_le_pow_right (by omega) (by omega))
    exact this
  have hp0 := W.pow_pos r
  have e2 : val B xs * 2 ^ r * Q B wh < Q B (wh + (nn xs + 1)) := by
    rw [Q_add, Q_succ, Int.mul_comm (Q B wh)]
    refine Int.mul_lt_mul_of_pos_right ?_ hqw
    have h1 : val B xs * 2 ^ r < Q B (nn xs) * 2 ^ r := Int.mul_lt_mul_of_pos_right e1 hp0
    have h2 : Q B (nn xs) * 2 ^ r ≤ Q B (nn xs) * B := Int.mul_le_mul_of_nonneg_left hp (by omega)
    omega
  have : c = 0 := by
    apply Classical.byContradiction; intro hne
    have e6 : 1 * Q B (wh + (nn xs + 1)) ≤ c * Q B (wh + (nn xs + 1)) := Int.mul_le_mul_of_nonneg_right (by omega) (by omega)
    omega
  subst this
  omega
end N
def ShlRel (w : World) (xs : List Int) (wh : Nat) (r : Nat) (g b1 b2 br : Nat) (F : Value) (i : Value) (wr : World) : Prop :=
  ∃ (k : Nat) (zs : List Int) (c : Int), i = .int .i64 k ∧ k ≤ nn xs + 1 ∧ zs.length = wh + nn xs + 1 ∧ Dg B zs ∧ 0 ≤ c ∧ c < 2 ^ (r : Int).toNat ∧ (∀ j, wh + k ≤ j → lim zs j = 0) ∧
    val B zs + c * Q B (wh + k) = lo B xs k * 2 ^ (r : Int).toNat * Q B wh ∧ Cry w g b1 b2 F zs c wr ∧ wr.cell? ⟨br, 0, none⟩ = some (.int .i64 r)
theorem Cry.after {w w1 : World} (hb : Below w.heap.size w w1) (h1 : w.heap.size ≤ w1.heap.size) {gs b1 b2 : Nat} {F : Value} {zs : List Int} {c : Int} {wr : World} (h : Cry w1 gs b1 b2 F zs c wr) : Cry w gs b1 b2 F zs c wr :=
  ⟨h.arr, h.fn, h.cy, h.fz, hb.trans (h.bl.mono h1)⟩
set_option maxHeartbeats 1000000 in
theorem nshl_any (w : World) (A : Option Addr) (n c : Nat) (xs : List Int) (hx : Sl w A n c xs) (hn : n ≤ 1099511627776) (m : Int) (h0 : 0 ≤ m) (h1 : m ≤ 65536) :
    Calls Try.prog 28 #[.slice A n c, .int .i64 m] w (Out2 w (n + 1025) (val B xs * 2 ^ m.toNat) 0) := by
  have hnx := nn_le xs
  rw [hx.len] at hnx
  obtain ⟨wh, hwh⟩ : ∃ wh : Nat, m / 64 = (wh : Int) := ⟨(m / 64).toNat, by omega⟩
  obtain ⟨r, hr⟩ : ∃ r : Nat, m % 64 = (r : Int) := ⟨(m % 64).toNat, by omega⟩
  have hr64 : r < 64 := by omega
  have hwl : wh ≤ 1024 := by omega
  have HM := Lib.hid (by omega : m = 64 * wh + r)
  have hmk : ∀ W : World, (Instr.makeSlice 23 (.int .i64 ((wh : Int) + (nn xs : Nat) + 1)) (.int .i64 ((wh : Int) + (nn xs : Nat) + 1))).run Try.prog W = .ok (.slice (some ⟨W.heap.size, 0, none⟩) (wh + nn xs + 1) (wh + nn xs + 1)) (W.alloc (.cells (madeCells #[.int .u64 0] (wh + nn xs + 1)) 40)) := by
    intro W
    have := make_run _ slNat (wh + nn xs + 1) (by omega) W
    rwa [Int.natCast_add, Int.natCast_add] at this
  go_enter Try.func28, Try.ntmps28
  go_wp2_with (first
      | (go_at_call 58; refine (nwithin_yes _ h0 h1 _).mono ?_; rintro e w' ⟨rfl, rfl⟩)
      | (go_at_call 50; refine (bare_any _ _ _ _ xs hx).mono ?_; rintro e w' ⟨rfl, rfl⟩)
      | (go_at_call 54; refine (carrying_any _ _ _).mono ?_; rintro e w2 ⟨rfl, rfl⟩))
  have HX := Lib.hid hx
  have hst := Cry.start (w'.alloc (.cells #[.int .i64 r] 3)) (wh + nn xs + 1) (.func (.func 59) #[] #[.pointer (some ⟨w'.heap.size, 0, none⟩)]) 62
  have hst1 := hst.after ((Below.refl _ w').alloc (Nat.le_refl _) _) (by simp)
  have hbr := (hst.bl.cell (p := ⟨w'.heap.size, 0, none⟩) (by simp)).trans (World.cell?_alloc_new w' #[.int .i64 r] 3 0)
  rw [World.size_alloc] at hst1
  clear hx hmk hst
  go_loopw [31] (fun i wr => ShlRel w' xs wh r (w'.heap.size + 1) (w'.heap.size + 1 + 1) (w'.heap.size + 1 + 1 + 1) w'.heap.size (.func (.func 59) #[] #[.pointer (some ⟨w'.heap.size, 0, none⟩)]) i wr) (fun i _ => nn xs + 1 - (intOf i).toNat)
  case atStart =>
    refine ⟨0, List.replicate (wh + nn xs + 1) 0, 0, rfl, Nat.zero_le _, by simp, Dg.zeros (by decide) _, by omega, W.pow_pos _, fun j _ => lim_zeros _ _, by rw [val_zeros, lo_zero]; simp, hst1, hbr⟩
  case round =>
    obtain ⟨k, zs, c', rfl, hk, hl, hd, hc0, hc1, hz, hv, hC, hbr'⟩ := hrel
    obtain ⟨wo, rfl⟩ : ∃ wo : World, wo = wr := ⟨_, rfl⟩
    by_cases hlt : k < nn xs + 1
    · have hxk := HX.out.dg.lim (b := B) (by decide) k
      have hs := Lib.hid (shl_step (r := (r : Int)) (by omega : wh + k < zs.length) (hz (wh + k) (Nat.le_refl _)) hv)
      have hw := (shl_low (lim xs k) r c' hxk (by omega) (by omega) hc0 hc1).2
      have hw2 := shl_high (x := lim xs k) (r := (r : Int)) hxk (by omega) (by omega)
      have hX := HX.out.below hC.bl
      have C1 := hC.carry (by omega) (by omega) (by omega) (W.shlH (lim xs k) r)
      have hcell1 := C1.arr.cell (k := wh + k) (by omega)
      have hfz1 := C1.arr.frozen (wh + k)
      have f1 := hC.fn
      have f2 := hC.cy
      have f3 := hC.fz
      have HV := Lib.hid hv
      have HZ := Lib.hid hz
      have HLn := Lib.hid hl
      have HC1 := Lib.hid hc1
      have HW2 := Lib.hid hw2
      clear hv hz hl hc1 hw2
      have ei : ((wh : Int) + (k : Int)).toNat = wh + k := by omega
      go_wp2_with (first
        | (go_at_call 56; refine (limb_tr _ _ _ _ xs hX k (by omega)).mono ?_; rintro e w3 ⟨rfl, rfl⟩)
        | (go_at_call 75; refine (carry_shl _ _ _ w'.heap.size _ _ c' r hxk (by omega) (by omega) hc0 HC1.out hbr' f1 f2 f3).mono ?_; rintro e w3 ⟨rfl, q, rfl⟩))
      go_roundw
      case rel =>
        refine ⟨k + 1, _, _, by go_num, by omega, by rw [List.length_set]; exact HLn.out, hd.set (wh + k) hw.1 hw.2, HW2.out.1, HW2.out.2, ?_, hs.out, (C1.store (by omega) (by omega) (by omega) (wh + k) _).drewN _, ?_⟩
        · intro j hj
          rw [lim_set _ _ _ _ (by rw [HLn.out]; omega), if_neg (by omega)]
          exact HZ.out j (by omega)
        · refine (World.cell?_setCell_other _ ⟨w'.heap.size + 1, wh + k, none⟩ _ _ (fun e => absurd (congrArg Addr.block e) (by show ¬ w'.heap.size + 1 = w'.heap.size; omega))).trans ?_
          exact (World.cell?_setCell_other _ _ _ _ (fun e => absurd (congrArg Addr.block e) (by show ¬ w'.heap.size + 1 + 1 + 1 = w'.heap.size; omega))).trans hbr'
      case measure => simp [intOf]; omega
    · obtain rfl : k = nn xs + 1 := by omega
      have hS := hC.arr.sl hl (by unfold maxLen; omega) hd
      have hE := Lib.hid (shl_last HX.out.dg hd hl hc0 HM.out hr64 hv)
      have hnz := nn_le zs
      rw [hl] at hnz
      have HLn := Lib.hid hl
      have HC1 := Lib.hid hc1
      clear hv hz hl hc1
      go_wp2_with (first
        | (go_at_call 50; refine (bare_any _ _ _ _ zs hS).mono ?_; rintro e w3 ⟨rfl, rfl⟩))
      go_ret2
      refine ⟨_, _, _, rfl, by omega, ?_, hC.bl⟩
      rw [← hE.out, limbs_of hd]
      exact ⟨hC.arr.own (by omega) HLn.out (by unfold maxLen; omega) hnz, hd.take _⟩
end Go.Proofs.Ytbjhfnkdflnnoaa
