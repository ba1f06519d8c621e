/- What the document's own Mul of layer 2 (digit by digit) answers, over this translation. -/
import Derived.Test.YtbjhfnkdflnnoaaNatDigits
import Derived.Test.YtbjhfnkdflnnoaaNatJoin
import Derived.Test.YtbjhfnkdflnnoaaNatMul
import Derived.Deep.QuietTactic
import Derived.BigQuiet
namespace Go.Proofs.Ytbjhfnkdflnnoaa
open Go.RowKit
set_option linter.unusedVariables false
open N
theorem mul_digits {x y : Int} (hx : 0 ≤ x ∧ x < 65536) (hy : 0 ≤ y ∧ y < 65536) : 0 ≤ x * y ∧ x * y ≤ 4294836225 := by
  refine ⟨Int.mul_nonneg hx.1 hy.1, ?_⟩
  have := Int.mul_le_mul (show x ≤ 65535 by omega) (show y ≤ 65535 by omega) hy.1 (by omega)
  simpa using this
/-- a row of the product, k digits of it done -/
structure RMst (X Y : List Int) (i k : Nat) (q : Int) (zs : List Int) : Prop where
  len : zs.length = X.length + Y.length + 1
  dg : Dg D zs
  q0 : 0 ≤ q
  q1 : q < 65536
  k1 : k ≤ Y.length + 1
  fin : Y.length < k → q = 0
  zero : ∀ j, i + Y.length ≤ j → i + k ≤ j → lim zs j = 0
  sum : val D zs + q * Q D (i + k) = lo D X i * val D Y + lim X i * lo D Y k * Q D i
theorem RMst.step {X Y : List Int} {i k : Nat} {q : Int} {zs : List Int} (h : RMst X Y i k q zs) (hX : Dg D X) (hY : Dg D Y) (hi : i < X.length) (hk : k ≤ Y.length) :
    RMst X Y i (k + 1) ((lim zs (i + k) + q + lim X i * lim Y k) / 65536) (zs.set (i + k) ((lim zs (i + k) + q + lim X i * lim Y k) % 65536)) ∧ 0 ≤ lim zs (i + k) + q + lim X i * lim Y k ∧ lim zs (i + k) + q + lim X i * lim Y k ≤ 4294967295 := by
  have hx := hX.lim (b := D) (by decide) i
  have hy := hY.lim (b := D) (by decide) k
  have hz := h.dg.lim (b := D) (by decide) (i + k)
  have hz1 : lim zs (i + k) < 65536 := hz.2
  have hz0 := hz.1
  have hxy := mul_digits hx hy
  have hkl : i + k < zs.length := by rw [h.len]; omega
  have hq0 := h.q0
  have hq1 := h.q1
  refine ⟨⟨by rw [List.length_set, h.len], h.dg.set _ (by omega) (by show _ < 65536; omega), by omega, by omega, by omega, fun hc => ?_, fun j h1 h2 => ?_, ?_⟩, by omega, by omega⟩
  · have hy0 : lim Y k = 0 := lim_over Y k (by omega)
    have hzz := h.zero (i + k) (by omega) (by omega)
    rw [hy0, hzz, Int.mul_zero]
    omega
  · rw [lim_set _ _ _ _ hkl, if_neg (by omega)]
    exact h.zero j h1 (by omega)
  · rw [val_set D zs _ _ hkl, lo_succ, show i + (k + 1) = i + k + 1 from rfl, Q_succ]
    have hs := h.sum
    generalize hS : lim zs (i + k) + q + lim X i * lim Y k = s at *
    generalize lim zs (i + k) = z at *
    have e1 : s / 65536 * (Q D (i + k) * D) = s / 65536 * 65536 * Q D (i + k) := by rw [Int.mul_comm (Q D (i + k)), ← Int.mul_assoc]
    have e2 : s % 65536 - z = q + lim X i * lim Y k - s / 65536 * 65536 := by omega
    have e3 : lim X i * (lo D Y k + lim Y k * Q D k) * Q D i = lim X i * lo D Y k * Q D i + lim X i * lim Y k * Q D (i + k) := by
      rw [Int.mul_add, Int.add_mul, Q_add, ← Int.mul_assoc, Int.mul_right_comm (lim X i * lim Y k), Int.mul_assoc (lim X i * lim Y k)]
    rw [e1, e2, e3]
    simp only [Int.add_mul, Int.sub_mul]
    omega
theorem RMst.exit {X Y : List Int} {i k : Nat} {zs : List Int} (h : RMst X Y i k 0 zs) (hY : Dg D Y) (hk : Y.length ≤ k) : val D zs = lo D X (i + 1) * val D Y ∧ ∀ j, (i + 1) + Y.length ≤ j → lim zs j = 0 := by
  have hs := h.sum
  have hk1 := h.k1
  refine ⟨?_, fun j hj => h.zero j (by omega) (by omega)⟩
  rw [lo_all D Y k hk, Int.zero_mul, Int.add_zero] at hs
  rw [hs, lo_succ, Int.add_mul, Int.mul_right_comm (lim X i)]
set_option maxHeartbeats 2000000 in
theorem rmul_any (w : World) (A A' : Option Addr) (n c m d : Nat) (xs ys : List Int) (hx : Sl w A n c xs) (hy : Sl w A' m d ys) (hn : n ≤ 1000000) (hm : m ≤ 1000000) :
    Calls Try.prog 31 #[.slice A n c, .slice A' m d] w (Out w (4 * n + 4 * m + 2) (val B xs * val B ys)) := by
  have hvx := Lib.hid (digs_val (val_nonneg (b := B) (by decide) hx.dg))
  have hvy := Lib.hid (digs_val (val_nonneg (b := B) (by decide) hy.dg))
  go_enter Try.func31, Try.ntmps31
  go_wp2_with (first
    | (go_at_call_of 46 (Value.slice A n c); refine (digits_any _ _ _ _ xs hx (by omega)).mono ?_; rintro e w1 ⟨A1, n1, c1, rfl, hn1, ho1, hb1⟩; have hy1 := hy.below hb1)
    | (go_at_call_of 46 (Value.slice A' m d); refine (digits_any _ _ _ _ ys hy1 (by omega)).mono ?_; rintro e w2 ⟨A2, n2, c2, rfl, hn2, ho2, hb2⟩
       have hmk : ∀ W : World, (Instr.makeSlice 22 (.int .i64 ((n1 : Int) + n2 + 1)) (.int .i64 ((n1 : Int) + n2 + 1))).run Try.prog W = .ok (.slice (some ⟨W.heap.size, 0, none⟩) (n1 + n2 + 1) (n1 + n2 + 1)) (W.alloc (.cells (madeCells #[.int .u64 0] (n1 + n2 + 1)) 40)) := fun W => by
         rw [show ((n1 : Int) + n2 + 1) = ((n1 + n2 + 1 : Nat) : Int) by omega]
         exact make_run _ slU (n1 + n2 + 1) (by omega) W))
  have HX := Lib.hid (ho1.sl.below hb2)
  have HY := Lib.hid ho2.sl
  obtain ⟨X, hX⟩ : ∃ X, digs (val B xs) = X := ⟨_, rfl⟩
  obtain ⟨Y, hY⟩ : ∃ Y, digs (val B ys) = Y := ⟨_, rfl⟩
  have HDX := Lib.hid (digs_dg (val B xs))
  have HDY := Lib.hid (digs_dg (val B ys))
  rw [hX] at HX HDX hvx
  rw [hY] at HY HDY hvy
  have HB := Lib.hid (hb1.trans (hb2.mono hb1.size))
  clear hX hY hx hy hy1 ho1 ho2 hb1 hb2 hmk
  have hc1 := HX.out.cap
  have hc2 := HY.out.cap
  have hm1 := HX.out.max
  have hm2 := HY.out.max
  unfold maxLen at hm1 hm2
  have hXl := HX.out.len
  have hYl := HY.out.len
  have HXL := Lib.hid hXl
  have HYL := Lib.hid hYl
  clear hXl hYl
  go_loopw [8] (fun is wr => ∃ (i : Nat) (zs : List Int), is = .int .i64 i ∧ i ≤ n1 ∧ zs.length = X.length + Y.length + 1 ∧ Dg D zs ∧ (∀ j, i + Y.length ≤ j → lim zs j = 0) ∧ val D zs = lo D X i * val D Y ∧ Arr wr w2.heap.size zs ∧ Below w2.heap.size w2 wr) (fun is _ => n1 - (intOf is).toNat)
  case atStart =>
    exact ⟨0, List.replicate (n1 + n2 + 1) 0, rfl, Nat.zero_le _, by rw [List.length_replicate, HXL.out, HYL.out], Dg.zeros (by decide) _, fun j _ => lim_zeros _ _, by rw [val_zeros, lo_zero, Int.zero_mul], Arr.made w2 _, (Below.refl _ w2).alloc (Nat.le_refl _) _⟩
  case round =>
    obtain ⟨i, zs, rfl, hi, hl, hd, hz, hv, hA, hb⟩ := hrel
    obtain ⟨wo, rfl⟩ : ∃ wo : World, wo = wr := ⟨_, rfl⟩
    by_cases hlt : i < n1
    · have H0 := Lib.hid (⟨hl, hd, by omega, by omega, by omega, fun h => by omega, fun j h1 _ => hz j h1, by rw [hv, lo_zero]; simp⟩ : RMst X Y i 0 0 zs)
      have HA := Lib.hid hA
      have HBo := Lib.hid hb
      clear hl hd hz hv hA hb
      go_wp2
      go_loopw [9, 10] (fun cs ks wr => ∃ (k : Nat) (q : Int) (zs : List Int), cs = .int .u64 q ∧ ks = .int .i64 k ∧ RMst X Y i k q zs ∧ Arr wr w2.heap.size zs ∧ Below w2.heap.size w2 wr) (fun _ ks _ => n2 + 2 - (intOf ks).toNat)
      case atStart => exact ⟨0, 0, zs, rfl, rfl, H0.out, HA.out, HBo.out⟩
      case round =>
        obtain ⟨k, q, zs, rfl, rfl, hR, hA, hb⟩ := hrel
        obtain ⟨wi, rfl⟩ : ∃ wi : World, wi = wr := ⟨_, rfl⟩
        have hq0 := hR.q0
        have hq1 := hR.q1
        have hk1 : k ≤ n2 + 1 := by have := hR.k1; rw [HYL.out] at this; exact this
        have hlen : zs.length = n1 + n2 + 1 := by rw [hR.len, HXL.out, HYL.out]
        by_cases hk2 : k < n2
        · obtain ⟨ad1, rfl, _, hcx⟩ := (HX.out.below hb).cell hlt
          obtain ⟨ad2, rfl, _, hcy⟩ := (HY.out.below hb).cell hk2
          have hcz := hA.cell (k := i + k) (by omega)
          have hfz := hA.frozen (i + k)
          obtain ⟨s1, s2, s3⟩ := hR.step HDX.out HDY.out (by rw [HXL.out]; exact hlt) (by rw [HYL.out]; omega)
          have hx := HDX.out.lim (b := D) (by decide) i
          have hy := HDY.out.lim (b := D) (by decide) k
          have hzz := hR.dg.lim (b := D) (by decide) (i + k)
          have hz1 : lim zs (i + k) < 65536 := hzz.2
          have hz0 := hzz.1
          obtain ⟨p1, p2⟩ := mul_digits hx hy
          have HS := Lib.hid s1
          have HA1 := Lib.hid (hA.set (i + k) ((lim zs (i + k) + q + lim X i * lim Y k) % 65536))
          have HBi := Lib.hid hb
          have HL := Lib.hid hlen
          have e1 : IntKind.u64.wrap (lim X i * lim Y k) = lim X i * lim Y k := by rw [IntKind.wrap_u64]; omega
          have e2 : IntKind.u64.wrap (lim zs (i + k) + q + lim X i * lim Y k) = lim zs (i + k) + q + lim X i * lim Y k := by rw [IntKind.wrap_u64]; omega
          clear hR s1 hlen hx hy hzz hA hb
          go_wp2
          go_quiet (fail)
          go_wp2
          go_roundw
          case rel => exact ⟨k + 1, _, _, rfl, by go_num, HS.out, (HA1.out.drewN nq : Arr _ _ _), (HBi.out.setCell (p := ⟨w2.heap.size, i + k, none⟩) (Nat.le_refl _) (.int .u64 ((lim zs (i + k) + q + lim X i * lim Y k) % 65536))).trans ⟨rfl, rfl, rfl, Nat.le_refl _, fun _ _ => rfl⟩⟩
          case measure => simp [intOf]; omega
        · by_cases hqp : 0 < q
          · have hkn : k = n2 := by
              apply Classical.byContradiction; intro hc
              have := hR.fin (by rw [HYL.out]; omega)
              omega
            have hcz := hA.cell (k := i + k) (by omega)
            have hfz := hA.frozen (i + k)
            obtain ⟨s1, s2, s3⟩ := hR.step HDX.out HDY.out (by rw [HXL.out]; exact hlt) (by rw [HYL.out]; omega)
            have hy0 : lim Y k = 0 := lim_over Y k (by rw [HYL.out]; omega)
            rw [hy0, Int.mul_zero, Int.add_zero] at s1 s2 s3
            have hzz := hR.dg.lim (b := D) (by decide) (i + k)
            have hz1 : lim zs (i + k) < 65536 := hzz.2
            have hz0 := hzz.1
            have HS := Lib.hid s1
            have HA1 := Lib.hid (hA.set (i + k) ((lim zs (i + k) + q) % 65536))
            have HBi := Lib.hid hb
            have HL := Lib.hid hlen
            have HKN := Lib.hid hkn
            have hk3 : n2 ≤ k := by omega
            clear hR s1 hlen hzz hA hb hy0 hkn
            go_wp2
            go_roundw
            case rel => exact ⟨k + 1, _, _, rfl, by go_num, HS.out, HA1.out, HBi.out.setCell (Nat.le_refl _) _⟩
            case measure => have := HKN.out; simp [intOf]; omega
          · obtain rfl : q = 0 := by omega
            obtain ⟨f1, f2⟩ := hR.exit HDY.out (by rw [HYL.out]; omega)
            have HF1 := Lib.hid f1
            have HF2 := Lib.hid f2
            have HR := Lib.hid hR
            have HA1 := Lib.hid hA
            have HBi := Lib.hid hb
            have hk3 : n2 ≤ k := by omega
            clear f1 f2 hR hlen hA hb
            go_wp2
            go_roundw
            case rel => exact ⟨i + 1, zs, by go_num, by omega, HR.out.len, HR.out.dg, HF2.out, HF1.out, HA1.out, HBi.out⟩
            case measure => simp [intOf]; omega
    · obtain rfl : i = n1 := by omega
      have hlen : zs.length = i + n2 + 1 := by rw [hl, HXL.out, HYL.out]
      have hS := hA.sl hlen (by unfold maxLen; omega) hd.up
      have hE : val D zs = val B xs * val B ys := by rw [hv, lo_all D X i (by rw [HXL.out]; exact Nat.le_refl _), hvx.out, hvy.out]
      have HE := Lib.hid hE
      have HBo := Lib.hid hb
      have HDZ := Lib.hid hd
      clear hl hv hz hE hlen hA hb
      go_wp2_with (go_at_call 62; refine (join_any _ _ _ _ zs hS HDZ.out (by omega)).mono ?_; rintro e w4 ⟨A4, n4, c4, rfl, hn4, ho4, hb4⟩)
      go_ret
      rw [HE.out] at ho4
      have hb5 := HB.out.trans (HBo.out.mono HB.out.size)
      exact ⟨A4, n4, c4, rfl, by omega, ho4.mono (Nat.le_trans HB.out.size HBo.out.size), hb5.trans (hb4.mono hb5.size)⟩
end Go.Proofs.Ytbjhfnkdflnnoaa
