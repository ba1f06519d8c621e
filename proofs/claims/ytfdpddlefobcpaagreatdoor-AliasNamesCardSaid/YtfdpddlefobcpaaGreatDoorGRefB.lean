/- Gathered: RefMul, RefDiv, RefShift. -/
import Derived.Test.YtfdpddlefobcpaaGreatDoorGRef
import Derived.Test.YtfdpddlefobcpaaGreatDoorGNatB
import Derived.Deep.QuietTactic
import Derived.BigQuiet
/- What the document's own Mul of layer 2 (digit by digit) answers, over this translation. -/
namespace Go.Proofs.YtfdpddlefobcpaaGreatDoor
open Go.RowKit
set_option linter.unusedVariables false
set_option maxRecDepth 20000
open N
theorem mul_digits {x y : Int} (hx : 0 ≤ x ∧ x < 65536) (hy : 0 ≤ y ∧ y < 65536) : 0 ≤ x * y ∧ x * y ≤ 4294836225 := by
  refine ⟨Int.mul_nonneg hx.1 hy.1, ?_⟩
  have := Int.mul_le_mul (show x ≤ 65535 by omega) (show y ≤ 65535 by omega) hy.1 (by omega)
  simpa using this
/-- a row of the product, k digits of it done -/
structure RMst (X Y : List Int) (i k : Nat) (q : Int) (zs : List Int) : Prop where
  len : zs.length = X.length + Y.length + 1
  dg : Dg D zs
  q0 : 0 ≤ q
  q1 : q < 65536
  k1 : k ≤ Y.length + 1
  fin : Y.length < k → q = 0
  zero : ∀ j, i + Y.length ≤ j → i + k ≤ j → lim zs j = 0
  sum : val D zs + q * Q D (i + k) = lo D X i * val D Y + lim X i * lo D Y k * Q D i
theorem RMst.step {X Y : List Int} {i k : Nat} {q : Int} {zs : List Int} (h : RMst X Y i k q zs) (hX : Dg D X) (hY : Dg D Y) (hi : i < X.length) (hk : k ≤ Y.length) :
    RMst X Y i (k + 1) ((lim zs (i + k) + q + lim X i * lim Y k) / 65536) (zs.set (i + k) ((lim zs (i + k) + q + lim X i * lim Y k) % 65536)) ∧ 0 ≤ lim zs (i + k) + q + lim X i * lim Y k ∧ lim zs (i + k) + q + lim X i * lim Y k ≤ 4294967295 := by
  have hx := hX.lim (b := D) (by decide) i
  have hy := hY.lim (b := D) (by decide) k
  have hz := h.dg.lim (b := D) (by decide) (i + k)
  have hz1 : lim zs (i + k) < 65536 := hz.2
  have hz0 := hz.1
  have hxy := mul_digits hx hy
  have hkl : i + k < zs.length := by rw [h.len]; omega
  have hq0 := h.q0
  have hq1 := h.q1
  refine ⟨⟨by rw [List.length_set, h.len], h.dg.set _ (by omega) (by show _ < 65536; omega), by omega, by omega, by omega, fun hc => ?_, fun j h1 h2 => ?_, ?_⟩, by omega, by omega⟩
  · have hy0 : lim Y k = 0 := lim_over Y k (by omega)
    have hzz := h.zero (i + k) (by omega) (by omega)
    rw [hy0, hzz, Int.mul_zero]
    omega
  · rw [lim_set _ _ _ _ hkl, if_neg (by omega)]
    exact h.zero j h1 (by omega)
  · rw [val_set D zs _ _ hkl, lo_succ, show i + (k + 1) = i + k + 1 from rfl, Q_succ]
    have hs := h.sum
    generalize hS : lim zs (i + k) + q + lim X i * lim Y k = s at *
    generalize lim zs (i + k) = z at *
    have e1 : s / 65536 * (Q D (i + k) * D) = s / 65536 * 65536 * Q D (i + k) := by rw [Int.mul_comm (Q D (i + k)), ← Int.mul_assoc]
    have e2 : s % 65536 - z = q + lim X i * lim Y k - s / 65536 * 65536 := by omega
    have e3 : lim X i * (lo D Y k + lim Y k * Q D k) * Q D i = lim X i * lo D Y k * Q D i + lim X i * lim Y k * Q D (i + k) := by
      rw [Int.mul_add, Int.add_mul, Q_add, ← Int.mul_assoc, Int.mul_right_comm (lim X i * lim Y k), Int.mul_assoc (lim X i * lim Y k)]
    rw [e1, e2, e3]
    simp only [Int.add_mul, Int.sub_mul]
    omega
theorem RMst.exit {X Y : List Int} {i k : Nat} {zs : List Int} (h : RMst X Y i k 0 zs) (hY : Dg D Y) (hk : Y.length ≤ k) : val D zs = lo D X (i + 1) * val D Y ∧ ∀ j, (i + 1) + Y.length ≤ j → lim zs j = 0 := by
  have hs := h.sum
  have hk1 := h.k1
  refine ⟨?_, fun j hj => h.zero j (by omega) (by omega)⟩
  rw [lo_all D Y k hk, Int.zero_mul, Int.add_zero] at hs
  rw [hs, lo_succ, Int.add_mul, Int.mul_right_comm (lim X i)]
set_option maxHeartbeats 2000000 in
theorem rmul_any (w : World) (A A' : Option Addr) (n c m d : Nat) (xs ys : List Int) (hx : Sl w A n c xs) (hy : Sl w A' m d ys) (hn : n ≤ 1000000) (hm : m ≤ 1000000) :
    Calls Tryz.prog 110 #[.slice A n c, .slice A' m d] w (Out w (4 * n + 4 * m + 2) (val B xs * val B ys)) := by
  have hvx := Lib.hid (digs_val (val_nonneg (b := B) (by decide) hx.dg))
  have hvy := Lib.hid (digs_val (val_nonneg (b := B) (by decide) hy.dg))
  go_enter Tryz.func110, Tryz.ntmps110
  go_wp2_with (first
    | (go_at_call_of 84 (Value.slice A n c); refine (digits_any _ _ _ _ xs hx (by omega)).mono ?_; rintro e w1 ⟨A1, n1, c1, rfl, hn1, ho1, hb1⟩; have hy1 := hy.below hb1)
    | (go_at_call_of 84 (Value.slice A' m d); refine (digits_any _ _ _ _ ys hy1 (by omega)).mono ?_; rintro e w2 ⟨A2, n2, c2, rfl, hn2, ho2, hb2⟩
       have hmk : ∀ W : World, (Instr.makeSlice 57 (.int .i64 ((n1 : Int) + n2 + 1)) (.int .i64 ((n1 : Int) + n2 + 1))).run Tryz.prog W = .ok (.slice (some ⟨W.heap.size, 0, none⟩) (n1 + n2 + 1) (n1 + n2 + 1)) (W.alloc (.cells (madeCells #[.int .u64 0] (n1 + n2 + 1)) 72)) := fun W => by
         rw [show ((n1 : Int) + n2 + 1) = ((n1 + n2 + 1 : Nat) : Int) by omega]
         exact make_run _ slU (n1 + n2 + 1) (by omega) W))
  have HX := Lib.hid (ho1.sl.below hb2)
  have HY := Lib.hid ho2.sl
  obtain ⟨X, hX⟩ : ∃ X, digs (val B xs) = X := ⟨_, rfl⟩
  obtain ⟨Y, hY⟩ : ∃ Y, digs (val B ys) = Y := ⟨_, rfl⟩
  have HDX := Lib.hid (digs_dg (val B xs))
  have HDY := Lib.hid (digs_dg (val B ys))
  rw [hX] at HX HDX hvx
  rw [hY] at HY HDY hvy
  have HB := Lib.hid (hb1.trans (hb2.mono hb1.size))
  clear hX hY hx hy hy1 ho1 ho2 hb1 hb2 hmk
  have hc1 := HX.out.cap
  have hc2 := HY.out.cap
  have hm1 := HX.out.max
  have hm2 := HY.out.max
  unfold maxLen at hm1 hm2
  have hXl := HX.out.len
  have hYl := HY.out.len
  have HXL := Lib.hid hXl
  have HYL := Lib.hid hYl
  clear hXl hYl
  go_loopw [8] (fun is wr => ∃ (i : Nat) (zs : List Int), is = .int .i64 i ∧ i ≤ n1 ∧ zs.length = X.length + Y.length + 1 ∧ Dg D zs ∧ (∀ j, i + Y.length ≤ j → lim zs j = 0) ∧ val D zs = lo D X i * val D Y ∧ Arr wr w2.heap.size zs ∧ Below w2.heap.size w2 wr) (fun is _ => n1 - (intOf is).toNat)
  case atStart =>
    exact ⟨0, List.replicate (n1 + n2 + 1) 0, rfl, Nat.zero_le _, by rw [List.length_replicate, HXL.out, HYL.out], Dg.zeros (by decide) _, fun j _ => lim_zeros _ _, by rw [val_zeros, lo_zero, Int.zero_mul], Arr.made w2 _, (Below.refl _ w2).alloc (Nat.le_refl _) _⟩
  case round =>
    obtain ⟨i, zs, rfl, hi, hl, hd, hz, hv, hA, hb⟩ := hrel
    obtain ⟨wo, rfl⟩ : ∃ wo : World, wo = wr := ⟨_, rfl⟩
    by_cases hlt : i < n1
    · have H0 := Lib.hid (⟨hl, hd, by omega, by omega, by omega, fun h => by omega, fun j h1 _ => hz j h1, by rw [hv, lo_zero]; simp⟩ : RMst X Y i 0 0 zs)
      have HA := Lib.hid hA
      have HBo := Lib.hid hb
      clear hl hd hz hv hA hb
      go_wp2
      go_loopw [9, 10] (fun cs ks wr => ∃ (k : Nat) (q : Int) (zs : List Int), cs = .int .u64 q ∧ ks = .int .i64 k ∧ RMst X Y i k q zs ∧ Arr wr w2.heap.size zs ∧ Below w2.heap.size w2 wr) (fun _ ks _ => n2 + 2 - (intOf ks).toNat)
      case atStart => exact ⟨0, 0, zs, rfl, rfl, H0.out, HA.out, HBo.out⟩
      case round =>
        obtain ⟨k, q, zs, rfl, rfl, hR, hA, hb⟩ := hrel
        obtain ⟨wi, rfl⟩ : ∃ wi : World, wi = wr := ⟨_, rfl⟩
        have hq0 := hR.q0
        have hq1 := hR.q1
        have hk1 : k ≤ n2 + 1 := by have := hR.k1; rw [HYL.out] at this; exact this
        have hlen : zs.length = n1 + n2 + 1 := by rw [hR.len, HXL.out, HYL.out]
        by_cases hk2 : k < n2
        · obtain ⟨ad1, rfl, _, hcx⟩ := (HX.out.below hb).cell hlt
          obtain ⟨ad2, rfl, _, hcy⟩ := (HY.out.below hb).cell hk2
          have hcz := hA.cell (k := i + k) (by omega)
          have hfz := hA.frozen (i + k)
          obtain ⟨s1, s2, s3⟩ := hR.step HDX.out HDY.out (by rw [HXL.out]; exact hlt) (by rw [HYL.out]; omega)
          have hx := HDX.out.lim (b := D) (by decide) i
          have hy := HDY.out.lim (b := D) (by decide) k
          have hzz := hR.dg.lim (b := D) (by decide) (i + k)
          have hz1 : lim zs (i + k) < 65536 := hzz.2
          have hz0 := hzz.1
          obtain ⟨p1, p2⟩ := mul_digits hx hy
          have HS := Lib.hid s1
          have HA1 := Lib.hid (hA.set (i + k) ((lim zs (i + k) + q + lim X i * lim Y k) % 65536))
          have HBi := Lib.hid hb
          have HL := Lib.hid hlen
          have e1 : IntKind.u64.wrap (lim X i * lim Y k) = lim X i * lim Y k := by rw [IntKind.wrap_u64]; omega
          have e2 : IntKind.u64.wrap (lim zs (i + k) + q + lim X i * lim Y k) = lim zs (i + k) + q + lim X i * lim Y k := by rw [IntKind.wrap_u64]; omega
          clear hR s1 hlen hx hy hzz hA hb
          go_wp2
          go_quiet (fail)
          go_wp2
          go_roundw
          case rel => exact ⟨k + 1, _, _, rfl, by go_num, HS.out, (HA1.out.drewN nq : Arr _ _ _), (HBi.out.setCell (p := ⟨w2.heap.size, i + k, none⟩) (Nat.le_refl _) (.int .u64 ((lim zs (i + k) + q + lim X i * lim Y k) % 65536))).trans ⟨rfl, rfl, rfl, Nat.le_refl _, fun _ _ => rfl⟩⟩
          case measure => simp [intOf]; omega
        · by_cases hqp : 0 < q
          · have hkn : k = n2 := by
              apply Classical.byContradiction; intro hc
              have := hR.fin (by rw [HYL.out]; omega)
              omega
            have hcz := hA.cell (k := i + k) (by omega)
            have hfz := hA.frozen (i + k)
            obtain ⟨s1, s2, s3⟩ := hR.step HDX.out HDY.out (by rw [HXL.out]; exact hlt) (by rw [HYL.out]; omega)
            have hy0 : lim Y k = 0 := lim_over Y k (by rw [HYL.out]; omega)
            rw [hy0, Int.mul_zero, Int.add_zero] at s1 s2 s3
            have hzz := hR.dg.lim (b := D) (by decide) (i + k)
            have hz1 : lim zs (i + k) < 65536 := hzz.2
            have hz0 := hzz.1
            have HS := Lib.hid s1
            have HA1 := Lib.hid (hA.set (i + k) ((lim zs (i + k) + q) % 65536))
            have HBi := Lib.hid hb
            have HL := Lib.hid hlen
            have HKN := Lib.hid hkn
            have hk3 : n2 ≤ k := by omega
            clear hR s1 hlen hzz hA hb hy0 hkn
            go_wp2
            go_roundw
            case rel => exact ⟨k + 1, _, _, rfl, by go_num, HS.out, HA1.out, HBi.out.setCell (Nat.le_refl _) _⟩
            case measure => have := HKN.out; simp [intOf]; omega
          · obtain rfl : q = 0 := by omega
            obtain ⟨f1, f2⟩ := hR.exit HDY.out (by rw [HYL.out]; omega)
            have HF1 := Lib.hid f1
            have HF2 := Lib.hid f2
            have HR := Lib.hid hR
            have HA1 := Lib.hid hA
            have HBi := Lib.hid hb
            have hk3 : n2 ≤ k := by omega
            clear f1 f2 hR hlen hA hb
            go_wp2
            go_roundw
            case rel => exact ⟨i + 1, zs, by go_num, by omega, HR.out.len, HR.out.dg, HF2.out, HF1.out, HA1.out, HBi.out⟩
            case measure => simp [intOf]; omega
    · obtain rfl : i = n1 := by omega
      have hlen : zs.length = i + n2 + 1 := by rw [hl, HXL.out, HYL.out]
      have hS := hA.sl hlen (by unfold maxLen; omega) hd.up
      have hE : val D zs = val B xs * val B ys := by rw [hv, lo_all D X i (by rw [HXL.out]; exact Nat.le_refl _), hvx.out, hvy.out]
      have HE := Lib.hid hE
      have HBo := Lib.hid hb
      have HDZ := Lib.hid hd
      clear hl hv hz hE hlen hA hb
      go_wp2_with (go_at_call 83; refine (join_any _ _ _ _ zs hS HDZ.out (by omega)).mono ?_; rintro e w4 ⟨A4, n4, c4, rfl, hn4, ho4, hb4⟩)
      go_ret
      rw [HE.out] at ho4
      have hb5 := HB.out.trans (HBo.out.mono HB.out.size)
      exact ⟨A4, n4, c4, rfl, by omega, ho4.mono (Nat.le_trans HB.out.size HBo.out.size), hb5.trans (hb4.mono hb5.size)⟩
end Go.Proofs.YtfdpddlefobcpaaGreatDoor
/- What the document's own Div of layer 3 (bit by bit) answers, over this translation. -/
namespace Go.Proofs.YtfdpddlefobcpaaGreatDoor
open Go.RowKit
set_option linter.unusedVariables false
set_option maxRecDepth 20000
open N
section
variable {w0 w w' : World} {S S' : List Ent} {A A' : Option Addr} {n c m d k k' K : Nat} {xs ys : List Int} {v u : Int}
theorem St.sub (h : St w0 w S) (hs : ∀ t ∈ S', t ∈ S) : St w0 w S' := ⟨h.1, fun t ht => h.2 t (hs t ht)⟩
/-- a result that is below the base to the power of K has at most K limbs -/
theorem St.outK (h : St w0 w S) {m : Nat} {r : Int} {e : Ending} (hr : 0 ≤ r) (hK : r < Q B K) (ho : Out w m r e w') : ∃ A n c, e = .returned (.slice A n c) ∧ St w0 w' (⟨A, n, c, K, limbs r, r⟩ :: S) := by
  obtain ⟨A, n, c, he, hn, hown, hb⟩ := ho
  exact ⟨A, n, c, he, (h.below hb).cons hown.sl (by rw [← hown.len]; exact (limbs_len_le hr K).2 hK) (limbs_val hr)⟩
theorem radd_v (h : St w0 w S) (h1 : (⟨A, n, c, k, xs, v⟩ : Ent) ∈ S) (h2 : (⟨A', m, d, k', ys, u⟩ : Ent) ∈ S) (hk : k ≤ 1000000) (hk' : k' ≤ 1000000) (hK : v + u < Q B K) :
    Calls Tryz.prog 92 #[.slice A n c, .slice A' m d] w fun e w' => ∃ A n c, e = .returned (.slice A n c) ∧ St w0 w' (⟨A, n, c, K, limbs (v + u), v + u⟩ :: S) := by
  obtain ⟨a1, a2, rfl⟩ := h.get h1
  obtain ⟨b1, b2, rfl⟩ := h.get h2
  have := val_nonneg (b := B) (by decide) a1.dg
  have := val_nonneg (b := B) (by decide) b1.dg
  exact (radd_any w A A' n c m d xs ys a1 b1 (by omega) (by omega)).mono fun e w' ho => h.outK (by omega) hK ho
theorem rsub_v (h : St w0 w S) (h1 : (⟨A, n, c, k, xs, v⟩ : Ent) ∈ S) (h2 : (⟨A', m, d, k', ys, u⟩ : Ent) ∈ S) (hk : k ≤ 1000000) (hk' : k' ≤ 1000000) (hle : u ≤ v) (hK : v - u < Q B K) :
    Calls Tryz.prog 90 #[.slice A n c, .slice A' m d] w fun e w' => ∃ A n c, e = .returned (.tuple #[.slice A n c, .int .i64 0]) ∧ St w0 w' (⟨A, n, c, K, limbs (v - u), v - u⟩ :: S) := by
  obtain ⟨a1, a2, rfl⟩ := h.get h1
  obtain ⟨b1, b2, rfl⟩ := h.get h2
  refine (rsub_yes w A A' n c m d xs ys a1 b1 (by omega) (by omega) hle).mono fun e w' ho => ?_
  obtain ⟨A, n, c, he, hn, hown, hb⟩ := ho
  exact ⟨A, n, c, he, (h.below hb).cons hown.sl (by rw [← hown.len]; exact (limbs_len_le (by omega) K).2 hK) (limbs_val (by omega))⟩
theorem rcmp_v (h : St w0 w S) (h1 : (⟨A, n, c, k, xs, v⟩ : Ent) ∈ S) (h2 : (⟨A', m, d, k', ys, u⟩ : Ent) ∈ S) (hk : k ≤ 1000000) (hk' : k' ≤ 1000000) :
    Calls Tryz.prog 89 #[.slice A n c, .slice A' m d] w fun e w' => e = .returned (.int .i64 (cmpI v u)) ∧ St w0 w' S := by
  obtain ⟨a1, a2, rfl⟩ := h.get h1
  obtain ⟨b1, b2, rfl⟩ := h.get h2
  exact (rcmp_any w A A' n c m d xs ys a1 b1 (by omega) (by omega)).mono fun e w' ⟨he, hb⟩ => ⟨he, h.below hb⟩
theorem rlen_v (h : St w0 w S) (h1 : (⟨A, n, c, k, xs, v⟩ : Ent) ∈ S) (hk : k ≤ 1000000) :
    Calls Tryz.prog 93 #[.slice A n c] w fun e w' => e = .returned (.int .i64 (W.len v)) ∧ St w0 w' S := by
  obtain ⟨a1, a2, rfl⟩ := h.get h1
  exact (rlen_any w A n c xs a1 (by omega)).mono fun e w' ⟨he, hb⟩ => ⟨he, h.below hb⟩
theorem rbit_v (h : St w0 w S) (h1 : (⟨A, n, c, k, xs, v⟩ : Ent) ∈ S) (hk : k ≤ 1000000) {i : Nat} (hi : i ≤ 9223372036854775807) {b : Bool} (hb : (v / 2 ^ i % 2 == 1) = b) :
    Calls Tryz.prog 85 #[.slice A n c, .int .i64 i] w fun e w' => e = .returned (.bool b) ∧ St w0 w' S := by
  obtain ⟨a1, a2, rfl⟩ := h.get h1
  subst hb
  exact (rbit_any w A n c xs a1 (by omega) i hi).mono fun e w' ⟨he, hb⟩ => ⟨he, h.below hb⟩
end
theorem rdiv_bit {va vb q r t : Int} {j : Nat} (hb : 0 < vb) (h : q * vb + r = va / 2 ^ (j + 1)) (ht : va / 2 ^ j % 2 = t) : (q + q) * vb + (r + r + t) = va / 2 ^ j := by
  rw [W.div_div2] at h
  rw [Int.add_mul]
  omega
def RdInv (va vb : Int) (j : Nat) (q r : Int) : Prop := 0 ≤ q ∧ 0 ≤ r ∧ r < vb ∧ q * vb + r = va / 2 ^ j
theorem RdInv.bound {va vb q r : Int} {j K : Nat} (h : RdInv va vb j q r) (ha : 0 ≤ va) (hb : 0 < vb) (hK : va + va + vb + vb < Q B K) : q + q + 1 < Q B K ∧ r + r + 1 < Q B K := by
  obtain ⟨h1, h2, h3, h4⟩ := h
  have h5 : va / 2 ^ j ≤ va := (W.div_le va j ha).2
  have h6 : q * 1 ≤ q * vb := Int.mul_le_mul_of_nonneg_left (by omega) h1
  constructor <;> omega
theorem RdInv.no {va vb q r t : Int} {j : Nat} (h : RdInv va vb (j + 1) q r) (hb : 0 < vb) (ht : va / 2 ^ j % 2 = t) (ht0 : 0 ≤ t) (hlt : r + r + t < vb) : RdInv va vb j (q + q) (r + r + t) := by
  obtain ⟨h1, h2, h3, h4⟩ := h
  exact ⟨by omega, by omega, hlt, rdiv_bit hb h4 ht⟩
theorem RdInv.yes {va vb q r t : Int} {j : Nat} (h : RdInv va vb (j + 1) q r) (hb : 0 < vb) (ht : va / 2 ^ j % 2 = t) (ht1 : t ≤ 1) (hge : vb ≤ r + r + t) : RdInv va vb j (q + q + 1) (r + r + t - vb) := by
  obtain ⟨h1, h2, h3, h4⟩ := h
  have := rdiv_bit hb h4 ht
  refine ⟨by omega, by omega, by omega, ?_⟩
  rw [Int.add_mul, Int.one_mul]
  omega
end Go.Proofs.YtfdpddlefobcpaaGreatDoor
/- What the document's own Power, Shl and Shr of layer 2 answer, over this translation. -/
namespace Go.Proofs.YtfdpddlefobcpaaGreatDoor
open Go.RowKit
set_option linter.unusedVariables false
set_option maxRecDepth 20000
open N
theorem QD_two (k : Nat) : Q D k = 2 ^ (16 * k) := by
  unfold Q
  rw [Int.pow_mul]; rfl
theorem pow16 (n : Nat) : (2 : Int) ^ (n % 16) * Q D (n / 16) = 2 ^ n := by
  rw [QD_two, ← Int.pow_add]; congr 1; omega
theorem pow_small {k : Nat} (h : k ≤ 16) : (0 : Int) < 2 ^ k ∧ (2 : Int) ^ k ≤ 65536 := by
  refine ⟨W.pow_pos k, ?_⟩
  have : (2 : Nat) ^ k ≤ 2 ^ 16 := Nat.pow_le_pow_right (by omega) h
  have h2 := Int.ofNat_le.2 this
  rw [W.cast_pow] at h2
  exact h2
theorem rpower_any (w : World) (n : Nat) (hn : n ≤ 65536) : Calls Tryz.prog 111 #[.int .i64 n] w (Out w 5000 (2 ^ n)) := by
  obtain ⟨p, hp⟩ : ∃ p : Nat, (n : Int) / 16 = (p : Int) := ⟨n / 16, by omega⟩
  obtain ⟨r, hr⟩ : ∃ r : Nat, (n : Int) % 16 = (r : Int) := ⟨n % 16, by omega⟩
  have hp1 : p ≤ 4096 := by omega
  have hr1 : r ≤ 15 := by omega
  have hmk : ∀ W : World, (Instr.makeSlice 57 (.int .i64 ((p : Int) + 1)) (.int .i64 ((p : Int) + 1))).run Tryz.prog W = .ok (.slice (some ⟨W.heap.size, 0, none⟩) (p + 1) (p + 1)) (W.alloc (.cells (madeCells #[.int .u64 0] (p + 1)) 72)) := fun W => by
    rw [show ((p : Int) + 1) = ((p + 1 : Nat) : Int) by omega]
    exact make_run _ slU (p + 1) (by omega) W
  have HN := Lib.hid (show n = 16 * p + r by omega)
  go_enter Tryz.func111, Tryz.ntmps111
  go_wp2
  go_loop [4, 5] (fun xs ms => ∃ m : Nat, m ≤ r ∧ ms = .int .i64 m ∧ xs = .int .u64 (2 ^ m)) (fun _ ms => r - (intOf ms).toNat)
  case atStart => exact ⟨0, Nat.zero_le _, rfl, by simp⟩
  case round =>
    obtain ⟨m, hm, rfl, rfl⟩ := hrel
    by_cases hlt : m < r
    · obtain ⟨q1, q2⟩ := pow_small (k := m) (by omega)
      have q3 := pow_small (k := m + 1) (by omega)
      have HP := Lib.hid (show 2 * (2 : Int) ^ m = 2 ^ (m + 1) from (W.pow_succ m).symm)
      go_wp2
      go_round
      case rel => exact ⟨m + 1, by omega, by go_num, by rw [HP.out]⟩
      case measure => simp [intOf]; omega
    · obtain rfl : m = r := by omega
      obtain ⟨q1, q2⟩ := pow_small (k := m) (by omega)
      have q3 : (2 : Int) ^ m < 65536 := by
        have h5 : (2 : Nat) ^ m ≤ 2 ^ 15 := Nat.pow_le_pow_right (by omega) hr1
        have h2 := Int.ofNat_le.2 h5
        rw [W.cast_pow] at h2
        have : ((2 ^ 15 : Nat) : Int) = 32768 := by decide
        omega
      have hA := Arr.lit w ((List.replicate (p + 1) (0 : Int)).set p (2 ^ m)) ((madeCells #[Value.int .u64 0] (p + 1)).setIfInBounds p (.int .u64 (2 ^ m))) (by rw [zeros_row]; apply Array.ext'; simp [uv, List.map_set])
      have hl : ((List.replicate (p + 1) (0 : Int)).set p (2 ^ m)).length = p + 1 := by simp
      have hd : Dg D ((List.replicate (p + 1) (0 : Int)).set p (2 ^ m)) := (Dg.zeros (by decide) _).set p (by omega) q3
      have hS := hA.sl hl (by unfold maxLen; omega) hd.up
      have hV : val D ((List.replicate (p + 1) (0 : Int)).set p (2 ^ m)) = 2 ^ n := by
        rw [val_set _ _ _ _ (by simp), val_zeros, lim_zeros, Int.sub_zero, Int.zero_add]
        have := pow16 n
        rw [show n % 16 = m by have := HN.out; omega, show n / 16 = p by have := HN.out; omega] at this
        exact this
      have HV := Lib.hid hV
      have HD := Lib.hid hd
      have hcz := (Arr.made w (p + 1)).cell (k := p) (by simp)
      have hfz := (Arr.made w (p + 1)).frozen p
      have hbb := Lib.hid ((Below.refl w.heap.size w).alloc (Nat.le_refl _) (.cells ((madeCells #[Value.int .u64 0] (p + 1)).setIfInBounds p (.int .u64 (2 ^ m))) 72))
      clear hl hV hd hA
      go_wp2_with (go_at_call 83; refine (join_any _ _ _ _ _ hS HD.out (by omega)).mono ?_; rw [HV.out]; rintro e w4 ⟨A4, n4, c4, rfl, hn4, ho4, hb4⟩)
      go_ret
      exact Out.lift hbb.out ⟨A4, n4, c4, rfl, by omega, ho4, hb4⟩
theorem rshl_no (w : World) (A : Option Addr) (n c : Nat) (q : Int) (h : q < 0 ∨ 65536 < q) :
    Calls Tryz.prog 91 #[.slice A n c, .int .i64 q] w fun e w' => e = .returned (.tuple #[.slice none 0 0, .int .i64 1]) ∧ w' = w := by
  rcases h with h | h
  · go_enter Tryz.func91, Tryz.ntmps91
    go_wp2
    go_ret2
    exact ⟨rfl, rfl⟩
  · have h0 : 0 ≤ q := by omega
    go_enter Tryz.func91, Tryz.ntmps91
    go_wp2
    go_ret2
    exact ⟨rfl, rfl⟩
theorem rshr_no (w : World) (A : Option Addr) (n c : Nat) (q : Int) (h : q < 0 ∨ 65536 < q) :
    Calls Tryz.prog 86 #[.slice A n c, .int .i64 q] w fun e w' => e = .returned (.tuple #[.slice none 0 0, .int .i64 1]) ∧ w' = w := by
  rcases h with h | h
  · go_enter Tryz.func86, Tryz.ntmps86
    go_wp2
    go_ret2
    exact ⟨rfl, rfl⟩
  · have h0 : 0 ≤ q := by omega
    go_enter Tryz.func86, Tryz.ntmps86
    go_wp2
    go_ret2
    exact ⟨rfl, rfl⟩
theorem rshl_any (w : World) (A : Option Addr) (n c : Nat) (xs : List Int) (h : Sl w A n c xs) (hn : n ≤ 1000000) (q : Nat) (hq : q ≤ 65536) :
    Calls Tryz.prog 91 #[.slice A n c, .int .i64 q] w (Out2 w (4 * n + 20002) (val B xs * 2 ^ q) 0) := by
  have hp := W.pow_pos q
  have HLV := Lib.hid (limbs_val (show (0 : Int) ≤ 2 ^ q by omega))
  have HP := Lib.hid hp
  clear hp
  go_enter Tryz.func91, Tryz.ntmps91
  go_wp2_with (first
    | (go_at_call 111; refine (rpower_any _ q hq).mono ?_; rintro e w1 ⟨A1, n1, c1, rfl, hn1, ho1, hb1⟩; have hs1 := ho1.sl; have hx1 := h.below hb1)
    | (go_at_call 110; refine (rmul_any _ _ _ _ _ _ _ xs _ hx1 hs1 hn (by omega)).mono ?_; rw [HLV.out]; rintro e w2 ⟨A2, n2, c2, rfl, hn2, ho2, hb2⟩))
  go_ret2
  exact Out2.lift hb1 ⟨A2, n2, c2, rfl, by omega, ho2, hb2⟩
theorem mod_pow_succ (u : Int) (k : Nat) : u % 2 ^ (k + 1) = u % 2 ^ k + 2 ^ k * (u / 2 ^ k % 2) := by
  have hp := W.pow_pos k
  have h1 := Int.mul_ediv_add_emod u (2 ^ k)
  have h2 := Int.emod_nonneg u (show (2 : Int) ^ k ≠ 0 by omega)
  have h3 := Int.emod_lt_of_pos u hp
  rw [W.pow_succ]
  generalize (2 : Int) ^ k = p at *
  generalize u % p = r at *
  generalize hd : u / p = d at *
  have h4 : d = 2 * (d / 2) + d % 2 := by omega
  have h5 : u = r + p * (d % 2) + 2 * p * (d / 2) := by
    rw [← h1]
    have : p * d = p * (2 * (d / 2) + d % 2) := by rw [← h4]
    rw [this, Int.mul_add]
    have e : p * (2 * (d / 2)) = 2 * p * (d / 2) := by rw [← Int.mul_assoc, Int.mul_comm p 2]
    omega
  have h6 : d % 2 = 0 ∨ d % 2 = 1 := by omega
  rw [h5, Int.add_mul_emod_self_left]
  refine Int.emod_eq_of_lt ?_ ?_
  · rcases h6 with h | h <;> rw [h] <;> omega
  · rcases h6 with h | h <;> rw [h] <;> omega
/-- the row of a shift to the right, the places up to i - n done -/
structure RSst (v : Int) (n i dl : Nat) (zs : List Int) : Prop where
  len : zs.length = dl + 1
  dg : Dg D zs
  ni : n ≤ i
  sum : val D zs = v / 2 ^ n % 2 ^ (i - n)
theorem RSst.zero {v : Int} {n i dl : Nat} {zs : List Int} (h : RSst v n i dl zs) (hb : v / 2 ^ i % 2 = 0) : RSst v n (i + 1) dl zs := by
  have h1 := h.ni
  refine ⟨h.len, h.dg, by omega, ?_⟩
  rw [show i + 1 - n = i - n + 1 by omega, mod_pow_succ, Int.ediv_ediv_of_nonneg (Int.le_of_lt (W.pow_pos n)), ← Int.pow_add, show n + (i - n) = i by omega, hb, Int.mul_zero, Int.add_zero]
  exact h.sum
theorem RSst.small {v : Int} {n i dl : Nat} {zs : List Int} (h : RSst v n i dl zs) : 0 ≤ lim zs ((i - n) / 16) ∧ lim zs ((i - n) / 16) < 2 ^ ((i - n) % 16) := by
  have h0 := h.dg.lim (b := D) (by decide) ((i - n) / 16)
  refine ⟨h0.1, ?_⟩
  have hs := h.sum
  have hlt : val D zs < 2 ^ (i - n) := by rw [hs]; exact Int.emod_lt_of_pos _ (W.pow_pos _)
  rw [lim_div (by decide) h.dg]
  have hq := Q_pos (b := D) (by decide) ((i - n) / 16)
  have h1 : val D zs / Q D ((i - n) / 16) < 2 ^ ((i - n) % 16) := by
    refine Int.ediv_lt_of_lt_mul hq ?_
    rw [pow16]; exact hlt
  have h2 := Int.ediv_nonneg (val_nonneg (b := D) (by decide) h.dg) (Int.le_of_lt hq)
  have h3 := (pow_small (k := (i - n) % 16) (by omega)).2
  rw [Int.emod_eq_of_lt h2 (by show _ < 65536; omega)]
  exact h1
theorem RSst.one {v : Int} {n i dl : Nat} {zs : List Int} (h : RSst v n i dl zs) (hb : v / 2 ^ i % 2 = 1) (hk : (i - n) / 16 < dl + 1) :
    RSst v n (i + 1) dl (zs.set ((i - n) / 16) (lim zs ((i - n) / 16) + 2 ^ ((i - n) % 16))) := by
  have h1 := h.ni
  obtain ⟨s1, s2⟩ := h.small
  have hkl : (i - n) / 16 < zs.length := by rw [h.len]; exact hk
  have hp := W.pow_pos ((i - n) % 16)
  have h9 : 2 ^ ((i - n) % 16) * 2 ≤ (65536 : Int) := by
    have := (pow_small (k := (i - n) % 16 + 1) (by omega)).2
    rwa [Int.pow_succ] at this
  refine ⟨by rw [List.length_set]; exact h.len, h.dg.set _ (by omega) (by show _ < 65536; omega), by omega, ?_⟩
  rw [val_set D zs _ _ hkl, h.sum, show i + 1 - n = i - n + 1 by omega, mod_pow_succ, Int.ediv_ediv_of_nonneg (Int.le_of_lt (W.pow_pos n)), ← Int.pow_add, show n + (i - n) = i by omega, hb, Int.mul_one]
  rw [show lim zs ((i - n) / 16) + 2 ^ ((i - n) % 16) - lim zs ((i - n) / 16) = 2 ^ ((i - n) % 16) by omega, pow16]
set_option maxHeartbeats 1000000 in
theorem rshr_any (w : World) (A : Option Addr) (n c : Nat) (xs : List Int) (h : Sl w A n c xs) (hn : n ≤ 1000000) (q : Nat) (hq : q ≤ 65536) :
    Calls Tryz.prog 86 #[.slice A n c, .int .i64 q] w (Out2 w (4 * n + 2) (val B xs / 2 ^ q) 0) := by
  have pv := val_nonneg (b := B) (by decide) h.dg
  obtain ⟨v, hv⟩ : ∃ v, val B xs = v := ⟨_, rfl⟩
  obtain ⟨J, hJ, hJv⟩ : ∃ J : Nat, W.len (val B xs) = J ∧ val B xs < 2 ^ J := by obtain ⟨j, e1, e2, _⟩ := len_spec _ pv; exact ⟨j, e1, e2⟩
  have hJd : J ≤ 16 * (digs (val B xs)).length := by
    obtain ⟨j, e1, e2, e3⟩ := len_spec _ pv
    have : j = J := by omega
    subst this
    apply Classical.byContradiction; intro hc
    have e4 : 2 ^ (j - 1) ≤ val B xs := by rcases e3 with e3 | e3; omega; exact e3
    have e5 := (digs_len_le pv (digs (val B xs)).length).1 (Nat.le_refl _)
    rw [QD_two] at e5
    have e6 : (2 : Int) ^ (16 * (digs (val B xs)).length) ≤ 2 ^ (j - 1) := by rw [← W.cast_pow, ← W.cast_pow]; exact Int.ofNat_le.2 (Nat.pow_le_pow_right (by omega) (by omega))
    exact absurd (Int.lt_of_lt_of_le e5 e6) (Int.not_lt.2 e4)
  have HJ := Lib.hid hJ
  have HV := Lib.hid hv
  have HJv := Lib.hid hJv
  have HJd := Lib.hid hJd
  clear hJ hv hJv hJd
  go_enter Tryz.func86, Tryz.ntmps86
  go_wp2_with (first
    | (go_at_call 84; refine (digits_any _ _ _ _ xs h (by omega)).mono ?_; rintro e w1 ⟨A1, n1, c1, rfl, hn1, ho1, hb1⟩
       have hmk : ∀ W : World, (Instr.makeSlice 57 (.int .i64 ((n1 : Int) + 1)) (.int .i64 ((n1 : Int) + 1))).run Tryz.prog W = .ok (.slice (some ⟨W.heap.size, 0, none⟩) (n1 + 1) (n1 + 1)) (W.alloc (.cells (madeCells #[.int .u64 0] (n1 + 1)) 72)) := fun W => by
         rw [show ((n1 : Int) + 1) = ((n1 + 1 : Nat) : Int) by omega]
         exact make_run _ slU (n1 + 1) (by omega) W))
  have hJn : J ≤ 16 * n1 := by have := HJd.out; rw [← ho1.len]; exact this
  have hx1 := h.below hb1
  have HX1 := Lib.hid hx1
  have HB1 := Lib.hid hb1
  clear h hx1 hb1 ho1 hmk
  go_loopw [7] (fun is wr => ∃ (i : Nat) (zs : List Int), is = .int .i64 i ∧ (i ≤ J ∨ i = q) ∧ RSst (val B xs) q i n1 zs ∧ Arr wr w1.heap.size zs ∧ Below w1.heap.size w1 wr) (fun is _ => J - (intOf is).toNat)
  case atStart =>
    exact ⟨q, List.replicate (n1 + 1) 0, rfl, .inr rfl, ⟨by simp, Dg.zeros (by decide) _, Nat.le_refl _, by rw [val_zeros, Nat.sub_self]; simp [Int.emod_one]⟩, Arr.made w1 _, (Below.refl _ w1).alloc (Nat.le_refl _) _⟩
  case round =>
    obtain ⟨i, zs, rfl, hi, hR, hA, hb⟩ := hrel
    obtain ⟨wi, rfl⟩ : ∃ wi : World, wi = wr := ⟨_, rfl⟩
    have hni := hR.ni
    have HXi := Lib.hid (HX1.out.below hb)
    have hLn := fun W (hW : Below wi.heap.size wi W) => rlen_any W A n c xs (HXi.out.below hW) hn
    have HLn := Lib.hid hLn
    clear hLn
    by_cases hlt : i < J
    · by_cases hbit : val B xs / 2 ^ i % 2 = 1
      · have HBT := Lib.hid (show (val B xs / 2 ^ i % 2 == 1) = true by rw [hbit]; rfl)
        obtain ⟨k, hk⟩ : ∃ k : Nat, (i : Int) - (q : Int) = (k : Int) := ⟨i - q, by omega⟩
        have hkn : i - q = k := by omega
        obtain ⟨k16, hk16⟩ : ∃ d : Nat, (k : Int) / 16 = (d : Int) := ⟨k / 16, by omega⟩
        obtain ⟨km, hkm⟩ : ∃ d : Nat, (k : Int) % 16 = (d : Int) := ⟨k % 16, by omega⟩
        have hk1 : k16 < n1 + 1 := by omega
        have hk2 : km ≤ 15 := by omega
        have HO := Lib.hid (hR.one hbit (by omega))
        have HSm := Lib.hid hR.small
        have HKN := Lib.hid (show (i - q) / 16 = k16 ∧ (i - q) % 16 = km by omega)
        have HA := Lib.hid hA
        have HB := Lib.hid hb
        have HL := Lib.hid hR.len
        clear hR hA hb hbit hkn
        go_wp2_with (first
          | (go_at_call 93; refine (HLn.out _ (Below.refl _ _)).mono ?_; rw [HJ.out]; rintro e w3 ⟨rfl, hb3⟩; have HB3 := Lib.hid hb3; clear hb3)
          | (go_at_call 85; refine (rbit_any _ A n c xs (HXi.out.below HB3.out) hn i (by omega)).mono ?_; rw [HBT.out]; rintro e w4 ⟨rfl, hb4⟩; have HB4 := Lib.hid hb4; clear hb4))
        have hbw := HB3.out.trans (HB4.out.mono HB3.out.size)
        have hA4 := HA.out.below hbw HA.out.lt
        have HA4 := Lib.hid hA4
        have HB4' := Lib.hid (HB.out.trans (hbw.mono HB.out.size))
        clear hbw hA4
        go_loop [9, 10] (fun ys ms => ∃ m : Nat, m ≤ km ∧ ms = .int .i64 m ∧ ys = .int .u64 (2 ^ m)) (fun _ ms => km - (intOf ms).toNat)
        case atStart => exact ⟨0, Nat.zero_le _, rfl, by simp⟩
        case round =>
          obtain ⟨m, hm, rfl, rfl⟩ := hrel
          by_cases hlm : m < km
          · obtain ⟨q1, q2⟩ := pow_small (k := m) (by omega)
            have q3 := pow_small (k := m + 1) (by omega)
            have HP := Lib.hid (show 2 * (2 : Int) ^ m = 2 ^ (m + 1) from (W.pow_succ m).symm)
            go_wp2
            go_round
            case rel => exact ⟨m + 1, by omega, by go_num, by rw [HP.out]⟩
            case measure => simp [intOf]; omega
          · obtain rfl : m = km := by omega
            have hq9 : 2 ^ m * 2 ≤ (65536 : Int) := by
              have := (pow_small (k := m + 1) (by omega)).2
              rwa [Int.pow_succ] at this
            have hq8 := (pow_small (k := m) (by omega)).1
            have hcz := HA4.out.cell (k := k16) (by rw [HL.out]; exact hk1)
            have hfz := HA4.out.frozen k16
            obtain ⟨s1, s2⟩ := HSm.out
            rw [HKN.out.1] at s1 s2
            rw [HKN.out.2] at s2
            go_wp2
            have ho := HO.out
            rw [HKN.out.1, HKN.out.2] at ho
            go_roundw
            case rel => exact ⟨i + 1, zs.set k16 (lim zs k16 + 2 ^ m), by go_num, .inl (by omega), ho, HA4.out.set k16 _, HB4'.out.setCell (Nat.le_refl _) _⟩
            case measure => simp [intOf]; omega
      · have hbz : val B xs / 2 ^ i % 2 = 0 := by omega
        have HBT := Lib.hid (show (val B xs / 2 ^ i % 2 == 1) = false by rw [hbz]; rfl)
        have HR := Lib.hid (hR.zero hbz)
        have HA := Lib.hid hA
        have HB := Lib.hid hb
        clear hR hA hb hbit hbz
        go_wp2_with (first
          | (go_at_call 93; refine (HLn.out _ (Below.refl _ _)).mono ?_; rw [HJ.out]; rintro e w3 ⟨rfl, hb3⟩; have HB3 := Lib.hid hb3; clear hb3)
          | (go_at_call 85; refine (rbit_any _ A n c xs (HXi.out.below HB3.out) hn i (by omega)).mono ?_; rw [HBT.out]; rintro e w4 ⟨rfl, hb4⟩; have HB4 := Lib.hid hb4; clear hb4))
        go_roundw
        case rel => exact ⟨i + 1, zs, by go_num, .inl (by omega), HR.out, (HA.out.below HB3.out HA.out.lt).below HB4.out (HA.out.below HB3.out HA.out.lt).lt, HB.out.trans ((HB3.out.trans (HB4.out.mono HB3.out.size)).mono HB.out.size)⟩
        case measure => simp [intOf]; omega
    · have hV : val D zs = val B xs / 2 ^ q := by
        rw [hR.sum]
        rcases hi with hi | hi
        · obtain rfl : i = J := by omega
          refine Int.emod_eq_of_lt (Int.ediv_nonneg (by have := HV.out; omega) (Int.le_of_lt (W.pow_pos q))) ?_
          refine Int.ediv_lt_of_lt_mul (W.pow_pos q) ?_
          rw [← Int.pow_add, show i - q + q = i by omega]
          exact HJv.out
        · subst hi
          rw [Nat.sub_self, Int.pow_zero, Int.emod_one]
          refine (Int.ediv_eq_zero_of_lt (by have := HV.out; omega) ?_).symm
          refine Int.lt_of_lt_of_le HJv.out ?_
          rw [← W.cast_pow, ← W.cast_pow]; exact Int.ofNat_le.2 (Nat.pow_le_pow_right (by omega) (by omega))
      have HVV := Lib.hid hV
      have HA := Lib.hid hA
      have HB := Lib.hid hb
      have HD := Lib.hid hR.dg
      have HL := Lib.hid hR.len
      clear hR hA hb hV
      go_wp2_with (first
        | (go_at_call 93; refine (HLn.out _ (Below.refl _ _)).mono ?_; rw [HJ.out]; rintro e w3 ⟨rfl, hb3⟩; have HB3 := Lib.hid hb3; clear hb3)
        | (go_at_call 83; refine (join_any _ _ _ _ _ ((HA.out.below HB3.out HA.out.lt).sl HL.out (by unfold maxLen; omega) HD.out.up) HD.out (by omega)).mono ?_; rw [HVV.out]; rintro e w4 ⟨A4, n4, c4, rfl, hn4, ho4, hb4⟩))
      go_ret2
      exact Out2.lift (HB1.out.trans ((HB.out.trans (HB3.out.mono HB.out.size)).mono HB1.out.size)) ⟨A4, n4, c4, rfl, by omega, ho4, hb4⟩
end Go.Proofs.YtfdpddlefobcpaaGreatDoor
