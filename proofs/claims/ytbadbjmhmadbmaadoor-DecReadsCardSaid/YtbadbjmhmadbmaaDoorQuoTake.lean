/- What take and giveBack of layer 3 answer, over this translation. -/
import Derived.Test.YtbadbjmhmadbmaaDoorQuoTell
import Derived.Test.YtbadbjmhmadbmaaDoorQuoMem
import Derived.Test.YtbadbjmhmadbmaaDoorNatTimes
import Derived.Test.YtbadbjmhmadbmaaDoorNatSub
namespace Go.Proofs.YtbadbjmhmadbmaaDoor
open Go.RowKit
set_option linter.unusedVariables false
set_option maxRecDepth 20000
open N
namespace N
def tkL (y d c : Int) : Int := W.addS (W.mulL y d) c 0
def tkH (y d c : Int) : Int := W.mulH y d + W.addC (W.mulL y d) c 0
theorem tk_eq {y d c : Int} (hy : W.Wd y) (hd : W.Wd d) (hc : W.Wd c) : tkL y d c + tkH y d c * 18446744073709551616 = y * d + c ∧ W.Wd (tkL y d c) ∧ W.Wd (tkH y d c) := by
  have h := W.mul_lt hy hd
  unfold tkL tkH W.addS W.addC W.mulL W.mulH W.Wd at *
  generalize y * d = p at *
  omega
theorem tk_zero (y : Int) : tkL y 0 0 = 0 ∧ tkH y 0 0 = 0 := by
  unfold tkL tkH W.addS W.addC W.mulL W.mulH; rw [Int.mul_zero]; decide
theorem sub_eq {z l b : Int} (hz : W.Wd z) (hl : W.Wd l) (h0 : 0 ≤ b) (h1 : b ≤ 1) : W.subS z l b - W.subC z l b * 18446744073709551616 = z - l - b ∧ 0 ≤ W.subC z l b ∧ W.subC z l b ≤ 1 := by
  unfold W.subS W.subC W.Wd at *; rw [Int.min_eq_left h1]; omega
theorem add_eq {z l b : Int} (hz : W.Wd z) (hl : W.Wd l) (h0 : 0 ≤ b) (h1 : b ≤ 1) : W.addS z l b + W.addC z l b * 18446744073709551616 = z + l + b ∧ 0 ≤ W.addC z l b ∧ W.addC z l b ≤ 1 := by
  unfold W.addS W.addC W.Wd at *; rw [Int.min_eq_left h1]; omega
/-- where digit times the divisor is taken from the row R from place i on, and k places are done -/
structure TkSt (R ys : List Int) (i k : Nat) (d cy bo : Int) (R' : List Int) : Prop where
  len : R'.length = R.length
  dg : Dg B R'
  cy0 : W.Wd cy
  bo0 : 0 ≤ bo
  bo1 : bo ≤ 1
  rest : ∀ j, j < i ∨ i + k ≤ j → lim R' j = lim R j
  sum : val B R' = val B R - lo B ys k * d * Q B i + (cy + bo) * Q B (i + k)
  none : d = 0 → cy = 0 ∧ bo = 0
theorem TkSt.start {R ys : List Int} {i : Nat} {d : Int} (h : Dg B R) : TkSt R ys i 0 d 0 0 R :=
  ⟨rfl, h, W.wd_0, by omega, by omega, fun _ _ => rfl, by rw [lo_zero, Int.zero_mul, Int.zero_mul, Int.add_zero, Int.zero_mul]; omega, fun _ => ⟨rfl, rfl⟩⟩
theorem TkSt.step {R ys : List Int} {i k : Nat} {d cy bo : Int} {R' : List Int} (h : TkSt R ys i k d cy bo R') (hy : Dg B ys) (hd : W.Wd d) (hk : i + k < R.length) :
    TkSt R ys i (k + 1) d (tkH (lim ys k) d cy) (W.subC (lim R' (i + k)) (tkL (lim ys k) d cy) bo) (R'.set (i + k) (W.subS (lim R' (i + k)) (tkL (lim ys k) d cy) bo)) := by
  have hyk := hy.lim (b := B) (by decide) k
  have hz := h.dg.lim (b := B) (by decide) (i + k)
  obtain ⟨t1, t2, t3⟩ := tk_eq (y := lim ys k) hyk hd h.cy0
  obtain ⟨s1, s2, s3⟩ := sub_eq (z := lim R' (i + k)) hz t2 h.bo0 h.bo1
  have hw := W.wd_subS (lim R' (i + k)) (tkL (lim ys k) d cy) bo
  have hkl : i + k < R'.length := by rw [h.len]; exact hk
  refine ⟨by rw [List.length_set, h.len], h.dg.set _ hw.1 hw.2, t3, s2, s3, fun j hj => ?_, ?_, fun h0 => ?_⟩
  · rw [lim_set _ _ _ _ hkl, if_neg (by omega)]; exact h.rest j (by omega)
  · rw [val_set B R' _ _ hkl, h.sum, lo_succ, show i + (k + 1) = i + k + 1 from rfl, Q_succ]
    generalize W.subS (lim R' (i + k)) (tkL (lim ys k) d cy) bo = zn at *
    generalize W.subC (lim R' (i + k)) (tkL (lim ys k) d cy) bo = bn at *
    generalize tkL (lim ys k) d cy = l at *
    generalize tkH (lim ys k) d cy = hh at *
    generalize lim R' (i + k) = z at *
    generalize lim ys k = y at *
    have e1 : (lo B ys k + y * Q B k) * d * Q B i = lo B ys k * d * Q B i + y * d * Q B (i + k) := by
      rw [Q_add, Int.add_mul, Int.add_mul]
      congr 1
      rw [Int.mul_right_comm y, Int.mul_assoc (y * d), Int.mul_comm (Q B k)]
    rw [e1]
    have e2 : (hh + bn) * (Q B (i + k) * B) = (hh * 18446744073709551616 + bn * 18446744073709551616) * Q B (i + k) := by
      rw [Int.mul_comm (Q B (i + k)), ← Int.mul_assoc, Int.add_mul hh bn]
    rw [e2]
    have e3 : zn - z = -l - bo + bn * 18446744073709551616 := by omega
    have e4 : hh * 18446744073709551616 = y * d + cy - l := by omega
    rw [e3, e4]
    simp only [Int.add_mul, Int.sub_mul, Int.neg_mul]
    omega
  · subst h0
    obtain ⟨c0, b0⟩ := h.none rfl
    subst c0 b0
    rw [(tk_zero _).1, (tk_zero _).2]
    refine ⟨rfl, ?_⟩
    have hz1 : lim R' (i + k) < 18446744073709551616 := hz.2
    have hz0 := hz.1
    unfold W.subC
    rw [Int.min_eq_left (by omega)]
    generalize lim R' (i + k) = z at *
    omega
/-- the place above: what is left when all is done -/
def TkOut (R ys : List Int) (i n : Nat) (d b : Int) (R' : List Int) : Prop :=
  R'.length = R.length ∧ Dg B R' ∧ (∀ j, j < i ∨ i + (n + 1) ≤ j → lim R' j = lim R j) ∧ val B R' = val B R - val B ys * d * Q B i + b * Q B (i + (n + 1)) ∧ (b = 0 ∨ b = 1) ∧ (d = 0 → b = 0)
theorem TkSt.top {R ys : List Int} {i n : Nat} {d cy bo : Int} {R' : List Int} (h : TkSt R ys i n d cy bo R') (hn : nn ys ≤ n) (hy : Dg B ys) (hk : i + n < R.length) :
    TkOut R ys i n d (W.subC (lim R' (i + n)) cy bo) (R'.set (i + n) (W.subS (lim R' (i + n)) cy bo)) := by
  have hz := h.dg.lim (b := B) (by decide) (i + n)
  have hz1 : lim R' (i + n) < 18446744073709551616 := hz.2
  obtain ⟨s1, s2, s3⟩ := sub_eq (z := lim R' (i + n)) hz h.cy0 h.bo0 h.bo1
  have hw := W.wd_subS (lim R' (i + n)) cy bo
  have hkl : i + n < R'.length := by rw [h.len]; exact hk
  have hV : lo B ys n = val B ys := by
    rw [← (val_div (by decide) hy n).2]
    exact Int.emod_eq_of_lt (val_nonneg (by decide) hy) (val_lt_nn' hy hn)
  refine ⟨by rw [List.length_set, h.len], h.dg.set _ hw.1 hw.2, fun j hj => ?_, ?_, by omega, fun h0 => ?_⟩
  · rw [lim_set _ _ _ _ hkl, if_neg (by omega)]; exact h.rest j (by omega)
  · rw [val_set B R' _ _ hkl, h.sum, hV, show i + (n + 1) = i + n + 1 from rfl, Q_succ]
    generalize W.subS (lim R' (i + n)) cy bo = zn at *
    generalize W.subC (lim R' (i + n)) cy bo = bn at *
    generalize lim R' (i + n) = z at *
    have e2 : bn * (Q B (i + n) * B) = bn * 18446744073709551616 * Q B (i + n) := by
      rw [Int.mul_comm (Q B (i + n)), ← Int.mul_assoc]
    have e3 : zn - z = -cy - bo + bn * 18446744073709551616 := by omega
    rw [e2, e3]
    simp only [Int.add_mul, Int.sub_mul, Int.neg_mul]
    omega
  · obtain ⟨c0, b0⟩ := h.none h0
    subst c0 b0
    have hz0 := hz.1
    unfold W.subC
    rw [Int.min_eq_left (by omega)]
    generalize lim R' (i + n) = z at *
    omega
end N
theorem take_any (w : World) (g e i n c : Nat) (R : List Int) (A : Option Addr) (d0 : Nat) (ys : List Int) (d : Int) (hR : ArP w g e R) (hd : Dg B R) (hi : i + (n + 1) ≤ R.length) (hc : n + 1 ≤ c) (hcm : c ≤ maxLen) (hrl : R.length ≤ 2199023255552)
    (hy : Sl w A n d0 ys) (ha : Aw A g) (hdw : W.Wd d) :
    Calls Tryd.prog 77 #[.slice (some ⟨g, i, none⟩) (n + 1) c, .slice A n d0, .int .u64 d] w fun e' w' =>
      ∃ (b : Int) (R' : List Int), e' = .returned (.bool (b != 0)) ∧ TkOut R ys i n d b R' ∧ ArP w' g e R' ∧ w.grownBy w' (some g) := by
  have hyc := hy.cap
  have hym := hy.max
  unfold maxLen at hcm hym
  have HY := Lib.hid hy
  have HD := Lib.hid hd
  have HR := Lib.hid hR
  clear hy hd hR
  go_enter Tryd.func77, Tryd.ntmps77
  go_wp2
  go_loopw [7, 8, 17] (fun cs bs is wr => ∃ (k : Nat) (cy bo : Int) (R' : List Int), k ≤ n ∧ is = .int .i64 k ∧ cs = .int .u64 cy ∧ bs = .int .u64 bo ∧ TkSt R ys i k d cy bo R' ∧ ArP wr g e R' ∧ w.grownBy wr (some g)) (fun _ _ is _ => n - (intOf is).toNat)
  case atStart => exact ⟨0, 0, 0, R, Nat.zero_le _, rfl, rfl, rfl, TkSt.start HD.out, HR.out, World.grownBy.refl _ _⟩
  case round =>
    obtain ⟨k, cy, bo, R', hk, rfl, rfl, rfl, hT, hA, hg⟩ := hrel
    obtain ⟨wo, rfl⟩ : ∃ wo : World, wo = wr := ⟨_, rfl⟩
    have hlen := hT.len
    by_cases hlt : k < n
    · have hyk := HY.out.dg.lim (b := B) (by decide) k
      obtain ⟨ad, rfl, _, hcy⟩ := (HY.out.grow hg ha).cell hlt
      have hz := hT.dg.lim (b := B) (by decide) (i + k)
      have hcell := hA.cell (k := i + k) (by omega)
      have hfz := hA.frozen (i + k)
      obtain ⟨t1, t2, t3⟩ := tk_eq (y := lim ys k) hyk hdw hT.cy0
      have hml := W.wd_mulL (lim ys k) d
      have hmh := W.wd_mulH (b := d) hyk hdw
      have hS := Lib.hid (hT.step HY.out.dg hdw (by omega : i + k < R.length))
      have hA1 := Lib.hid (hA.set (i + k) (W.subS (lim R' (i + k)) (tkL (lim ys k) d cy) bo) (by omega))
      have hbw : W.Wd bo := by have := hT.bo0; have := hT.bo1; unfold W.Wd; omega
      have hcw := hT.cy0
      have hs1 : W.mulH (lim ys k) d + W.addC (W.mulL (lim ys k) d) cy 0 < 18446744073709551616 := t3.2
      have hs0 : 0 ≤ W.mulH (lim ys k) d := hmh.1
      have hs2 := W.addC_le hml hcw W.wd_0
      have HG := Lib.hid hg
      have HT := Lib.hid hT
      have HL := Lib.hid hlen
      clear hg hT t1 hlen
      go_wp2_with (first
        | (go_at_call 61; refine (mul_any _ _ hyk hdw _).mono ?_; rintro e w3 ⟨rfl, rfl⟩)
        | (go_at_call 43; refine (add_any _ _ _ hml hcw W.wd_0 _).mono ?_; rintro e w3 ⟨rfl, rfl⟩)
        | (go_at_call 83; refine (sub_any _ _ _ hz t2 hbw _).mono ?_; rintro e w3 ⟨rfl, rfl⟩))
      go_roundw
      case rel => exact ⟨k + 1, _, _, _, by omega, by go_num, rfl, rfl, hS.out, hA1.out, grow_trans HG.out (grow_set _ _ _ _)⟩
      case measure => simp [intOf]; omega
    · obtain rfl : k = n := by omega
      have hz := hT.dg.lim (b := B) (by decide) (i + k)
      have hcell := hA.cell (k := i + k) (by omega)
      have hfz := hA.frozen (i + k)
      have hS := Lib.hid (hT.top (by rw [← HY.out.len]; exact nn_le ys) HY.out.dg (by omega))
      have hA1 := Lib.hid (hA.set (i + k) (W.subS (lim R' (i + k)) cy bo) (by omega))
      have hbw : W.Wd bo := by have := hT.bo0; have := hT.bo1; unfold W.Wd; omega
      have hcw := hT.cy0
      have HG := Lib.hid hg
      have HT := Lib.hid hT
      have HL := Lib.hid hlen
      clear hg hT hlen
      go_wp2_with (first
        | (go_at_call 83; refine (sub_any _ _ _ hz hcw hbw _).mono ?_; rintro e w3 ⟨rfl, rfl⟩))
      go_ret
      exact ⟨_, _, rfl, hS.out, hA1.out, grow_trans HG.out (grow_set _ _ _ _)⟩
namespace N
/-- where the divisor is added to the row R from place i on, and k places are done -/
structure GbSt (R ys : List Int) (i k : Nat) (cy : Int) (R' : List Int) : Prop where
  len : R'.length = R.length
  dg : Dg B R'
  cy0 : 0 ≤ cy
  cy1 : cy ≤ 1
  rest : ∀ j, j < i ∨ i + k ≤ j → lim R' j = lim R j
  sum : val B R' = val B R + lo B ys k * Q B i - cy * Q B (i + k)
theorem GbSt.start {R ys : List Int} {i : Nat} (h : Dg B R) : GbSt R ys i 0 0 R :=
  ⟨rfl, h, by omega, by omega, fun _ _ => rfl, by rw [lo_zero, Int.zero_mul, Int.zero_mul]; omega⟩
theorem GbSt.step {R ys : List Int} {i k : Nat} {cy : Int} {R' : List Int} (h : GbSt R ys i k cy R') (hy : Dg B ys) (hk : i + k < R.length) :
    GbSt R ys i (k + 1) (W.addC (lim R' (i + k)) (lim ys k) cy) (R'.set (i + k) (W.addS (lim R' (i + k)) (lim ys k) cy)) := by
  have hyk := hy.lim (b := B) (by decide) k
  have hz := h.dg.lim (b := B) (by decide) (i + k)
  obtain ⟨s1, s2, s3⟩ := add_eq (z := lim R' (i + k)) (l := lim ys k) hz hyk h.cy0 h.cy1
  have hw := W.wd_addS (lim R' (i + k)) (lim ys k) cy
  have hkl : i + k < R'.length := by rw [h.len]; exact hk
  refine ⟨by rw [List.length_set, h.len], h.dg.set _ hw.1 hw.2, s2, s3, fun j hj => ?_, ?_⟩
  · rw [lim_set _ _ _ _ hkl, if_neg (by omega)]; exact h.rest j (by omega)
  · rw [val_set B R' _ _ hkl, h.sum, lo_succ, show i + (k + 1) = i + k + 1 from rfl, Q_succ]
    generalize W.addS (lim R' (i + k)) (lim ys k) cy = zn at *
    generalize W.addC (lim R' (i + k)) (lim ys k) cy = bn at *
    generalize lim R' (i + k) = z at *
    generalize lim ys k = y at *
    have e1 : y * Q B k * Q B i = y * Q B (i + k) := by rw [Int.mul_assoc, Q_add, Int.mul_comm (Q B k)]
    have e2 : bn * (Q B (i + k) * B) = bn * 18446744073709551616 * Q B (i + k) := by
      rw [Int.mul_comm (Q B (i + k)), ← Int.mul_assoc]
    have e3 : zn - z = y + cy - bn * 18446744073709551616 := by omega
    rw [e2, e3]
    simp only [Int.add_mul, Int.sub_mul, e1]
    omega
def GbOut (R ys : List Int) (i n : Nat) (c : Int) (R' : List Int) : Prop :=
  R'.length = R.length ∧ Dg B R' ∧ (∀ j, j < i ∨ i + (n + 1) ≤ j → lim R' j = lim R j) ∧ val B R' = val B R + val B ys * Q B i - c * Q B (i + (n + 1)) ∧ (c = 0 ∨ c = 1)
theorem GbSt.top {R ys : List Int} {i n : Nat} {cy : Int} {R' : List Int} (h : GbSt R ys i n cy R') (hn : nn ys ≤ n) (hy : Dg B ys) (hk : i + n < R.length) :
    GbOut R ys i n ((lim R' (i + n) + cy) / 18446744073709551616) (R'.set (i + n) ((lim R' (i + n) + cy) % 18446744073709551616)) := by
  have hz := h.dg.lim (b := B) (by decide) (i + n)
  have hz1 : lim R' (i + n) < 18446744073709551616 := hz.2
  have hz0 := hz.1
  have hc0 := h.cy0
  have hc1 := h.cy1
  have hkl : i + n < R'.length := by rw [h.len]; exact hk
  have hV : lo B ys n = val B ys := by
    rw [← (val_div (by decide) hy n).2]
    exact Int.emod_eq_of_lt (val_nonneg (by decide) hy) (val_lt_nn' hy hn)
  refine ⟨by rw [List.length_set, h.len], h.dg.set _ (by omega) (by show _ < 18446744073709551616; omega), fun j hj => ?_, ?_, by omega⟩
  · rw [lim_set _ _ _ _ hkl, if_neg (by omega)]; exact h.rest j (by omega)
  · rw [val_set B R' _ _ hkl, h.sum, hV, show i + (n + 1) = i + n + 1 from rfl, Q_succ]
    generalize lim R' (i + n) = z at *
    have e3 : (z + cy) % 18446744073709551616 - z = cy - (z + cy) / 18446744073709551616 * 18446744073709551616 := by omega
    generalize (z + cy) / 18446744073709551616 = bn at *
    have e2 : bn * (Q B (i + n) * B) = bn * 18446744073709551616 * Q B (i + n) := by
      rw [Int.mul_comm (Q B (i + n)), ← Int.mul_assoc]
    rw [e2, e3]
    simp only [Int.sub_mul]
    omega
end N
theorem giveBack_any (w : World) (g e i n c : Nat) (R : List Int) (A : Option Addr) (d0 : Nat) (ys : List Int) (hR : ArP w g e R) (hd : Dg B R) (hi : i + (n + 1) ≤ R.length) (hc : n + 1 ≤ c) (hcm : c ≤ maxLen) (hrl : R.length ≤ 2199023255552)
    (hy : Sl w A n d0 ys) (ha : Aw A g) :
    Calls Tryd.prog 78 #[.slice (some ⟨g, i, none⟩) (n + 1) c, .slice A n d0] w fun e' w' =>
      ∃ (b : Int) (R' : List Int), (∃ v, e' = .returned v) ∧ GbOut R ys i n b R' ∧ ArP w' g e R' ∧ w.grownBy w' (some g) := by
  have hyc := hy.cap
  have hym := hy.max
  unfold maxLen at hcm hym
  have HY := Lib.hid hy
  have HD := Lib.hid hd
  have HR := Lib.hid hR
  clear hy hd hR
  go_enter Tryd.func78, Tryd.ntmps78
  go_wp2
  go_loopw [4, 9] (fun cs is wr => ∃ (k : Nat) (cy : Int) (R' : List Int), k ≤ n ∧ is = .int .i64 k ∧ cs = .int .u64 cy ∧ GbSt R ys i k cy R' ∧ ArP wr g e R' ∧ w.grownBy wr (some g)) (fun _ is _ => n - (intOf is).toNat)
  case atStart => exact ⟨0, 0, R, Nat.zero_le _, rfl, rfl, GbSt.start HD.out, HR.out, World.grownBy.refl _ _⟩
  case round =>
    obtain ⟨k, cy, R', hk, rfl, rfl, hT, hA, hg⟩ := hrel
    obtain ⟨wo, rfl⟩ : ∃ wo : World, wo = wr := ⟨_, rfl⟩
    have hlen := hT.len
    by_cases hlt : k < n
    · have hyk := HY.out.dg.lim (b := B) (by decide) k
      obtain ⟨ad, rfl, _, hcy⟩ := (HY.out.grow hg ha).cell hlt
      have hz := hT.dg.lim (b := B) (by decide) (i + k)
      have hcell := hA.cell (k := i + k) (by omega)
      have hfz := hA.frozen (i + k)
      have hS := Lib.hid (hT.step HY.out.dg (by omega : i + k < R.length))
      have hA1 := Lib.hid (hA.set (i + k) (W.addS (lim R' (i + k)) (lim ys k) cy) (by omega))
      have hbw : W.Wd cy := by have := hT.cy0; have := hT.cy1; unfold W.Wd; omega
      have HG := Lib.hid hg
      have HT := Lib.hid hT
      have HL := Lib.hid hlen
      clear hg hT hlen
      go_wp2_with (first
        | (go_at_call 43; refine (add_any _ _ _ hz hyk hbw _).mono ?_; rintro e w3 ⟨rfl, rfl⟩))
      go_roundw
      case rel => exact ⟨k + 1, _, _, by omega, by go_num, rfl, hS.out, hA1.out, grow_trans HG.out (grow_set _ _ _ _)⟩
      case measure => simp [intOf]; omega
    · obtain rfl : k = n := by omega
      have hz := hT.dg.lim (b := B) (by decide) (i + k)
      have hcell := hA.cell (k := i + k) (by omega)
      have hfz := hA.frozen (i + k)
      have hS := Lib.hid (hT.top (by rw [← HY.out.len]; exact nn_le ys) HY.out.dg (by omega))
      have hA1 := Lib.hid (hA.set (i + k) ((lim R' (i + k) + cy) % 18446744073709551616) (by omega))
      have HG := Lib.hid hg
      have HT := Lib.hid hT
      have HL := Lib.hid hlen
      clear hg hT hlen hz
      go_wp2
      go_end0
      refine ⟨_, _, ⟨_, rfl⟩, hS.out, ?_, grow_trans HG.out (grow_set _ _ _ _)⟩
      rw [IntKind.wrap_u64]
      exact hA1.out
end Go.Proofs.YtbadbjmhmadbmaaDoor
