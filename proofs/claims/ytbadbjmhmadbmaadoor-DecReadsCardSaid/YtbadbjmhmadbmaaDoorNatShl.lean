/- What Shl of layer 2 answers, over this translation. -/
import Derived.Test.YtbadbjmhmadbmaaDoorNatCarry
import Derived.Test.YtbadbjmhmadbmaaDoorNatTell
import Derived.Test.YtbadbjmhmadbmaaDoorNatAdd
namespace Go.Proofs.YtbadbjmhmadbmaaDoor
open Go.RowKit
set_option linter.unusedVariables false
set_option maxRecDepth 20000
open N
namespace N
/-- what a step of a shift to the left comes to -/
def slL (x r c : Int) : Int := W.shlL x r + c
theorem shl_low (x r c : Int) (hx : W.Wd x) (h0 : 0 ≤ r) (h1 : r < 64) (hc : 0 ≤ c) (hc1 : c < 2 ^ r.toNat) : bits .or .u64 (W.shlL x r) c = slL x r c ∧ W.Wd (slL x r c) := by
  obtain ⟨m, rfl⟩ := Int.eq_ofNat_of_zero_le h0
  obtain ⟨c, rfl⟩ := Int.eq_ofNat_of_zero_le hc
  obtain ⟨x, rfl⟩ := Int.eq_ofNat_of_zero_le hx.1
  rw [Int.toNat_natCast] at hc1
  have hp := W.pow_pos m
  have hs := W.pow_split m (by omega)
  have e1 : W.shlL (x : Int) m = (x : Int) % 2 ^ (64 - m) * 2 ^ m := by
    unfold W.shlL
    rw [Int.toNat_natCast, hs, Int.mul_comm (2 ^ (64 - m)), Int.mul_comm (x : Int), Int.mul_emod_mul_of_pos _ _ hp, Int.mul_comm]
  have e2 : W.shlL (x : Int) m = ((x % 2 ^ (64 - m) * 2 ^ m : Nat) : Int) := by
    rw [e1, Int.natCast_mul, W.cast_pow, Int.natCast_emod, W.cast_pow]
  have hc2 : c < 2 ^ m := by rw [← W.cast_pow] at hc1; omega
  have hlt : x % 2 ^ (64 - m) * 2 ^ m + c < 18446744073709551616 := by
    have h3 : x % 2 ^ (64 - m) < 2 ^ (64 - m) := Nat.mod_lt _ (Nat.two_pow_pos _)
    have h4 : (x % 2 ^ (64 - m) + 1) * 2 ^ m ≤ 2 ^ (64 - m) * 2 ^ m := Nat.mul_le_mul_right _ (by omega)
    rw [← Nat.pow_add, show 64 - m + m = 64 by omega, Nat.add_mul] at h4
    omega
  unfold slL
  rw [e2]
  refine ⟨?_, by unfold W.Wd; omega⟩
  rw [bits_or_u64_nat _ _ (by omega) (by omega), Nat.or_comm, W.nat_or _ _ _ hc2]
  omega
theorem shl_high {x r : Int} (hx : W.Wd x) (h0 : 0 ≤ r) (h1 : r < 64) : 0 ≤ W.shlH x r ∧ W.shlH x r < 2 ^ r.toNat := by
  obtain ⟨m, rfl⟩ := Int.eq_ofNat_of_zero_le h0
  unfold W.shlH
  rw [Int.toNat_natCast]
  have hp := W.pow_pos m
  refine ⟨Int.ediv_nonneg (Int.mul_nonneg hx.1 (by omega)) (by omega), ?_⟩
  refine Int.ediv_lt_of_lt_mul (by omega) ?_
  rw [Int.mul_comm (2 ^ m)]
  exact Int.mul_lt_mul_of_pos_right hx.2 hp
theorem shl_eq (x r : Int) : W.shlL x r + W.shlH x r * 18446744073709551616 = x * 2 ^ r.toNat := by unfold W.shlL W.shlH; omega
end N
namespace N
theorem shl_step {xs zs : List Int} {c r : Int} {wh k : Nat} (hk : wh + k < zs.length) (hz : lim zs (wh + k) = 0)
    (h : val B zs + c * Q B (wh + k) = lo B xs k * 2 ^ r.toNat * Q B wh) :
    val B (zs.set (wh + k) (slL (lim xs k) r c)) + W.shlH (lim xs k) r * Q B (wh + (k + 1)) = lo B xs (k + 1) * 2 ^ r.toNat * Q B wh := by
  rw [val_set B zs _ _ hk, hz, Int.sub_zero, lo_succ, show wh + (k + 1) = wh + k + 1 by omega, Q_succ]
  have e := shl_eq (lim xs k) r
  unfold slL
  generalize W.shlL (lim xs k) r = s at *
  generalize W.shlH (lim xs k) r = t at *
  generalize lim xs k = x at *
  generalize (2 : Int) ^ r.toNat = p at *
  have e2 : (s + c) * Q B (wh + k) + t * (Q B (wh + k) * B) = (x * p + c) * Q B (wh + k) := by
    rw [← e, ← Int.mul_assoc t, Int.mul_right_comm t, ← Int.add_mul]
    congr 1
    show s + c + t * 18446744073709551616 = _
    omega
  have e3 : (lo B xs k + x * Q B k) * p * Q B wh = lo B xs k * p * Q B wh + x * p * Q B (wh + k) := by
    rw [Int.add_mul, Int.add_mul, Q_add]
    congr 1
    rw [Int.mul_assoc, Int.mul_assoc x p, Int.mul_assoc x]
    congr 1
    rw [Int.mul_comm (Q B k), Int.mul_assoc]
  rw [Int.add_mul (x * p)] at e2
  rw [e3]
  omega
theorem shl_last {xs zs : List Int} {c n : Int} {wh r : Nat} (hx : Dg B xs) (hz : Dg B zs) (hl : zs.length = wh + nn xs + 1) (hc : 0 ≤ c) (hn : n = 64 * wh + r) (hr : r < 64)
    (h : val B zs + c * Q B (wh + (nn xs + 1)) = lo B xs (nn xs + 1) * 2 ^ (r : Int).toNat * Q B wh) : val B zs = val B xs * 2 ^ n.toNat := by
  rw [lo_all_nn hx (by omega), Int.toNat_natCast] at h
  have e : (2 : Int) ^ n.toNat = 2 ^ r * Q B wh := by
    rw [Q_two, ← Int.pow_add]; congr 1; omega
  rw [e, ← Int.mul_assoc, ← h]
  have e1 := val_lt_nn hx (Nat.le_refl _)
  have e5 := val_nonneg (b := B) (by decide) hz
  have e0 := val_nonneg (b := B) (by decide) hx
  have hq := Q_pos (b := B) (by decide) (wh + (nn xs + 1))
  have hqw := Q_pos (b := B) (by decide) wh
  have hqn := Q_pos (b := B) (by decide) (nn xs)
  have hp : (2 : Int) ^ r ≤ B := by
    have : (2 : Int) ^ r ≤ 2 ^ 64 := by rw [← W.cast_pow, ← W.cast_pow]; exact Int.ofNat_le.2 (Nat.pow_le_pow_right (by omega) (by omega))
    exact this
  have hp0 := W.pow_pos r
  have e2 : val B xs * 2 ^ r * Q B wh < Q B (wh + (nn xs + 1)) := by
    rw [Q_add, Q_succ, Int.mul_comm (Q B wh)]
    refine Int.mul_lt_mul_of_pos_right ?_ hqw
    have h1 : val B xs * 2 ^ r < Q B (nn xs) * 2 ^ r := Int.mul_lt_mul_of_pos_right e1 hp0
    have h2 : Q B (nn xs) * 2 ^ r ≤ Q B (nn xs) * B := Int.mul_le_mul_of_nonneg_left hp (by omega)
    omega
  have : c = 0 := by
    apply Classical.byContradiction; intro hne
    have e6 : 1 * Q B (wh + (nn xs + 1)) ≤ c * Q B (wh + (nn xs + 1)) := Int.mul_le_mul_of_nonneg_right (by omega) (by omega)
    omega
  subst this
  omega
end N
def ShlRel (w : World) (xs : List Int) (wh : Nat) (r : Nat) (g b1 b2 br : Nat) (F : Value) (i : Value) (wr : World) : Prop :=
  ∃ (k : Nat) (zs : List Int) (c : Int), i = .int .i64 k ∧ k ≤ nn xs + 1 ∧ zs.length = wh + nn xs + 1 ∧ Dg B zs ∧ 0 ≤ c ∧ c < 2 ^ (r : Int).toNat ∧ (∀ j, wh + k ≤ j → lim zs j = 0) ∧
    val B zs + c * Q B (wh + k) = lo B xs k * 2 ^ (r : Int).toNat * Q B wh ∧ Cry w g b1 b2 F zs c wr ∧ wr.cell? ⟨br, 0, none⟩ = some (.int .i64 r)
theorem Cry.after {w w1 : World} (hb : Below w.heap.size w w1) (h1 : w.heap.size ≤ w1.heap.size) {gs b1 b2 : Nat} {F : Value} {zs : List Int} {c : Int} {wr : World} (h : Cry w1 gs b1 b2 F zs c wr) : Cry w gs b1 b2 F zs c wr :=
  ⟨h.arr, h.fn, h.cy, h.fz, hb.trans (h.bl.mono h1)⟩
end Go.Proofs.YtbadbjmhmadbmaaDoor
