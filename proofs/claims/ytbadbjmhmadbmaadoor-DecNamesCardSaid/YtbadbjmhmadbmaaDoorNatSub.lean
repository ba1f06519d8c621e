/- What Sub of layer 2 answers, over this translation. -/
import Derived.Test.YtbadbjmhmadbmaaDoorNatCarry
import Derived.Test.YtbadbjmhmadbmaaDoorNatTell
import Derived.Test.YtbadbjmhmadbmaaDoorNatAdd
import Derived.Test.YtbadbjmhmadbmaaDoorNatCmp
import Derived.Deep.RegionWith
namespace Go.Proofs.YtbadbjmhmadbmaaDoor
open Go.RowKit
set_option linter.unusedVariables false
set_option maxRecDepth 20000
open N
namespace N
theorem sub_step {xs ys zs : List Int} {c : Int} {k : Nat} (hx : Dg B xs) (hy : Dg B ys) (hk : k < zs.length) (hz : lim zs k = 0) (h0 : 0 ≤ c) (h1 : c ≤ 1)
    (h : val B zs - c * Q B k = lo B xs k - lo B ys k) :
    val B (zs.set k (W.subS (lim xs k) (lim ys k) c)) - W.subC (lim xs k) (lim ys k) c * Q B (k + 1) = lo B xs (k + 1) - lo B ys (k + 1) := by
  have ha := hx.lim (by decide) k
  have hb := hy.lim (by decide) k
  rw [val_set B zs k _ hk, hz, lo_succ, lo_succ, Q_succ]
  have e : W.subS (lim xs k) (lim ys k) c - W.subC (lim xs k) (lim ys k) c * B = lim xs k - lim ys k - c := by
    unfold W.subS W.subC; rw [Int.min_eq_left h1]; show _ - _ * (18446744073709551616 : Int) = _; omega
  generalize W.subS (lim xs k) (lim ys k) c = s at *
  generalize W.subC (lim xs k) (lim ys k) c = t at *
  have e2 : s * Q B k - t * (Q B k * B) = (lim xs k - lim ys k - c) * Q B k := by
    rw [← e, Int.sub_mul, Int.mul_right_comm t, Int.mul_assoc t]
  rw [Int.sub_mul, Int.sub_mul] at e2
  rw [Int.sub_zero]
  omega
theorem subC_le {a b c : Int} (ha : W.Wd a) (hb : W.Wd b) (h0 : 0 ≤ c) (h1 : c ≤ 1) : 0 ≤ W.subC a b c ∧ W.subC a b c ≤ 1 := by
  unfold W.subC W.Wd at *; rw [Int.min_eq_left h1]; omega
theorem sub_last {xs ys zs : List Int} {c : Int} (hx : Dg B xs) (hy : Dg B ys) (hz : Dg B zs) (hl : zs.length = nn xs) (hle : val B ys ≤ val B xs) (hc : 0 ≤ c) (h : val B zs - c * Q B (nn xs) = lo B xs (nn xs) - lo B ys (nn xs)) :
    val B zs = val B xs - val B ys := by
  have e1 := val_lt_nn hx (Nat.le_refl _)
  rw [lo_all_nn hx (Nat.le_refl _)] at h
  have e2 : lo B ys (nn xs) = val B ys := by
    rw [← (val_div (by decide) hy (nn xs)).2]
    exact Int.emod_eq_of_lt (val_nonneg (by decide) hy) (by omega)
  rw [e2] at h
  have e3 := val_lt (b := B) (by decide) hz
  rw [hl] at e3
  have e4 := Q_pos (b := B) (by decide) (nn xs)
  have : c = 0 := by
    apply Classical.byContradiction; intro hne
    have e6 : 1 * Q B (nn xs) ≤ c * Q B (nn xs) := Int.mul_le_mul_of_nonneg_right (by omega) (by omega)
    omega
  subst this
  omega
end N
def SubRel (w : World) (xs ys : List Int) (Nn gs b1 b2 : Nat) (F : Value) (i : Value) (wr : World) : Prop :=
  ∃ (k : Nat) (zs : List Int) (c : Int), i = .int .i64 k ∧ k ≤ Nn ∧ zs.length = Nn ∧ Dg B zs ∧ 0 ≤ c ∧ c ≤ 1 ∧ (∀ j, k ≤ j → lim zs j = 0) ∧ val B zs - c * Q B k = lo B xs k - lo B ys k ∧ Cry w gs b1 b2 F zs c wr
end Go.Proofs.YtbadbjmhmadbmaaDoor
