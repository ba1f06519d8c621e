/- What Gcd of layer 3 answers, over this translation. -/
import Derived.Test.YtbjhfnkdflnnoaaQuoDivC
import Derived.ScopeJumps
import Derived.WalkMore
namespace Go.Proofs.Ytbjhfnkdflnnoaa
open Go.RowKit
set_option linter.unusedVariables false
open N
namespace N
/-- the greatest common divisor -/
def gI (a b : Int) : Int := ((Nat.gcd a.toNat b.toNat : Nat) : Int)
theorem gI_zero {a : Int} (h : 0 ≤ a) : gI a 0 = a := by unfold gI; rw [show (0 : Int).toNat = 0 from rfl, Nat.gcd_zero_right]; exact Int.toNat_of_nonneg h
theorem gI_step {a b : Int} (ha : 0 ≤ a) (hb : 0 < b) : gI b (a % b) = gI a b := by
  obtain ⟨m, rfl⟩ := Int.eq_ofNat_of_zero_le ha
  obtain ⟨n, rfl⟩ := Int.eq_ofNat_of_zero_le (Int.le_of_lt hb)
  unfold gI
  rw [← Int.natCast_emod, Int.toNat_natCast, Int.toNat_natCast, Int.toNat_natCast, Nat.gcd_comm m n, Nat.gcd_rec n m, Nat.gcd_comm]
theorem gI_nonneg (a b : Int) : 0 ≤ gI a b := by unfold gI; omega
theorem Sl.unique {w : World} {A : Option Addr} {n c : Nat} {xs ys : List Int} (h : Sl w A n c xs) (h' : Sl w A n c ys) : xs = ys := by
  apply ext_lim (h.len.trans h'.len.symm)
  intro j
  by_cases hj : j < n
  · obtain ⟨ad, e, _, h1⟩ := h.cell hj
    obtain ⟨ad', e', _, h2⟩ := h'.cell hj
    rw [e] at e'
    cases e'
    rw [h1] at h2
    injection h2 with h2
    injection h2
  · rw [lim_over xs j (by rw [h.len]; omega), lim_over ys j (by rw [h'.len]; omega)]
open Classical in
/-- the value of a slice in a world -/
noncomputable def vOf (v : Value) (w : World) : Nat := if h : ∃ k : Nat, ∃ A n c xs, v = .slice A n c ∧ Sl w A n c xs ∧ (val B xs).toNat = k then Classical.choose h else 0
theorem vOf_eq {w : World} {A : Option Addr} {n c : Nat} {xs : List Int} (h : Sl w A n c xs) : vOf (.slice A n c) w = (val B xs).toNat := by
  have he : ∃ k : Nat, ∃ A' n' c' xs', Value.slice A n c = .slice A' n' c' ∧ Sl w A' n' c' xs' ∧ (val B xs').toNat = k := ⟨_, A, n, c, xs, rfl, h, rfl⟩
  unfold vOf
  rw [dif_pos he]
  obtain ⟨A', n', c', xs', e, h', ek⟩ := Classical.choose_spec he
  cases e
  rw [← ek, Sl.unique h h']
end N
def GJ (w : World) (M : Nat) (g : Int) (a' : Act) (w' : World) : Prop :=
  ∃ (A : Option Addr) (n c : Nat) (xs : List Int) (A' : Option Addr) (m d : Nat) (ys : List Int) (u5 u6 u7 u8 u9 u10 u11 u12 u13 u14 u15 u16 u17 u18 u19 u20 : Value),
    a' = { tmps := #[.slice A n c, .slice A' m d, undef, undef, .slice none 0 0, u5, u6, u7, u8, u9, u10, u11, u12, u13, u14, u15, u16, u17, u18, u19, u20], defers := [] } ∧
    Sl w' A n c xs ∧ Sl w' A' m d ys ∧ n ≤ M ∧ m ≤ M ∧ gI (val B xs) (val B ys) = g ∧ Below w.heap.size w w'
set_option maxHeartbeats 1000000 in
theorem qgcd_any (w : World) (A A' : Option Addr) (n c m d M : Nat) (xs ys : List Int) (hx : Sl w A n c xs) (hy : Sl w A' m d ys) (hn : n ≤ M) (hm : m ≤ M) (hM : M ≤ 1099511627775) :
    Calls Try.prog 19 #[.slice A n c, .slice A' m d] w (Out w M (gI (val B xs) (val B ys))) := by
  obtain ⟨g, hg⟩ : ∃ g, gI (val B xs) (val B ys) = g := ⟨_, rfl⟩
  have HG := Lib.hid hg.symm
  have HB := Lib.hid (Below.refl w.heap.size w)
  rw [hg]
  clear hg
  go_enter Try.func19, Try.ntmps19
  go_wp2
  refine wp_scope_jumps 0 (GJ w M g) (fun a' w' => vOf (a'.tmps.getD 1 undef) w') rfl ?_ ?_
  · go_wp2
    go_step3
    have hz0 := val_nonneg (b := B) (by decide) hx.dg
    have hz1 := val_nonneg (b := B) (by decide) hy.dg
    by_cases hz : val B ys = 0
    · have HZ := Lib.hid hz
      clear hz
      go_wp2_with (first
        | (go_at_call 23; refine (zero_yes _ _ _ _ ys hy HZ.out).mono ?_; rintro e w1 ⟨rfl, rfl⟩)
        | (go_at_call 27; refine (trim_any _ _ _ _ xs hx (by omega)).mono ?_; rintro e w2 ⟨Ar, nr, cr, rfl, hnr, hor, hbr⟩))
      change bodyPost Try.prog Try.f19 (Out _ M g) Exit.ret _ _
      go_ret
      rw [HG.out, HZ.out, gI_zero hz0]
      exact Out.lift HB.out ⟨Ar, nr, cr, rfl, by omega, hor, hbr⟩
    · have hz2 : 0 < val B ys := by omega
      have HZ := Lib.hid hz2
      clear hz hz2
      go_wp2_with (first
        | (go_at_call 23; refine (zero_no _ _ _ _ ys hy HZ.out).mono ?_; rintro e w1 ⟨rfl, rfl⟩)
        | (go_at_call 15; refine (qdiv_any _ _ _ _ _ _ _ xs ys hx hy (by omega) (by omega) HZ.out).mono ?_; rintro e w2 ⟨Aq, nq, cq, Ar, nr, cr, rfl, hnq, hnr, hoq, hor, hne, hbr⟩))
      go_step3
      have hlv := limbs_val (Int.emod_nonneg (val B xs) (show val B ys ≠ 0 by have := HZ.out; omega))
      refine ⟨rfl, ⟨_, _, _, _, _, _, _, _, _, _, _, _, _, _, _, _, _, _, _, _, _, _, _, _, rfl, hy.below hbr, hor.sl, hm, by omega, by rw [hlv, HG.out]; exact gI_step hz0 HZ.out, HB.out.trans (hbr.mono HB.out.size)⟩⟩
  · clear HG HB hx hy hn hm
    rintro a' w1 ⟨A, n, c, xs, A', m, d, ys, u5, u6, u7, u8, u9, u10, u11, u12, u13, u14, u15, u16, u17, u18, u19, u20, rfl, hx, hy, hn, hm, hg, hb⟩
    have HG := Lib.hid hg.symm
    have HB := Lib.hid hb
    clear hg hb
    have hz0 := val_nonneg (b := B) (by decide) hx.dg
    have hz1 := val_nonneg (b := B) (by decide) hy.dg
    by_cases hz : val B ys = 0
    · have HZ := Lib.hid hz
      clear hz
      go_wp2_with (first
        | (go_at_call 23; refine (zero_yes _ _ _ _ ys hy HZ.out).mono ?_; rintro e w1 ⟨rfl, rfl⟩)
        | (go_at_call 27; refine (trim_any _ _ _ _ xs hx (by omega)).mono ?_; rintro e w2 ⟨Ar, nr, cr, rfl, hnr, hor, hbr⟩))
      change bodyPost Try.prog Try.f19 (Out _ M g) Exit.ret _ _
      go_ret
      rw [HG.out, HZ.out, gI_zero hz0]
      exact Out.lift HB.out ⟨Ar, nr, cr, rfl, by omega, hor, hbr⟩
    · have hz2 : 0 < val B ys := by omega
      have HZ := Lib.hid hz2
      clear hz hz2
      go_wp2_with (first
        | (go_at_call 23; refine (zero_no _ _ _ _ ys hy HZ.out).mono ?_; rintro e w1 ⟨rfl, rfl⟩)
        | (go_at_call 15; refine (qdiv_any _ _ _ _ _ _ _ xs ys hx hy (by omega) (by omega) HZ.out).mono ?_; rintro e w2 ⟨Aq, nq, cq, Ar, nr, cr, rfl, hnq, hnr, hoq, hor, hne, hbr⟩))
      go_step3
      have hlv := limbs_val (Int.emod_nonneg (val B xs) (show val B ys ≠ 0 by have := HZ.out; omega))
      refine ⟨rfl, ⟨_, _, _, _, _, _, _, _, _, _, _, _, _, _, _, _, _, _, _, _, _, _, _, _, rfl, hy.below hbr, hor.sl, hm, by omega, by rw [hlv, HG.out]; exact gI_step hz0 HZ.out, HB.out.trans (hbr.mono HB.out.size)⟩, ?_⟩
      show vOf (.slice Ar nr cr) w2 < vOf (.slice A' m d) w1
      rw [vOf_eq hor.sl, vOf_eq hy, hlv]
      have := Int.emod_lt_of_pos (val B xs) HZ.out
      have := Int.emod_nonneg (val B xs) (show val B ys ≠ 0 by have := HZ.out; omega)
      omega
end Go.Proofs.Ytbjhfnkdflnnoaa
