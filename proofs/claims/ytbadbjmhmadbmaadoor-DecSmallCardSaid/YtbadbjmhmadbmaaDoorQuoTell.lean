/- What bare, shifted, frontOf and estimate of layer 3 answer, over this translation. -/
import Derived.Test.YtbadbjmhmadbmaaDoorQuoLong
import Derived.Test.YtbadbjmhmadbmaaDoorQuoDiv64
import Derived.Test.YtbadbjmhmadbmaaDoorNatTell
import Derived.Deep.RegionWith
import Derived.Deep.QuietTactic
import Derived.BigQuiet
namespace Go.Proofs.YtbadbjmhmadbmaaDoor
open Go.RowKit
set_option linter.unusedVariables false
set_option maxRecDepth 20000
open N
namespace N
theorem bdn {B : Nat} {a w : World} (h : Below B a w) (n : Nat) : Below B a (w.drewN n) := h.trans ⟨rfl, rfl, rfl, Nat.le_refl _, fun _ _ => rfl⟩
theorem limbs_count {xs : List Int} (h : Dg B xs) : (W.len (val B xs) + 64 - 1) / 64 = (nn xs : Int) ∧ 0 ≤ W.len (val B xs) ∧ W.len (val B xs) ≤ 64 * (nn xs : Int) := by
  by_cases h0 : nn xs = 0
  · rw [(nn_zero_iff h).1 h0, len_0, h0]; decide
  · rw [len_top h (by omega)]
    have hg := h.lim (b := B) (by decide) (nn xs - 1)
    have hx : lim xs (nn xs - 1) < 18446744073709551616 := hg.2
    have ht := nn_top xs (by omega)
    obtain ⟨j, e1, e2, e3⟩ := len_spec _ hg.1
    have hj : j ≤ 64 := by
      apply Classical.byContradiction; intro hc
      have e4 : 2 ^ (j - 1) ≤ lim xs (nn xs - 1) := by rcases e3 with e3 | e3; omega; exact e3
      have e5 : (2 : Int) ^ 64 ≤ 2 ^ (j - 1) := by rw [← W.cast_pow, ← W.cast_pow]; exact Int.ofNat_le.2 (Nat.pow_le_pow_right (by omega) (by omega))
      have : (2 : Int) ^ 64 = 18446744073709551616 := by decide
      omega
    have hj0 : j ≠ 0 := by rintro rfl; simp at e2; omega
    rw [e1]; omega
end N
theorem qbare_any (w : World) (A : Option Addr) (n c : Nat) (xs : List Int) (h : Sl w A n c xs) (hn : n ≤ 1099511627776) :
    Calls Tryd.prog 67 #[.slice A n c] w fun e w' => e = .returned (.slice A (nn xs) c) ∧ w' = w := by
  have hl := h.len
  have hc := h.cap
  have hm := h.max
  have hnn := nn_le xs
  rw [hl] at hnn
  unfold maxLen at hm
  obtain ⟨h1, h2, h3⟩ := limbs_count h.dg
  have H1 := Lib.hid h1
  have HL := Lib.hid hl
  clear hl h1
  generalize hL : W.len (val B xs) = L at *
  have HLe := Lib.hid hL
  clear hL
  have e1 : ((L + 64 - 1) / 64).toNat = nn xs := by have := H1.out; omega
  have e2 : 0 ≤ (L + 64 - 1) / 64 := by omega
  have e3 : (L + 64 - 1) / 64 ≤ c := by have := H1.out; omega
  go_enter Tryd.func67, Tryd.ntmps67
  go_wp2_with (go_at_call 65; refine (nlen_any _ _ _ _ xs h hn).mono ?_; rw [HLe.out]; rintro e w' ⟨rfl, rfl⟩)
  go_ret
  exact ⟨rfl, rfl⟩
theorem shifted_any (w : World) (A : Option Addr) (n c : Nat) (xs : List Int) (h : Sl w A n c xs) (i : Nat) (hi : i < n) (k : Int) (h0 : 0 ≤ k) (h1 : k ≤ 64) :
    Calls Tryd.prog 82 #[.slice A n c, .int .i64 i, .int .i64 k] w fun e w' => e = .returned (.int .u64 (shd xs i k)) ∧ ∃ q, w' = w.drewN q := by
  have hl := h.len
  have hc := h.cap
  have hm := h.max
  unfold maxLen at hm
  obtain ⟨ad, rfl, _, hcell⟩ := h.cell hi
  have hx : W.Wd (lim xs i) := h.dg.lim (by decide) i
  have HL := Lib.hid hl
  clear hl
  have HB : Hid (shd xs i k = W.shr (lim xs i) (bel xs i) (64 - k)) := Lib.hid rfl
  by_cases h2 : 0 < i
  · obtain ⟨ad', e, _, hcell2⟩ := h.cell (k := i - 1) (by omega)
    cases e
    have hy : W.Wd (lim xs (i - 1)) := h.dg.lim (by decide) _
    have e1 : ((i : Int) - 1).toNat = i - 1 := by omega
    have HE := Lib.hid (show bel xs i = lim xs (i - 1) by have := bel_succ xs (i - 1); rwa [show i - 1 + 1 = i by omega] at this)
    rw [HE.out] at HB
    go_enter Tryd.func82, Tryd.ntmps82
    go_wp2_with (go_at_call 86; refine (shr_yes _ _ _ hx hy (by omega) (by omega) _).mono ?_; rintro e w' ⟨rfl, q, rfl⟩)
    go_ret
    refine ⟨?_, _, rfl⟩
    rw [HB.out]
    rfl
  · have HE := Lib.hid (show bel xs i = 0 by rw [show i = 0 by omega]; exact bel_zero xs)
    rw [HE.out] at HB
    have h2 : i ≤ 0 := by omega
    go_enter Tryd.func82, Tryd.ntmps82
    go_wp2_with (go_at_call 86; refine (shr_yes _ _ _ hx W.wd_0 (by omega) (by omega) _).mono ?_; rintro e w' ⟨rfl, q, rfl⟩)
    go_ret
    refine ⟨?_, _, rfl⟩
    rw [HB.out]
    rfl
theorem frontOf_len (w : World) (A : Option Addr) (n c : Nat) (xs : List Int) (h : Sl w A n c xs) (hn : 2 ≤ n) (k L : Int) (hb : W.len (lim xs (n - 1)) = L) (hk : 64 - L = k) (h0 : 0 ≤ L) (h1 : L ≤ 64) :
    Calls Tryd.prog 75 #[.slice A n c] w fun e w' => e = .returned (.agg #[.int .i64 k, .int .u64 (shd xs (n - 1) k), .int .u64 (shd xs (n - 2) k)]) ∧ Below w.heap.size w w' := by
  have hl := h.len
  have hc := h.cap
  have hm := h.max
  unfold maxLen at hm
  obtain ⟨ad, rfl, hlt, hcell⟩ := h.cell (k := n - 1) (by omega)
  have hx : W.Wd (lim xs (n - 1)) := h.dg.lim (by decide) _
  have HL := Lib.hid hl
  clear hl
  have e1 : ((n : Int) - 1).toNat = n - 1 := by omega
  have E1 := Lib.hid (show ((n : Int) - 1) = ((n - 1 : Nat) : Int) by omega)
  have E2 := Lib.hid (show ((n : Int) - 2) = ((n - 2 : Nat) : Int) by omega)
  subst hk
  have HB := Lib.hid hb
  clear hb
  have hsh : ∀ (W : World) (i : Nat), Sl W (some ad) n c xs → i < n → ∀ j : Int, j = (i : Int) → Calls Tryd.prog 82 #[.slice (some ad) n c, .int .i64 j, .int .i64 (64 - L)] W fun e w' => e = .returned (.int .u64 (shd xs i (64 - L))) ∧ ∃ q, w' = W.drewN q := by
    rintro W i hW hi j rfl
    exact shifted_any W _ n c xs hW i hi (64 - L) (by omega) (by omega)
  have HS := Lib.hid hsh
  clear hsh
  have hA : ∀ o q, Sl ((w.alloc o).drewN q) (some ad) n c xs := fun o q => (h.below ((Below.refl _ w).alloc (Nat.le_refl _) o)).drewN q
  have HA := Lib.hid hA
  have HA0 : Hid (∀ o, Sl (w.alloc o) (some ad) n c xs) := Lib.hid fun o => h.below ((Below.refl _ w).alloc (Nat.le_refl _) o)
  clear hA
  have hcell1 : ∀ o, (w.alloc o).cell? (ad.add (n - 1)) = some (.int .u64 (lim xs (n - 1))) := fun o => by rw [((Below.refl _ w).alloc (Nat.le_refl _) o).cell (by rw [add_block]; exact hlt)]; exact hcell
  clear hcell
  go_enter Tryd.func75, Tryd.ntmps75
  go_wp2_with (first
    | (go_at_call 66; refine (len_any _ hx _).mono ?_; rw [HB.out]; rintro e w' ⟨rfl, rfl⟩)
    | (go_at_call 82; (with_reducible refine (HS.out _ (n - 1) (HA0.out _) (by omega) ((n : Int) - 1) (by omega)).mono ?_); rintro e w' ⟨rfl, q, rfl⟩)
    | (go_at_call 82; (with_reducible refine (HS.out _ (n - 2) (HA.out _ _) (by omega) ((n : Int) - 2) (by omega)).mono ?_); rintro e w' ⟨rfl, q2, rfl⟩))
  refine bodyPost_ret (v := .agg #[.int .i64 (64 - L), .int .u64 (shd xs (n - 1) (64 - L)), .int .u64 (shd xs (n - 2) (64 - L))]) (by simp [results, Tryd.f75, go_sem]) rfl ⟨rfl, ?_⟩
  exact ((((bdn ((Below.refl _ w).alloc (Nat.le_refl _) _) _).setCell (by simp) _).setCell (by simp) _).setCell (by simp) _)
set_option maxRecDepth 100000 in
theorem estimate_any (w : World) (A : Option Addr) (n c : Nat) (xs : List Int) (h : Sl w A (n + 1) c xs) (hn : 1 ≤ n) (k v u : Int) (h0 : 0 ≤ k) (h1 : k ≤ 64) (hv : W.Wd v) (hu : W.Wd u) (hv0 : 0 < v) :
    Calls Tryd.prog 76 #[.agg #[.int .i64 k, .int .u64 v, .int .u64 u], .slice A (n + 1) c] w fun e w' =>
      e = .returned (.int .u64 (estD (shd xs n k * 18446744073709551616 + shd xs (n - 1) k) v u)) ∧ Below w.heap.size w w' := by
  have hl := h.len
  have hc := h.cap
  have hm := h.max
  unfold maxLen at hm
  have HL := Lib.hid hl
  clear hl
  have hsh : ∀ (W : World) (i : Nat), Sl W A (n + 1) c xs → i < n + 1 → ∀ j : Int, j = (i : Int) → Calls Tryd.prog 82 #[.slice A (n + 1) c, .int .i64 j, .int .i64 k] W fun e w' => e = .returned (.int .u64 (shd xs i k)) ∧ ∃ q, w' = W.drewN q := by
    rintro W i hW hi j rfl
    exact shifted_any W _ (n + 1) c xs hW i hi k h0 h1
  have HS := Lib.hid hsh
  clear hsh
  have hA : ∀ o q, Sl ((w.alloc o).drewN q) A (n + 1) c xs := fun o q => (h.below ((Below.refl _ w).alloc (Nat.le_refl _) o)).drewN q
  have HA := Lib.hid hA
  clear hA
  have w1 := wd_shd xs n k
  have w0 := wd_shd xs (n - 1) k
  have e1 : (((n + 1 : Nat) : Int) - 1) = (n : Int) := by omega
  by_cases ht : v ≤ shd xs n k
  · have HE := Lib.hid (estD_top (T := shd xs n k * 18446744073709551616 + shd xs (n - 1) k) (w := u) (by unfold W.Wd at *; omega : v ≤ _))
    go_enter Tryd.func76, Tryd.ntmps76
    go_wp2
    go_quiet (first
      | (go_at_call 82; with_reducible exact Calls.quiet_of (HS.out _ n (HA.out _ _) (by omega) (n : Int) rfl))
      | (go_at_call 82; with_reducible exact Calls.quiet_of (HS.out _ (n - 1) (HA.out _ _) (by omega) ((n : Int) - 1) (by omega)))
      | (go_at_call 74; exact Calls.quiet_of_same (div_long _ _ _ w1 w0 hv hv0 ht _)))
    go_wp2
    go_ret
    exact ⟨by rw [HE.out]; rfl, bdn ((Below.refl _ w).alloc (Nat.le_refl _) _) _⟩
  · have hT : 0 ≤ shd xs n k * 18446744073709551616 + shd xs (n - 1) k := by unfold W.Wd at *; omega
    have hd : shd xs n k < v := by omega
    have ht' : ¬ v ≤ (shd xs n k * 18446744073709551616 + shd xs (n - 1) k) / 18446744073709551616 := by unfold W.Wd at *; omega
    obtain ⟨q1, q2, q3, q4, q5⟩ := div_lt_B hT ht'
    have hD : W.Wd (W.divQ (shd xs n k) (shd xs (n - 1) k) v) := ⟨q2, q3⟩
    have hv' := hv.2
    have hR : W.Wd (W.divR (shd xs n k) (shd xs (n - 1) k) v) := ⟨q4, Int.lt_trans q5 hv'⟩
    by_cases h6 : W.divR (shd xs n k) (shd xs (n - 1) k) v < W.mulH (W.divQ (shd xs n k) (shd xs (n - 1) k) v) u
    · have HE := Lib.hid (estD_less ht' h6)
      have h7 : 0 < W.divQ (shd xs n k) (shd xs (n - 1) k) v := less_pos hu.1 hT ht' h6
      have h8 := hD.2
      clear ht' q1 q2 q3 q4 q5 hT
      go_enter Tryd.func76, Tryd.ntmps76
      go_wp2
      go_quiet (first
        | (go_at_call 82; with_reducible exact Calls.quiet_of (HS.out _ n (HA.out _ _) (by omega) (n : Int) rfl))
        | (go_at_call 82; with_reducible exact Calls.quiet_of (HS.out _ (n - 1) (HA.out _ _) (by omega) ((n : Int) - 1) (by omega)))
        | (go_at_call 74; exact Calls.quiet_of (div_any _ _ _ w1 w0 hv hd _)))
      go_wp2_with (go_at_call 61; refine (mul_any _ _ hD hu _).mono ?_; rintro e w' ⟨rfl, rfl⟩)
      go_ret
      exact ⟨by rw [HE.out]; rfl, bdn ((Below.refl _ w).alloc (Nat.le_refl _) _) _⟩
    · have HE := Lib.hid (estD_just ht' h6)
      clear ht' q1 q2 q3 q4 q5 hT
      go_enter Tryd.func76, Tryd.ntmps76
      go_wp2
      go_quiet (first
        | (go_at_call 82; with_reducible exact Calls.quiet_of (HS.out _ n (HA.out _ _) (by omega) (n : Int) rfl))
        | (go_at_call 82; with_reducible exact Calls.quiet_of (HS.out _ (n - 1) (HA.out _ _) (by omega) ((n : Int) - 1) (by omega)))
        | (go_at_call 74; exact Calls.quiet_of (div_any _ _ _ w1 w0 hv hd _)))
      go_wp2_with (go_at_call 61; refine (mul_any _ _ hD hu _).mono ?_; rintro e w' ⟨rfl, rfl⟩)
      go_ret
      exact ⟨by rw [HE.out]; rfl, bdn ((Below.refl _ w).alloc (Nat.le_refl _) _) _⟩
end Go.Proofs.YtbadbjmhmadbmaaDoor
