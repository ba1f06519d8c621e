/- What Trim, Of, Small, Zero, Len and Bit of layer 2 answer, over this translation. -/
import Derived.Test.YtbadbjmhmadbmaaDoorNatBare
import Derived.Test.YtbadbjmhmadbmaaDoorNatApp
import Derived.Test.YtbadbjmhmadbmaaDoorNatMath2
namespace Go.Proofs.YtbadbjmhmadbmaaDoor
open Go.RowKit
set_option linter.unusedVariables false
set_option maxRecDepth 20000
open N
theorem trim_any (w : World) (A : Option Addr) (n c : Nat) (xs : List Int) (h : Sl w A n c xs) (hn : n ≤ 1099511627776) :
    Calls Tryd.prog 24 #[.slice A n c] w (Out w n (val B xs)) := by
  have hnn := nn_le xs
  have HL := Lib.hid h.len
  rw [h.len] at hnn
  go_enter Tryd.func24, Tryd.ntmps24
  go_wp2_with (first
    | (go_at_call 40; refine (bare_any _ _ _ _ xs h).mono ?_; rintro e w' ⟨rfl, rfl⟩)
    | (at_builtin; refine wp_app rfl _ _ _ rfl slNat w'.heap.size rfl (Own.nil_ _ _) rfl h.tr (by omega) (by omega) (Nat.le_refl _) ?_; intro A2 c2 w2 hown _ _ hb))
  go_ret
  refine ⟨A2, _, c2, rfl, by omega, ?_, hb⟩
  rw [limbs_of h.dg]
  simpa using hown
theorem Out.lift {W W' : World} {m : Nat} {r : Int} (hb : Below W.heap.size W W') {e : Ending} {w' : World} (h : Out W' m r e w') : Out W m r e w' := by
  obtain ⟨A, n, c, he, hn, ho, hb'⟩ := h
  exact ⟨A, n, c, he, hn, ho.mono hb.size, hb.trans (hb'.mono hb.size)⟩
theorem Out2.lift {W W' : World} {m : Nat} {r k : Int} (hb : Below W.heap.size W W') {e : Ending} {w' : World} (h : Out2 W' m r k e w') : Out2 W m r k e w' := by
  obtain ⟨A, n, c, he, hn, ho, hb'⟩ := h
  exact ⟨A, n, c, he, hn, ho.mono hb.size, hb.trans (hb'.mono hb.size)⟩
theorem Sl.lit (w : World) (xs : List Int) (cs : Array Value) (n : Nat) (h : cs = (uv xs).toArray) (hd : Dg B xs) (hn : xs.length = n) (hm : n ≤ 1099511627776) : Sl (w.alloc (.cells cs 33)) (some ⟨w.heap.size, 0, none⟩) n n xs :=
  (Arr.lit w xs cs h).sl hn (by unfold maxLen; omega) hd
theorem of_any (w : World) (x : Int) (hx : W.Wd x) :
    Calls Tryd.prog 29 #[.int .u64 x] w (Out w 1 x) := by
  have hs := Sl.lit w [x] #[.int .u64 x] 1 rfl (Dg.one hx.1 hx.2) rfl (by omega)
  go_enter Tryd.func29, Tryd.ntmps29
  go_wp2_with (go_at_call 24; refine (trim_any _ _ _ _ _ hs (by omega)).mono ?_; rintro e w' ⟨A, n, c, rfl, hn, ho, hb⟩)
  go_ret
  refine Out.lift ((Below.refl _ w).alloc (Nat.le_refl _) _) ⟨A, n, c, rfl, hn, ?_, hb⟩
  simpa [val] using ho
theorem small_yes (w : World) (A : Option Addr) (n c : Nat) (xs : List Int) (h : Sl w A n c xs) (hv : val B xs < 18446744073709551616) :
    Calls Tryd.prog 21 #[.slice A n c] w fun e w' => e = .returned (.tuple #[.int .u64 (val B xs), .bool true]) ∧ w' = w := by
  have h1 := (nn_one_iff h.dg).2 hv
  have HL := Lib.hid (lim_zero h.dg hv)
  have ht := h.tr
  go_enter Tryd.func21, Tryd.ntmps21
  go_wp2_with (first
    | (go_at_call 40; refine (bare_any _ _ _ _ xs h).mono ?_; rintro e w' ⟨rfl, rfl⟩)
    | (go_at_call 41; refine (limb_any _ _ _ _ (tr xs) ht 0 (by omega)).mono ?_; rintro e w' ⟨rfl, rfl⟩))
  go_ret2
  rw [lim_tr, HL.out]
  exact ⟨rfl, rfl⟩
theorem small_no (w : World) (A : Option Addr) (n c : Nat) (xs : List Int) (h : Sl w A n c xs) (hv : 18446744073709551616 ≤ val B xs) :
    Calls Tryd.prog 21 #[.slice A n c] w fun e w' => e = .returned (.tuple #[.int .u64 0, .bool false]) ∧ w' = w := by
  have h1 : 1 < nn xs := by have := nn_one_iff h.dg; omega
  go_enter Tryd.func21, Tryd.ntmps21
  go_wp2_with (first
    | (go_at_call 40; refine (bare_any _ _ _ _ xs h).mono ?_; rintro e w' ⟨rfl, rfl⟩))
  go_ret2
  exact ⟨rfl, rfl⟩
theorem zero_yes (w : World) (A : Option Addr) (n c : Nat) (xs : List Int) (h : Sl w A n c xs) (hv : val B xs = 0) :
    Calls Tryd.prog 25 #[.slice A n c] w fun e w' => e = .returned (.bool true) ∧ w' = w := by
  have h1 := (nn_zero_iff h.dg).2 hv
  have HV := Lib.hid hv
  clear hv
  have h2 : (((nn xs : Nat) : Int) == 0) = true := by simp [h1]
  have H1 := Lib.hid h1
  clear h1
  go_enter Tryd.func25, Tryd.ntmps25
  go_wp2_with (first
    | (go_at_call 40; refine (bare_any _ _ _ _ xs h).mono ?_; rintro e w' ⟨rfl, rfl⟩))
  go_ret
  exact ⟨retb (by simp), rfl⟩
theorem zero_no (w : World) (A : Option Addr) (n c : Nat) (xs : List Int) (h : Sl w A n c xs) (hv : 0 < val B xs) :
    Calls Tryd.prog 25 #[.slice A n c] w fun e w' => e = .returned (.bool false) ∧ w' = w := by
  have h1 : 0 < nn xs := by have := nn_zero_iff h.dg; omega
  go_enter Tryd.func25, Tryd.ntmps25
  go_wp2_with (first
    | (go_at_call 40; refine (bare_any _ _ _ _ xs h).mono ?_; rintro e w' ⟨rfl, rfl⟩))
  go_ret
  exact ⟨retb (by simp; omega), rfl⟩
theorem nlen_any (w : World) (A : Option Addr) (n c : Nat) (xs : List Int) (h : Sl w A n c xs) (hn : n ≤ 1099511627776) :
    Calls Tryd.prog 65 #[.slice A n c] w fun e w' => e = .returned (.int .i64 (W.len (val B xs))) ∧ w' = w := by
  have hnn := nn_le xs
  have HL := Lib.hid h.len
  rw [h.len] at hnn
  have hcap := h.cap
  have hmx := h.max
  unfold maxLen at hmx
  by_cases h0 : nn xs = 0
  · have H2 := Lib.hid (by rw [(nn_zero_iff h.dg).1 h0]; exact len_0 : W.len (val B xs) = 0)
    have h2 : (((nn xs : Nat) : Int) == 0) = true := by simp [h0]
    have H1 := Lib.hid h0
    clear h0
    go_enter Tryd.func65, Tryd.ntmps65
    go_wp2_with (go_at_call 40; refine (bare_any _ _ _ _ xs h).mono ?_; rintro e w' ⟨rfl, rfl⟩)
    all_goals go_ret
    all_goals exact ⟨ret1 H2.out.symm, rfl⟩
  · have H2 := Lib.hid (len_top h.dg (by omega))
    have h2 : (((nn xs : Nat) : Int) == 0) = false := by simp [h0]
    obtain ⟨ad, rfl, _, hcell⟩ := h.cell (k := nn xs - 1) (by omega)
    have hw : W.Wd (lim xs (nn xs - 1)) := h.dg.lim (by decide) _
    have hlen := len_spec _ hw.1
    have hl0 := len_nonneg (lim xs (nn xs - 1))
    have hl1 : W.len (lim xs (nn xs - 1)) ≤ 64 := by
      obtain ⟨k, e1, e2, e3⟩ := hlen
      rw [e1]
      apply Classical.byContradiction; intro hk
      have e4 : 2 ^ (k - 1) ≤ lim xs (nn xs - 1) := by rcases e3 with e3 | e3; omega; exact e3
      have e5 : (2 : Int) ^ 64 ≤ 2 ^ (k - 1) := by rw [← W.cast_pow, ← W.cast_pow]; exact Int.ofNat_le.2 (Nat.pow_le_pow_right (by omega) (by omega))
      have := hw.2
      omega
    clear hlen
    have e1 : (((nn xs : Nat) : Int) - 1).toNat = nn xs - 1 := by omega
    go_enter Tryd.func65, Tryd.ntmps65
    go_wp2_with (first
      | (go_at_call 40; refine (bare_any _ _ _ _ xs h).mono ?_; rintro e w' ⟨rfl, rfl⟩)
      | (go_at_call 66; refine (len_any _ hw _).mono ?_; rintro e w' ⟨rfl, rfl⟩))
    all_goals go_ret
    all_goals exact ⟨ret1 (by rw [H2.out]; omega), rfl⟩
end Go.Proofs.YtbadbjmhmadbmaaDoor
