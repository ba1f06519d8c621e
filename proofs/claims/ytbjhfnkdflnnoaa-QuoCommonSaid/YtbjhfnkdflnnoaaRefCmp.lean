/- What the document's own Cmp answers, over this translation. -/
import Derived.Test.YtbjhfnkdflnnoaaNatJoin
import Derived.Test.YtbjhfnkdflnnoaaNatCmp
namespace Go.Proofs.Ytbjhfnkdflnnoaa
open Go.RowKit
set_option linter.unusedVariables false
open N
namespace N
theorem lt_of_len {X Y : List Int} (hX : Dg D X) (hY : Dg D Y) (hn : nn Y = Y.length) (h : X.length < Y.length) : val D X < val D Y := by
  have h1 := val_lt (b := D) (by decide) hX
  have h2 := val_ge (b := D) (by decide) hY (by omega)
  have h3 := Q_mono (b := D) (by decide) (show X.length ≤ nn Y - 1 by omega)
  omega
end N
set_option maxHeartbeats 2000000 in
theorem rcmp_any (w : World) (A A' : Option Addr) (n c m d : Nat) (xs ys : List Int) (hx : Sl w A n c xs) (hy : Sl w A' m d ys) (hn : n ≤ 1000000) (hm : m ≤ 1000000) :
    Calls Try.prog 40 #[.slice A n c, .slice A' m d] w fun e w' => e = .returned (.int .i64 (cmpI (val B xs) (val B ys))) ∧ Below w.heap.size w w' := by
  have hvx := Lib.hid (digs_val (val_nonneg (b := B) (by decide) hx.dg))
  have hvy := Lib.hid (digs_val (val_nonneg (b := B) (by decide) hy.dg))
  rcases Nat.lt_trichotomy (digs (val B xs)).length (digs (val B ys)).length with hl | hl | hl
  · have HL := Lib.hid hl
    clear hl
    go_enter Try.func40, Try.ntmps40
    go_wp2_with (first
      | (go_at_call_of 46 (Value.slice A n c); refine (digits_any _ _ _ _ xs hx (by omega)).mono ?_; rintro e w1 ⟨A1, n1, c1, rfl, hn1, ho1, hb1⟩; have hy1 := hy.below hb1)
      | (go_at_call_of 46 (Value.slice A' m d); refine (digits_any _ _ _ _ ys hy1 (by omega)).mono ?_; rintro e w2 ⟨A2, n2, c2, rfl, hn2, ho2, hb2⟩; have h5 : n1 < n2 := by { have := HL.out; rw [ho1.len, ho2.len] at this; exact this }; have h6 : ((n1 : Int) != (n2 : Int)) = true := by { simp; omega }))
    go_ret
    refine ⟨ret1 ?_, hb1.trans (hb2.mono hb1.size)⟩
    rw [cmpI_lt]
    rw [← hvx.out, ← hvy.out]
    exact lt_of_len (digs_dg _) (digs_dg _) (digs_nn _) HL.out
  · have HL := Lib.hid hl
    clear hl
    go_enter Try.func40, Try.ntmps40
    go_wp2_with (first
      | (go_at_call_of 46 (Value.slice A n c); refine (digits_any _ _ _ _ xs hx (by omega)).mono ?_; rintro e w1 ⟨A1, n1, c1, rfl, hn1, ho1, hb1⟩; have hy1 := hy.below hb1)
      | (go_at_call_of 46 (Value.slice A' m d); refine (digits_any _ _ _ _ ys hy1 (by omega)).mono ?_; rintro e w2 ⟨A2, n2, c2, rfl, hn2, ho2, hb2⟩; have h5 : n2 = n1 := by { have := HL.out; rw [ho1.len, ho2.len] at this; exact this.symm }; subst h5; have h6 : ((n2 : Int) != (n2 : Int)) = false := by { simp }))
    have HX := Lib.hid (ho1.sl.below hb2)
    have HY := Lib.hid ho2.sl
    obtain ⟨X, hX⟩ : ∃ X, digs (val B xs) = X := ⟨_, rfl⟩
    obtain ⟨Y, hY⟩ : ∃ Y, digs (val B ys) = Y := ⟨_, rfl⟩
    have HDX := Lib.hid (digs_dg (val B xs))
    have HDY := Lib.hid (digs_dg (val B ys))
    rw [hX] at HX HDX hvx
    rw [hY] at HY HDY hvy
    have HB := Lib.hid (hb1.trans (hb2.mono hb1.size))
    have hc1 := HX.out.cap
    have hc2 := HY.out.cap
    clear hX hY hx hy hy1 ho1 ho2 hb1 hb2
    go_loopw [7] (fun i wr => ∃ (r q : Nat), r ≤ n2 ∧ i = .int .i64 ((r : Int) - 1) ∧ (∀ j, r ≤ j → lim X j = lim Y j) ∧ wr = w2.drewN q) (fun i _ => (intOf i + 1).toNat)
    case atStart => exact ⟨n2, 0, Nat.le_refl _, rfl, fun j hj => by rw [lim_over X j (by rw [HX.out.len]; exact hj), lim_over Y j (by rw [HY.out.len]; exact hj)], rfl⟩
    case round =>
      obtain ⟨r, q, hr, rfl, hj, rfl⟩ := hrel
      have HJ := Lib.hid hj
      clear hj
      by_cases hr0 : 0 < r
      · obtain ⟨s, hs⟩ : ∃ s : Nat, (r : Int) - 1 = (s : Int) := ⟨r - 1, by omega⟩
        obtain ⟨ad, rfl, _, h1⟩ := HX.out.cell (k := s) (by omega)
        obtain ⟨ad', rfl, _, h2⟩ := HY.out.cell (k := s) (by omega)
        have hsn : s < n2 := by omega
        have HS := Lib.hid hs
        rw [hs]
        clear hs
        rcases Int.lt_trichotomy (lim X s) (lim Y s) with hq | hq | hq
        · have HQ := Lib.hid hq
          have hd1 : decide (lim X s < lim Y s) = true := decide_eq_true hq
          go_wp2
          go_quiet (fail)
          go_wp2
          go_ret
          refine ⟨ret1 ?_, HB.out.trans ⟨rfl, rfl, rfl, Nat.le_refl _, fun _ _ => rfl⟩⟩
          rw [cmpI_lt]
          rw [← hvx.out, ← hvy.out]
          exact lt_of_place (by decide) HDX.out HDY.out s (fun j hj => HJ.out j (by have := HS.out; omega)) HQ.out
        · have HQ := Lib.hid hq
          have hd1 : decide (lim X s < lim Y s) = false := decide_eq_false (by omega)
          have hd2 : decide (lim Y s < lim X s) = false := decide_eq_false (by omega)
          clear hq
          go_wp2
          go_quiet (fail)
          go_wp2
          go_quiet (fail)
          go_wp2
          go_roundw
          case rel => exact ⟨s, _, by omega, rfl, fun j hj => by
            by_cases hjs : j = s
            · rw [hjs]; exact HQ.out
            · exact HJ.out j (by have := HS.out; omega), rfl⟩
          case measure => simp [intOf]
        · have HQ := Lib.hid hq
          have hd1 : decide (lim X s < lim Y s) = false := decide_eq_false (by omega)
          have hd2 : decide (lim Y s < lim X s) = true := decide_eq_true hq
          go_wp2
          go_quiet (fail)
          go_wp2
          go_quiet (fail)
          go_wp2
          go_ret
          refine ⟨ret1 ?_, HB.out.trans ⟨rfl, rfl, rfl, Nat.le_refl _, fun _ _ => rfl⟩⟩
          rw [cmpI_gt]
          rw [← hvx.out, ← hvy.out]
          exact lt_of_place (by decide) HDY.out HDX.out s (fun j hj => (HJ.out j (by have := HS.out; omega)).symm) HQ.out
      · obtain rfl : r = 0 := by omega
        go_wp2
        go_ret
        refine ⟨ret1 ?_, HB.out.trans ⟨rfl, rfl, rfl, Nat.le_refl _, fun _ _ => rfl⟩⟩
        rw [cmpI_eq]
        rw [← hvx.out, ← hvy.out]
        exact val_of_lim D (fun j => HJ.out j (Nat.zero_le _))
  · have HL := Lib.hid hl
    clear hl
    go_enter Try.func40, Try.ntmps40
    go_wp2_with (first
      | (go_at_call_of 46 (Value.slice A n c); refine (digits_any _ _ _ _ xs hx (by omega)).mono ?_; rintro e w1 ⟨A1, n1, c1, rfl, hn1, ho1, hb1⟩; have hy1 := hy.below hb1)
      | (go_at_call_of 46 (Value.slice A' m d); refine (digits_any _ _ _ _ ys hy1 (by omega)).mono ?_; rintro e w2 ⟨A2, n2, c2, rfl, hn2, ho2, hb2⟩; have h5 : n2 < n1 := by { have := HL.out; rw [ho1.len, ho2.len] at this; exact this }; have h6 : ((n1 : Int) != (n2 : Int)) = true := by { simp; omega }))
    go_ret
    refine ⟨ret1 ?_, hb1.trans (hb2.mono hb1.size)⟩
    rw [cmpI_gt]
    rw [← hvx.out, ← hvy.out]
    exact lt_of_len (digs_dg _) (digs_dg _) (digs_nn _) HL.out
end Go.Proofs.Ytbjhfnkdflnnoaa
