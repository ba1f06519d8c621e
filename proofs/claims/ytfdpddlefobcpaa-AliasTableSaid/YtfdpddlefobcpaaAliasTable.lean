/-
  PROVED: the statement AliasTable (tombolalaw11.AliasTable) about the landed commit: for every input the law returns true and leaves its arguments as they were. Conditions: none beyond those that the given row itself prints.
-/
import Derived.Test.YtfdpddlefobcpaaRows
import Derived.WalkKit
import Derived.ProofKit
import Derived.OpenShut
import Derived.RowKit3
import Derived.Test.YtfdpddlefobcpaaGFrame
import Derived.Test.YtfdpddlefobcpaaAliAwake
import Derived.Test.YtfdpddlefobcpaaI64Open
namespace Go.Proofs.Ytfdpddlefobcpaa.aliasTable
open Go.ChangeShapes Go.WideShapes Go.ChangeAt Go.RowKit
set_option linter.unusedVariables false
set_option linter.unusedSimpArgs false
set_option maxRecDepth 20000
open N
theorem own : ownKnob Try.prog.godebug = none := by kernel_rfl

set_option maxRecDepth 100000 in
set_option maxHeartbeats 40000000 in
theorem walk (w : World) (A0 : Option Addr) (n0 c0 : Nat) (xs0 : List Int) (h0 : Il w A0 n0 c0 xs0) (a1 : Int) (w1 : (Lit.int .i64 a1).wf = true) :
    Calls Try.prog 4 #[.slice A0 n0 c0, .int .i64 a1] w fun e w' => e = .returned (.bool true) ∧ Below w.heap.size w w' := by
  have HI := Lib.hid h0
  have HLN := Lib.hid h0.len
  clear h0
  by_cases h8 : 100 < n0
  · have h9 : (100 : Int) < (n0 : Int) := by omega
    go_enter Try.func4, Try.ntmps4
    go_wp2_with (go_at_call 6; refine (awake11 _).mono ?_; rintro e w1 ⟨rfl, hb1⟩; have HB := Lib.hid hb1; clear hb1)
    go_ret
    exact ⟨rfl, HB.out⟩
  · have h9 : ¬ (100 : Int) < (n0 : Int) := by omega
    by_cases hm : mayW xs0 = 0
    · rcases (show a1 < 0 ∨ ¬ a1 < 0 by omega) with hr | hr
      · have HM := Lib.hid hm
        have HW := Lib.hid (mayW_zero.1 hm)
        clear hm
        obtain ⟨s, hs⟩ : ∃ s, pre xs0 xs0.length = s := ⟨_, rfl⟩
        have HS := Lib.hid hs
        have HTAB := altab_tab HW.out
        have hs0 := HW.out.pos
        have hs1 := (HW.out.le (Nat.le_refl _)).2.2
        rw [hs] at hs0 hs1
        rw [hs, HLN.out] at HTAB
        have HTB := Lib.hid HTAB
        clear HTAB hs
        have hr0 : a1 < 0 := hr
        go_enter Try.func4, Try.ntmps4
        go_wp2_with (first
          | (go_at_call 6; refine (awake11 _).mono ?_; rintro e w1 ⟨rfl, hb1⟩; have HB := Lib.hid hb1; clear hb1)
          | (go_at_call 7; refine (anew_ok (HI.out.below HB.out) HM.out).mono ?_; rintro e w2 ⟨t, g1, g2, rfl, hT, _, _, _, hb2⟩; have HT := Lib.hid hT; have HB2 := Lib.hid (HB.out.trans (hb2.mono HB.out.size)); clear hT hb2)
          | fail)
        go_loop [7, 8] (fun low i => ∃ k : Nat, k ≤ n0 ∧ low = .int .i64 (cutsN (cutA xs0) s k : Nat) ∧ i = .int .i64 k) (fun _ i => n0 - (intOf i).toNat)
        case atStart => exact ⟨0, Nat.zero_le _, rfl, rfl⟩
        case round =>
          obtain ⟨k, hk, rfl, rfl⟩ := hrel
          by_cases hlt : k < n0
          · obtain ⟨c0, c1, c2, c3⟩ := HTB.out.cut k hlt
            have hstep : cutsN (cutA xs0) s (k + 1) = cutsN (cutA xs0) s k + (if cutA xs0 k < s then 1 else 0) := rfl
            have hlow := cutsN_le (cutA xs0) s k
            obtain ⟨m, hm⟩ : ∃ m, cutsN (cutA xs0) s k = m := ⟨_, rfl⟩
            obtain ⟨c, hc⟩ : ∃ c, cutA xs0 k = c := ⟨_, rfl⟩
            obtain ⟨o, ho⟩ : ∃ o, othA xs0 k = o := ⟨_, rfl⟩
            rw [hm, hc] at hstep
            rw [hm] at hlow
            rw [hc] at c0 c1 c3
            rw [ho] at c2 c3
            rw [hm]
            have HKL := Lib.hid (show k < xs0.length by rw [HLN.out]; exact hlt)
            have HC := Lib.hid hc
            have HO := Lib.hid (show ((othA xs0 k : Nat) : Int) = (o : Int) by rw [ho])
            have HPK := Lib.hid (show pkA (cutA xs0) (othA xs0) k a1 = if a1 < c then k else o by unfold pkA; rw [hc, ho])
            have HN9 := Lib.hid (show n0 ≤ 64 by have := HW.out.l1; rw [HLN.out] at this; exact this)
            have d0 : ¬ c < 0 := by omega
            have d1 : ¬ s < c := by omega
            have d2 : ¬ (o : Int) < 0 := by omega
            have d3 : ¬ (n0 : Int) ≤ (o : Int) := by omega
            clear hm hc ho
            by_cases hcs : c = s
            · obtain rfl : o = k := c3.1 hcs
              subst hcs
              have d5 : ¬ c < c := by omega
              rw [if_neg d5, Nat.add_zero] at hstep
              have HST := Lib.hid hstep
              clear hstep c3
              go_wp2_with (first
                | (go_at_call 11; refine (ta_cut HT.out HKL.out HC.out rfl).mono ?_; rintro e wx ⟨rfl, rfl⟩)
                | (go_at_call 12; refine (ta_oth HT.out HKL.out HO.out rfl).mono ?_; rintro e wx ⟨rfl, rfl⟩)
                | (go_at_call 9; refine (ta_sum HT.out HS.out).mono ?_; rintro e wx ⟨rfl, rfl⟩))
              go_round
              case rel => exact ⟨o + 1, hlt, by rw [HST.out]; rfl, by go_num⟩
              case measure => simp [intOf]; omega
            · have d4 : ¬ (o : Int) = (k : Int) := fun e => hcs (c3.2 (by omega))
              have d5 : c < s := by omega
              have d10 : (c == s) = false := beq_eq_false_iff_ne.2 hcs
              have d11 : ((o : Int) == (k : Int)) = false := beq_eq_false_iff_ne.2 d4
              rw [if_pos d5] at hstep
              have d6 : IntKind.i64.wrap ((m : Int) + 1) = ((m + 1 : Nat) : Int) := by have := HN9.out; rw [IntKind.wrap_i64]; omega
              have HST := Lib.hid hstep
              clear hstep c3
              go_wp2_with (first
                | (go_at_call 11; refine (ta_cut HT.out HKL.out HC.out rfl).mono ?_; rintro e wx ⟨rfl, rfl⟩)
                | (go_at_call 12; refine (ta_oth HT.out HKL.out HO.out rfl).mono ?_; rintro e wx ⟨rfl, rfl⟩)
                | (go_at_call 9; refine (ta_sum HT.out HS.out).mono ?_; rintro e wx ⟨rfl, rfl⟩))
              go_round
              case rel => exact ⟨k + 1, hlt, by rw [HST.out]; go_num, by go_num⟩
              case measure => simp [intOf]; omega
          · obtain rfl : k = n0 := by omega
            have hfin : cutsN (cutA xs0) s k < k := by
              obtain ⟨j, hj, hcj⟩ := HTB.out.some
              exact cutsN_lt hj hcj
            obtain ⟨m, hm⟩ : ∃ m, cutsN (cutA xs0) s k = m := ⟨_, rfl⟩
            rw [hm] at hfin
            have hfi : (m : Int) < (k : Int) := by omega
            rw [hm]
            clear hm
            go_wp2
            go_ret
            exact ⟨rfl, HB2.out⟩
      · by_cases hr2 : a1 < pre xs0 xs0.length
        · have HM := Lib.hid hm
          have HW := Lib.hid (mayW_zero.1 hm)
          clear hm
          obtain ⟨s, hs⟩ : ∃ s, pre xs0 xs0.length = s := ⟨_, rfl⟩
          have HS := Lib.hid hs
          have HTAB := altab_tab HW.out
          have hs0 := HW.out.pos
          have hs1 := (HW.out.le (Nat.le_refl _)).2.2
          rw [hs] at hs0 hs1
          rw [hs, HLN.out] at HTAB
          have HTB := Lib.hid HTAB
          clear HTAB hs
          have hr0 : ¬ a1 < 0 := by omega
          have hr1 : ¬ s ≤ a1 := by have := HS.out; omega
          have HR := Lib.hid (show 0 ≤ a1 ∧ a1 < pre xs0 xs0.length by rw [HS.out]; omega)
          clear hr
          go_enter Try.func4, Try.ntmps4
          go_wp2_with (first
            | (go_at_call 6; refine (awake11 _).mono ?_; rintro e w1 ⟨rfl, hb1⟩; have HB := Lib.hid hb1; clear hb1)
            | (go_at_call 7; refine (anew_ok (HI.out.below HB.out) HM.out).mono ?_; rintro e w2 ⟨t, g1, g2, rfl, hT, _, _, _, hb2⟩; have HT := Lib.hid hT; have HB2 := Lib.hid (HB.out.trans (hb2.mono HB.out.size)); clear hT hb2)
            | fail)
          go_loop [7, 8] (fun low i => ∃ k : Nat, k ≤ n0 ∧ low = .int .i64 (cutsN (cutA xs0) s k : Nat) ∧ i = .int .i64 k) (fun _ i => n0 - (intOf i).toNat)
          case atStart => exact ⟨0, Nat.zero_le _, rfl, rfl⟩
          case round =>
            obtain ⟨k, hk, rfl, rfl⟩ := hrel
            by_cases hlt : k < n0
            · obtain ⟨c0, c1, c2, c3⟩ := HTB.out.cut k hlt
              have hstep : cutsN (cutA xs0) s (k + 1) = cutsN (cutA xs0) s k + (if cutA xs0 k < s then 1 else 0) := rfl
              have hlow := cutsN_le (cutA xs0) s k
              obtain ⟨m, hm⟩ : ∃ m, cutsN (cutA xs0) s k = m := ⟨_, rfl⟩
              obtain ⟨c, hc⟩ : ∃ c, cutA xs0 k = c := ⟨_, rfl⟩
              obtain ⟨o, ho⟩ : ∃ o, othA xs0 k = o := ⟨_, rfl⟩
              rw [hm, hc] at hstep
              rw [hm] at hlow
              rw [hc] at c0 c1 c3
              rw [ho] at c2 c3
              rw [hm]
              have HKL := Lib.hid (show k < xs0.length by rw [HLN.out]; exact hlt)
              have HC := Lib.hid hc
              have HO := Lib.hid (show ((othA xs0 k : Nat) : Int) = (o : Int) by rw [ho])
              have HPK := Lib.hid (show pkA (cutA xs0) (othA xs0) k a1 = if a1 < c then k else o by unfold pkA; rw [hc, ho])
              have HN9 := Lib.hid (show n0 ≤ 64 by have := HW.out.l1; rw [HLN.out] at this; exact this)
              have d0 : ¬ c < 0 := by omega
              have d1 : ¬ s < c := by omega
              have d2 : ¬ (o : Int) < 0 := by omega
              have d3 : ¬ (n0 : Int) ≤ (o : Int) := by omega
              clear hm hc ho
              by_cases hcs : c = s
              · obtain rfl : o = k := c3.1 hcs
                subst hcs
                have d5 : ¬ c < c := by omega
                rw [if_neg d5, Nat.add_zero] at hstep
                have HST := Lib.hid hstep
                clear hstep c3
                have d7 : a1 < c := by omega
                have HPV := Lib.hid (show ((pkA (cutA xs0) (othA xs0) o a1 : Nat) : Int) = (o : Int) by rw [HPK.out, if_pos d7])
                go_wp2_with (first
                  | (go_at_call 11; refine (ta_cut HT.out HKL.out HC.out rfl).mono ?_; rintro e wx ⟨rfl, rfl⟩)
                  | (go_at_call 12; refine (ta_oth HT.out HKL.out HO.out rfl).mono ?_; rintro e wx ⟨rfl, rfl⟩)
                  | (go_at_call 9; refine (ta_sum HT.out HS.out).mono ?_; rintro e wx ⟨rfl, rfl⟩)
                  | (go_at_call 16; refine (ta_pick HT.out HKL.out HR.out HPV.out rfl).mono ?_; rintro e wx ⟨rfl, rfl⟩))
                go_round
                case rel => exact ⟨o + 1, hlt, by rw [HST.out]; rfl, by go_num⟩
                case measure => simp [intOf]; omega
              · have d4 : ¬ (o : Int) = (k : Int) := fun e => hcs (c3.2 (by omega))
                have d5 : c < s := by omega
                have d10 : (c == s) = false := beq_eq_false_iff_ne.2 hcs
                have d11 : ((o : Int) == (k : Int)) = false := beq_eq_false_iff_ne.2 d4
                rw [if_pos d5] at hstep
                have d6 : IntKind.i64.wrap ((m : Int) + 1) = ((m + 1 : Nat) : Int) := by have := HN9.out; rw [IntKind.wrap_i64]; omega
                have HST := Lib.hid hstep
                clear hstep c3
                by_cases hpk : a1 < c
                · have d7 : a1 < c := hpk
                  have HPV := Lib.hid (show ((pkA (cutA xs0) (othA xs0) k a1 : Nat) : Int) = (k : Int) by rw [HPK.out, if_pos d7])
                  go_wp2_with (first
                    | (go_at_call 11; refine (ta_cut HT.out HKL.out HC.out rfl).mono ?_; rintro e wx ⟨rfl, rfl⟩)
                    | (go_at_call 12; refine (ta_oth HT.out HKL.out HO.out rfl).mono ?_; rintro e wx ⟨rfl, rfl⟩)
                    | (go_at_call 9; refine (ta_sum HT.out HS.out).mono ?_; rintro e wx ⟨rfl, rfl⟩)
                    | (go_at_call 16; refine (ta_pick HT.out HKL.out HR.out HPV.out rfl).mono ?_; rintro e wx ⟨rfl, rfl⟩))
                  go_round
                  case rel => exact ⟨k + 1, hlt, by rw [HST.out]; go_num, by go_num⟩
                  case measure => simp [intOf]; omega
                · have d7 : ¬ a1 < c := hpk
                  have HPV := Lib.hid (show ((pkA (cutA xs0) (othA xs0) k a1 : Nat) : Int) = (o : Int) by rw [HPK.out, if_neg d7])
                  have d8 : c ≤ a1 := by omega
                  go_wp2_with (first
                    | (go_at_call 11; refine (ta_cut HT.out HKL.out HC.out rfl).mono ?_; rintro e wx ⟨rfl, rfl⟩)
                    | (go_at_call 12; refine (ta_oth HT.out HKL.out HO.out rfl).mono ?_; rintro e wx ⟨rfl, rfl⟩)
                    | (go_at_call 9; refine (ta_sum HT.out HS.out).mono ?_; rintro e wx ⟨rfl, rfl⟩)
                    | (go_at_call 16; refine (ta_pick HT.out HKL.out HR.out HPV.out rfl).mono ?_; rintro e wx ⟨rfl, rfl⟩))
                  go_round
                  case rel => exact ⟨k + 1, hlt, by rw [HST.out]; go_num, by go_num⟩
                  case measure => simp [intOf]; omega
            · obtain rfl : k = n0 := by omega
              have hfin : cutsN (cutA xs0) s k < k := by
                obtain ⟨j, hj, hcj⟩ := HTB.out.some
                exact cutsN_lt hj hcj
              obtain ⟨m, hm⟩ : ∃ m, cutsN (cutA xs0) s k = m := ⟨_, rfl⟩
              rw [hm] at hfin
              have hfi : (m : Int) < (k : Int) := by omega
              rw [hm]
              clear hm
              go_wp2
              go_ret
              exact ⟨rfl, HB2.out⟩
        · have HM := Lib.hid hm
          have HW := Lib.hid (mayW_zero.1 hm)
          clear hm
          obtain ⟨s, hs⟩ : ∃ s, pre xs0 xs0.length = s := ⟨_, rfl⟩
          have HS := Lib.hid hs
          have HTAB := altab_tab HW.out
          have hs0 := HW.out.pos
          have hs1 := (HW.out.le (Nat.le_refl _)).2.2
          rw [hs] at hs0 hs1
          rw [hs, HLN.out] at HTAB
          have HTB := Lib.hid HTAB
          clear HTAB hs
          have hr0 : ¬ a1 < 0 := by omega
          have hr1 : s ≤ a1 := by have := HS.out; omega
          clear hr
          go_enter Try.func4, Try.ntmps4
          go_wp2_with (first
            | (go_at_call 6; refine (awake11 _).mono ?_; rintro e w1 ⟨rfl, hb1⟩; have HB := Lib.hid hb1; clear hb1)
            | (go_at_call 7; refine (anew_ok (HI.out.below HB.out) HM.out).mono ?_; rintro e w2 ⟨t, g1, g2, rfl, hT, _, _, _, hb2⟩; have HT := Lib.hid hT; have HB2 := Lib.hid (HB.out.trans (hb2.mono HB.out.size)); clear hT hb2)
            | fail)
          go_loop [7, 8] (fun low i => ∃ k : Nat, k ≤ n0 ∧ low = .int .i64 (cutsN (cutA xs0) s k : Nat) ∧ i = .int .i64 k) (fun _ i => n0 - (intOf i).toNat)
          case atStart => exact ⟨0, Nat.zero_le _, rfl, rfl⟩
          case round =>
            obtain ⟨k, hk, rfl, rfl⟩ := hrel
            by_cases hlt : k < n0
            · obtain ⟨c0, c1, c2, c3⟩ := HTB.out.cut k hlt
              have hstep : cutsN (cutA xs0) s (k + 1) = cutsN (cutA xs0) s k + (if cutA xs0 k < s then 1 else 0) := rfl
              have hlow := cutsN_le (cutA xs0) s k
              obtain ⟨m, hm⟩ : ∃ m, cutsN (cutA xs0) s k = m := ⟨_, rfl⟩
              obtain ⟨c, hc⟩ : ∃ c, cutA xs0 k = c := ⟨_, rfl⟩
              obtain ⟨o, ho⟩ : ∃ o, othA xs0 k = o := ⟨_, rfl⟩
              rw [hm, hc] at hstep
              rw [hm] at hlow
              rw [hc] at c0 c1 c3
              rw [ho] at c2 c3
              rw [hm]
              have HKL := Lib.hid (show k < xs0.length by rw [HLN.out]; exact hlt)
              have HC := Lib.hid hc
              have HO := Lib.hid (show ((othA xs0 k : Nat) : Int) = (o : Int) by rw [ho])
              have HPK := Lib.hid (show pkA (cutA xs0) (othA xs0) k a1 = if a1 < c then k else o by unfold pkA; rw [hc, ho])
              have HN9 := Lib.hid (show n0 ≤ 64 by have := HW.out.l1; rw [HLN.out] at this; exact this)
              have d0 : ¬ c < 0 := by omega
              have d1 : ¬ s < c := by omega
              have d2 : ¬ (o : Int) < 0 := by omega
              have d3 : ¬ (n0 : Int) ≤ (o : Int) := by omega
              clear hm hc ho
              by_cases hcs : c = s
              · obtain rfl : o = k := c3.1 hcs
                subst hcs
                have d5 : ¬ c < c := by omega
                rw [if_neg d5, Nat.add_zero] at hstep
                have HST := Lib.hid hstep
                clear hstep c3
                go_wp2_with (first
                  | (go_at_call 11; refine (ta_cut HT.out HKL.out HC.out rfl).mono ?_; rintro e wx ⟨rfl, rfl⟩)
                  | (go_at_call 12; refine (ta_oth HT.out HKL.out HO.out rfl).mono ?_; rintro e wx ⟨rfl, rfl⟩)
                  | (go_at_call 9; refine (ta_sum HT.out HS.out).mono ?_; rintro e wx ⟨rfl, rfl⟩))
                go_round
                case rel => exact ⟨o + 1, hlt, by rw [HST.out]; rfl, by go_num⟩
                case measure => simp [intOf]; omega
              · have d4 : ¬ (o : Int) = (k : Int) := fun e => hcs (c3.2 (by omega))
                have d5 : c < s := by omega
                have d10 : (c == s) = false := beq_eq_false_iff_ne.2 hcs
                have d11 : ((o : Int) == (k : Int)) = false := beq_eq_false_iff_ne.2 d4
                rw [if_pos d5] at hstep
                have d6 : IntKind.i64.wrap ((m : Int) + 1) = ((m + 1 : Nat) : Int) := by have := HN9.out; rw [IntKind.wrap_i64]; omega
                have HST := Lib.hid hstep
                clear hstep c3
                go_wp2_with (first
                  | (go_at_call 11; refine (ta_cut HT.out HKL.out HC.out rfl).mono ?_; rintro e wx ⟨rfl, rfl⟩)
                  | (go_at_call 12; refine (ta_oth HT.out HKL.out HO.out rfl).mono ?_; rintro e wx ⟨rfl, rfl⟩)
                  | (go_at_call 9; refine (ta_sum HT.out HS.out).mono ?_; rintro e wx ⟨rfl, rfl⟩))
                go_round
                case rel => exact ⟨k + 1, hlt, by rw [HST.out]; go_num, by go_num⟩
                case measure => simp [intOf]; omega
            · obtain rfl : k = n0 := by omega
              have hfin : cutsN (cutA xs0) s k < k := by
                obtain ⟨j, hj, hcj⟩ := HTB.out.some
                exact cutsN_lt hj hcj
              obtain ⟨m, hm⟩ : ∃ m, cutsN (cutA xs0) s k = m := ⟨_, rfl⟩
              rw [hm] at hfin
              have hfi : (m : Int) < (k : Int) := by omega
              rw [hm]
              clear hm
              go_wp2
              go_ret
              exact ⟨rfl, HB2.out⟩
    · obtain ⟨z, hz1, hz2, _, _⟩ := mayW_ways (fun e => hm (mayW_zero.2 e))
      have HM := Lib.hid hz1
      have HZ := Lib.hid hz2
      have hzb : ¬ z = 0 := hz2
      clear hz1 hm
      go_enter Try.func4, Try.ntmps4
      go_wp2_with (first
        | (go_at_call 6; refine (awake11 _).mono ?_; rintro e w1 ⟨rfl, hb1⟩; have HB := Lib.hid hb1; clear hb1)
        | (go_at_call 7; refine (anew_no (HI.out.below HB.out) HM.out HZ.out).mono ?_; rintro e w2 ⟨rfl, hb2⟩; have HB2 := Lib.hid (HB.out.trans (hb2.mono HB.out.size)); clear hb2))
      go_ret
      exact ⟨rfl, HB2.out⟩
set_option maxRecDepth 100000 in
theorem lifted (os : Os) (started : os.Started) (H : Type) (enc : TypeId × Value → H) :
    ReturnsInHanded {} Try.checked os 4 .any (Rows.aliasTableSpec.pre6 enc Try.prog Try.f4 Rows.aliasTableRow.domain false) (Rows.aliasTableSpec.post enc Try.prog Try.f4 false true false false) := by
  refine returnsInHanded_of_change (C := Try.checked) own started (by kernel_rfl) Try.func4
    (ChangeSpec.witness6 (enc := enc) (C := Try.checked) false ⟨#[], #[.slice none 0 0, .int .i64 0], []⟩ 8 (by kernel_rfl) (by kernel_rfl) (by kernel_rfl) (by kernel_rfl)) ?_
  intro W base args ds gs before hval0 hW hcnd _
  have hval : ∀ (j : Nat) t v, Try.f4.params[j]? = some t → args[j]? = some v → Value.okWide Try.prog W .any base t v := hval0
  have hW' := hW
  obtain ⟨p, q, hA0, hV, hpq, hfz, hnd⟩ := hW
  have hA : DataW.TrodAll enc Try.prog W 0 (fun _ => true) true Try.f4.params.toList args.toList ds p := hA0
  rw [Try.params4] at hA hval
  obtain ⟨v0, vs0, d0, ds0, p0, q0, hargs, rfl, rfl, h0, r0⟩ := trodAll_cons hA
  obtain ⟨v1, vs1, d1, ds1, p1, q1, rfl, rfl, rfl, h1, r1⟩ := trodAll_cons r0
  obtain ⟨rfl, rfl, rfl⟩ := trodAll_nil r1
  obtain rfl : args = #[v0, v1] := by cases args; simp_all
  obtain ⟨rfl, rfl⟩ := trodVars_none hV
  obtain ⟨A0, n0, c0, xs0, rfl, s0⟩ := open_i64s_ (hval 0 22 v0 rfl rfl) h0
  obtain ⟨a1, rfl, rfl, rfl, w1⟩ := open_int Try.underlying2 (hval 1 2 v1 rfl rfl) h1
  refine (walk W A0 n0 c0 xs0 s0 a1 w1).mono fun e W' ⟨he, hb⟩ => ?_
  subst he
  exact ⟨_, rfl, Frame.close laidOut hW' rfl rfl rfl Try.underlying4 (fun t ht => by rw [Try.params4] at ht; simp at ht; rcases ht with rfl | rfl <;> exact ⟨by kernel_rfl, of_decide_eq_true (by kernel_rfl)⟩) hb⟩
theorem over : Rows.aliasTableRow.holds Try.pinned (OpenSpec.ofChange Rows.aliasTableSpec) :=
  OpenClaim.holds_of_wide 4 Try.f4 rfl rfl rfl rfl rfl rfl rfl ⟨rfl, rfl, rfl, rfl, rfl⟩ rfl rfl rfl rfl rfl (by kernel_rfl) Try.func4 (by kernel_rfl)
    (of_decide_eq_true (by kernel_rfl)) (by unfold Func.isWrapper; first | (rw [if_pos (by decide +kernel)]; kernel_rfl) | (rw [if_neg (by decide +kernel)]; exact ⟨rfl, rfl⟩))
    (fun os started H enc _ => lifted os started H enc)
/-- the statement -/
theorem proved : Rows.AliasTableSaid :=
  over
#print axioms proved
end Go.Proofs.Ytfdpddlefobcpaa.aliasTable
