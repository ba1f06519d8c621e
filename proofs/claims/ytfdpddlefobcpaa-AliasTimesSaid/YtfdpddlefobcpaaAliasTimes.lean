/-
  PROVED: the statement AliasTimes (tombolalaw11.AliasTimes) about the landed commit: for every input the law returns true and leaves its arguments as they were. Conditions: none beyond those that the given row itself prints.
-/
import Derived.Test.YtfdpddlefobcpaaRows
import Derived.WalkKit
import Derived.ProofKit
import Derived.OpenShut
import Derived.RowKit3
import Derived.Test.YtfdpddlefobcpaaGFrame
import Derived.Test.YtfdpddlefobcpaaAliAwake
import Derived.Test.YtfdpddlefobcpaaI64Open
import Derived.Test.YtfdpddlefobcpaaFreApp
namespace Go.Proofs.Ytfdpddlefobcpaa.aliasTimes
open Go.ChangeShapes Go.WideShapes Go.ChangeAt Go.RowKit
set_option linter.unusedVariables false
set_option linter.unusedSimpArgs false
set_option maxRecDepth 20000
open N
theorem own : ownKnob Try.prog.godebug = none := by kernel_rfl
theorem mayW_map11 {ws : List Int} {b : Int} (hok : okW ws) (hb : 0 < b) : mayW (ws.map (· * b)) = mayW ws ∨ mayW (ws.map (· * b)) = 1 := by
  by_cases h0 : ws.length = 0
  · left; unfold mayW; rw [List.length_map, if_pos h0, if_pos h0]
  by_cases h1 : 64 < ws.length
  · left; unfold mayW; rw [List.length_map, if_neg h0, if_neg h0, if_pos h1, if_pos h1]
  by_cases h2 : okW (ws.map (· * b))
  · left
    have e : pre (ws.map (· * b)) ws.length = 0 ↔ pre ws ws.length = 0 := by
      rw [pre_map]
      exact ⟨fun e => (Int.mul_eq_zero.1 e).resolve_right (by omega), fun e => by rw [e, Int.zero_mul]⟩
    unfold mayW
    have n2 : ¬ ¬ okW (ws.map (· * b)) := fun x => x h2
    have n3 : ¬ ¬ okW ws := fun x => x hok
    rw [List.length_map, if_neg h0, if_neg h0, if_neg h1, if_neg h1, if_neg n2, if_neg n3]
    by_cases h3 : pre ws ws.length = 0
    · rw [if_pos h3, if_pos (e.2 h3)]
    · rw [if_neg h3, if_neg (fun x => h3 (e.1 x))]
  · right; unfold mayW; rw [List.length_map, if_neg h0, if_neg h1, if_pos h2]
theorem il_one11 {w : World} {x : Int} (hx : -9223372036854775808 ≤ x ∧ x ≤ 9223372036854775807) : Il (w.alloc (.cells #[.int .i64 x] 2)) (some ⟨w.heap.size, 0, none⟩) 1 1 [x] := by
  refine Il.of_blk11 (vs := [.int .i64 x]) (ty := 2) (heap_alloc_new w _) rfl (by decide) (by decide) (fun v hv => ?_) ?_
  · simp only [List.mem_cons, List.not_mem_nil, or_false] at hv
    subst hv
    exact hx
  · intro j hj
    match j, hj with
    | 0, _ => rfl
set_option maxRecDepth 100000 in
set_option maxHeartbeats 8000000 in
theorem walk (w : World) (A0 : Option Addr) (n0 c0 : Nat) (xs0 : List Int) (h0 : Il w A0 n0 c0 xs0) (a1 : Int) (w1 : (Lit.int .u8 a1).wf = true) :
    Calls Try.prog 5 #[.slice A0 n0 c0, .int .u8 a1] w fun e w' => e = .returned (.bool true) ∧ Below w.heap.size w w' := by
  have HI := Lib.hid h0
  have HLN := Lib.hid h0.len
  clear h0
  by_cases h8 : 100 < n0
  · have h9 : (100 : Int) < (n0 : Int) := by omega
    go_enter Try.func5, Try.ntmps5
    go_wp2_with (go_at_call 6; refine (awake11 _).mono ?_; rintro e w1 ⟨rfl, hb1⟩; have HB := Lib.hid hb1; clear hb1)
    go_ret
    exact ⟨rfl, HB.out⟩
  · have h9 : ¬ (100 : Int) < (n0 : Int) := by omega
    have hb1 := bounds_u8 w1
    obtain ⟨r0, hr0⟩ : ∃ r0 : Int, a1 % 100 = r0 := ⟨_, rfl⟩
    have htm : a1.tmod 100 = r0 := by rw [Int.tmod_eq_emod_of_nonneg hb1.1]; exact hr0
    obtain ⟨b, hb⟩ : ∃ b : Int, 1 + r0 = b := ⟨_, rfl⟩
    have hbb : 0 < b ∧ b ≤ 100 := by omega
    have hwr : IntKind.i64.wrap r0 = r0 := by rw [IntKind.wrap_i64]; omega
    have hwr2 : IntKind.i64.wrap (1 + r0) = b := by rw [IntKind.wrap_i64]; omega
    have HBB := Lib.hid hbb
    obtain ⟨ys, hys⟩ : ∃ ys, xs0.map (· * b) = ys := ⟨_, rfl⟩
    have HYS := Lib.hid hys
    have HYL := Lib.hid (show ys.length = n0 by rw [← hys, List.length_map]; exact HLN.out)
    have HYG := Lib.hid (show ∀ (k : Nat) (x : Int), xs0[k]? = some x → ys[k]? = some (x * b) from fun k x hx => by rw [← hys, List.getElem?_map, hx]; rfl)
    have HN0 := Lib.hid (show n0 ≤ 100 by omega)
    clear hys hr0 hb
    go_enter Try.func5, Try.ntmps5
    go_wp2_with (first
      | (go_at_call 6; refine (awake11 _).mono ?_; rintro e w1 ⟨rfl, hb1⟩; have HB := Lib.hid hb1; clear hb1)
      | fail)
    go_loopw [6, 7] (fun mo i wr => ∃ (k : Nat) (A : Option Addr) (c : Nat), k ≤ n0 ∧ okTo xs0 k ∧ mo = .slice A k c ∧ i = .int .i64 k ∧ OwnI wr w.heap.size A k c (ys.take k) ∧ Below w.heap.size w wr) (fun _ i _ => n0 - (intOf i).toNat)
    case atStart => exact ⟨0, none, 0, Nat.zero_le _, okTo.zero, rfl, rfl, by rw [List.take_zero]; exact ⟨World.ownsRow_nil _ _ _ _, fun x hx => by cases hx⟩, HB.out⟩
    case round =>
      obtain ⟨k, A2, c2, hk, hok, rfl, rfl, ho, hbw⟩ := hrel
      clear HB
      have HB := Lib.hid hbw
      have HO := Lib.hid ho
      clear hbw ho
      by_cases hlt : k < n0
      · obtain ⟨ad, x, rfl, hx, hwf, _⟩ := HI.out.one hlt
        have hcw : wr.cell? (ad.add k) = some (.int .i64 x) := (HI.out.below HB.out).the hlt hx
        have j1 : (0 : Int) ≤ (k : Int) := by omega
        have j2 : (k : Int) < (n0 : Int) := by omega
        by_cases hbad : 0 ≤ x ∧ x ≤ 1048576
        · have HOK := Lib.hid (hok.succ hx hbad.1 hbad.2)
          have hy := HYG.out k x hx
          obtain ⟨p, hp⟩ : ∃ p, x * b = p := ⟨_, rfl⟩
          have hbb := HBB.out
          have hp0 : 0 ≤ p := by rw [← hp]; exact Int.mul_nonneg hbad.1 (by omega)
          have hp1 : p ≤ 1048576 * 100 := by rw [← hp]; exact Int.mul_le_mul hbad.2 (by omega) (by omega) (by decide)
          have hwp : IntKind.i64.wrap (b * x) = p := by rw [Int.mul_comm, hp, IntKind.wrap_i64]; omega
          rw [hp] at hy
          have hx2 : ¬ x < 0 := by omega
          have hx3 : ¬ 1048576 < x := by omega
          have HIL := Lib.hid (show Il (wr.alloc (.cells #[.int .i64 p] 2)) (some ⟨wr.heap.size, 0, none⟩) 1 1 [p] from il_one11 (by omega))
          have HOA := Lib.hid (show OwnI (wr.alloc (.cells #[.int .i64 p] 2)) w.heap.size A2 k c2 (ys.take k) from HO.out.below ((Below.refl _ wr).alloc (Nat.le_refl _) _))
          have HBA := Lib.hid (show Below w.heap.size w (wr.alloc (.cells #[.int .i64 p] 2)) from HB.out.alloc HB.out.size _)
          have HTK := Lib.hid (show ys.take k ++ [p] = ys.take (k + 1) by
            obtain ⟨hk2, e⟩ := List.getElem?_eq_some_iff.1 hy
            rw [List.take_succ_eq_append_getElem hk2, e])
          have HKN := Lib.hid (show k ≤ 8796093022208 by have := HN0.out; omega)
          clear hx hwf hbad hok hp hp0 hp1 hy hbb
          go_wp2_with (at_builtin; refine wp_app64 rfl _ _ rfl w.heap.size rfl HOA.out rfl HIL.out HKN.out (by decide) HBA.out.size ?_; intro A3 c3 w3 hown3 hb3; rw [HTK.out] at hown3; have HO3 := Lib.hid hown3; have HB3 := Lib.hid (HBA.out.trans hb3); clear hown3 hb3)
          go_roundw
          case rel => exact ⟨k + 1, A3, c3, hlt, HOK.out, rfl, by go_num, HO3.out, HB3.out⟩
          case measure => simp [intOf]; omega
        · rcases Int.lt_or_le x 0 with hx2 | hx2
          · clear hx hwf hbad hok
            go_wp2
            go_ret
            exact ⟨rfl, HB.out⟩
          · have hx3 : 1048576 < x := by omega
            have hx2 : ¬ x < 0 := by omega
            clear hx hwf hbad hok
            go_wp2
            go_ret
            exact ⟨rfl, HB.out⟩
      · obtain rfl : k = n0 := by omega
        have hokw : okW xs0 := by
          have := HLN.out
          exact okTo.all (by rw [this]; exact hok)
        have HOY := Lib.hid (show OwnI wr w.heap.size A2 k c2 ys by
          have h1 := HO.out
          rwa [List.take_of_length_le (by rw [HYL.out]; exact Nat.le_refl _)] at h1)
        clear HO hok
        by_cases hm : mayW xs0 = 0
        · have HM := Lib.hid hm
          have HW := Lib.hid (mayW_zero.1 hm)
          clear hm
          have hmy : mayW ys = 1 ∨ Wt ys := by rw [← HYS.out]; exact wt_map HW.out HBB.out.1 (by have := HBB.out; omega)
          rcases hmy with hmy | hmy
          · have HMY := Lib.hid hmy
            clear hmy
            go_wp2_with (first
              | (go_at_call 7; (with_reducible refine (anew_ok (HI.out.below HB.out) HM.out).mono ?_); rintro e w2 ⟨t, g1, g2, rfl, hT, _, _, _, hb2⟩; have HIY := Lib.hid (HOY.out.il.below hb2); have HB2 := Lib.hid (HB.out.trans (hb2.mono HB.out.size)); clear HOY hT hb2)
              | (go_at_call 7; (with_reducible refine (anew_no HIY.out HMY.out (by decide)).mono ?_); rintro e w3 ⟨rfl, hb3⟩; have HB3 := Lib.hid (HB2.out.trans (hb3.mono HB2.out.size)); clear hb3))
            go_ret
            exact ⟨rfl, HB3.out⟩
          · have HWY := Lib.hid hmy
            have HMY := Lib.hid (mayW_zero.2 hmy)
            clear hmy
            obtain ⟨s, hs⟩ : ∃ s, pre xs0 xs0.length = s := ⟨_, rfl⟩
            have hs1 := (HW.out.le (Nat.le_refl _)).2.2
            have hs0 := HW.out.pos
            rw [hs] at hs0 hs1
            have hbb := HBB.out
            obtain ⟨p, hp⟩ : ∃ p, b * s = p := ⟨_, rfl⟩
            have hpp : 0 ≤ p ∧ p ≤ 100 * 67108864 := by
              rw [← hp]
              exact ⟨Int.mul_nonneg (by omega) (by omega), Int.mul_le_mul (by omega) hs1 (by omega) (by decide)⟩
            have hwp : IntKind.i64.wrap (b * s) = p := by rw [hp, IntKind.wrap_i64]; omega
            have HS := Lib.hid hs
            have HSY := Lib.hid (show pre ys ys.length = p by rw [← HYS.out, List.length_map, pre_map, hs, Int.mul_comm, hp])
            have HTAB := altab_tab HW.out
            rw [hs, HLN.out] at HTAB
            have HTB := Lib.hid HTAB
            have hby := altab_by (ws := xs0) (b := b) hbb.1
            rw [HYS.out] at hby
            have HBY := Lib.hid hby
            have HS1 := Lib.hid hs1
            clear HTAB hby hs hp hpp hs0 hs1 hbb
            go_wp2_with (first
              | (go_at_call 7; (with_reducible refine (anew_ok (HI.out.below HB.out) HM.out).mono ?_); rintro e w2 ⟨t, g1, g2, rfl, hT, _, _, _, hb2⟩; have HIY := Lib.hid (HOY.out.il.below hb2); have HT := Lib.hid hT; have HB2 := Lib.hid (HB.out.trans (hb2.mono HB.out.size)); clear HOY hT hb2)
              | (go_at_call 7; (with_reducible refine (anew_ok HIY.out HMY.out).mono ?_); rintro e w3 ⟨u, f1, f2, rfl, hU, _, _, _, hb3⟩; have HU := Lib.hid hU; have HT2 := Lib.hid (HT.out.on hb3); have HB3 := Lib.hid (HB2.out.trans (hb3.mono HB2.out.size)); clear hU hb3)
              | fail)
            go_loop [12] (fun i => ∃ j : Nat, j ≤ k ∧ i = .int .i64 j) (fun i => k - (intOf i).toNat)
            case atStart => exact ⟨0, Nat.zero_le _, rfl⟩
            case round =>
              obtain ⟨j, hj, rfl⟩ := hrel
              by_cases hlt2 : j < k
              · obtain ⟨c, hc⟩ : ∃ c, cutA xs0 j = c := ⟨_, rfl⟩
                have hcb := HTB.out.cut j hlt2
                rw [hc] at hcb
                have hbb := HBB.out
                have hs1 := HS1.out
                obtain ⟨q, hq⟩ : ∃ q, b * c = q := ⟨_, rfl⟩
                have hqq : 0 ≤ q ∧ q ≤ 100 * 67108864 := by
                  rw [← hq]
                  exact ⟨Int.mul_nonneg (by omega) hcb.1, Int.mul_le_mul (by omega) (by omega) hcb.1 (by decide)⟩
                have hwq : IntKind.i64.wrap (b * c) = q := by rw [hq, IntKind.wrap_i64]; omega
                have HC := Lib.hid hc
                have HQ := Lib.hid (show cutA ys j = q by rw [HBY.out.1]; show b * cutA xs0 j = q; rw [hc, hq])
                obtain ⟨o, ho⟩ : ∃ o : Int, ((othA xs0 j : Nat) : Int) = o := ⟨_, rfl⟩
                have HO1 := Lib.hid ho
                have HO2 := Lib.hid (show ((othA ys j : Nat) : Int) = o by rw [HBY.out.2]; exact ho)
                have HJ1 := Lib.hid (show j < xs0.length by rw [HLN.out]; exact hlt2)
                have HJ2 := Lib.hid (show j < ys.length by rw [HYL.out]; exact hlt2)
                clear hc hcb hbb hs1 hq hqq ho
                go_wp2_with (first
              | (go_at_call 11; (with_reducible refine (ta_cut HT2.out HJ1.out HC.out rfl).mono ?_); rintro e wx ⟨rfl, rfl⟩)
              | (go_at_call 11; (with_reducible refine (ta_cut HU.out HJ2.out HQ.out rfl).mono ?_); rintro e wx ⟨rfl, rfl⟩)
              | (go_at_call 12; (with_reducible refine (ta_oth HT2.out HJ1.out HO1.out rfl).mono ?_); rintro e wx ⟨rfl, rfl⟩)
              | (go_at_call 12; (with_reducible refine (ta_oth HU.out HJ2.out HO2.out rfl).mono ?_); rintro e wx ⟨rfl, rfl⟩))
                go_round
                case rel => exact ⟨j + 1, hlt2, by go_num⟩
                case measure => simp [intOf]; omega
              · obtain rfl : j = k := by omega
                go_wp2_with (first
              | (go_at_call 9; (with_reducible refine (ta_sum HT2.out HS.out).mono ?_); rintro e wx ⟨rfl, rfl⟩)
              | (go_at_call 9; (with_reducible refine (ta_sum HU.out HSY.out).mono ?_); rintro e wx ⟨rfl, rfl⟩))
                go_ret
                exact ⟨rfl, HB3.out⟩
        · obtain ⟨z, hz1, hz2, _, _⟩ := mayW_ways (fun e => hm (mayW_zero.2 e))
          have HM := Lib.hid hz1
          have HZ := Lib.hid hz2
          have hzb : ¬ z = 0 := hz2
          clear hz1 hm
          have hmy : mayW ys = z ∨ mayW ys = 1 := by rw [← HYS.out, ← HM.out]; exact mayW_map11 hokw HBB.out.1
          obtain ⟨z2, hz2⟩ : ∃ z2, mayW ys = z2 := ⟨_, rfl⟩
          by_cases hzz : z2 = 0
          · exfalso
            rw [hz2] at hmy
            rcases hmy with e | e
            · exact HZ.out (e.symm.trans hzz)
            · omega
          have HMY := Lib.hid hz2
          have HZY := Lib.hid hzz
          rw [hz2] at hmy
          clear hz2
          have hw9 : z = z2 ∨ (¬ z = z2 ∧ z2 = 1) := by omega
          clear hmy
          rcases hw9 with rfl | ⟨hw9, rfl⟩
          · go_wp2_with (first
              | (go_at_call 7; (with_reducible refine (anew_no (HI.out.below HB.out) HM.out HZ.out).mono ?_); rintro e w2 ⟨rfl, hb2⟩; have HIY := Lib.hid (HOY.out.il.below hb2); have HB2 := Lib.hid (HB.out.trans (hb2.mono HB.out.size)); clear HOY hb2)
              | (go_at_call 7; (with_reducible refine (anew_no HIY.out HMY.out HZY.out).mono ?_); rintro e w3 ⟨rfl, hb3⟩; have HB3 := Lib.hid (HB2.out.trans (hb3.mono HB2.out.size)); clear hb3))
            go_ret
            refine ⟨?_, HB3.out⟩
            simp
          · go_wp2_with (first
              | (go_at_call 7; (with_reducible refine (anew_no (HI.out.below HB.out) HM.out HZ.out).mono ?_); rintro e w2 ⟨rfl, hb2⟩; have HIY := Lib.hid (HOY.out.il.below hb2); have HB2 := Lib.hid (HB.out.trans (hb2.mono HB.out.size)); clear HOY hb2)
              | (go_at_call 7; (with_reducible refine (anew_no HIY.out HMY.out HZY.out).mono ?_); rintro e w3 ⟨rfl, hb3⟩; have HB3 := Lib.hid (HB2.out.trans (hb3.mono HB2.out.size)); clear hb3))
            go_ret
            refine ⟨?_, HB3.out⟩
            simp
set_option maxRecDepth 100000 in
theorem lifted (os : Os) (started : os.Started) (H : Type) (enc : TypeId × Value → H) :
    ReturnsInHanded {} Try.checked os 5 .any (Rows.aliasTimesSpec.pre6 enc Try.prog Try.f5 Rows.aliasTimesRow.domain false) (Rows.aliasTimesSpec.post enc Try.prog Try.f5 false true false false) := by
  refine returnsInHanded_of_change (C := Try.checked) own started (by kernel_rfl) Try.func5
    (ChangeSpec.witness6 (enc := enc) (C := Try.checked) false ⟨#[], #[.slice none 0 0, .int .u8 0], []⟩ 8 (by kernel_rfl) (by kernel_rfl) (by kernel_rfl) (by kernel_rfl)) ?_
  intro W base args ds gs before hval0 hW hcnd _
  have hval : ∀ (j : Nat) t v, Try.f5.params[j]? = some t → args[j]? = some v → Value.okWide Try.prog W .any base t v := hval0
  have hW' := hW
  obtain ⟨p, q, hA0, hV, hpq, hfz, hnd⟩ := hW
  have hA : DataW.TrodAll enc Try.prog W 0 (fun _ => true) true Try.f5.params.toList args.toList ds p := hA0
  rw [Try.params5] at hA hval
  obtain ⟨v0, vs0, d0, ds0, p0, q0, hargs, rfl, rfl, h0, r0⟩ := trodAll_cons hA
  obtain ⟨v1, vs1, d1, ds1, p1, q1, rfl, rfl, rfl, h1, r1⟩ := trodAll_cons r0
  obtain ⟨rfl, rfl, rfl⟩ := trodAll_nil r1
  obtain rfl : args = #[v0, v1] := by cases args; simp_all
  obtain ⟨rfl, rfl⟩ := trodVars_none hV
  obtain ⟨A0, n0, c0, xs0, rfl, s0⟩ := open_i64s_ (hval 0 22 v0 rfl rfl) h0
  obtain ⟨a1, rfl, rfl, rfl, w1⟩ := open_int Try.underlying5 (hval 1 5 v1 rfl rfl) h1
  refine (walk W A0 n0 c0 xs0 s0 a1 w1).mono fun e W' ⟨he, hb⟩ => ?_
  subst he
  exact ⟨_, rfl, Frame.close laidOut hW' rfl rfl rfl Try.underlying4 (fun t ht => by rw [Try.params5] at ht; simp at ht; rcases ht with rfl | rfl <;> exact ⟨by kernel_rfl, of_decide_eq_true (by kernel_rfl)⟩) hb⟩
theorem over : Rows.aliasTimesRow.holds Try.pinned (OpenSpec.ofChange Rows.aliasTimesSpec) :=
  OpenClaim.holds_of_wide 5 Try.f5 rfl rfl rfl rfl rfl rfl rfl ⟨rfl, rfl, rfl, rfl, rfl⟩ rfl rfl rfl rfl rfl (by kernel_rfl) Try.func5 (by kernel_rfl)
    (of_decide_eq_true (by kernel_rfl)) (by unfold Func.isWrapper; first | (rw [if_pos (by decide +kernel)]; kernel_rfl) | (rw [if_neg (by decide +kernel)]; exact ⟨rfl, rfl⟩))
    (fun os started H enc _ => lifted os started H enc)
/-- the statement -/
theorem proved : Rows.AliasTimesSaid :=
  over
#print axioms proved
end Go.Proofs.Ytfdpddlefobcpaa.aliasTimes
