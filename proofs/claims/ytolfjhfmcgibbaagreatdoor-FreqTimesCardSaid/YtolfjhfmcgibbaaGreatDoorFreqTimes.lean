/-
  PROVED: the statement FreqTimes (tombolalaw10.FreqTimes) about the landed commit: for every input the law returns true and leaves its arguments as they were. Conditions: none beyond those that the given row itself prints.
-/
import Derived.Test.YtolfjhfmcgibbaaGreatDoorCards
import Derived.Test.YtolfjhfmcgibbaaGreatDoorTie
import Derived.LaidMore
import Derived.Lay
import Derived.SevenTiedAt
import Derived.Stop.Joined
import Derived.Test.YtolfjhfmcgibbaaGreatDoorRows
import Derived.WalkKit
import Derived.ProofKit
import Derived.OpenShut
import Derived.RowKit3
import Derived.Test.YtolfjhfmcgibbaaGreatDoorGFrame
import Derived.Test.YtolfjhfmcgibbaaGreatDoorFreState
import Derived.Test.YtolfjhfmcgibbaaGreatDoorFreApp
namespace Go.Proofs.YtolfjhfmcgibbaaGreatDoor.freqTimes
open Go.ChangeShapes Go.WideShapes Go.ChangeAt Go.RowKit
set_option linter.unusedVariables false
set_option linter.unusedSimpArgs false
set_option maxRecDepth 20000
open N
theorem own : ownKnob Tryz.prog.godebug = none := by kernel_rfl
theorem mkRat_scale {x s b : Int} (hb : 0 < b) (hs : 0 < s) : mkRat (x * b) (s * b).toNat = mkRat x s.toNat := by
  obtain ⟨c, rfl⟩ := Int.eq_ofNat_of_zero_le (Int.le_of_lt hb)
  obtain ⟨d, rfl⟩ := Int.eq_ofNat_of_zero_le (Int.le_of_lt hs)
  rw [show ((d : Int) * (c : Int)).toNat = d * c by rw [← Int.natCast_mul]; exact Int.toNat_natCast _, Int.toNat_natCast]
  exact Rat.mkRat_mul_right (by omega)
set_option maxRecDepth 100000 in
set_option maxHeartbeats 40000000 in
theorem walk (w : World) (A0 : Option Addr) (n0 c0 : Nat) (xs0 : List Int) (h0 : Il w A0 n0 c0 xs0) (a1 : Int) (w1 : (Lit.int .u8 a1).wf = true) :
    Calls Tryz.prog 7 #[.slice A0 n0 c0, .int .u8 a1] w fun e w' => e = .returned (.bool true) ∧ Below w.heap.size w w' := by
  have hS := Lib.hid (CS.start w)
  have hb1 := bounds_u8 w1
  have HI := Lib.hid h0
  clear h0
  by_cases hm : mayW xs0 = 0
  · have HM := Lib.hid hm
    have HW := Lib.hid (mayW_zero.1 hm)
    clear hm
    by_cases hz : a1 = 0
    · subst hz
      go_enter Tryz.func7, Tryz.ntmps7
      go_wp2_with fail
      go_at_call 11
      refine (new10_s hS.out (HI.out.below hS.out.bl) HM.out).mono ?_
      rintro e v1 ⟨t, g, rfl, h1⟩
      have h2 : CS w v1 [TB t g xs0.length, EN g xs0] := h1
      clear hS h1; have hS := Lib.hid h2; clear h2
      go_wp2_with fail
      go_at_call 10
      refine (awake10_s hS.out).mono ?_
      rintro e v2 ⟨rfl, h1⟩
      have h2 : CS w v2 [TB t g xs0.length, EN g xs0] := h1
      clear hS h1; have hS := Lib.hid h2; clear h2
      go_wp2
      go_ret
      exact ⟨rfl, hS.out.bl⟩
    · have hlen := HI.out.len
      have hn0 : 0 < n0 ∧ n0 ≤ 64 := by have h1 := HW.out.l0; have h2 := HW.out.l1; omega
      obtain ⟨ys, hys⟩ : ∃ ys, xs0.map (· * a1) = ys := ⟨_, rfl⟩
      have HYL := Lib.hid (show ys.length = xs0.length by rw [← hys, List.length_map])
      have HYG := Lib.hid (show ∀ (k : Nat) (x : Int), xs0[k]? = some x → ys[k]? = some (x * a1) from fun k x hx => by rw [← hys, List.getElem?_map, hx]; rfl)
      have HBY := Lib.hid (show 0 < a1 ∧ a1 ≤ 255 by omega)
      have hwb : IntKind.i64.wrap a1 = a1 := by rw [IntKind.wrap_i64]; omega
      have HWY := Lib.hid (show mayW ys = 1 ∨ Wt ys by rw [← hys]; exact wt_map HW.out HBY.out.1 HBY.out.2)
      have HPY := Lib.hid (show pre ys ys.length = pre xs0 xs0.length * a1 by rw [HYL.out, ← hys]; exact pre_map a1)
      have HLN := Lib.hid hlen
      clear hys hlen
      go_enter Tryz.func7, Tryz.ntmps7
      go_wp2_with fail
      go_at_call 11
      refine (new10_s hS.out (HI.out.below hS.out.bl) HM.out).mono ?_
      rintro e v1 ⟨t, g, rfl, h1⟩
      have h2 : CS w v1 [TB t g xs0.length, EN g xs0] := h1
      clear hS h1; have hS := Lib.hid h2; clear h2
      go_wp2_with fail
      go_at_call 10
      refine (awake10_s hS.out).mono ?_
      rintro e v2 ⟨rfl, h1⟩
      have h2 : CS w v2 [TB t g xs0.length, EN g xs0] := h1
      clear hS h1; have hS := Lib.hid h2; clear h2
      have HIA := Lib.hid ((HI.out.below hS.out.bl).below ((Below.refl _ v2).alloc (Nat.le_refl _) (.cells #[] 2)))
      go_wp2_with (first | (at_builtin; refine wp_app64 rfl _ _ rfl v2.heap.size rfl (OwnI.empty (heap_alloc_new _ _) (Nat.le_refl _)) rfl HIA.out (by omega) (by omega) (by simp) ?_; intro A2 c2 w2 hown2 hb2; simp only [Nat.zero_add, List.nil_append] at hown2; have HO2 := Lib.hid hown2; have HB2 := Lib.hid (((Below.refl _ v2).alloc (Nat.le_refl _) (.cells #[] 2)).trans hb2); clear hown2 hb2) | fail)
      obtain ⟨g2, rfl⟩ : ∃ g2, A2 = some ⟨g2, 0, none⟩ := by
        rcases HO2.out.ways with ⟨_, e, _⟩ | ⟨g2, _, e, _⟩
        · omega
        · exact ⟨g2, e⟩
      go_loopw [8] (fun i wr => ∃ k : Nat, k ≤ n0 ∧ i = .int .i64 k ∧ OwnI wr v2.heap.size (some ⟨g2, 0, none⟩) n0 c2 (ys.take k ++ xs0.drop k) ∧ Below v2.heap.size v2 wr) (fun i _ => n0 - (intOf i).toNat)
      case atStart => exact ⟨0, Nat.zero_le _, rfl, by rw [List.take_zero, List.nil_append, List.drop_zero]; exact HO2.out, HB2.out⟩
      case round =>
        obtain ⟨k, hk, rfl, ho, hb⟩ := hrel
        clear HO2 HB2
        have HO2 := Lib.hid ho
        have HB2 := Lib.hid hb
        clear ho hb
        by_cases hlt : k < n0
        · obtain ⟨x, hx, hx0, hx1⟩ := HW.out.ok.at (k := k) (by rw [HLN.out]; exact hlt)
          have hc := HO2.out.il.the hlt (mix_get HYL.out hx)
          rw [N.add_plain, Nat.zero_add] at hc
          have hf := HO2.out.fr
          obtain ⟨p, hp⟩ : ∃ p, x * a1 = p := ⟨_, rfl⟩
          have hp0 : 0 ≤ p := by rw [← hp]; exact Int.mul_nonneg hx0 (by omega)
          have hp1 : p ≤ 1048576 * 255 := by rw [← hp]; exact Int.mul_le_mul hx1 (by omega) (by omega) (by decide)
          have hwp : IntKind.i64.wrap (x * a1) = p := by rw [hp, IntKind.wrap_i64]; omega
          have HN2 := Lib.hid (show OwnI (wr.setCell ⟨g2, k, none⟩ (.int .i64 p)) v2.heap.size (some ⟨g2, 0, none⟩) n0 c2 (ys.take (k + 1) ++ xs0.drop (k + 1)) ∧ Below v2.heap.size v2 (wr.setCell ⟨g2, k, none⟩ (.int .i64 p)) by
            have h1 := HYG.out k x hx
            rw [hp] at h1
            refine ⟨?_, HB2.out.setCell (p := ⟨g2, k, none⟩) HO2.out.ge.1 _⟩
            rw [← mix_set HYL.out h1]
            exact HO2.out.set (by have h3 : IntKind.i64.min ≤ p := by (show -9223372036854775808 ≤ p); omega
                                  have h4 : p ≤ IntKind.i64.max := by (show p ≤ 9223372036854775807); omega
                                  have h5 : -9223372036854775808 ≤ p := h3
                                  have h6 : p ≤ 9223372036854775807 := h4
                                  simp [Lit.wf, h3, h4, h5, h6]))
          clear hx hx0 hx1 hp hp0 hp1
          go_wp2
          go_roundw
          case rel => exact ⟨k + 1, hlt, by go_num, HN2.out⟩
          case measure => simp [intOf]; omega
        · obtain rfl : k = n0 := by omega
          have HIY := Lib.hid (show Il wr (some ⟨g2, 0, none⟩) k c2 ys by
            have h1 := HO2.out.il
            rwa [List.take_of_length_le (by rw [HYL.out, HLN.out]; exact Nat.le_refl _), List.drop_of_length_le (by rw [HLN.out]; exact Nat.le_refl _), List.append_nil] at h1)
          have h1 : CS w wr [TB t g xs0.length, EN g xs0] := hS.out.below HB2.out
          clear hS; have hS := Lib.hid h1
          clear h1
          have hwy := HWY.out
          rcases hwy with hy1 | hwy
          · have HM1 := Lib.hid hy1
            clear hy1
            go_wp2_with fail
            go_at_call 11
            refine (new10_no hS.out HIY.out HM1.out (by decide)).mono ?_
            rintro e v3 ⟨rfl, h1⟩
            have h2 : CS w v3 [TB t g xs0.length, EN g xs0] := h1
            clear hS h1; have hS := Lib.hid h2; clear h2
            go_wp2
            go_ret
            exact ⟨rfl, hS.out.bl⟩
          · have HWZ := Lib.hid hwy
            have HMY := Lib.hid (mayW_zero.2 hwy)
            clear hwy
            go_wp2_with fail
            go_at_call 11
            refine (new10_s hS.out HIY.out HMY.out).mono ?_
            rintro e v3 ⟨u, h, rfl, h1⟩
            have h2 : CS w v3 [TB u h ys.length, EN h ys, TB t g xs0.length, EN g xs0] := h1
            clear hS h1; have hS := Lib.hid h2; clear h2
            obtain ⟨sm, hsm⟩ : ∃ sm, pre xs0 xs0.length = sm := ⟨_, rfl⟩
            have HSM := Lib.hid hsm
            have hsb := HW.out.le (Nat.le_refl _)
            have hsp := HW.out.pos
            have HSY := Lib.hid (show pre ys ys.length = sm * a1 by rw [HPY.out, hsm])
            rw [hsm] at hsb hsp
            have HSP := Lib.hid hsp
            have hq0 : 0 < sm * a1 := Int.mul_pos hsp HBY.out.1
            have hq1 : sm * a1 ≤ 67108864 * 255 := Int.mul_le_mul hsb.2.2 (by omega) (by omega) (by decide)
            have hwq : IntKind.i64.wrap (sm * a1) = sm * a1 := by rw [IntKind.wrap_i64]; omega
            clear hsm hsb hsp hq0 hq1
            have HT := Lib.hid (show TbOk v3 t g xs0 from hS.out.tb 2 rfl 3 rfl)
            have HU := Lib.hid (show TbOk v3 u h ys from hS.out.tb 0 rfl 1 rfl)
            have HB1 := Lib.hid hS.out.bl
            clear hS; have hS := Lib.hid (SC.fresh HB1.out)
            go_wp2_with fail
            go_loopw [11] (fun i wr => ∃ j : Nat, j ≤ k ∧ i = .int .i64 j ∧ SC w v3 wr [] [] []) (fun i _ => k - (intOf i).toNat)
            case atStart => exact ⟨0, Nat.zero_le _, rfl, hS.out⟩
            case round =>
              obtain ⟨j, hj, rfl, hS0⟩ := hrel
              clear hS
              have hS := Lib.hid hS0
              clear hS0
              by_cases hlt : j < k
              · obtain ⟨x, hx, _, _⟩ := HW.out.ok.at (k := j) (by rw [HLN.out]; exact hlt)
                have HX := Lib.hid hx
                have HXY := Lib.hid (HYG.out j x hx)
                obtain ⟨r, hr⟩ : ∃ r, mkRat x sm.toNat = r := ⟨_, rfl⟩
                have HR := Lib.hid hr
                have HRY := Lib.hid (show mkRat (x * a1) (sm * a1).toNat = r by rw [← hr]; exact mkRat_scale HBY.out.1 HSP.out)
                clear hx hr
                go_wp2_with fail
                go_at_call 15
                with_reducible refine (tshare_ok (HT.out.on hS.out.bl) HW.out HX.out HSM.out HR.out).mono ?_
                rintro e v4 ho
                obtain ⟨A1, n1, c1, A2, n2, c2, rfl, h1⟩ := hS.out.rRE (Nat.le_refl _) ho
                clear hS; have hS := Lib.hid h1; clear h1
                have h1 := (hS.out.boxed (vs := [.bool (sg r.num), .slice A1 n1 c1, .slice A2 n2 c2]) (ty := 37) rfl rfl)
                try simp only [World.size_alloc] at h1
                obtain ⟨p0_0, p1_0, p2_0⟩ := h1.cs3 0 rfl
                clear h1
                go_wp2_with fail
                clear p0_0 p1_0 p2_0
                generalize hwa : World.alloc v4 _ = v5
                have h1 := (hS.out.boxed (vs := [.bool (sg r.num), .slice A1 n1 c1, .slice A2 n2 c2]) (ty := 37) rfl hwa)
                have hsz : v5.heap.size = v4.heap.size + 1 := by rw [← hwa]; simp only [World.size_alloc]
                try rw [← hsz]
                clear hwa hsz
                clear hS; have hS := Lib.hid h1; clear h1
                obtain ⟨x0_0, x1_0, x2_0⟩ := hS.out.cs3 0 rfl
                go_wp2_with fail
                go_at_call 15
                with_reducible refine (tshare_ok (HU.out.on hS.out.bl) HWZ.out HXY.out HSY.out HRY.out).mono ?_
                rintro e v6 ho
                clear x0_0 x1_0 x2_0
                obtain ⟨A3, n3, c3, A4, n4, c4, rfl, h1⟩ := hS.out.rRE (Nat.le_refl _) ho
                clear hS; have hS := Lib.hid h1; clear h1
                obtain ⟨x0_0, x1_0, x2_0⟩ := hS.out.cs3 0 rfl
                have h1 := (hS.out.boxed (vs := [.bool (sg r.num), .slice A3 n3 c3, .slice A4 n4 c4]) (ty := 37) rfl rfl)
                try simp only [World.size_alloc] at h1
                obtain ⟨p0_0, p1_0, p2_0⟩ := h1.cs3 0 rfl
                obtain ⟨p0_1, p1_1, p2_1⟩ := h1.cs3 1 rfl
                clear h1
                go_wp2_with fail
                clear x0_0 x1_0 x2_0
                clear p0_0 p1_0 p2_0 p0_1 p1_1 p2_1
                generalize hwa : World.alloc v6 _ = v7
                have h1 := (hS.out.boxed (vs := [.bool (sg r.num), .slice A3 n3 c3, .slice A4 n4 c4]) (ty := 37) rfl hwa)
                have hsz : v7.heap.size = v6.heap.size + 1 := by rw [← hwa]; simp only [World.size_alloc]
                try rw [← hsz]
                clear hwa hsz
                clear hS; have hS := Lib.hid h1; clear h1
                obtain ⟨x0_0, x1_0, x2_0⟩ := hS.out.cs3 0 rfl
                obtain ⟨x0_1, x1_1, x2_1⟩ := hS.out.cs3 1 rfl
                go_wp2_with (first
                  | (go_at_call 17; (with_reducible refine (is9_told (r := r) (r' := r) (k := 1) (k' := 1) hS.out (by repeat (first | exact List.mem_cons_self | apply List.mem_cons_of_mem)) (by repeat (first | exact List.mem_cons_self | apply List.mem_cons_of_mem)) (by repeat (first | exact List.mem_cons_self | apply List.mem_cons_of_mem)) (by repeat (first | exact List.mem_cons_self | apply List.mem_cons_of_mem)) rfl).mono ?_); rintro e w' ⟨rfl, h1⟩; clear x0_0 x1_0 x2_0 x0_1 x1_1 x2_1; clear hS; have hS := Lib.hid h1; clear h1; obtain ⟨x0_0, x1_0, x2_0⟩ := hS.out.cs3 0 rfl; obtain ⟨x0_1, x1_1, x2_1⟩ := hS.out.cs3 1 rfl))
                go_roundw
                case rel => exact ⟨j + 1, hlt, by go_num, hS.out.sub (fun t ht => by cases ht) (List.nil_sublist _) (fun t ht => by cases ht)⟩
                case measure => simp [intOf]; omega
              · obtain rfl : j = k := by omega
                go_wp2_with fail
                go_at_call 19
                with_reducible refine (tsum_any (HU.out.on hS.out.bl) HWZ.out.l1 HSY.out).mono ?_
                rintro e v4 ⟨rfl, rfl⟩
                have h1 := hS.out
                clear hS; have hS := Lib.hid h1; clear h1
                go_wp2_with fail
                go_at_call 19
                with_reducible refine (tsum_any (HT.out.on hS.out.bl) HW.out.l1 HSM.out).mono ?_
                rintro e v5 ⟨rfl, rfl⟩
                have h1 := hS.out
                clear hS; have hS := Lib.hid h1; clear h1
                go_wp2
                go_ret
                first
                  | exact ⟨rfl, hS.out.st.1⟩
                  | (refine ⟨?_, hS.out.st.1⟩; simp)
  · obtain ⟨z, hz1, hz2, _, _⟩ := mayW_ways (fun e => hm (mayW_zero.2 e))
    have HM := Lib.hid hz1
    have HZ := Lib.hid hz2
    clear hz1 hm
    go_enter Tryz.func7, Tryz.ntmps7
    go_wp2_with fail
    go_at_call 11
    refine (new10_no hS.out (HI.out.below hS.out.bl) HM.out HZ.out).mono ?_
    rintro e v1 ⟨rfl, h1⟩
    have h2 : CS w v1 [] := h1
    clear hS h1; have hS := Lib.hid h2; clear h2
    go_wp2_with fail
    go_at_call 10
    refine (awake10_s hS.out).mono ?_
    rintro e v2 ⟨rfl, h1⟩
    have h2 : CS w v2 [] := h1
    clear hS h1; have hS := Lib.hid h2; clear h2
    go_wp2
    go_ret
    exact ⟨rfl, hS.out.bl⟩
set_option maxRecDepth 100000 in
theorem lifted (os : Os) (started : os.Started) (H : Type) (enc : TypeId × Value → H) :
    ReturnsInHanded {} Tryz.checked os 7 .any (fun w args => (Rows.freqTimesSpec.pre enc Tryz.prog Tryz.f7 Rows.freqTimesRow.domain false w args ∧ laidMetH Tryz.prog Rows.freqTimesRow.laid w) ∧ sizedMet enc Tryz.prog Tryz.f7 (OpenSpec.ofChange Rows.freqTimesSpec) false w args) (Rows.freqTimesSpec.post enc Tryz.prog Tryz.f7 false true false false) := by
  refine returnsInHanded_of_change_and (C := Tryz.checked) (X := fun w _ => laidMetH Tryz.prog Rows.freqTimesRow.laid w) (fun _ _ _ hh h => h.of_heap hh) own started (by kernel_rfl) Tryz.func7
    (ChangeSpec.witness_shaped (enc := enc) (C := Tryz.checked) (os := os) (X := fun w _ => laidMetH Tryz.prog Rows.freqTimesRow.laid w) false (World.laidAll Tryz.prog os Rows.freqTimesRow.laid) #[.slice none 0 0, .int .u8 0] 8 (World.laidAll_os _ _ _)
      (World.shaped_of_ZipB (by kernel_rfl) (by kernel_rfl)) (by kernel_rfl) (by kernel_rfl) (by kernel_rfl)
      (by rw [MakeChecks.laidMetH_plain _ _ _ (by kernel_rfl)]; exact laidMet_laidAll _ (by kernel_rfl) (by kernel_rfl))) ?_
  intro W base args ds gs before hval0 hW hcnd _ _ _
  have hval : ∀ (j : Nat) t v, Tryz.f7.params[j]? = some t → args[j]? = some v → Value.okWide Tryz.prog W .any base t v := hval0
  have hW' := hW
  obtain ⟨p, q, hA0, hV, hpq, hfz, hnd⟩ := hW
  have hA : DataW.TrodAll enc Tryz.prog W 0 (fun _ => true) true Tryz.f7.params.toList args.toList ds p := hA0
  rw [Tryz.params7] at hA hval
  obtain ⟨v0, vs0, d0, ds0, p0, q0, hargs, rfl, rfl, h0, r0⟩ := trodAll_cons hA
  obtain ⟨v1, vs1, d1, ds1, p1, q1, rfl, rfl, rfl, h1, r1⟩ := trodAll_cons r0
  obtain ⟨rfl, rfl, rfl⟩ := trodAll_nil r1
  obtain rfl : args = #[v0, v1] := by cases args; simp_all
  obtain ⟨rfl, rfl⟩ := trodVars_none hV
  obtain ⟨A0, n0, c0, xs0, rfl, s0⟩ := open_i64s_ (hval 0 22 v0 rfl rfl) h0
  obtain ⟨a1, rfl, rfl, rfl, w1⟩ := open_int Tryz.underlying5 (hval 1 5 v1 rfl rfl) h1
  refine (walk W A0 n0 c0 xs0 s0 a1 w1).mono fun e W' ⟨he, hb⟩ => ?_
  subst he
  exact ⟨_, rfl, Frame.close laidOut hW' rfl rfl rfl Tryz.underlying4 (fun t ht => by rw [Tryz.params7] at ht; simp at ht; rcases ht with rfl | rfl <;> exact ⟨by kernel_rfl, of_decide_eq_true (by kernel_rfl)⟩) hb⟩
theorem over : Rows.freqTimesRow.holds Tryz.pinned (OpenSpec.ofChange Rows.freqTimesSpec) :=
  OpenClaim.holds_of_wide 7 Tryz.f7 rfl rfl rfl rfl rfl rfl rfl ⟨rfl, rfl, rfl, rfl, rfl⟩ rfl rfl rfl rfl rfl (by kernel_rfl) Tryz.func7 (by kernel_rfl)
    (of_decide_eq_true (by kernel_rfl)) (by unfold Func.isWrapper; first | (rw [if_pos (by decide +kernel)]; kernel_rfl) | (rw [if_neg (by decide +kernel)]; exact ⟨rfl, rfl⟩))
    (fun os started H enc _ => lifted os started H enc)
/-- the statement -/
theorem proved : Rows.FreqTimesCardSaid :=
  Claim7.holds_tied_plain_at .later [] _ _ _ _ over (fun _ h => by cases h) (by kernel_rfl) (fun _ h => by cases h) freqTimes_row_tie rfl ⟨rfl, rfl⟩ (by kernel_rfl) rfl
    (fun f fn hf hfn => by
      obtain rfl : f = 7 := Option.some.inj ((show Tryz.prog.funcNamed "tombola/tombolalaw10.FreqTimes" = some 7 by kernel_rfl).symm.trans hf) |>.symm
      obtain rfl : fn = Tryz.f7 := (Option.some.inj (Tryz.func7.symm.trans hfn)).symm
      exact ⟨by kernel_rfl, (fun j t ht => by
        rw [Tryz.params7] at ht
        have hm : t ∈ [22, 5] := by simpa using Array.mem_of_getElem? ht
        have hall : ([22, 5].all fun u => !Tryz.prog.wantsStandIn u) = true := by kernel_rfl
        exact (show Tryz.prog.wantsStandIn t = false by simpa using List.all_eq_true.1 hall t hm))⟩)
    (by kernel_rfl)
#print axioms proved
end Go.Proofs.YtolfjhfmcgibbaaGreatDoor.freqTimes
