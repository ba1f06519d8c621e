/-
  PROVED: the statement FreqParted (tombolalaw10.FreqParted) about the landed commit: for every input the law returns true and leaves its arguments as they were. Conditions: none beyond those that the given row itself prints.
-/
import Derived.Test.YtolfjhfmcgibbaaGreatDoorCards
import Derived.Test.YtolfjhfmcgibbaaGreatDoorTie
import Derived.LaidMore
import Derived.Lay
import Derived.SevenTiedAt
import Derived.Stop.Joined
import Derived.Test.YtolfjhfmcgibbaaGreatDoorRows
import Derived.WalkKit
import Derived.ProofKit
import Derived.OpenShut
import Derived.RowKit3
import Derived.Test.YtolfjhfmcgibbaaGreatDoorGFrame
import Derived.Test.YtolfjhfmcgibbaaGreatDoorFreState
import Derived.Test.YtolfjhfmcgibbaaGreatDoorFrePart
namespace Go.Proofs.YtolfjhfmcgibbaaGreatDoor.freqParted
open Go.ChangeShapes Go.WideShapes Go.ChangeAt Go.RowKit
set_option linter.unusedVariables false
set_option linter.unusedSimpArgs false
set_option maxRecDepth 20000
open N
theorem own : ownKnob Tryz.prog.godebug = none := by kernel_rfl

set_option maxRecDepth 100000 in
set_option maxHeartbeats 40000000 in
theorem walk (w : World) (A0 : Option Addr) (n0 c0 : Nat) (xs0 : List Int) (h0 : Il w A0 n0 c0 xs0) (a1 : Int) (w1 : (Lit.int .u8 a1).wf = true) (a2 : Int) (w2 : (Lit.int .i64 a2).wf = true) (a3 : Int) (w3 : (Lit.int .i64 a3).wf = true) :
    Calls Tryz.prog 8 #[.slice A0 n0 c0, .int .u8 a1, .int .i64 a2, .int .i64 a3] w fun e w' => e = .returned (.bool true) ∧ Below w.heap.size w w' := by
  have hS := Lib.hid (CS.start w)
  have hb1 := bounds_u8 w1
  have HI := Lib.hid h0
  have hcap := h0.cap
  have hmax := h0.max
  unfold maxLen at hmax
  clear h0
  by_cases hm : mayW xs0 = 0
  · have HM := Lib.hid hm
    have HW := Lib.hid (mayW_zero.1 hm)
    clear hm
    by_cases hz : 64 ≤ n0
    · have hz2 : (64 : Int) ≤ (n0 : Int) := by omega
      go_enter Tryz.func8, Tryz.ntmps8
      go_wp2_with fail
      go_at_call 11
      refine (new10_s hS.out (HI.out.below hS.out.bl) HM.out).mono ?_
      rintro e v1 ⟨t, g, rfl, h1⟩
      have h2 : CS w v1 [TB t g xs0.length, EN g xs0] := h1
      clear hS h1; have hS := Lib.hid h2; clear h2
      go_wp2_with fail
      go_at_call 10
      refine (awake10_s hS.out).mono ?_
      rintro e v2 ⟨rfl, h1⟩
      have h2 : CS w v2 [TB t g xs0.length, EN g xs0] := h1
      clear hS h1; have hS := Lib.hid h2; clear h2
      go_wp2
      go_ret
      exact ⟨rfl, hS.out.bl⟩
    · have hlen := HI.out.len
      have hn0 : 0 < n0 ∧ n0 < 64 := by have h1 := HW.out.l0; omega
      have hz2 : ¬ (64 : Int) ≤ (n0 : Int) := by omega
      obtain ⟨k, hkk, hk⟩ : ∃ k : Nat, a1 % (n0 : Int) = (k : Int) ∧ k < n0 := by
        have h1 := Int.emod_nonneg a1 (show (n0 : Int) ≠ 0 by omega)
        have h2 := Int.emod_lt_of_pos a1 (show (0 : Int) < n0 by omega)
        exact ⟨(a1 % (n0 : Int)).toNat, by omega, by omega⟩
      have htm : a1.tmod (n0 : Int) = (k : Int) := by rw [Int.tmod_eq_emod_of_nonneg hb1.1]; exact hkk
      have hwb : IntKind.i64.wrap a1 = a1 := by rw [IntKind.wrap_i64]; omega
      have hwk : IntKind.i64.wrap (k : Int) = (k : Int) := by rw [IntKind.wrap_i64]; omega
      have hne0 : ¬ (n0 : Int) = 0 := by omega
      have HLN := Lib.hid hlen
      obtain ⟨x, hx, hx0, hx1⟩ := HW.out.ok.at (k := k) (by rw [hlen]; exact hk)
      obtain ⟨ad, rfl⟩ : ∃ ad, A0 = some ad := by
        obtain ⟨ad, e, _⟩ := HI.out.at' k hk
        exact ⟨ad, e⟩
      have HC := Lib.hid (fun (W : World) (hb : Below w.heap.size w W) => (HI.out.below hb).the hk hx)
      have HX := Lib.hid hx
      clear hlen hkk hx
      by_cases hp : a2 < 0
      · have HB9 := Lib.hid hx0
        clear hx0 hx1
        go_enter Tryz.func8, Tryz.ntmps8
        go_wp2_with fail
        go_at_call 11
        refine (new10_s hS.out (HI.out.below hS.out.bl) HM.out).mono ?_
        rintro e v1 ⟨t, g, rfl, h1⟩
        have h2 : CS w v1 [TB t g xs0.length, EN g xs0] := h1
        clear hS h1; have hS := Lib.hid h2; clear h2
        go_wp2_with fail
        go_at_call 10
        refine (awake10_s hS.out).mono ?_
        rintro e v2 ⟨rfl, h1⟩
        have h2 : CS w v2 [TB t g xs0.length, EN g xs0] := h1
        clear hS h1; have hS := Lib.hid h2; clear h2
        go_wp2
        go_ret
        exact ⟨rfl, hS.out.bl⟩
      · by_cases hp4 : x < a2
        · have hp2 : x < a2 := by omega
          have hp3 : ¬ a2 < 0 := by omega
          go_enter Tryz.func8, Tryz.ntmps8
          go_wp2_with fail
          go_at_call 11
          refine (new10_s hS.out (HI.out.below hS.out.bl) HM.out).mono ?_
          rintro e v1 ⟨t, g, rfl, h1⟩
          have h2 : CS w v1 [TB t g xs0.length, EN g xs0] := h1
          clear hS h1; have hS := Lib.hid h2; clear h2
          go_wp2_with fail
          go_at_call 10
          refine (awake10_s hS.out).mono ?_
          rintro e v2 ⟨rfl, h1⟩
          have h2 : CS w v2 [TB t g xs0.length, EN g xs0] := h1
          clear hS h1; have hS := Lib.hid h2; clear h2
          have hcell := HC.out _ hS.out.bl
          go_wp2
          go_ret
          exact ⟨rfl, hS.out.bl⟩
        · have hp2 : ¬ x < a2 := by omega
          have hp3 : ¬ a2 < 0 := by omega
          have HPT := Lib.hid (parted HW.out (by rw [HLN.out]; omega) HX.out (part := a2) (by omega) (by omega))
          obtain ⟨m, hm⟩ : ∃ m, k + 2 + (n0 - (k + 1)) = m := ⟨_, rfl⟩
          go_enter Tryz.func8, Tryz.ntmps8
          go_wp2_with fail
          go_at_call 11
          refine (new10_s hS.out (HI.out.below hS.out.bl) HM.out).mono ?_
          rintro e v1 ⟨t, g, rfl, h1⟩
          have h2 : CS w v1 [TB t g xs0.length, EN g xs0] := h1
          clear hS h1; have hS := Lib.hid h2; clear h2
          go_wp2_with fail
          go_at_call 10
          refine (awake10_s hS.out).mono ?_
          rintro e v2 ⟨rfl, h1⟩
          have h2 : CS w v2 [TB t g xs0.length, EN g xs0] := h1
          clear hS h1; have hS := Lib.hid h2; clear h2
          have hcell := HC.out _ hS.out.bl
          go_wp2_with fail
          refine (part_region (n := n0) (c := c0) (k := k) (xs := xs0) (x := x) (part := a2) rfl rfl rfl rfl (HI.out.below hS.out.bl) hk (by omega) HX.out (by omega) (by omega) hx1 ?_)
          intro f A2 c2 W2 hf ho hb
          rw [hm] at hf ho
          generalize hys : xs0.take k ++ [a2, x - a2] ++ xs0.drop (k + 1) = ys at ho HPT
          clear hys
          have HIY := Lib.hid ho.il
          have HMY := Lib.hid (mayW_zero.2 HPT.out.wt)
          simp only [RV.putAll, List.map_cons, List.map_nil, List.foldl_cons, List.foldl_nil, Act.put, List.setIfInBounds_toArray, List.set_cons_zero, List.set_cons_succ, hf]
          have h1 : CS w W2 [TB t g xs0.length, EN g xs0] := hS.out.below hb
          clear hS; have hS := Lib.hid h1
          clear h1 ho hb hcell
          go_wp2_with fail
          go_at_call 11
          refine (new10_s hS.out HIY.out HMY.out).mono ?_
          rintro e v3 ⟨u, h, rfl, h1⟩
          have h2 : CS w v3 [TB u h ys.length, EN h ys, TB t g xs0.length, EN g xs0] := h1
          clear hS h1; have hS := Lib.hid h2; clear h2
          by_cases hr : 0 ≤ a3 ∧ a3 < pre xs0 xs0.length
          · obtain ⟨i, hp⟩ := pk_some hr.1 hr.2
            have HP := Lib.hid hp
            have hil := hp.1
            rw [HLN.out] at hil
            have hw9 := HPT.out.pick hp
            clear hr hp
            rcases hw9 with ⟨rfl, hq | hq⟩ | ⟨hik, hq⟩ | ⟨hik, hq⟩
            · have HQ := Lib.hid hq
              clear hq
              go_wp2_with fail
              go_at_call 13
              refine (pick10_ok hS.out 2 3 rfl rfl HW.out HP.out).mono ?_
              rintro e v4 ⟨rfl, h1⟩
              have h2 : CS w v4 [TB u h ys.length, EN h ys, TB t g xs0.length, EN g xs0] := h1
              clear hS h1; have hS := Lib.hid h2; clear h2
              go_wp2_with fail
              go_at_call 13
              refine (pick10_ok hS.out 0 1 rfl rfl HPT.out.wt HQ.out).mono ?_
              rintro e v5 ⟨rfl, h1⟩
              have h2 : CS w v5 [TB u h ys.length, EN h ys, TB t g xs0.length, EN g xs0] := h1
              clear hS h1; have hS := Lib.hid h2; clear h2
              go_wp2
              go_ret
              exact ⟨rfl, hS.out.bl⟩
            · have HQ := Lib.hid hq
              clear hq
              obtain ⟨j, hj⟩ : ∃ j, i + 1 = j := ⟨_, rfl⟩
              rw [hj] at HQ
              have hwj : IntKind.i64.wrap ((i : Int) + 1) = (j : Int) := by rw [IntKind.wrap_i64]; omega
              have hnj : ¬ (j : Int) = (i : Int) := by omega
              clear hj
              go_wp2_with fail
              go_at_call 13
              refine (pick10_ok hS.out 2 3 rfl rfl HW.out HP.out).mono ?_
              rintro e v4 ⟨rfl, h1⟩
              have h2 : CS w v4 [TB u h ys.length, EN h ys, TB t g xs0.length, EN g xs0] := h1
              clear hS h1; have hS := Lib.hid h2; clear h2
              go_wp2_with fail
              go_at_call 13
              refine (pick10_ok hS.out 0 1 rfl rfl HPT.out.wt HQ.out).mono ?_
              rintro e v5 ⟨rfl, h1⟩
              have h2 : CS w v5 [TB u h ys.length, EN h ys, TB t g xs0.length, EN g xs0] := h1
              clear hS h1; have hS := Lib.hid h2; clear h2
              go_wp2
              go_ret
              exact ⟨rfl, hS.out.bl⟩
            · have HQ := Lib.hid hq
              clear hq
              have hni : ¬ (i : Int) = (k : Int) := by omega
              have hli : (i : Int) < (k : Int) := by omega
              go_wp2_with fail
              go_at_call 13
              refine (pick10_ok hS.out 2 3 rfl rfl HW.out HP.out).mono ?_
              rintro e v4 ⟨rfl, h1⟩
              have h2 : CS w v4 [TB u h ys.length, EN h ys, TB t g xs0.length, EN g xs0] := h1
              clear hS h1; have hS := Lib.hid h2; clear h2
              go_wp2_with fail
              go_at_call 13
              refine (pick10_ok hS.out 0 1 rfl rfl HPT.out.wt HQ.out).mono ?_
              rintro e v5 ⟨rfl, h1⟩
              have h2 : CS w v5 [TB u h ys.length, EN h ys, TB t g xs0.length, EN g xs0] := h1
              clear hS h1; have hS := Lib.hid h2; clear h2
              go_wp2
              go_ret
              exact ⟨rfl, hS.out.bl⟩
            · have HQ := Lib.hid hq
              clear hq
              obtain ⟨j, hj⟩ : ∃ j, i + 1 = j := ⟨_, rfl⟩
              rw [hj] at HQ
              have hwj : IntKind.i64.wrap ((i : Int) + 1) = (j : Int) := by rw [IntKind.wrap_i64]; omega
              have hni : ¬ (i : Int) = (k : Int) := by omega
              have hli : ¬ (i : Int) < (k : Int) := by omega
              have hgi : (k : Int) < (i : Int) := by omega
              clear hj
              go_wp2_with fail
              go_at_call 13
              refine (pick10_ok hS.out 2 3 rfl rfl HW.out HP.out).mono ?_
              rintro e v4 ⟨rfl, h1⟩
              have h2 : CS w v4 [TB u h ys.length, EN h ys, TB t g xs0.length, EN g xs0] := h1
              clear hS h1; have hS := Lib.hid h2; clear h2
              go_wp2_with fail
              go_at_call 13
              refine (pick10_ok hS.out 0 1 rfl rfl HPT.out.wt HQ.out).mono ?_
              rintro e v5 ⟨rfl, h1⟩
              have h2 : CS w v5 [TB u h ys.length, EN h ys, TB t g xs0.length, EN g xs0] := h1
              clear hS h1; have hS := Lib.hid h2; clear h2
              go_wp2
              go_ret
              exact ⟨rfl, hS.out.bl⟩
          · have HR := Lib.hid hr
            have HRY := Lib.hid (show ¬ (0 ≤ a3 ∧ a3 < pre ys ys.length) by rw [HPT.out.len, HPT.out.hi _ (by have := HLN.out; omega)]; exact hr)
            clear hr
            go_wp2_with fail
            go_at_call 13
            refine (pick10_no hS.out 2 3 rfl rfl HW.out HR.out).mono ?_
            rintro e v4 ⟨rfl, h1⟩
            have h2 : CS w v4 [TB u h ys.length, EN h ys, TB t g xs0.length, EN g xs0] := h1
            clear hS h1; have hS := Lib.hid h2; clear h2
            go_wp2_with fail
            go_at_call 13
            refine (pick10_no hS.out 0 1 rfl rfl HPT.out.wt HRY.out).mono ?_
            rintro e v5 ⟨rfl, h1⟩
            have h2 : CS w v5 [TB u h ys.length, EN h ys, TB t g xs0.length, EN g xs0] := h1
            clear hS h1; have hS := Lib.hid h2; clear h2
            go_wp2
            go_ret
            exact ⟨rfl, hS.out.bl⟩
  · obtain ⟨z, hz1, hz2, _, _⟩ := mayW_ways (fun e => hm (mayW_zero.2 e))
    have HM := Lib.hid hz1
    have HZ := Lib.hid hz2
    clear hz1 hm
    go_enter Tryz.func8, Tryz.ntmps8
    go_wp2_with fail
    go_at_call 11
    refine (new10_no hS.out (HI.out.below hS.out.bl) HM.out HZ.out).mono ?_
    rintro e v1 ⟨rfl, h1⟩
    have h2 : CS w v1 [] := h1
    clear hS h1; have hS := Lib.hid h2; clear h2
    go_wp2_with fail
    go_at_call 10
    refine (awake10_s hS.out).mono ?_
    rintro e v2 ⟨rfl, h1⟩
    have h2 : CS w v2 [] := h1
    clear hS h1; have hS := Lib.hid h2; clear h2
    go_wp2
    go_ret
    exact ⟨rfl, hS.out.bl⟩
set_option maxRecDepth 100000 in
theorem lifted (os : Os) (started : os.Started) (H : Type) (enc : TypeId × Value → H) :
    ReturnsInHanded {} Tryz.checked os 8 .any (fun w args => (Rows.freqPartedSpec.pre enc Tryz.prog Tryz.f8 Rows.freqPartedRow.domain false w args ∧ laidMetH Tryz.prog Rows.freqPartedRow.laid w) ∧ sizedMet enc Tryz.prog Tryz.f8 (OpenSpec.ofChange Rows.freqPartedSpec) false w args) (Rows.freqPartedSpec.post enc Tryz.prog Tryz.f8 false true false false) := by
  refine returnsInHanded_of_change_and (C := Tryz.checked) (X := fun w _ => laidMetH Tryz.prog Rows.freqPartedRow.laid w) (fun _ _ _ hh h => h.of_heap hh) own started (by kernel_rfl) Tryz.func8
    (ChangeSpec.witness_shaped (enc := enc) (C := Tryz.checked) (os := os) (X := fun w _ => laidMetH Tryz.prog Rows.freqPartedRow.laid w) false (World.laidAll Tryz.prog os Rows.freqPartedRow.laid) #[.slice none 0 0, .int .u8 0, .int .i64 0, .int .i64 0] 8 (World.laidAll_os _ _ _)
      (World.shaped_of_ZipB (by kernel_rfl) (by kernel_rfl)) (by kernel_rfl) (by kernel_rfl) (by kernel_rfl)
      (by rw [MakeChecks.laidMetH_plain _ _ _ (by kernel_rfl)]; exact laidMet_laidAll _ (by kernel_rfl) (by kernel_rfl))) ?_
  intro W base args ds gs before hval0 hW hcnd _ _ _
  have hval : ∀ (j : Nat) t v, Tryz.f8.params[j]? = some t → args[j]? = some v → Value.okWide Tryz.prog W .any base t v := hval0
  have hW' := hW
  obtain ⟨p, q, hA0, hV, hpq, hfz, hnd⟩ := hW
  have hA : DataW.TrodAll enc Tryz.prog W 0 (fun _ => true) true Tryz.f8.params.toList args.toList ds p := hA0
  rw [Tryz.params8] at hA hval
  obtain ⟨v0, vs0, d0, ds0, p0, q0, hargs, rfl, rfl, h0, r0⟩ := trodAll_cons hA
  obtain ⟨v1, vs1, d1, ds1, p1, q1, rfl, rfl, rfl, h1, r1⟩ := trodAll_cons r0
  obtain ⟨v2, vs2, d2, ds2, p2, q2, rfl, rfl, rfl, h2, r2⟩ := trodAll_cons r1
  obtain ⟨v3, vs3, d3, ds3, p3, q3, rfl, rfl, rfl, h3, r3⟩ := trodAll_cons r2
  obtain ⟨rfl, rfl, rfl⟩ := trodAll_nil r3
  obtain rfl : args = #[v0, v1, v2, v3] := by cases args; simp_all
  obtain ⟨rfl, rfl⟩ := trodVars_none hV
  obtain ⟨A0, n0, c0, xs0, rfl, s0⟩ := open_i64s_ (hval 0 22 v0 rfl rfl) h0
  obtain ⟨a1, rfl, rfl, rfl, w1⟩ := open_int Tryz.underlying5 (hval 1 5 v1 rfl rfl) h1
  obtain ⟨a2, rfl, rfl, rfl, w2⟩ := open_int Tryz.underlying2 (hval 2 2 v2 rfl rfl) h2
  obtain ⟨a3, rfl, rfl, rfl, w3⟩ := open_int Tryz.underlying2 (hval 3 2 v3 rfl rfl) h3
  refine (walk W A0 n0 c0 xs0 s0 a1 w1 a2 w2 a3 w3).mono fun e W' ⟨he, hb⟩ => ?_
  subst he
  exact ⟨_, rfl, Frame.close laidOut hW' rfl rfl rfl Tryz.underlying4 (fun t ht => by rw [Tryz.params8] at ht; simp at ht; rcases ht with rfl | rfl | rfl <;> exact ⟨by kernel_rfl, of_decide_eq_true (by kernel_rfl)⟩) hb⟩
theorem over : Rows.freqPartedRow.holds Tryz.pinned (OpenSpec.ofChange Rows.freqPartedSpec) :=
  OpenClaim.holds_of_wide 8 Tryz.f8 rfl rfl rfl rfl rfl rfl rfl ⟨rfl, rfl, rfl, rfl, rfl⟩ rfl rfl rfl rfl rfl (by kernel_rfl) Tryz.func8 (by kernel_rfl)
    (of_decide_eq_true (by kernel_rfl)) (by unfold Func.isWrapper; first | (rw [if_pos (by decide +kernel)]; kernel_rfl) | (rw [if_neg (by decide +kernel)]; exact ⟨rfl, rfl⟩))
    (fun os started H enc _ => lifted os started H enc)
/-- the statement -/
theorem proved : Rows.FreqPartedCardSaid :=
  Claim7.holds_tied_plain_at .later [] _ _ _ _ over (fun _ h => by cases h) (by kernel_rfl) (fun _ h => by cases h) freqParted_row_tie rfl ⟨rfl, rfl⟩ (by kernel_rfl) rfl
    (fun f fn hf hfn => by
      obtain rfl : f = 8 := Option.some.inj ((show Tryz.prog.funcNamed "tombola/tombolalaw10.FreqParted" = some 8 by kernel_rfl).symm.trans hf) |>.symm
      obtain rfl : fn = Tryz.f8 := (Option.some.inj (Tryz.func8.symm.trans hfn)).symm
      exact ⟨by kernel_rfl, (fun j t ht => by
        rw [Tryz.params8] at ht
        have hm : t ∈ [22, 5, 2, 2] := by simpa using Array.mem_of_getElem? ht
        have hall : ([22, 5, 2, 2].all fun u => !Tryz.prog.wantsStandIn u) = true := by kernel_rfl
        exact (show Tryz.prog.wantsStandIn t = false by simpa using List.all_eq_true.1 hall t hm))⟩)
    (by kernel_rfl)
#print axioms proved
end Go.Proofs.YtolfjhfmcgibbaaGreatDoor.freqParted
