/-
  PROVED: the statement CursorReads (tombolalaw08.CursorReads) about the landed commit: for every input the law returns true and leaves its arguments as they were. Conditions: none beyond those that the given row itself prints.
-/
import Derived.Test.YtifobfbeddlglaaDoorCards
import Derived.Test.YtifobfbeddlglaaDoorTie
import Derived.LaidMore
import Derived.Lay
import Derived.SevenTiedAt
import Derived.Stop.Joined
import Derived.Test.YtifobfbeddlglaaDoorRows
import Derived.WalkKit
import Derived.ProofKit
import Derived.OpenShut
import Derived.RowKit3
import Derived.Test.YtifobfbeddlglaaDoorGFrame
import Derived.Test.YtifobfbeddlglaaDoorCurAwake
import Derived.Test.YtifobfbeddlglaaDoorIntOpen
namespace Go.Proofs.YtifobfbeddlglaaDoor.cursorReads
open Go.ChangeShapes Go.WideShapes Go.ChangeAt Go.RowKit
set_option linter.unusedVariables false
set_option linter.unusedSimpArgs false
set_option maxRecDepth 20000
open N
theorem own : ownKnob Tryd.prog.godebug = none := by kernel_rfl

set_option maxRecDepth 100000 in
set_option maxHeartbeats 40000000 in
theorem walk (w : World) (b0 : List UInt8) (l0 : b0.length ≤ maxLen) (A1 : Option Addr) (n1 c1 : Nat) (xs1 : List Int) (h1 : Il w A1 n1 c1 xs1) :
    Calls Tryd.prog 3 #[.string ⟨b0.toArray⟩, .slice A1 n1 c1] w fun e w' => e = .returned (.bool true) ∧ Below w.heap.size w w' := by
  have hS := Lib.hid (CS.start w)
  by_cases g0 : 2000 < b0.length
  · go_enter Tryd.func3, Tryd.ntmps3
    go_wp2_with fail
    go_at_call 9
    refine (cawake_s hS.out).mono ?_
    rintro e v1 ⟨rfl, h1⟩
    have h2 : CS w v1 [] := h1
    clear hS h1; have hS := Lib.hid h2; clear h2
    go_wp2
    go_ret
    exact ⟨rfl, hS.out.bl⟩
  · have hl0 : b0.length ≤ 2000 := by omega
    clear g0
    by_cases g1 : 200 < n1
    · go_enter Tryd.func3, Tryd.ntmps3
      go_wp2_with fail
      go_at_call 9
      refine (cawake_s hS.out).mono ?_
      rintro e v1 ⟨rfl, h1⟩
      have h2 : CS w v1 [] := h1
      clear hS h1; have hS := Lib.hid h2; clear h2
      go_wp2
      go_ret
      exact ⟨rfl, hS.out.bl⟩
    · have HI := Lib.hid h1
      have HL0 := Lib.hid hl0
      clear h1
      by_cases h : isB b0 = true
      · have HB := Lib.hid h
        clear h
        go_enter Tryd.func3, Tryd.ntmps3
        go_wp2_with fail
        go_at_call 10
        refine (new_s hS.out HB.out).mono ?_
        rintro e v1 ⟨g, rfl, h1⟩
        have h2 : CS w v1 [K g b0 0 false] := h1
        clear hS h1; have hS := Lib.hid h2; clear h2
        go_wp2_with fail
        go_at_call 11
        refine (rnew_s hS.out HB.out).mono ?_
        rintro e v2 ⟨x, rfl, h1⟩
        have h2 : CS w v2 [R x b0 0 false, K g b0 0 false] := h1
        clear hS h1; have hS := Lib.hid h2; clear h2
        go_wp2_with fail
        go_loopw [9] (fun i wr => ∃ (k a : Nat) (o : Bool), k ≤ n1 ∧ a ≤ b0.length ∧ i = .int .i64 k ∧ CS w wr [R x b0 a o, K g b0 a o]) (fun i _ => n1 - (intOf i).toNat)
        case atStart => exact ⟨0, 0, false, by omega, by omega, rfl, hS.out⟩
        case round =>
          obtain ⟨k, a, o, hk, ha, rfl, hS0⟩ := hrel
          clear hS
          have hS := Lib.hid hS0
          have HA := Lib.hid ha
          clear hS0 ha
          by_cases hlt : k < n1
          · obtain ⟨ad, z, rfl, hz, wz, hcell⟩ := (HI.out.below hS.out.bl).one hlt
            have HE := Lib.hid (fun (W : World) (hb : Below w.heap.size w W) => (HI.out.below hb).the hlt hz)
            clear hz wz
            obtain ⟨nv, gd, a', o', hk, ha⟩ := tk_some HA.out o z
            have HK := Lib.hid hk
            have HA' := Lib.hid ha
            clear hk ha
            go_wp2_with fail
            go_at_call 12
            refine (take_n hS.out 1 rfl HB.out HA.out HK.out).mono ?_
            rintro e v3 ⟨rfl, h1⟩
            have h2 : CS w v3 [R x b0 a o, K g b0 a' o'] := h1
            clear hS h1; have hS := Lib.hid h2; clear h2
            clear hcell
            have hcell := HE.out _ hS.out.bl
            go_wp2_with fail
            go_at_call 13
            refine (rtake_n hS.out 0 rfl HB.out HA.out HK.out).mono ?_
            rintro e v4 ⟨rfl, h1⟩
            have h2 : CS w v4 [R x b0 a' o', K g b0 a' o'] := h1
            clear hS h1; have hS := Lib.hid h2; clear h2
            clear hcell
            have hcell := HE.out _ hS.out.bl
            go_wp2_with fail
            go_at_call 14
            refine (like_s hS.out 1 0 rfl rfl HB.out HA'.out).mono ?_
            rintro e v5 ⟨rfl, h1⟩
            have h2 : CS w v5 [R x b0 a' o', K g b0 a' o'] := h1
            clear hS h1; have hS := Lib.hid h2; clear h2
            clear hcell
            have hcell := HE.out _ hS.out.bl
            go_wp2
            go_roundw
            case rel => exact ⟨k + 1, a', o', by omega, HA'.out, by go_num, hS.out⟩
            case measure => simp [intOf]; omega
          · obtain rfl : k = n1 := by omega
            go_wp2_with fail
            go_at_call 14
            refine (like_s hS.out 1 0 rfl rfl HB.out HA.out).mono ?_
            rintro e v3 ⟨rfl, h1⟩
            have h2 : CS w v3 [R x b0 a o, K g b0 a o] := h1
            clear hS h1; have hS := Lib.hid h2; clear h2
            go_wp2_with fail
            go_at_call 9
            refine (cawake_s hS.out).mono ?_
            rintro e v4 ⟨rfl, h1⟩
            have h2 : CS w v4 [R x b0 a o, K g b0 a o] := h1
            clear hS h1; have hS := Lib.hid h2; clear h2
            go_wp2
            go_ret
            exact ⟨rfl, hS.out.bl⟩
      · have hB : isB b0 = false := by simpa using h
        have HB := Lib.hid hB
        clear h hB
        go_enter Tryd.func3, Tryd.ntmps3
        go_wp2_with fail
        go_at_call 10
        refine (new_s_no (l := b0) hS.out HL0.out HB.out).mono ?_
        rintro e v1 ⟨rfl, h1⟩
        have h2 : CS w v1 [] := h1
        clear hS h1; have hS := Lib.hid h2; clear h2
        go_wp2_with fail
        go_at_call 11
        refine (rnew_s_no (l := b0) hS.out HL0.out HB.out).mono ?_
        rintro e v2 ⟨rfl, h1⟩
        have h2 : CS w v2 [] := h1
        clear hS h1; have hS := Lib.hid h2; clear h2
        go_wp2_with fail
        go_at_call 9
        refine (cawake_s hS.out).mono ?_
        rintro e v3 ⟨rfl, h1⟩
        have h2 : CS w v3 [] := h1
        clear hS h1; have hS := Lib.hid h2; clear h2
        go_wp2
        go_ret
        exact ⟨rfl, hS.out.bl⟩
set_option maxRecDepth 100000 in
theorem lifted (os : Os) (started : os.Started) (H : Type) (enc : TypeId × Value → H) :
    ReturnsInHanded {} Tryd.checked os 3 .any (fun w args => (Rows.cursorReadsSpec.pre enc Tryd.prog Tryd.f3 Rows.cursorReadsRow.domain false w args ∧ laidMetH Tryd.prog Rows.cursorReadsRow.laid w) ∧ sizedMet enc Tryd.prog Tryd.f3 (OpenSpec.ofChange Rows.cursorReadsSpec) false w args) (Rows.cursorReadsSpec.post enc Tryd.prog Tryd.f3 false true false false) := by
  refine returnsInHanded_of_change_and (C := Tryd.checked) (X := fun w _ => laidMetH Tryd.prog Rows.cursorReadsRow.laid w) (fun _ _ _ hh h => h.of_heap hh) own started (by kernel_rfl) Tryd.func3
    (ChangeSpec.witness_shaped (enc := enc) (C := Tryd.checked) (os := os) (X := fun w _ => laidMetH Tryd.prog Rows.cursorReadsRow.laid w) false (World.laidAll Tryd.prog os Rows.cursorReadsRow.laid) #[.string ByteArray.empty, .slice none 0 0] 8 (World.laidAll_os _ _ _)
      (World.shaped_of_ZipB (by kernel_rfl) (by kernel_rfl)) (by kernel_rfl) (by kernel_rfl) (by kernel_rfl)
      (by rw [MakeChecks.laidMetH_plain _ _ _ (by kernel_rfl)]; exact laidMet_laidAll _ (by kernel_rfl) (by kernel_rfl))) ?_
  intro W base args ds gs before hval0 hW hcnd _ _ _
  have hval : ∀ (j : Nat) t v, Tryd.f3.params[j]? = some t → args[j]? = some v → Value.okWide Tryd.prog W .any base t v := hval0
  have hW' := hW
  obtain ⟨p, q, hA0, hV, hpq, hfz, hnd⟩ := hW
  have hA : DataW.TrodAll enc Tryd.prog W 0 (fun _ => true) true Tryd.f3.params.toList args.toList ds p := hA0
  rw [Tryd.params3] at hA hval
  obtain ⟨v0, vs0, d0, ds0, p0, q0, hargs, rfl, rfl, h0, r0⟩ := trodAll_cons hA
  obtain ⟨v1, vs1, d1, ds1, p1, q1, rfl, rfl, rfl, h1, r1⟩ := trodAll_cons r0
  obtain ⟨rfl, rfl, rfl⟩ := trodAll_nil r1
  obtain rfl : args = #[v0, v1] := by cases args; simp_all
  obtain ⟨rfl, rfl⟩ := trodVars_none hV
  obtain ⟨y0, rfl, rfl, rfl, l0⟩ := Go.ChangeMaps.open_string Tryd.underlying9 (hval 0 9 v0 rfl rfl) h0
  obtain ⟨b0, rfl⟩ : ∃ b : List UInt8, y0 = ⟨b.toArray⟩ := ⟨y0.data.toList, by cases y0; simp⟩
  obtain ⟨A1, n1, c1, xs1, rfl, s1⟩ := open_ints_ (hval 1 22 v1 rfl rfl) h1
  refine (walk W b0 l0 A1 n1 c1 xs1 s1).mono fun e W' ⟨he, hb⟩ => ?_
  subst he
  exact ⟨_, rfl, Frame.close laidOut hW' rfl rfl rfl Tryd.underlying4 (fun t ht => by rw [Tryd.params3] at ht; simp at ht; rcases ht with rfl | rfl <;> exact ⟨by kernel_rfl, of_decide_eq_true (by kernel_rfl)⟩) hb⟩
theorem over : Rows.cursorReadsRow.holds Tryd.pinned (OpenSpec.ofChange Rows.cursorReadsSpec) :=
  OpenClaim.holds_of_wide 3 Tryd.f3 rfl rfl rfl rfl rfl rfl rfl ⟨rfl, rfl, rfl, rfl, rfl⟩ rfl rfl rfl rfl rfl (by kernel_rfl) Tryd.func3 (by kernel_rfl)
    (of_decide_eq_true (by kernel_rfl)) (by unfold Func.isWrapper; first | (rw [if_pos (by decide +kernel)]; kernel_rfl) | (rw [if_neg (by decide +kernel)]; exact ⟨rfl, rfl⟩))
    (fun os started H enc _ => lifted os started H enc)
/-- the statement -/
theorem proved : Rows.CursorReadsCardSaid :=
  Claim7.holds_tied_plain_at .later [] _ _ _ _ over (fun _ h => by cases h) (by kernel_rfl) (fun _ h => by cases h) cursorReads_row_tie rfl ⟨rfl, rfl⟩ (by kernel_rfl) rfl
    (fun f fn hf hfn => by
      obtain rfl : f = 3 := Option.some.inj ((show Tryd.prog.funcNamed "tombola/tombolalaw08.CursorReads" = some 3 by kernel_rfl).symm.trans hf) |>.symm
      obtain rfl : fn = Tryd.f3 := (Option.some.inj (Tryd.func3.symm.trans hfn)).symm
      exact ⟨by kernel_rfl, (fun j t ht => by
        rw [Tryd.params3] at ht
        have hm : t ∈ [9, 22] := by simpa using Array.mem_of_getElem? ht
        have hall : ([9, 22].all fun u => !Tryd.prog.wantsStandIn u) = true := by kernel_rfl
        exact (show Tryd.prog.wantsStandIn t = false by simpa using List.all_eq_true.1 hall t hm))⟩)
    (by kernel_rfl)
#print axioms proved
end Go.Proofs.YtifobfbeddlglaaDoor.cursorReads
