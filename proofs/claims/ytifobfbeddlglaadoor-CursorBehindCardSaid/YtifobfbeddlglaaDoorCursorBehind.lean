/-
  PROVED: the statement CursorBehind (tombolalaw08.CursorBehind) about the landed commit: for every input the law returns true and leaves its arguments as they were. Conditions: none beyond those that the given row itself prints.
-/
import Derived.Test.YtifobfbeddlglaaDoorCards
import Derived.Test.YtifobfbeddlglaaDoorTie
import Derived.LaidMore
import Derived.Lay
import Derived.SevenTiedAt
import Derived.Stop.Joined
import Derived.Test.YtifobfbeddlglaaDoorRows
import Derived.WalkKit
import Derived.ProofKit
import Derived.OpenShut
import Derived.RowKit3
import Derived.Test.YtifobfbeddlglaaDoorGFrame
import Derived.Test.YtifobfbeddlglaaDoorCurAwake
import Derived.Test.YtifobfbeddlglaaDoorIntOpen
namespace Go.Proofs.YtifobfbeddlglaaDoor.cursorBehind
open Go.ChangeShapes Go.WideShapes Go.ChangeAt Go.RowKit
set_option linter.unusedVariables false
set_option linter.unusedSimpArgs false
set_option maxRecDepth 20000
open N
theorem own : ownKnob Tryd.prog.godebug = none := by kernel_rfl

set_option maxRecDepth 100000 in
set_option maxHeartbeats 40000000 in
theorem walk (w : World) (b0 : List UInt8) (l0 : b0.length ≤ maxLen) (r0 : b0.length ≤ 140737488351232) (b1 : List UInt8) (l1 : b1.length ≤ maxLen) (r1 : b1.length ≤ 140737488351232) (A2 : Option Addr) (n2 c2 : Nat) (xs2 : List Int) (h2 : Il w A2 n2 c2 xs2) :
    Calls Tryd.prog 6 #[.string ⟨b0.toArray⟩, .string ⟨b1.toArray⟩, .slice A2 n2 c2] w fun e w' => e = .returned (.bool true) ∧ Below w.heap.size w w' := by
  have hS := Lib.hid (CS.start w)
  have hwl : IntKind.i64.wrap ((b0.length : Int) + (b1.length : Int)) = (b0.length : Int) + (b1.length : Int) := by rw [IntKind.wrap_i64]; omega
  by_cases g0 : 2000 < b0.length + b1.length
  · go_enter Tryd.func6, Tryd.ntmps6
    go_wp2_with fail
    go_at_call 9
    refine (cawake_s hS.out).mono ?_
    rintro e v1 ⟨rfl, h1⟩
    have h2 : CS w v1 [] := h1
    clear hS h1; have hS := Lib.hid h2; clear h2
    go_wp2
    go_ret
    exact ⟨rfl, hS.out.bl⟩
  · have hl0 : b0.length + b1.length ≤ 2000 := by omega
    clear g0
    by_cases g1 : 200 < n2
    · go_enter Tryd.func6, Tryd.ntmps6
      go_wp2_with fail
      go_at_call 9
      refine (cawake_s hS.out).mono ?_
      rintro e v1 ⟨rfl, h1⟩
      have h2 : CS w v1 [] := h1
      clear hS h1; have hS := Lib.hid h2; clear h2
      go_wp2
      go_ret
      exact ⟨rfl, hS.out.bl⟩
    · have HI := Lib.hid h2
      have HL0 := Lib.hid (show b0.length ≤ 2000 by omega)
      have HL1 := Lib.hid (show b1.length ≤ 2000 by omega)
      have HL := Lib.hid hl0
      clear h2
      obtain ⟨ac, hac⟩ : ∃ x, b0 ++ b1 = x := ⟨_, rfl⟩
      have nac : ac.length = b0.length + b1.length := by rw [← hac, List.length_append]
      have HNA := Lib.hid nac
      have pac : (⟨b0.toArray⟩ : ByteArray) ++ ⟨b1.toArray⟩ = ⟨ac.toArray⟩ := by rw [← hac]; exact ByteArray.mk_append_mk b0 b1
      have HAC := Lib.hid hac
      clear hac nac
      by_cases h : isB b0 = true
      · have HB := Lib.hid h
        clear h
        by_cases h2 : isB ac = true
        · have HB2 := Lib.hid h2
          clear h2
          go_enter Tryd.func6, Tryd.ntmps6
          go_wp2_with fail
          go_at_call 9
          refine (cawake_s hS.out).mono ?_
          rintro e v1 ⟨rfl, h1⟩
          have h2 : CS w v1 [] := h1
          clear hS h1; have hS := Lib.hid h2; clear h2
          go_wp2_with fail
          go_at_call 10
          refine (new_s hS.out HB.out).mono ?_
          rintro e v2 ⟨g, rfl, h1⟩
          have h2 : CS w v2 [K g b0 0 false] := h1
          clear hS h1; have hS := Lib.hid h2; clear h2
          go_wp2_with fail
          go_at_call 10
          refine (new_s hS.out HB2.out).mono ?_
          rintro e v3 ⟨d, rfl, h1⟩
          have h2 : CS w v3 [K d ac 0 false, K g b0 0 false] := h1
          clear hS h1; have hS := Lib.hid h2; clear h2
          go_wp2_with fail
          go_loopw [11] (fun i wr => ∃ (k a : Nat), k ≤ n2 ∧ a ≤ b0.length ∧ i = .int .i64 k ∧ CS w wr [K d ac a false, K g b0 a false]) (fun i _ => n2 - (intOf i).toNat)
          case atStart => exact ⟨0, 0, by omega, by omega, rfl, hS.out⟩
          case round =>
            obtain ⟨k, a, hk, ha, rfl, hS0⟩ := hrel
            clear hS
            have hS := Lib.hid hS0
            clear hS0
            have HA := Lib.hid ha
            clear ha
            by_cases hlt : k < n2
            · obtain ⟨ad, z, rfl, hz, wz, hcell⟩ := (HI.out.below hS.out.bl).one hlt
              have HE := Lib.hid (fun (W : World) (hb : Below w.heap.size w W) => (HI.out.below hb).the hlt hz)
              clear hz wz
              obtain ⟨nv, gd, a', o', hk, ha'⟩ := tk_some HA.out false z
              have HK := Lib.hid hk
              have HA' := Lib.hid ha'
              clear hk ha'
              cases o' with
              | true =>
                go_wp2_with fail
                go_at_call 12
                refine (take_n hS.out 1 rfl HB.out HA.out HK.out).mono ?_
                rintro e v4 ⟨rfl, h1⟩
                have h2 : CS w v4 [K d ac a false, K g b0 a' true] := h1
                clear hS h1; have hS := Lib.hid h2; clear h2
                clear hcell
                have hcell := HE.out _ hS.out.bl
                go_wp2_with fail
                go_at_call 18
                refine (over_s hS.out 1 rfl).mono ?_
                rintro e v5 ⟨rfl, h1⟩
                have h2 : CS w v5 [K d ac a false, K g b0 a' true] := h1
                clear hS h1; have hS := Lib.hid h2; clear h2
                clear hcell
                have hcell := HE.out _ hS.out.bl
                go_wp2
                go_ret
                exact ⟨rfl, hS.out.bl⟩
              | false =>
                have HK2 := Lib.hid (show Tk ac a false z nv gd a' false by rw [← HAC.out]; exact HK.out.more)
                have HA2 := Lib.hid (show a ≤ ac.length by rw [HNA.out]; have := HA.out; omega)
                have HA2' := Lib.hid (show a' ≤ ac.length by rw [HNA.out]; have := HA'.out; omega)
                obtain ⟨r0, hr0⟩ : ∃ r, b0.drop a' = r := ⟨_, rfl⟩
                obtain ⟨r1, hr1⟩ : ∃ r, ac.drop a' = r := ⟨_, rfl⟩
                have prr : (⟨r0.toArray⟩ : ByteArray) ++ ⟨b1.toArray⟩ = ⟨r1.toArray⟩ := by
                  rw [← hr0, ← hr1, ← HAC.out, List.drop_append_of_le_length HA'.out]; exact ByteArray.mk_append_mk _ b1
                have nr0 : r0.length ≤ 2000 := by rw [← hr0, List.length_drop]; have := HL0.out; omega
                have HR0 := Lib.hid hr0
                have HR1 := Lib.hid hr1
                clear hr0 hr1
                go_wp2_with fail
                go_at_call 12
                refine (take_n hS.out 1 rfl HB.out HA.out HK.out).mono ?_
                rintro e v4 ⟨rfl, h1⟩
                have h2 : CS w v4 [K d ac a false, K g b0 a' false] := h1
                clear hS h1; have hS := Lib.hid h2; clear h2
                clear hcell
                have hcell := HE.out _ hS.out.bl
                go_wp2_with fail
                go_at_call 18
                refine (over_s hS.out 1 rfl).mono ?_
                rintro e v5 ⟨rfl, h1⟩
                have h2 : CS w v5 [K d ac a false, K g b0 a' false] := h1
                clear hS h1; have hS := Lib.hid h2; clear h2
                clear hcell
                have hcell := HE.out _ hS.out.bl
                go_wp2_with fail
                go_at_call 12
                refine (take_n hS.out 0 rfl HB2.out HA2.out HK2.out).mono ?_
                rintro e v6 ⟨rfl, h1⟩
                have h2 : CS w v6 [K d ac a' false, K g b0 a' false] := h1
                clear hS h1; have hS := Lib.hid h2; clear h2
                clear hcell
                have hcell := HE.out _ hS.out.bl
                go_wp2_with fail
                go_at_call 17
                refine (at_s hS.out 1 rfl).mono ?_
                rintro e v7 ⟨rfl, h1⟩
                have h2 : CS w v7 [K d ac a' false, K g b0 a' false] := h1
                clear hS h1; have hS := Lib.hid h2; clear h2
                clear hcell
                have hcell := HE.out _ hS.out.bl
                go_wp2_with fail
                go_at_call 17
                refine (at_s hS.out 0 rfl).mono ?_
                rintro e v8 ⟨rfl, h1⟩
                have h2 : CS w v8 [K d ac a' false, K g b0 a' false] := h1
                clear hS h1; have hS := Lib.hid h2; clear h2
                clear hcell
                have hcell := HE.out _ hS.out.bl
                go_wp2_with fail
                go_at_call 20
                refine (rest_n hS.out 0 rfl HB2.out HA2'.out HR1.out).mono ?_
                rintro e v9 ⟨rfl, h1⟩
                have h2 : CS w v9 [K d ac a' false, K g b0 a' false] := h1
                clear hS h1; have hS := Lib.hid h2; clear h2
                clear hcell
                have hcell := HE.out _ hS.out.bl
                go_wp2_with fail
                go_at_call 20
                refine (rest_n hS.out 1 rfl HB.out HA'.out HR0.out).mono ?_
                rintro e v10 ⟨rfl, h1⟩
                have h2 : CS w v10 [K d ac a' false, K g b0 a' false] := h1
                clear hS h1; have hS := Lib.hid h2; clear h2
                clear hcell
                have hcell := HE.out _ hS.out.bl
                go_wp2
                go_roundw
                case rel => exact ⟨k + 1, a', by omega, HA'.out, by go_num, hS.out⟩
                case measure => simp [intOf]; omega
            · obtain rfl : k = n2 := by omega
              go_wp2
              go_ret
              exact ⟨rfl, hS.out.bl⟩
        · have hB2 : isB ac = false := by simpa using h2
          have HB2 := Lib.hid hB2
          clear h2 hB2
          go_enter Tryd.func6, Tryd.ntmps6
          go_wp2_with fail
          go_at_call 9
          refine (cawake_s hS.out).mono ?_
          rintro e v1 ⟨rfl, h1⟩
          have h2 : CS w v1 [] := h1
          clear hS h1; have hS := Lib.hid h2; clear h2
          go_wp2_with fail
          go_at_call 10
          refine (new_s hS.out HB.out).mono ?_
          rintro e v2 ⟨g, rfl, h1⟩
          have h2 : CS w v2 [K g b0 0 false] := h1
          clear hS h1; have hS := Lib.hid h2; clear h2
          go_wp2_with fail
          go_at_call 10
          refine (new_s_no (l := ac) hS.out (by rw [HNA.out]; exact HL.out) HB2.out).mono ?_
          rintro e v3 ⟨rfl, h1⟩
          have h2 : CS w v3 [K g b0 0 false] := h1
          clear hS h1; have hS := Lib.hid h2; clear h2
          go_wp2
          go_ret
          exact ⟨rfl, hS.out.bl⟩
      · have hB : isB b0 = false := by simpa using h
        have HB := Lib.hid hB
        clear h hB
        by_cases h2 : isB ac = true
        · have HB2 := Lib.hid h2
          clear h2
          go_enter Tryd.func6, Tryd.ntmps6
          go_wp2_with fail
          go_at_call 9
          refine (cawake_s hS.out).mono ?_
          rintro e v1 ⟨rfl, h1⟩
          have h2 : CS w v1 [] := h1
          clear hS h1; have hS := Lib.hid h2; clear h2
          go_wp2_with fail
          go_at_call 10
          refine (new_s_no (l := b0) hS.out HL0.out HB.out).mono ?_
          rintro e v2 ⟨rfl, h1⟩
          have h2 : CS w v2 [] := h1
          clear hS h1; have hS := Lib.hid h2; clear h2
          go_wp2_with fail
          go_at_call 10
          refine (new_s hS.out HB2.out).mono ?_
          rintro e v3 ⟨d, rfl, h1⟩
          have h2 : CS w v3 [K d ac 0 false] := h1
          clear hS h1; have hS := Lib.hid h2; clear h2
          go_wp2
          go_ret
          exact ⟨rfl, hS.out.bl⟩
        · have hB2 : isB ac = false := by simpa using h2
          have HB2 := Lib.hid hB2
          clear h2 hB2
          go_enter Tryd.func6, Tryd.ntmps6
          go_wp2_with fail
          go_at_call 9
          refine (cawake_s hS.out).mono ?_
          rintro e v1 ⟨rfl, h1⟩
          have h2 : CS w v1 [] := h1
          clear hS h1; have hS := Lib.hid h2; clear h2
          go_wp2_with fail
          go_at_call 10
          refine (new_s_no (l := b0) hS.out HL0.out HB.out).mono ?_
          rintro e v2 ⟨rfl, h1⟩
          have h2 : CS w v2 [] := h1
          clear hS h1; have hS := Lib.hid h2; clear h2
          go_wp2_with fail
          go_at_call 10
          refine (new_s_no (l := ac) hS.out (by rw [HNA.out]; exact HL.out) HB2.out).mono ?_
          rintro e v3 ⟨rfl, h1⟩
          have h2 : CS w v3 [] := h1
          clear hS h1; have hS := Lib.hid h2; clear h2
          go_wp2
          go_ret
          exact ⟨rfl, hS.out.bl⟩
set_option maxRecDepth 100000 in
theorem lifted (os : Os) (started : os.Started) (H : Type) (enc : TypeId × Value → H) :
    ReturnsInHanded {} Tryd.checked os 6 .any (fun w args => (Rows.cursorBehindSpec.pre enc Tryd.prog Tryd.f6 Rows.cursorBehindRow.domain false w args ∧ laidMetH Tryd.prog Rows.cursorBehindRow.laid w) ∧ sizedMet enc Tryd.prog Tryd.f6 (OpenSpec.ofChange Rows.cursorBehindSpec) false w args) (Rows.cursorBehindSpec.post enc Tryd.prog Tryd.f6 false true false false) := by
  refine returnsInHanded_of_change_and (C := Tryd.checked) (X := fun w _ => laidMetH Tryd.prog Rows.cursorBehindRow.laid w) (fun _ _ _ hh h => h.of_heap hh) own started (by kernel_rfl) Tryd.func6
    (ChangeSpec.witness_shaped (enc := enc) (C := Tryd.checked) (os := os) (X := fun w _ => laidMetH Tryd.prog Rows.cursorBehindRow.laid w) false (World.laidAll Tryd.prog os Rows.cursorBehindRow.laid) #[.string ByteArray.empty, .string ByteArray.empty, .slice none 0 0] 8 (World.laidAll_os _ _ _)
      (World.shaped_of_ZipB (by kernel_rfl) (by kernel_rfl)) (by kernel_rfl) (by kernel_rfl) (by kernel_rfl)
      (by rw [MakeChecks.laidMetH_plain _ _ _ (by kernel_rfl)]; exact laidMet_laidAll _ (by kernel_rfl) (by kernel_rfl))) ?_
  intro W base args ds gs before hval0 hW hcnd hreach _ _
  have hval : ∀ (j : Nat) t v, Tryd.f6.params[j]? = some t → args[j]? = some v → Value.okWide Tryd.prog W .any base t v := hval0
  have hW' := hW
  obtain ⟨p, q, hA0, hV, hpq, hfz, hnd⟩ := hW
  have hA : DataW.TrodAll enc Tryd.prog W 0 (fun _ => true) true Tryd.f6.params.toList args.toList ds p := hA0
  rw [Tryd.params6] at hA hval
  obtain ⟨v0, vs0, d0, ds0, p0, q0, hargs, rfl, rfl, h0, r0⟩ := trodAll_cons hA
  obtain ⟨v1, vs1, d1, ds1, p1, q1, rfl, rfl, rfl, h1, r1⟩ := trodAll_cons r0
  obtain ⟨v2, vs2, d2, ds2, p2, q2, rfl, rfl, rfl, h2, r2⟩ := trodAll_cons r1
  obtain ⟨rfl, rfl, rfl⟩ := trodAll_nil r2
  obtain rfl : args = #[v0, v1, v2] := by cases args; simp_all
  obtain ⟨rfl, rfl⟩ := trodVars_none hV
  obtain ⟨y0, rfl, rfl, rfl, l0⟩ := Go.ChangeMaps.open_string Tryd.underlying9 (hval 0 9 v0 rfl rfl) h0
  obtain ⟨b0, rfl⟩ : ∃ b : List UInt8, y0 = ⟨b.toArray⟩ := ⟨y0.data.toList, by cases y0; simp⟩
  obtain ⟨y1, rfl, rfl, rfl, l1⟩ := Go.ChangeMaps.open_string Tryd.underlying9 (hval 1 9 v1 rfl rfl) h1
  obtain ⟨b1, rfl⟩ : ∃ b : List UInt8, y1 = ⟨b.toArray⟩ := ⟨y1.data.toList, by cases y1; simp⟩
  obtain ⟨A2, n2, c2, xs2, rfl, s2⟩ := open_ints_ (hval 2 22 v2 rfl rfl) h2
  refine (walk W b0 l0 (by have h9 := hreach; rw [Tryd.params6] at h9; simp [DataW.weightsEach, DataW.weights, reachBytes] at h9; first | exact of_decide_eq_true h9 | exact of_decide_eq_true h9.1 | exact of_decide_eq_true h9.2 | exact of_decide_eq_true h9.2.1 | exact of_decide_eq_true h9.2.2 | exact of_decide_eq_true h9.2.2.1) b1 l1 (by have h9 := hreach; rw [Tryd.params6] at h9; simp [DataW.weightsEach, DataW.weights, reachBytes] at h9; first | exact of_decide_eq_true h9 | exact of_decide_eq_true h9.1 | exact of_decide_eq_true h9.2 | exact of_decide_eq_true h9.2.1 | exact of_decide_eq_true h9.2.2 | exact of_decide_eq_true h9.2.2.1) A2 n2 c2 xs2 s2).mono fun e W' ⟨he, hb⟩ => ?_
  subst he
  exact ⟨_, rfl, Frame.close laidOut hW' rfl rfl rfl Tryd.underlying4 (fun t ht => by rw [Tryd.params6] at ht; simp at ht; rcases ht with rfl | rfl <;> exact ⟨by kernel_rfl, of_decide_eq_true (by kernel_rfl)⟩) hb⟩
theorem over : Rows.cursorBehindRow.holds Tryd.pinned (OpenSpec.ofChange Rows.cursorBehindSpec) :=
  OpenClaim.holds_of_wide 6 Tryd.f6 rfl rfl rfl rfl rfl rfl rfl ⟨rfl, rfl, rfl, rfl, rfl⟩ rfl rfl rfl rfl rfl (by kernel_rfl) Tryd.func6 (by kernel_rfl)
    (of_decide_eq_true (by kernel_rfl)) (by unfold Func.isWrapper; first | (rw [if_pos (by decide +kernel)]; kernel_rfl) | (rw [if_neg (by decide +kernel)]; exact ⟨rfl, rfl⟩))
    (fun os started H enc _ => lifted os started H enc)
/-- the statement -/
theorem proved : Rows.CursorBehindCardSaid :=
  Claim7.holds_tied_plain_at .later [] _ _ _ _ over (fun _ h => by cases h) (by kernel_rfl) (fun _ h => by cases h) cursorBehind_row_tie rfl ⟨rfl, rfl⟩ (by kernel_rfl) rfl
    (fun f fn hf hfn => by
      obtain rfl : f = 6 := Option.some.inj ((show Tryd.prog.funcNamed "tombola/tombolalaw08.CursorBehind" = some 6 by kernel_rfl).symm.trans hf) |>.symm
      obtain rfl : fn = Tryd.f6 := (Option.some.inj (Tryd.func6.symm.trans hfn)).symm
      exact ⟨by kernel_rfl, (fun j t ht => by
        rw [Tryd.params6] at ht
        have hm : t ∈ [9, 9, 22] := by simpa using Array.mem_of_getElem? ht
        have hall : ([9, 9, 22].all fun u => !Tryd.prog.wantsStandIn u) = true := by kernel_rfl
        exact (show Tryd.prog.wantsStandIn t = false by simpa using List.all_eq_true.1 hall t hm))⟩)
    (by kernel_rfl)
#print axioms proved
end Go.Proofs.YtifobfbeddlglaaDoor.cursorBehind
