/-
  PROVED: the statement CursorApart (tombolalaw08.CursorApart) about the landed commit: for every input the law returns true and leaves its arguments as they were. Conditions: none beyond those that the given row itself prints.
-/
import Derived.Test.YtifobfbeddlglaaDoorCards
import Derived.Test.YtifobfbeddlglaaDoorTie
import Derived.LaidMore
import Derived.Lay
import Derived.SevenTiedAt
import Derived.Stop.Joined
import Derived.Test.YtifobfbeddlglaaDoorRows
import Derived.WalkKit
import Derived.ProofKit
import Derived.OpenShut
import Derived.RowKit3
import Derived.Test.YtifobfbeddlglaaDoorGFrame
import Derived.Test.YtifobfbeddlglaaDoorCurAwake
import Derived.Test.YtifobfbeddlglaaDoorIntOpen
namespace Go.Proofs.YtifobfbeddlglaaDoor.cursorApart
open Go.ChangeShapes Go.WideShapes Go.ChangeAt Go.RowKit
set_option linter.unusedVariables false
set_option linter.unusedSimpArgs false
set_option maxRecDepth 20000
open N
theorem own : ownKnob Tryd.prog.godebug = none := by kernel_rfl

set_option maxRecDepth 100000 in
set_option maxHeartbeats 40000000 in
theorem walk (w : World) (b0 : List UInt8) (l0 : b0.length ≤ maxLen) (A1 : Option Addr) (n1 c1 : Nat) (xs1 : List Int) (h1 : Il w A1 n1 c1 xs1) (A2 : Option Addr) (n2 c2 : Nat) (xs2 : List Int) (h2 : Il w A2 n2 c2 xs2) :
    Calls Tryd.prog 8 #[.string ⟨b0.toArray⟩, .slice A1 n1 c1, .slice A2 n2 c2] w fun e w' => e = .returned (.bool true) ∧ Below w.heap.size w w' := by
  have hS := Lib.hid (CS.start w)
  by_cases g0 : 2000 < b0.length
  · go_enter Tryd.func8, Tryd.ntmps8
    go_wp2_with fail
    go_at_call 9
    refine (cawake_s hS.out).mono ?_
    rintro e v1 ⟨rfl, h1⟩
    have h2 : CS w v1 [] := h1
    clear hS h1; have hS := Lib.hid h2; clear h2
    go_wp2
    go_ret
    exact ⟨rfl, hS.out.bl⟩
  · have hl0 : b0.length ≤ 2000 := by omega
    clear g0
    by_cases g1 : 100 < n1
    · go_enter Tryd.func8, Tryd.ntmps8
      go_wp2_with fail
      go_at_call 9
      refine (cawake_s hS.out).mono ?_
      rintro e v1 ⟨rfl, h1⟩
      have h2 : CS w v1 [] := h1
      clear hS h1; have hS := Lib.hid h2; clear h2
      go_wp2
      go_ret
      exact ⟨rfl, hS.out.bl⟩
    · by_cases g2 : 100 < n2
      · go_enter Tryd.func8, Tryd.ntmps8
        go_wp2_with fail
        go_at_call 9
        refine (cawake_s hS.out).mono ?_
        rintro e v1 ⟨rfl, h1⟩
        have h2 : CS w v1 [] := h1
        clear hS h1; have hS := Lib.hid h2; clear h2
        go_wp2
        go_ret
        exact ⟨rfl, hS.out.bl⟩
      · have HI := Lib.hid h1
        have HJ := Lib.hid h2
        have HL0 := Lib.hid hl0
        clear h1 h2
        by_cases h : isB b0 = true
        · have HB := Lib.hid h
          clear h
          go_enter Tryd.func8, Tryd.ntmps8
          go_wp2_with fail
          go_at_call 9
          refine (cawake_s hS.out).mono ?_
          rintro e v1 ⟨rfl, h1⟩
          have h2 : CS w v1 [] := h1
          clear hS h1; have hS := Lib.hid h2; clear h2
          go_wp2_with fail
          go_at_call 10
          refine (new_s hS.out HB.out).mono ?_
          rintro e v2 ⟨g, rfl, h1⟩
          have h2 : CS w v2 [K g b0 0 false] := h1
          clear hS h1; have hS := Lib.hid h2; clear h2
          go_wp2_with fail
          go_loopw [9] (fun i wr => ∃ (k a : Nat) (o : Bool), k ≤ n1 ∧ a ≤ b0.length ∧ i = .int .i64 k ∧ CS w wr [K g b0 a o]) (fun i _ => n1 - (intOf i).toNat)
          case atStart => exact ⟨0, 0, false, by omega, by omega, rfl, hS.out⟩
          case round =>
            obtain ⟨k, a, o, hk, ha, rfl, hS0⟩ := hrel
            clear hS
            have hS := Lib.hid hS0
            clear hS0
            have HA := Lib.hid ha
            clear ha
            by_cases hlt : k < n1
            · obtain ⟨ad, z, rfl, hz, wz, hcell⟩ := (HI.out.below hS.out.bl).one hlt
              have HE := Lib.hid (fun (W : World) (hb : Below w.heap.size w W) => (HI.out.below hb).the hlt hz)
              clear hz wz
              obtain ⟨nv, gd, a', o', hk, ha⟩ := tk_some HA.out o z
              have HK := Lib.hid hk
              have HA' := Lib.hid ha
              clear hk ha
              go_wp2_with fail
              go_at_call 12
              refine (take_n hS.out 0 rfl HB.out HA.out HK.out).mono ?_
              rintro e v3 ⟨rfl, h1⟩
              have h2 : CS w v3 [K g b0 a' o'] := h1
              clear hS h1; have hS := Lib.hid h2; clear h2
              clear hcell
              have hcell := HE.out _ hS.out.bl
              go_wp2
              go_roundw
              case rel => exact ⟨k + 1, a', o', by omega, HA'.out, by go_num, hS.out⟩
              case measure => simp [intOf]; omega
            · obtain rfl : k = n1 := by omega
              go_wp2_with fail
              go_at_call 21
              refine (copy_s hS.out 0 rfl HB.out).mono ?_
              rintro e v3 ⟨d, rfl, h1⟩
              have h2 : CS w v3 [K d b0 a o, K g b0 a o] := h1
              clear hS h1; have hS := Lib.hid h2; clear h2
              go_wp2_with fail
              go_at_call 17
              refine (at_s hS.out 1 rfl).mono ?_
              rintro e v4 ⟨rfl, h1⟩
              have h2 : CS w v4 [K d b0 a o, K g b0 a o] := h1
              clear hS h1; have hS := Lib.hid h2; clear h2
              go_wp2_with fail
              go_at_call 18
              refine (over_s hS.out 1 rfl).mono ?_
              rintro e v5 ⟨rfl, h1⟩
              have h2 : CS w v5 [K d b0 a o, K g b0 a o] := h1
              clear hS h1; have hS := Lib.hid h2; clear h2
              go_wp2_with fail
              go_loopw [13] (fun i wr => ∃ (j p : Nat) (q : Bool), j ≤ n2 ∧ p ≤ b0.length ∧ runC b0 (a, o) (xs2.take j) = (p, q) ∧ i = .int .i64 j ∧ CS w wr [K d b0 p q, K g b0 a o]) (fun i _ => n2 - (intOf i).toNat)
              case atStart => exact ⟨0, a, o, by omega, HA.out, rfl, rfl, hS.out⟩
              case round =>
                obtain ⟨j, p, q, hj, hp, hr, rfl, hS0⟩ := hrel
                clear hS
                have hS := Lib.hid hS0
                clear hS0
                have HP := Lib.hid hp
                have HR := Lib.hid hr
                clear hp hr
                by_cases hlt : j < n2
                · obtain ⟨ad, z, rfl, hz, wz, hcell⟩ := (HJ.out.below hS.out.bl).one hlt
                  have HE := Lib.hid (fun (W : World) (hb : Below w.heap.size w W) => (HJ.out.below hb).the hlt hz)
                  have HZ := Lib.hid hz
                  clear hz wz
                  obtain ⟨nv, gd, a', o', hk, ha⟩ := tk_some HP.out q z
                  have HK := Lib.hid hk
                  have HA' := Lib.hid ha
                  clear hk ha
                  go_wp2_with fail
                  go_at_call 12
                  refine (take_n hS.out 0 rfl HB.out HP.out HK.out).mono ?_
                  rintro e v6 ⟨rfl, h1⟩
                  have h2 : CS w v6 [K d b0 a' o', K g b0 a o] := h1
                  clear hS h1; have hS := Lib.hid h2; clear h2
                  clear hcell
                  have hcell := HE.out _ hS.out.bl
                  go_wp2
                  go_roundw
                  case rel => exact ⟨j + 1, a', o', by omega, HA'.out, runC_succ HZ.out HR.out HK.out, by go_num, hS.out⟩
                  case measure => simp [intOf]; omega
                · obtain rfl : j = n2 := by omega
                  have HRD := Lib.hid HR.out
                  clear HR
                  go_wp2_with fail
                  go_at_call 17
                  refine (at_s hS.out 1 rfl).mono ?_
                  rintro e v6 ⟨rfl, h1⟩
                  have h2 : CS w v6 [K d b0 p q, K g b0 a o] := h1
                  clear hS h1; have hS := Lib.hid h2; clear h2
                  go_wp2_with fail
                  go_at_call 18
                  refine (over_s hS.out 1 rfl).mono ?_
                  rintro e v7 ⟨rfl, h1⟩
                  have h2 : CS w v7 [K d b0 p q, K g b0 a o] := h1
                  clear hS h1; have hS := Lib.hid h2; clear h2
                  go_wp2_with fail
                  go_at_call 21
                  refine (copy_s hS.out 1 rfl HB.out).mono ?_
                  rintro e v8 ⟨f, rfl, h1⟩
                  have h2 : CS w v8 [K f b0 a o, K d b0 p q, K g b0 a o] := h1
                  clear hS h1; have hS := Lib.hid h2; clear h2
                  go_wp2_with fail
                  go_loopw [15] (fun i wr => ∃ (i3 s : Nat) (t : Bool), i3 ≤ j ∧ s ≤ b0.length ∧ runC b0 (a, o) (xs2.take i3) = (s, t) ∧ i = .int .i64 i3 ∧ CS w wr [K f b0 a o, K d b0 p q, K g b0 s t]) (fun i _ => j - (intOf i).toNat)
                  case atStart => exact ⟨0, a, o, by omega, HA.out, rfl, rfl, hS.out⟩
                  case round =>
                    obtain ⟨i3, s, t, hi3, hs, hr, rfl, hS0⟩ := hrel
                    clear hS
                    have hS := Lib.hid hS0
                    clear hS0
                    have HT := Lib.hid hs
                    have HR := Lib.hid hr
                    clear hs hr
                    by_cases hlt : i3 < j
                    · obtain ⟨ad, z, rfl, hz, wz, hcell⟩ := (HJ.out.below hS.out.bl).one hlt
                      have HE := Lib.hid (fun (W : World) (hb : Below w.heap.size w W) => (HJ.out.below hb).the hlt hz)
                      have HZ := Lib.hid hz
                      clear hz wz
                      obtain ⟨nv, gd, a', o', hk, ha⟩ := tk_some HT.out t z
                      have HK := Lib.hid hk
                      have HA' := Lib.hid ha
                      clear hk ha
                      go_wp2_with fail
                      go_at_call 12
                      refine (take_n hS.out 2 rfl HB.out HT.out HK.out).mono ?_
                      rintro e v9 ⟨rfl, h1⟩
                      have h2 : CS w v9 [K f b0 a o, K d b0 p q, K g b0 a' o'] := h1
                      clear hS h1; have hS := Lib.hid h2; clear h2
                      clear hcell
                      have hcell := HE.out _ hS.out.bl
                      go_wp2
                      go_roundw
                      case rel => exact ⟨i3 + 1, a', o', by omega, HA'.out, runC_succ HZ.out HR.out HK.out, by go_num, hS.out⟩
                      case measure => simp [intOf]; omega
                    · obtain rfl : i3 = j := by omega
                      obtain ⟨rfl, rfl⟩ : p = s ∧ q = t := by have := HRD.out.symm.trans HR.out; injection this with e1 e2; exact ⟨e1, e2⟩
                      go_wp2_with fail
                      go_at_call 17
                      refine (at_s hS.out 2 rfl).mono ?_
                      rintro e v9 ⟨rfl, h1⟩
                      have h2 : CS w v9 [K f b0 a o, K d b0 p q, K g b0 p q] := h1
                      clear hS h1; have hS := Lib.hid h2; clear h2
                      go_wp2_with fail
                      go_at_call 17
                      refine (at_s hS.out 1 rfl).mono ?_
                      rintro e v10 ⟨rfl, h1⟩
                      have h2 : CS w v10 [K f b0 a o, K d b0 p q, K g b0 p q] := h1
                      clear hS h1; have hS := Lib.hid h2; clear h2
                      go_wp2_with fail
                      go_at_call 18
                      refine (over_s hS.out 2 rfl).mono ?_
                      rintro e v11 ⟨rfl, h1⟩
                      have h2 : CS w v11 [K f b0 a o, K d b0 p q, K g b0 p q] := h1
                      clear hS h1; have hS := Lib.hid h2; clear h2
                      go_wp2_with fail
                      go_at_call 18
                      refine (over_s hS.out 1 rfl).mono ?_
                      rintro e v12 ⟨rfl, h1⟩
                      have h2 : CS w v12 [K f b0 a o, K d b0 p q, K g b0 p q] := h1
                      clear hS h1; have hS := Lib.hid h2; clear h2
                      go_wp2_with fail
                      go_at_call 20
                      refine (rest_s hS.out 2 rfl HB.out HP.out).mono ?_
                      rintro e v13 ⟨rfl, h1⟩
                      have h2 : CS w v13 [K f b0 a o, K d b0 p q, K g b0 p q] := h1
                      clear hS h1; have hS := Lib.hid h2; clear h2
                      go_wp2_with fail
                      go_at_call 20
                      refine (rest_s hS.out 1 rfl HB.out HP.out).mono ?_
                      rintro e v14 ⟨rfl, h1⟩
                      have h2 : CS w v14 [K f b0 a o, K d b0 p q, K g b0 p q] := h1
                      clear hS h1; have hS := Lib.hid h2; clear h2
                      go_wp2_with fail
                      go_at_call 17
                      refine (at_s hS.out 0 rfl).mono ?_
                      rintro e v15 ⟨rfl, h1⟩
                      have h2 : CS w v15 [K f b0 a o, K d b0 p q, K g b0 p q] := h1
                      clear hS h1; have hS := Lib.hid h2; clear h2
                      go_wp2_with fail
                      go_at_call 18
                      refine (over_s hS.out 0 rfl).mono ?_
                      rintro e v16 ⟨rfl, h1⟩
                      have h2 : CS w v16 [K f b0 a o, K d b0 p q, K g b0 p q] := h1
                      clear hS h1; have hS := Lib.hid h2; clear h2
                      go_wp2
                      go_ret
                      exact ⟨rfl, hS.out.bl⟩
        · have hB : isB b0 = false := by simpa using h
          have HB := Lib.hid hB
          clear h hB
          go_enter Tryd.func8, Tryd.ntmps8
          go_wp2_with fail
          go_at_call 9
          refine (cawake_s hS.out).mono ?_
          rintro e v1 ⟨rfl, h1⟩
          have h2 : CS w v1 [] := h1
          clear hS h1; have hS := Lib.hid h2; clear h2
          go_wp2_with fail
          go_at_call 10
          refine (new_s_no (l := b0) hS.out HL0.out HB.out).mono ?_
          rintro e v2 ⟨rfl, h1⟩
          have h2 : CS w v2 [] := h1
          clear hS h1; have hS := Lib.hid h2; clear h2
          go_wp2
          go_ret
          exact ⟨rfl, hS.out.bl⟩
set_option maxRecDepth 100000 in
theorem lifted (os : Os) (started : os.Started) (H : Type) (enc : TypeId × Value → H) :
    ReturnsInHanded {} Tryd.checked os 8 .any (fun w args => (Rows.cursorApartSpec.pre enc Tryd.prog Tryd.f8 Rows.cursorApartRow.domain false w args ∧ laidMetH Tryd.prog Rows.cursorApartRow.laid w) ∧ sizedMet enc Tryd.prog Tryd.f8 (OpenSpec.ofChange Rows.cursorApartSpec) false w args) (Rows.cursorApartSpec.post enc Tryd.prog Tryd.f8 false true false false) := by
  refine returnsInHanded_of_change_and (C := Tryd.checked) (X := fun w _ => laidMetH Tryd.prog Rows.cursorApartRow.laid w) (fun _ _ _ hh h => h.of_heap hh) own started (by kernel_rfl) Tryd.func8
    (ChangeSpec.witness_shaped (enc := enc) (C := Tryd.checked) (os := os) (X := fun w _ => laidMetH Tryd.prog Rows.cursorApartRow.laid w) false (World.laidAll Tryd.prog os Rows.cursorApartRow.laid) #[.string ByteArray.empty, .slice none 0 0, .slice none 0 0] 8 (World.laidAll_os _ _ _)
      (World.shaped_of_ZipB (by kernel_rfl) (by kernel_rfl)) (by kernel_rfl) (by kernel_rfl) (by kernel_rfl)
      (by rw [MakeChecks.laidMetH_plain _ _ _ (by kernel_rfl)]; exact laidMet_laidAll _ (by kernel_rfl) (by kernel_rfl))) ?_
  intro W base args ds gs before hval0 hW hcnd _ _ _
  have hval : ∀ (j : Nat) t v, Tryd.f8.params[j]? = some t → args[j]? = some v → Value.okWide Tryd.prog W .any base t v := hval0
  have hW' := hW
  obtain ⟨p, q, hA0, hV, hpq, hfz, hnd⟩ := hW
  have hA : DataW.TrodAll enc Tryd.prog W 0 (fun _ => true) true Tryd.f8.params.toList args.toList ds p := hA0
  rw [Tryd.params8] at hA hval
  obtain ⟨v0, vs0, d0, ds0, p0, q0, hargs, rfl, rfl, h0, r0⟩ := trodAll_cons hA
  obtain ⟨v1, vs1, d1, ds1, p1, q1, rfl, rfl, rfl, h1, r1⟩ := trodAll_cons r0
  obtain ⟨v2, vs2, d2, ds2, p2, q2, rfl, rfl, rfl, h2, r2⟩ := trodAll_cons r1
  obtain ⟨rfl, rfl, rfl⟩ := trodAll_nil r2
  obtain rfl : args = #[v0, v1, v2] := by cases args; simp_all
  obtain ⟨rfl, rfl⟩ := trodVars_none hV
  obtain ⟨y0, rfl, rfl, rfl, l0⟩ := Go.ChangeMaps.open_string Tryd.underlying9 (hval 0 9 v0 rfl rfl) h0
  obtain ⟨b0, rfl⟩ : ∃ b : List UInt8, y0 = ⟨b.toArray⟩ := ⟨y0.data.toList, by cases y0; simp⟩
  obtain ⟨A1, n1, c1, xs1, rfl, s1⟩ := open_ints_ (hval 1 22 v1 rfl rfl) h1
  obtain ⟨A2, n2, c2, xs2, rfl, s2⟩ := open_ints_ (hval 2 22 v2 rfl rfl) h2
  refine (walk W b0 l0 A1 n1 c1 xs1 s1 A2 n2 c2 xs2 s2).mono fun e W' ⟨he, hb⟩ => ?_
  subst he
  exact ⟨_, rfl, Frame.close laidOut hW' rfl rfl rfl Tryd.underlying4 (fun t ht => by rw [Tryd.params8] at ht; simp at ht; rcases ht with rfl | rfl <;> exact ⟨by kernel_rfl, of_decide_eq_true (by kernel_rfl)⟩) hb⟩
theorem over : Rows.cursorApartRow.holds Tryd.pinned (OpenSpec.ofChange Rows.cursorApartSpec) :=
  OpenClaim.holds_of_wide 8 Tryd.f8 rfl rfl rfl rfl rfl rfl rfl ⟨rfl, rfl, rfl, rfl, rfl⟩ rfl rfl rfl rfl rfl (by kernel_rfl) Tryd.func8 (by kernel_rfl)
    (of_decide_eq_true (by kernel_rfl)) (by unfold Func.isWrapper; first | (rw [if_pos (by decide +kernel)]; kernel_rfl) | (rw [if_neg (by decide +kernel)]; exact ⟨rfl, rfl⟩))
    (fun os started H enc _ => lifted os started H enc)
/-- the statement -/
theorem proved : Rows.CursorApartCardSaid :=
  Claim7.holds_tied_plain_at .later [] _ _ _ _ over (fun _ h => by cases h) (by kernel_rfl) (fun _ h => by cases h) cursorApart_row_tie rfl ⟨rfl, rfl⟩ (by kernel_rfl) rfl
    (fun f fn hf hfn => by
      obtain rfl : f = 8 := Option.some.inj ((show Tryd.prog.funcNamed "tombola/tombolalaw08.CursorApart" = some 8 by kernel_rfl).symm.trans hf) |>.symm
      obtain rfl : fn = Tryd.f8 := (Option.some.inj (Tryd.func8.symm.trans hfn)).symm
      exact ⟨by kernel_rfl, (fun j t ht => by
        rw [Tryd.params8] at ht
        have hm : t ∈ [9, 22, 22] := by simpa using Array.mem_of_getElem? ht
        have hall : ([9, 22, 22].all fun u => !Tryd.prog.wantsStandIn u) = true := by kernel_rfl
        exact (show Tryd.prog.wantsStandIn t = false by simpa using List.all_eq_true.1 hall t hm))⟩)
    (by kernel_rfl)
#print axioms proved
end Go.Proofs.YtifobfbeddlglaaDoor.cursorApart
