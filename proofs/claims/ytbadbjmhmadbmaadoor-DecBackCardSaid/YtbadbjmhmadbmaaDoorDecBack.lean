/-
  PROVED: the statement DecBack (tombolalaw04.DecBack) about the landed commit: for every input the law returns true and leaves its arguments as they were. Conditions: none beyond those that the given row itself prints.
-/
import Derived.Test.YtbadbjmhmadbmaaDoorCards
import Derived.Test.YtbadbjmhmadbmaaDoorTie
import Derived.LaidMore
import Derived.Lay
import Derived.SevenTiedAt
import Derived.Stop.Joined
import Derived.Test.YtbadbjmhmadbmaaDoorRows
import Derived.WalkKit
import Derived.ProofKit
import Derived.OpenShut
import Derived.RowKit3
import Derived.Test.YtbadbjmhmadbmaaDoorLawFrame
import Derived.Test.YtbadbjmhmadbmaaDoorNatOpen
import Derived.Test.YtbadbjmhmadbmaaDoorDecAwake
namespace Go.Proofs.YtbadbjmhmadbmaaDoor.decBack
open Go.ChangeShapes Go.WideShapes Go.ChangeAt Go.RowKit
set_option linter.unusedVariables false
set_option maxRecDepth 20000
open N
theorem own : ownKnob Tryd.prog.godebug = none := by kernel_rfl
open Go.Lib (decDigits nDigits decDigits_length nDigits_pos)
theorem few {xs : List Int} {n : Nat} (h : Dg B xs) (hl : xs.length = n) (hn : n ≤ 24) : nDigits (val B xs).toNat ≤ 481 := by
  have := nDigits_val h hl (Int.toNat_of_nonneg (val_nonneg (b := B) (by decide) h)).symm
  omega
set_option maxRecDepth 100000 in
set_option maxHeartbeats 4000000 in
theorem walk (w : World) (A0 : Option Addr) (n0 c0 : Nat) (xs0 : List Int) (h0 : Sl w A0 n0 c0 xs0) (b1 : List UInt8) (l1 : b1.length ≤ maxLen) :
    Calls Tryd.prog 6 #[.slice A0 n0 c0, .string ⟨b1.toArray⟩] w fun e w' => e = .returned (.bool true) ∧ Below w.heap.size w w' := by
  have hc0 := h0.cap
  have hm0 := h0.max
  unfold maxLen at hm0
  have lm := l1
  unfold maxLen at lm
  by_cases hl : n0 ≤ 24
  · have hf := few h0.dg h0.len hl
    obtain ⟨r1, r2⟩ := rdV_dd (v := (val B xs0).toNat) (by omega)
    rw [Int.toNat_of_nonneg (val_nonneg (b := B) (by decide) h0.dg)] at r2
    have HR1 := Lib.hid r1
    have HR2 := Lib.hid r2
    have hdl : (decDigits (val B xs0).toNat).length ≤ maxLen := by rw [decDigits_length]; unfold maxLen; omega
    have hS := Lib.hid ((St.nil_ w).cons h0 hl rfl)
    clear h0 hf r1 r2
    by_cases hs : b1.length ≤ 500
    · obtain ⟨T, hT⟩ : ∃ T, decDigits (val B xs0).toNat = T := ⟨_, rfl⟩
      rw [hT] at HR1 HR2 hdl
      have HT := Lib.hid hT
      clear hT
      by_cases he : rdE b1 = 0
      · have HE := Lib.hid he
        have HD := Lib.hid (dd_rdV he)
        have HN := Lib.hid (nd_lit he rfl)
        clear he
        go_enter Tryd.func6, Tryd.ntmps6
        go_wp2_with fail
        go_at_call 12
        refine (long1_n hS.out _ _ _ (by omega)).mono ?_
        rintro e w' ⟨rfl, h1⟩
        clear hS; have hS := Lib.hid h1; clear h1
        go_wp2_with fail
        go_at_call 13
        refine (dawake_s hS.out).mono ?_
        rintro e w' ⟨rfl, h1⟩
        clear hS; have hS := Lib.hid h1; clear h1
        go_wp2_with fail
        go_at_call 14
        refine (show_t hS.out (A := A0) (xs := xs0) (v := val B xs0) (by repeat (first | exact List.mem_cons_self | apply List.mem_cons_of_mem)) (by omega) T HT.out).mono ?_
        rintro e w' ⟨rfl, h1⟩
        clear hS; have hS := Lib.hid h1; clear h1
        go_wp2_with fail
        go_at_call 19
        refine (read_t hS.out T 0 (val B xs0) hdl HR1.out HR2.out).mono ?_
        rintro e w' ⟨A2, n2, c2, rfl, h1⟩
        clear hS; have hS := Lib.hid h1; clear h1
        go_wp2_with fail
        go_at_call 24
        refine (trim_s hS.out (A := A0) (xs := xs0) (v := val B xs0) (by repeat (first | exact List.mem_cons_self | apply List.mem_cons_of_mem)) (by omega)).mono ?_
        rintro e w' ⟨A3, n3, c3, rfl, h1⟩
        clear hS; have hS := Lib.hid h1; clear h1
        go_wp2_with fail
        go_at_call 20
        refine (same_s hS.out (A := A2) (A' := A3) (xs := limbs (val B xs0)) (ys := limbs (val B xs0)) (by repeat (first | exact List.mem_cons_self | apply List.mem_cons_of_mem)) (by repeat (first | exact List.mem_cons_self | apply List.mem_cons_of_mem)) rfl).mono ?_
        rintro e w' ⟨rfl, h1⟩
        clear hS; have hS := Lib.hid h1; clear h1
        go_wp2_with fail
        go_at_call 19
        refine (read_t hS.out b1 0 (rdV b1) l1 HE.out rfl).mono ?_
        rintro e w' ⟨A4, n4, c4, rfl, h1⟩
        clear hS; have hS := Lib.hid h1; clear h1
        go_wp2_with fail
        go_at_call 14
        refine (show_t hS.out List.mem_cons_self (by omega) b1 HD.out).mono ?_
        rintro e w' ⟨rfl, h1⟩
        clear hS; have hS := Lib.hid h1; clear h1
        go_wp2_with fail
        go_at_call 16
        refine (manyd_t hS.out List.mem_cons_self (by omega) (b1.length : Int) HN.out).mono ?_
        rintro e w' ⟨rfl, h1⟩
        clear hS; have hS := Lib.hid h1; clear h1
        go_wp2
        go_ret
        exact ⟨rfl, hS.out.1⟩
      · obtain ⟨q, hq⟩ : ∃ q, rdE b1 = q := ⟨_, rfl⟩
        have hv : rdV b1 = 0 := by unfold rdV; rw [if_neg he]
        have HQ := Lib.hid hq
        have HV := Lib.hid hv
        have hq0 : (q != 0) = true := by rw [← hq]; simpa using he
        clear hq hv he
        go_enter Tryd.func6, Tryd.ntmps6
        go_wp2_with fail
        go_at_call 12
        refine (long1_n hS.out _ _ _ (by omega)).mono ?_
        rintro e w' ⟨rfl, h1⟩
        clear hS; have hS := Lib.hid h1; clear h1
        go_wp2_with fail
        go_at_call 13
        refine (dawake_s hS.out).mono ?_
        rintro e w' ⟨rfl, h1⟩
        clear hS; have hS := Lib.hid h1; clear h1
        go_wp2_with fail
        go_at_call 14
        refine (show_t hS.out (A := A0) (xs := xs0) (v := val B xs0) (by repeat (first | exact List.mem_cons_self | apply List.mem_cons_of_mem)) (by omega) T HT.out).mono ?_
        rintro e w' ⟨rfl, h1⟩
        clear hS; have hS := Lib.hid h1; clear h1
        go_wp2_with fail
        go_at_call 19
        refine (read_t hS.out T 0 (val B xs0) hdl HR1.out HR2.out).mono ?_
        rintro e w' ⟨A2, n2, c2, rfl, h1⟩
        clear hS; have hS := Lib.hid h1; clear h1
        go_wp2_with fail
        go_at_call 24
        refine (trim_s hS.out (A := A0) (xs := xs0) (v := val B xs0) (by repeat (first | exact List.mem_cons_self | apply List.mem_cons_of_mem)) (by omega)).mono ?_
        rintro e w' ⟨A3, n3, c3, rfl, h1⟩
        clear hS; have hS := Lib.hid h1; clear h1
        go_wp2_with fail
        go_at_call 20
        refine (same_s hS.out (A := A2) (A' := A3) (xs := limbs (val B xs0)) (ys := limbs (val B xs0)) (by repeat (first | exact List.mem_cons_self | apply List.mem_cons_of_mem)) (by repeat (first | exact List.mem_cons_self | apply List.mem_cons_of_mem)) rfl).mono ?_
        rintro e w' ⟨rfl, h1⟩
        clear hS; have hS := Lib.hid h1; clear h1
        go_wp2_with fail
        go_at_call 19
        refine (read_t hS.out b1 q 0 l1 HQ.out HV.out).mono ?_
        rintro e w' ⟨A4, n4, c4, rfl, h1⟩
        obtain rfl : n4 = 0 := by have := (h1.get List.mem_cons_self).1.len; rw [limbs_zero] at this; exact this.symm
        clear hS; have hS := Lib.hid h1; clear h1
        go_wp2
        go_ret
        exact ⟨rfl, hS.out.1⟩
    · go_enter Tryd.func6, Tryd.ntmps6
      go_wp2_with fail
      go_at_call 12
      refine (long1_n hS.out _ _ _ (by omega)).mono ?_
      rintro e w' ⟨rfl, h1⟩
      clear hS; have hS := Lib.hid h1; clear h1
      go_wp2_with fail
      go_at_call 13
      refine (dawake_s hS.out).mono ?_
      rintro e w' ⟨rfl, h1⟩
      clear hS; have hS := Lib.hid h1; clear h1
      go_wp2
      go_ret
      exact ⟨rfl, hS.out.1⟩
  · have hS := Lib.hid (St.nil_ w)
    clear h0
    go_enter Tryd.func6, Tryd.ntmps6
    go_wp2_with fail
    go_at_call 12
    refine (long1_y hS.out _ _ _ (by omega) hl).mono ?_
    rintro e w' ⟨rfl, h1⟩
    clear hS; have hS := Lib.hid h1; clear h1
    go_wp2_with fail
    go_at_call 13
    refine (dawake_s hS.out).mono ?_
    rintro e w' ⟨rfl, h1⟩
    clear hS; have hS := Lib.hid h1; clear h1
    go_wp2
    go_ret
    exact ⟨rfl, hS.out.1⟩
set_option maxRecDepth 100000 in
theorem lifted (os : Os) (started : os.Started) (H : Type) (enc : TypeId × Value → H) :
    ReturnsInHanded {} Tryd.checked os 6 .any (fun w args => (Rows.decBackSpec.pre enc Tryd.prog Tryd.f6 Rows.decBackRow.domain false w args ∧ laidMetH Tryd.prog Rows.decBackRow.laid w) ∧ sizedMet enc Tryd.prog Tryd.f6 (OpenSpec.ofChange Rows.decBackSpec) false w args) (Rows.decBackSpec.post enc Tryd.prog Tryd.f6 false true false false) := by
  refine returnsInHanded_of_change_and (C := Tryd.checked) (X := fun w _ => laidMetH Tryd.prog Rows.decBackRow.laid w) (fun _ _ _ hh h => h.of_heap hh) own started (by kernel_rfl) Tryd.func6
    (ChangeSpec.witness_shaped (enc := enc) (C := Tryd.checked) (os := os) (X := fun w _ => laidMetH Tryd.prog Rows.decBackRow.laid w) false (World.laidAll Tryd.prog os Rows.decBackRow.laid) #[.slice none 0 0, .string ByteArray.empty] 8 (World.laidAll_os _ _ _)
      (World.shaped_of_ZipB (by kernel_rfl) (by kernel_rfl)) (by kernel_rfl) (by kernel_rfl) (by kernel_rfl)
      (by rw [MakeChecks.laidMetH_plain _ _ _ (by kernel_rfl)]; exact laidMet_laidAll _ (by kernel_rfl) (by kernel_rfl))) ?_
  intro W base args ds gs before hval0 hW hcnd _ _ _
  have hval : ∀ (j : Nat) t v, Tryd.f6.params[j]? = some t → args[j]? = some v → Value.okWide Tryd.prog W .any base t v := hval0
  have hW' := hW
  obtain ⟨p, q, hA0, hV, hpq, hfz, hnd⟩ := hW
  have hA : DataW.TrodAll enc Tryd.prog W 0 (fun _ => true) true Tryd.f6.params.toList args.toList ds p := hA0
  rw [Tryd.params6] at hA hval
  obtain ⟨v0, vs0, d0, ds0, p0, q0, hargs, rfl, rfl, h0, r0⟩ := trodAll_cons hA
  obtain ⟨v1, vs1, d1, ds1, p1, q1, rfl, rfl, rfl, h1, r1⟩ := trodAll_cons r0
  obtain ⟨rfl, rfl, rfl⟩ := trodAll_nil r1
  obtain rfl : args = #[v0, v1] := by cases args; simp_all
  obtain ⟨rfl, rfl⟩ := trodVars_none hV
  obtain ⟨A0, n0, c0, xs0, rfl, s0⟩ := open_natural (hval 0 23 v0 rfl rfl) h0
  obtain ⟨y1, rfl, rfl, rfl, l1⟩ := Go.ChangeMaps.open_string Tryd.underlying9 (hval 1 9 v1 rfl rfl) h1
  obtain ⟨b1, rfl⟩ : ∃ b : List UInt8, y1 = ⟨b.toArray⟩ := ⟨y1.data.toList, by cases y1; simp⟩
  refine (walk W A0 n0 c0 xs0 s0 b1 l1).mono fun e W' ⟨he, hb⟩ => ?_
  subst he
  exact ⟨_, rfl, Frame.close laidOut hW' rfl rfl rfl Tryd.underlying4 (fun t ht => by rw [Tryd.params6] at ht; simp at ht; rcases ht with rfl | rfl <;> exact ⟨by kernel_rfl, of_decide_eq_true (by kernel_rfl)⟩) hb⟩
theorem over : Rows.decBackRow.holds Tryd.pinned (OpenSpec.ofChange Rows.decBackSpec) :=
  OpenClaim.holds_of_wide 6 Tryd.f6 rfl rfl rfl rfl rfl rfl rfl ⟨rfl, rfl, rfl, rfl, rfl⟩ rfl rfl rfl rfl rfl (by kernel_rfl) Tryd.func6 (by kernel_rfl)
    (of_decide_eq_true (by kernel_rfl)) (by unfold Func.isWrapper; first | (rw [if_pos (by decide +kernel)]; kernel_rfl) | (rw [if_neg (by decide +kernel)]; exact ⟨rfl, rfl⟩))
    (fun os started H enc _ => lifted os started H enc)
/-- the statement -/
theorem proved : Rows.DecBackCardSaid :=
  Claim7.holds_tied_plain_at .later [] _ _ _ _ over (fun _ h => by cases h) (by kernel_rfl) (fun _ h => by cases h) decBack_row_tie rfl ⟨rfl, rfl⟩ (by kernel_rfl) rfl
    (fun f fn hf hfn => by
      obtain rfl : f = 6 := Option.some.inj ((show Tryd.prog.funcNamed "tombola/tombolalaw04.DecBack" = some 6 by kernel_rfl).symm.trans hf) |>.symm
      obtain rfl : fn = Tryd.f6 := (Option.some.inj (Tryd.func6.symm.trans hfn)).symm
      exact ⟨by kernel_rfl, (fun j t ht => by
        rw [Tryd.params6] at ht
        have hm : t ∈ [23, 9] := by simpa using Array.mem_of_getElem? ht
        have hall : ([23, 9].all fun u => !Tryd.prog.wantsStandIn u) = true := by kernel_rfl
        exact (show Tryd.prog.wantsStandIn t = false by simpa using List.all_eq_true.1 hall t hm))⟩)
    (by kernel_rfl)
#print axioms proved
end Go.Proofs.YtbadbjmhmadbmaaDoor.decBack
