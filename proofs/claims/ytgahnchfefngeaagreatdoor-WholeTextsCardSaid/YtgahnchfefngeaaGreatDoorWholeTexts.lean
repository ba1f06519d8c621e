/-
  PROVED: the statement WholeTexts (tombolalaw05.WholeTexts) about the landed commit: for every input the law returns true and leaves its arguments as they were. Conditions: none beyond those that the given row itself prints.
-/
import Derived.Test.YtgahnchfefngeaaGreatDoorCards
import Derived.Test.YtgahnchfefngeaaGreatDoorTie
import Derived.LaidMore
import Derived.Lay
import Derived.SevenTiedAt
import Derived.Stop.Joined
import Derived.Test.YtgahnchfefngeaaGreatDoorRows
import Derived.WalkKit
import Derived.ProofKit
import Derived.OpenShut
import Derived.RowKit3
import Derived.Test.YtgahnchfefngeaaGreatDoorGFrame
import Derived.Test.YtgahnchfefngeaaGreatDoorWholeAwake
namespace Go.Proofs.YtgahnchfefngeaaGreatDoor.wholeTexts
open Go.ChangeShapes Go.WideShapes Go.ChangeAt Go.RowKit
set_option linter.unusedVariables false
set_option maxRecDepth 20000
open N
theorem own : ownKnob Tryz.prog.godebug = none := by kernel_rfl
open Go.Lib (decDigits nDigits decDigits_length nDigits_pos)
set_option maxRecDepth 100000 in
set_option maxHeartbeats 4000000 in
theorem walk (w : World) (b0 : Bool) (A0 : Option Addr) (n0 c0 : Nat) (xs0 : List Int) (h0 : Sl w A0 n0 c0 xs0) (b1 : List UInt8) (l1 : b1.length ≤ maxLen) :
    Calls Tryz.prog 5 #[.agg #[.bool b0, .slice A0 n0 c0], .string ⟨b1.toArray⟩] w fun e w' => e = .returned (.bool true) ∧ Below w.heap.size w w' := by
  have hc0 := h0.cap
  have hm0 := h0.max
  unfold maxLen at hm0
  have lm := l1
  unfold maxLen at lm
  by_cases hl : n0 ≤ 10
  · obtain ⟨z0, hz0⟩ : ∃ z, iv b0 (val B xs0) = z := ⟨_, rfl⟩
    have HZ0 := Lib.hid hz0
    have hS := Lib.hid ((SB.start w).old h0 hl rfl)
    clear h0 hz0
    by_cases hs : b1.length ≤ 300
    · obtain ⟨j, hj⟩ : ∃ j, rdJ b1 = j := ⟨_, rfl⟩
      obtain ⟨y, hy⟩ : ∃ y, rdW b1 = y := ⟨_, rfl⟩
      obtain ⟨X, hX⟩ : ∃ X, shI z0 = X := ⟨_, rfl⟩
      have HJ := Lib.hid hj
      have HY := Lib.hid hy
      have HX := Lib.hid hX
      clear hj hy hX
      go_enter Tryz.func5, Tryz.ntmps5
      have h1 := (hS.out.boxed (b := b0) (A := A0) (n := n0) (c := c0) rfl)
      try simp only [World.size_alloc] at h1
      obtain ⟨p0, q0⟩ := h1.cs 0 rfl
      clear h1
      go_wp2_with fail
      clear p0 q0
      generalize hwa : World.alloc w _ = v1
      have h1 := (hS.out.boxed hwa)
      have hsz : v1.heap.size = w.heap.size + 1 := by rw [← hwa]; simp only [World.size_alloc]
      try rw [← hsz]
      clear hsz
      clear hwa
      clear hS; have hS := Lib.hid h1; clear h1
      obtain ⟨x0, y0⟩ := hS.out.cs 0 rfl
      go_wp2_with fail
      go_at_call 6
      with_reducible refine (wlong1_n hS.out _ _ _ _ hl).mono ?_
      rintro e v2 ⟨rfl, h1⟩
      clear x0 y0
      clear hS; have hS := Lib.hid h1; clear h1
      obtain ⟨x0, y0⟩ := hS.out.cs 0 rfl
      go_wp2_with fail
      go_at_call 33
      with_reducible refine (read_w hS.out b1 l1 HJ.out HY.out).mono ?_
      rintro e v3 ⟨Ay, ny, cy, rfl, h1⟩
      clear x0 y0
      clear hS; have hS := Lib.hid h1; clear h1
      obtain ⟨x0, y0⟩ := hS.out.cs 0 rfl
      have h1 := (hS.out.boxed (b := sg y) (A := Ay) (n := ny) (c := cy) rfl)
      try simp only [World.size_alloc] at h1
      obtain ⟨p0, q0⟩ := h1.cs 0 rfl
      obtain ⟨p1, q1⟩ := h1.cs 1 rfl
      clear h1
      go_wp2_with fail
      clear x0 y0
      clear p0 q0 p1 q1
      generalize hwa : World.alloc v3 _ = v4
      have h1 := (hS.out.boxed hwa)
      have hsz : v4.heap.size = v3.heap.size + 1 := by rw [← hwa]; simp only [World.size_alloc]
      try rw [← hsz]
      clear hsz
      clear hwa
      clear hS; have hS := Lib.hid h1; clear h1
      obtain ⟨x0, y0⟩ := hS.out.cs 0 rfl
      obtain ⟨x1, y1⟩ := hS.out.cs 1 rfl
      go_wp2_with fail
      go_at_call 34
      with_reducible refine (rread_w hS.out b1 l1 HJ.out HY.out).mono ?_
      rintro e v5 ⟨Az, nz, cz, rfl, h1⟩
      clear x0 y0 x1 y1
      clear hS; have hS := Lib.hid h1; clear h1
      obtain ⟨x0, y0⟩ := hS.out.cs 0 rfl
      obtain ⟨x1, y1⟩ := hS.out.cs 1 rfl
      have h1 := (hS.out.boxed (b := sg y) (A := Az) (n := nz) (c := cz) rfl)
      try simp only [World.size_alloc] at h1
      obtain ⟨p0, q0⟩ := h1.cs 0 rfl
      obtain ⟨p1, q1⟩ := h1.cs 1 rfl
      obtain ⟨p2, q2⟩ := h1.cs 2 rfl
      clear h1
      go_wp2_with fail
      clear x0 y0 x1 y1
      clear p0 q0 p1 q1 p2 q2
      generalize hwa : World.alloc v5 _ = v6
      have h1 := (hS.out.boxed hwa)
      have hsz : v6.heap.size = v5.heap.size + 1 := by rw [← hwa]; simp only [World.size_alloc]
      try rw [← hsz]
      clear hsz
      clear hwa
      clear hS; have hS := Lib.hid h1; clear h1
      obtain ⟨x0, y0⟩ := hS.out.cs 0 rfl
      obtain ⟨x1, y1⟩ := hS.out.cs 1 rfl
      obtain ⟨x2, y2⟩ := hS.out.cs 2 rfl
      go_wp2_with fail
      clear x0 y0 x1 y1 x2 y2
      have h1 := hS.out.drew
      clear hS; have hS := Lib.hid h1; clear h1
      try simp only [List.append_eq, List.cons_append, List.nil_append]
      go_region_held3 (fun W => (W.cell? ⟨v5.heap.size, 0, none⟩ = some (.bool (sg y)) ∧ W.cell? ⟨v5.heap.size, 1, none⟩ = some (.slice Az nz cz)) ∧ (W.cell? ⟨v3.heap.size, 0, none⟩ = some (.bool (sg y)) ∧ W.cell? ⟨v3.heap.size, 1, none⟩ = some (.slice Ay ny cy)) ∧ (W.cell? ⟨w.heap.size, 0, none⟩ = some (.bool (b0)) ∧ W.cell? ⟨w.heap.size, 1, none⟩ = some (.slice A0 n0 c0))) (first | with_reducible exact ⟨hS.out.cs 0 rfl, hS.out.cs 1 rfl, hS.out.cs 2 rfl⟩ | with_reducible exact ⟨hS.out.drew.cs 0 rfl, hS.out.drew.cs 1 rfl, hS.out.drew.cs 2 rfl⟩ | with_reducible exact ⟨(hS.out.alloc _).cs 0 rfl, (hS.out.alloc _).cs 1 rfl, (hS.out.alloc _).cs 2 rfl⟩ | with_reducible exact ⟨((hS.out.alloc _).alloc _).cs 0 rfl, ((hS.out.alloc _).alloc _).cs 1 rfl, ((hS.out.alloc _).alloc _).cs 2 rfl⟩) (first
        | (go_at_call 35; (with_reducible refine (show_w hS.out (by repeat (first | exact List.mem_cons_self | apply List.mem_cons_of_mem)) (by omega) HZ0.out HX.out).mono ?_); rintro e w' ⟨rfl, h1⟩; clear hS; have hS := Lib.hid h1; clear h1)
        | (go_at_call 36; (with_reducible refine (rshow_w hS.out (by repeat (first | exact List.mem_cons_self | apply List.mem_cons_of_mem)) (by omega) HZ0.out HX.out).mono ?_); rintro e w' ⟨rfl, h1⟩; clear hS; have hS := Lib.hid h1; clear h1)
        | (go_at_call 10; (with_reducible refine (rsame_w hS.out (by repeat (first | exact List.mem_cons_self | apply List.mem_cons_of_mem)) (by repeat (first | exact List.mem_cons_self | apply List.mem_cons_of_mem)) rfl rfl).mono ?_); rintro e w' ⟨rfl, h1⟩; clear hS; have hS := Lib.hid h1; clear h1)
        | (go_at_call 7; (with_reducible refine (wawake_s hS.out).mono ?_); rintro e w' ⟨rfl, h1⟩; clear hS; have hS := Lib.hid h1; clear h1))
      go_wp2
      go_ret
      exact ⟨rfl, hS.out.st.1⟩
    · go_enter Tryz.func5, Tryz.ntmps5
      have h1 := (hS.out.boxed (b := b0) (A := A0) (n := n0) (c := c0) rfl)
      try simp only [World.size_alloc] at h1
      obtain ⟨p0, q0⟩ := h1.cs 0 rfl
      clear h1
      go_wp2_with fail
      clear p0 q0
      generalize hwa : World.alloc w _ = v1
      have h1 := (hS.out.boxed hwa)
      have hsz : v1.heap.size = w.heap.size + 1 := by rw [← hwa]; simp only [World.size_alloc]
      try rw [← hsz]
      clear hsz
      clear hwa
      clear hS; have hS := Lib.hid h1; clear h1
      obtain ⟨x0, y0⟩ := hS.out.cs 0 rfl
      go_wp2_with fail
      go_at_call 6
      with_reducible refine (wlong1_n hS.out _ _ _ _ hl).mono ?_
      rintro e v2 ⟨rfl, h1⟩
      clear x0 y0
      clear hS; have hS := Lib.hid h1; clear h1
      obtain ⟨x0, y0⟩ := hS.out.cs 0 rfl
      go_wp2_with fail
      go_at_call 7
      with_reducible refine (wawake_s hS.out).mono ?_
      rintro e v3 ⟨rfl, h1⟩
      clear x0 y0
      clear hS; have hS := Lib.hid h1; clear h1
      obtain ⟨x0, y0⟩ := hS.out.cs 0 rfl
      go_wp2
      go_ret
      exact ⟨rfl, hS.out.st.1⟩
  · have hS := Lib.hid (SB.start w)
    clear h0
    go_enter Tryz.func5, Tryz.ntmps5
    have h1 := (hS.out.boxed (b := b0) (A := A0) (n := n0) (c := c0) rfl)
    try simp only [World.size_alloc] at h1
    obtain ⟨p0, q0⟩ := h1.cs 0 rfl
    clear h1
    go_wp2_with fail
    clear p0 q0
    generalize hwa : World.alloc w _ = v1
    have h1 := (hS.out.boxed hwa)
    have hsz : v1.heap.size = w.heap.size + 1 := by rw [← hwa]; simp only [World.size_alloc]
    try rw [← hsz]
    clear hsz
    clear hwa
    clear hS; have hS := Lib.hid h1; clear h1
    obtain ⟨x0, y0⟩ := hS.out.cs 0 rfl
    go_wp2_with fail
    go_at_call 6
    with_reducible refine (wlong1_y hS.out _ _ _ _ (by omega) hl).mono ?_
    rintro e v2 ⟨rfl, h1⟩
    clear x0 y0
    clear hS; have hS := Lib.hid h1; clear h1
    obtain ⟨x0, y0⟩ := hS.out.cs 0 rfl
    go_wp2_with fail
    go_at_call 7
    with_reducible refine (wawake_s hS.out).mono ?_
    rintro e v3 ⟨rfl, h1⟩
    clear x0 y0
    clear hS; have hS := Lib.hid h1; clear h1
    obtain ⟨x0, y0⟩ := hS.out.cs 0 rfl
    go_wp2
    go_ret
    exact ⟨rfl, hS.out.st.1⟩
set_option maxRecDepth 100000 in
theorem lifted (os : Os) (started : os.Started) (H : Type) (enc : TypeId × Value → H) :
    ReturnsInHanded {} Tryz.checked os 5 .any (fun w args => (Rows.wholeTextsSpec.pre enc Tryz.prog Tryz.f5 Rows.wholeTextsRow.domain false w args ∧ laidMetH Tryz.prog Rows.wholeTextsRow.laid w) ∧ sizedMet enc Tryz.prog Tryz.f5 (OpenSpec.ofChange Rows.wholeTextsSpec) false w args) (Rows.wholeTextsSpec.post enc Tryz.prog Tryz.f5 false true false false) := by
  refine returnsInHanded_of_change_and (C := Tryz.checked) (X := fun w _ => laidMetH Tryz.prog Rows.wholeTextsRow.laid w) (fun _ _ _ hh h => h.of_heap hh) own started (by kernel_rfl) Tryz.func5
    (ChangeSpec.witness_shaped (enc := enc) (C := Tryz.checked) (os := os) (X := fun w _ => laidMetH Tryz.prog Rows.wholeTextsRow.laid w) false (World.laidAll Tryz.prog os Rows.wholeTextsRow.laid) #[.agg #[.bool false, .slice none 0 0], .string ByteArray.empty] 8 (World.laidAll_os _ _ _)
      (World.shaped_of_ZipB (by kernel_rfl) (by kernel_rfl)) (by kernel_rfl) (by kernel_rfl) (by kernel_rfl)
      (by rw [MakeChecks.laidMetH_plain _ _ _ (by kernel_rfl)]; exact laidMet_laidAll _ (by kernel_rfl) (by kernel_rfl))) ?_
  intro W base args ds gs before hval0 hW hcnd _ _ _
  have hval : ∀ (j : Nat) t v, Tryz.f5.params[j]? = some t → args[j]? = some v → Value.okWide Tryz.prog W .any base t v := hval0
  have hW' := hW
  obtain ⟨p, q, hA0, hV, hpq, hfz, hnd⟩ := hW
  have hA : DataW.TrodAll enc Tryz.prog W 0 (fun _ => true) true Tryz.f5.params.toList args.toList ds p := hA0
  rw [Tryz.params5] at hA hval
  obtain ⟨v0, vs0, d0, ds0, p0, q0, hargs, rfl, rfl, h0, r0⟩ := trodAll_cons hA
  obtain ⟨v1, vs1, d1, ds1, p1, q1, rfl, rfl, rfl, h1, r1⟩ := trodAll_cons r0
  obtain ⟨rfl, rfl, rfl⟩ := trodAll_nil r1
  obtain rfl : args = #[v0, v1] := by cases args; simp_all
  obtain ⟨rfl, rfl⟩ := trodVars_none hV
  obtain ⟨b0, A0, n0, c0, xs0, rfl, s0⟩ := open_whole (hval 0 25 v0 rfl rfl) h0
  obtain ⟨y1, rfl, rfl, rfl, l1⟩ := Go.ChangeMaps.open_string Tryz.underlying9 (hval 1 9 v1 rfl rfl) h1
  obtain ⟨b1, rfl⟩ : ∃ b : List UInt8, y1 = ⟨b.toArray⟩ := ⟨y1.data.toList, by cases y1; simp⟩
  refine (walk W b0 A0 n0 c0 xs0 s0 b1 l1).mono fun e W' ⟨he, hb⟩ => ?_
  subst he
  exact ⟨_, rfl, Frame.close laidOut hW' rfl rfl rfl Tryz.underlying4 (fun t ht => by rw [Tryz.params5] at ht; simp at ht; rcases ht with rfl | rfl <;> exact ⟨by kernel_rfl, of_decide_eq_true (by kernel_rfl)⟩) hb⟩
theorem over : Rows.wholeTextsRow.holds Tryz.pinned (OpenSpec.ofChange Rows.wholeTextsSpec) :=
  OpenClaim.holds_of_wide 5 Tryz.f5 rfl rfl rfl rfl rfl rfl rfl ⟨rfl, rfl, rfl, rfl, rfl⟩ rfl rfl rfl rfl rfl (by kernel_rfl) Tryz.func5 (by kernel_rfl)
    (of_decide_eq_true (by kernel_rfl)) (by unfold Func.isWrapper; first | (rw [if_pos (by decide +kernel)]; kernel_rfl) | (rw [if_neg (by decide +kernel)]; exact ⟨rfl, rfl⟩))
    (fun os started H enc _ => lifted os started H enc)
/-- the statement -/
theorem proved : Rows.WholeTextsCardSaid :=
  Claim7.holds_tied_plain_at .later [] _ _ _ _ over (fun _ h => by cases h) (by kernel_rfl) (fun _ h => by cases h) wholeTexts_row_tie rfl ⟨rfl, rfl⟩ (by kernel_rfl) rfl
    (fun f fn hf hfn => by
      obtain rfl : f = 5 := Option.some.inj ((show Tryz.prog.funcNamed "tombola/tombolalaw05.WholeTexts" = some 5 by kernel_rfl).symm.trans hf) |>.symm
      obtain rfl : fn = Tryz.f5 := (Option.some.inj (Tryz.func5.symm.trans hfn)).symm
      exact ⟨by kernel_rfl, (fun j t ht => by
        rw [Tryz.params5] at ht
        have hm : t ∈ [25, 9] := by simpa using Array.mem_of_getElem? ht
        have hall : ([25, 9].all fun u => !Tryz.prog.wantsStandIn u) = true := by kernel_rfl
        exact (show Tryz.prog.wantsStandIn t = false by simpa using List.all_eq_true.1 hall t hm))⟩)
    (by kernel_rfl)
#print axioms proved
end Go.Proofs.YtgahnchfefngeaaGreatDoor.wholeTexts
