/-
  PROVED: the statement BelowCosts (tombolalaw09.BelowCosts) about the landed commit: for every input the law returns true and leaves its arguments as they were. Conditions: none beyond those that the given row itself prints.
-/
import Derived.Test.YtfmhghemlcbapaaGreatDoorCards
import Derived.Test.YtfmhghemlcbapaaGreatDoorTie
import Derived.LaidMore
import Derived.Lay
import Derived.SevenTiedAt
import Derived.Stop.Joined
import Derived.Test.YtfmhghemlcbapaaGreatDoorRows
import Derived.WalkKit
import Derived.ProofKit
import Derived.OpenShut
import Derived.RowKit3
import Derived.Test.YtfmhghemlcbapaaGreatDoorGFrame
import Derived.Test.YtfmhghemlcbapaaGreatDoorBelAwake
import Derived.Test.YtfmhghemlcbapaaGreatDoorRatS
import Derived.Test.YtfmhghemlcbapaaGreatDoorBelRefC
import Derived.Deep.RegionHeld3
namespace Go.Proofs.YtfmhghemlcbapaaGreatDoor.belowCosts
open Go.ChangeShapes Go.WideShapes Go.ChangeAt Go.RowKit
set_option linter.unusedVariables false
set_option linter.unusedSimpArgs false
set_option maxRecDepth 20000
open N
theorem own : ownKnob Tryz.prog.godebug = none := by kernel_rfl

set_option maxRecDepth 100000 in
set_option maxHeartbeats 40000000 in
theorem walk (w : World) (a0 : Int) (w0 : (Lit.int .u64 a0).wf = true) :
    Calls Tryz.prog 3 #[.int .u64 a0] w fun e w' => e = .returned (.bool true) ∧ Below w.heap.size w w' := by
  have hx := bounds_u64 w0
  obtain ⟨m, rfl⟩ := Int.eq_ofNat_of_zero_le hx.1
  have hm : m < 18446744073709551616 := by omega
  clear hx
  by_cases h0 : m = 0
  · subst h0
    clear hm
    have hS := Lib.hid (SC.start w)
    go_enter Tryz.func3, Tryz.ntmps3
    go_wp2_with fail
    go_at_call 7
    with_reducible refine (cost_zero _).mono ?_
    rintro e v1 ho
    obtain ⟨rfl, h1⟩ := hS.out.tRZ ho
    clear hS; have hS := Lib.hid h1; clear h1
    have h1 := (hS.out.boxed (vs := [.bool false, .slice none 0 0, .slice none 0 0]) (ty := 28) rfl rfl)
    try simp only [World.size_alloc] at h1
    obtain ⟨p0_0, p1_0, p2_0⟩ := h1.cs3 0 rfl
    clear h1
    go_wp2_with fail
    clear p0_0 p1_0 p2_0
    generalize hwa : World.alloc v1 _ = v2
    have h1 := (hS.out.boxed (vs := [.bool false, .slice none 0 0, .slice none 0 0]) (ty := 28) rfl hwa)
    have hsz : v2.heap.size = v1.heap.size + 1 := by rw [← hwa]; simp only [World.size_alloc]
    try rw [← hsz]
    clear hwa hsz
    clear hS; have hS := Lib.hid h1; clear h1
    obtain ⟨x0_0, x1_0, x2_0⟩ := hS.out.cs3 0 rfl
    go_wp2_with fail
    go_at_call 8
    with_reducible refine (rcost_zero _).mono ?_
    rintro e v3 ho
    clear x0_0 x1_0 x2_0
    obtain ⟨rfl, h1⟩ := hS.out.tRZ ho
    clear hS; have hS := Lib.hid h1; clear h1
    obtain ⟨x0_0, x1_0, x2_0⟩ := hS.out.cs3 0 rfl
    have h1 := (hS.out.boxed (vs := [.bool false, .slice none 0 0, .slice none 0 0]) (ty := 28) rfl rfl)
    try simp only [World.size_alloc] at h1
    obtain ⟨p0_0, p1_0, p2_0⟩ := h1.cs3 0 rfl
    obtain ⟨p0_1, p1_1, p2_1⟩ := h1.cs3 1 rfl
    clear h1
    go_wp2_with fail
    clear x0_0 x1_0 x2_0
    clear p0_0 p1_0 p2_0 p0_1 p1_1 p2_1
    generalize hwa : World.alloc v3 _ = v4
    have h1 := (hS.out.boxed (vs := [.bool false, .slice none 0 0, .slice none 0 0]) (ty := 28) rfl hwa)
    have hsz : v4.heap.size = v3.heap.size + 1 := by rw [← hwa]; simp only [World.size_alloc]
    try rw [← hsz]
    clear hwa hsz
    clear hS; have hS := Lib.hid h1; clear h1
    obtain ⟨x0_0, x1_0, x2_0⟩ := hS.out.cs3 0 rfl
    obtain ⟨x0_1, x1_1, x2_1⟩ := hS.out.cs3 1 rfl
    go_wp2_with fail
    go_at_call 9
    with_reducible refine (width_lit _ (m := 0) (x := 0) (y := 0) rfl (by decide) (by decide +kernel)).mono ?_
    rintro e v5 ⟨rfl, hb⟩
    clear x0_0 x1_0 x2_0 x0_1 x1_1 x2_1
    have h1 := hS.out.below hb
    clear hb
    clear hS; have hS := Lib.hid h1; clear h1
    obtain ⟨x0_0, x1_0, x2_0⟩ := hS.out.cs3 0 rfl
    obtain ⟨x0_1, x1_1, x2_1⟩ := hS.out.cs3 1 rfl
    go_wp2_with fail
    go_at_call 10
    with_reducible refine (rwidth_lit _ (m := 0) (x := 0) (y := 0) rfl (by decide) (by decide +kernel)).mono ?_
    rintro e v6 ⟨rfl, hb⟩
    clear x0_0 x1_0 x2_0 x0_1 x1_1 x2_1
    have h1 := hS.out.below hb
    clear hb
    clear hS; have hS := Lib.hid h1; clear h1
    obtain ⟨x0_0, x1_0, x2_0⟩ := hS.out.cs3 0 rfl
    obtain ⟨x0_1, x1_1, x2_1⟩ := hS.out.cs3 1 rfl
    go_wp2_with fail
    go_at_call 11
    with_reducible refine (is9_c (hS.out.none_) (by repeat (first | exact List.mem_cons_self | apply List.mem_cons_of_mem)) (by repeat (first | exact List.mem_cons_self | apply List.mem_cons_of_mem)) (by repeat (first | exact List.mem_cons_self | apply List.mem_cons_of_mem)) (by repeat (first | exact List.mem_cons_self | apply List.mem_cons_of_mem)) rfl rfl rfl).mono ?_
    rintro e v7 ⟨rfl, h1⟩
    clear x0_0 x1_0 x2_0 x0_1 x1_1 x2_1
    have h1 := h1.sub (fun t ht => List.mem_cons_of_mem _ ht) (List.Sublist.refl _) (fun t ht => ht)
    clear hS; have hS := Lib.hid h1; clear h1
    obtain ⟨x0_0, x1_0, x2_0⟩ := hS.out.cs3 0 rfl
    obtain ⟨x0_1, x1_1, x2_1⟩ := hS.out.cs3 1 rfl
    go_wp2_with fail
    go_at_call 12
    with_reducible refine (awake9 _).mono ?_
    rintro e v8 ⟨rfl, hb⟩
    clear x0_0 x1_0 x2_0 x0_1 x1_1 x2_1
    have h1 := hS.out.below hb
    clear hb
    clear hS; have hS := Lib.hid h1; clear h1
    obtain ⟨x0_0, x1_0, x2_0⟩ := hS.out.cs3 0 rfl
    obtain ⟨x0_1, x1_1, x2_1⟩ := hS.out.cs3 1 rfl
    go_wp2
    go_ret
    exact ⟨rfl, hS.out.st.1⟩
  · have HM := Lib.hid (show m < 18446744073709551616 ∧ 0 < m by omega)
    obtain ⟨r, hr⟩ : ∃ r, cR m = r := ⟨_, rfl⟩
    have HR := Lib.hid hr
    obtain ⟨b, hb⟩ : ∃ b, ((wd m : Nat) : Int) = ((b : Nat) : Int) := ⟨_, rfl⟩
    have HB := Lib.hid hb
    clear hr hb hm h0
    have hS := Lib.hid (SC.start w)
    go_enter Tryz.func3, Tryz.ntmps3
    go_wp2_with fail
    go_at_call 7
    with_reducible refine (cost_lit _ (m := m) (x := (m : Int)) (r := r) rfl HM.out.1 HM.out.2 HR.out).mono ?_
    rintro e v1 ho
    obtain ⟨A1, n1, c1, A1', n1', c1', rfl, h1⟩ := hS.out.rRE (Nat.le_refl _) ho
    clear hS; have hS := Lib.hid h1; clear h1
    have h1 := (hS.out.boxed (vs := [.bool (sg (r).num), .slice A1 n1 c1, .slice A1' n1' c1']) (ty := 28) rfl rfl)
    try simp only [World.size_alloc] at h1
    obtain ⟨p0_0, p1_0, p2_0⟩ := h1.cs3 0 rfl
    clear h1
    go_wp2_with fail
    clear p0_0 p1_0 p2_0
    generalize hwa : World.alloc v1 _ = v2
    have h1 := (hS.out.boxed (vs := [.bool (sg (r).num), .slice A1 n1 c1, .slice A1' n1' c1']) (ty := 28) rfl hwa)
    have hsz : v2.heap.size = v1.heap.size + 1 := by rw [← hwa]; simp only [World.size_alloc]
    try rw [← hsz]
    clear hwa hsz
    clear hS; have hS := Lib.hid h1; clear h1
    obtain ⟨x0_0, x1_0, x2_0⟩ := hS.out.cs3 0 rfl
    go_wp2_with fail
    go_at_call 8
    with_reducible refine (rcost_lit _ (m := m) (x := (m : Int)) (r := r) rfl HM.out.1 HM.out.2 HR.out).mono ?_
    rintro e v3 ho
    clear x0_0 x1_0 x2_0
    obtain ⟨A2, n2, c2, A2', n2', c2', rfl, h1⟩ := hS.out.rRE (Nat.le_refl _) ho
    clear hS; have hS := Lib.hid h1; clear h1
    obtain ⟨x0_0, x1_0, x2_0⟩ := hS.out.cs3 0 rfl
    have h1 := (hS.out.boxed (vs := [.bool (sg (r).num), .slice A2 n2 c2, .slice A2' n2' c2']) (ty := 28) rfl rfl)
    try simp only [World.size_alloc] at h1
    obtain ⟨p0_0, p1_0, p2_0⟩ := h1.cs3 0 rfl
    obtain ⟨p0_1, p1_1, p2_1⟩ := h1.cs3 1 rfl
    clear h1
    go_wp2_with fail
    clear x0_0 x1_0 x2_0
    clear p0_0 p1_0 p2_0 p0_1 p1_1 p2_1
    generalize hwa : World.alloc v3 _ = v4
    have h1 := (hS.out.boxed (vs := [.bool (sg (r).num), .slice A2 n2 c2, .slice A2' n2' c2']) (ty := 28) rfl hwa)
    have hsz : v4.heap.size = v3.heap.size + 1 := by rw [← hwa]; simp only [World.size_alloc]
    try rw [← hsz]
    clear hwa hsz
    clear hS; have hS := Lib.hid h1; clear h1
    obtain ⟨x0_0, x1_0, x2_0⟩ := hS.out.cs3 0 rfl
    obtain ⟨x0_1, x1_1, x2_1⟩ := hS.out.cs3 1 rfl
    go_wp2_with fail
    go_at_call 9
    with_reducible refine (width_lit _ (m := m) (x := (m : Int)) (y := (b : Int)) rfl HM.out.1 HB.out).mono ?_
    rintro e v5 ⟨rfl, hb⟩
    clear x0_0 x1_0 x2_0 x0_1 x1_1 x2_1
    have h1 := hS.out.below hb
    clear hb
    clear hS; have hS := Lib.hid h1; clear h1
    obtain ⟨x0_0, x1_0, x2_0⟩ := hS.out.cs3 0 rfl
    obtain ⟨x0_1, x1_1, x2_1⟩ := hS.out.cs3 1 rfl
    go_wp2_with fail
    go_at_call 10
    with_reducible refine (rwidth_lit _ (m := m) (x := (m : Int)) (y := (b : Int)) rfl HM.out.1 HB.out).mono ?_
    rintro e v6 ⟨rfl, hb⟩
    clear x0_0 x1_0 x2_0 x0_1 x1_1 x2_1
    have h1 := hS.out.below hb
    clear hb
    clear hS; have hS := Lib.hid h1; clear h1
    obtain ⟨x0_0, x1_0, x2_0⟩ := hS.out.cs3 0 rfl
    obtain ⟨x0_1, x1_1, x2_1⟩ := hS.out.cs3 1 rfl
    go_wp2_with fail
    go_at_call 11
    with_reducible refine (is9_told (k := 1030) (k' := 4) hS.out (by repeat (first | exact List.mem_cons_self | apply List.mem_cons_of_mem)) (by repeat (first | exact List.mem_cons_self | apply List.mem_cons_of_mem)) (by repeat (first | exact List.mem_cons_self | apply List.mem_cons_of_mem)) (by repeat (first | exact List.mem_cons_self | apply List.mem_cons_of_mem)) rfl).mono ?_
    rintro e v7 ⟨rfl, h1⟩
    clear x0_0 x1_0 x2_0 x0_1 x1_1 x2_1
    clear hS; have hS := Lib.hid h1; clear h1
    obtain ⟨x0_0, x1_0, x2_0⟩ := hS.out.cs3 0 rfl
    obtain ⟨x0_1, x1_1, x2_1⟩ := hS.out.cs3 1 rfl
    go_wp2_with fail
    go_at_call 12
    with_reducible refine (awake9 _).mono ?_
    rintro e v8 ⟨rfl, hb⟩
    clear x0_0 x1_0 x2_0 x0_1 x1_1 x2_1
    have h1 := hS.out.below hb
    clear hb
    clear hS; have hS := Lib.hid h1; clear h1
    obtain ⟨x0_0, x1_0, x2_0⟩ := hS.out.cs3 0 rfl
    obtain ⟨x0_1, x1_1, x2_1⟩ := hS.out.cs3 1 rfl
    go_wp2
    go_ret
    exact ⟨rfl, hS.out.st.1⟩
set_option maxRecDepth 100000 in
theorem lifted (os : Os) (started : os.Started) (H : Type) (enc : TypeId × Value → H) :
    ReturnsInHanded {} Tryz.checked os 3 .any (fun w args => (Rows.belowCostsSpec.pre enc Tryz.prog Tryz.f3 Rows.belowCostsRow.domain false w args ∧ laidMetH Tryz.prog Rows.belowCostsRow.laid w) ∧ sizedMet enc Tryz.prog Tryz.f3 (OpenSpec.ofChange Rows.belowCostsSpec) false w args) (Rows.belowCostsSpec.post enc Tryz.prog Tryz.f3 false true false false) := by
  refine returnsInHanded_of_change_and (C := Tryz.checked) (X := fun w _ => laidMetH Tryz.prog Rows.belowCostsRow.laid w) (fun _ _ _ hh h => h.of_heap hh) own started (by kernel_rfl) Tryz.func3
    (ChangeSpec.witness_shaped (enc := enc) (C := Tryz.checked) (os := os) (X := fun w _ => laidMetH Tryz.prog Rows.belowCostsRow.laid w) false (World.laidAll Tryz.prog os Rows.belowCostsRow.laid) #[.int .u64 0] 8 (World.laidAll_os _ _ _)
      (World.shaped_of_ZipB (by kernel_rfl) (by kernel_rfl)) (by kernel_rfl) (by kernel_rfl) (by kernel_rfl)
      (by rw [MakeChecks.laidMetH_plain _ _ _ (by kernel_rfl)]; exact laidMet_laidAll _ (by kernel_rfl) (by kernel_rfl))) ?_
  intro W base args ds gs before hval0 hW hcnd _ _ _
  have hval : ∀ (j : Nat) t v, Tryz.f3.params[j]? = some t → args[j]? = some v → Value.okWide Tryz.prog W .any base t v := hval0
  have hW' := hW
  obtain ⟨p, q, hA0, hV, hpq, hfz, hnd⟩ := hW
  have hA : DataW.TrodAll enc Tryz.prog W 0 (fun _ => true) true Tryz.f3.params.toList args.toList ds p := hA0
  rw [Tryz.params3] at hA hval
  obtain ⟨v0, vs0, d0, ds0, p0, q0, hargs, rfl, rfl, h0, r0⟩ := trodAll_cons hA
  obtain ⟨rfl, rfl, rfl⟩ := trodAll_nil r0
  obtain rfl : args = #[v0] := by cases args; simp_all
  obtain ⟨rfl, rfl⟩ := trodVars_none hV
  obtain ⟨a0, rfl, rfl, rfl, w0⟩ := open_int Tryz.underlying22 (hval 0 22 v0 rfl rfl) h0
  refine (walk W a0 w0).mono fun e W' ⟨he, hb⟩ => ?_
  subst he
  exact ⟨_, rfl, Frame.close laidOut hW' rfl rfl rfl Tryz.underlying4 (fun t ht => by rw [Tryz.params3] at ht; simp at ht; rcases ht with rfl <;> exact ⟨by kernel_rfl, of_decide_eq_true (by kernel_rfl)⟩) hb⟩
theorem over : Rows.belowCostsRow.holds Tryz.pinned (OpenSpec.ofChange Rows.belowCostsSpec) :=
  OpenClaim.holds_of_wide 3 Tryz.f3 rfl rfl rfl rfl rfl rfl rfl ⟨rfl, rfl, rfl, rfl, rfl⟩ rfl rfl rfl rfl rfl (by kernel_rfl) Tryz.func3 (by kernel_rfl)
    (of_decide_eq_true (by kernel_rfl)) (by unfold Func.isWrapper; first | (rw [if_pos (by decide +kernel)]; kernel_rfl) | (rw [if_neg (by decide +kernel)]; exact ⟨rfl, rfl⟩))
    (fun os started H enc _ => lifted os started H enc)
/-- the statement -/
theorem proved : Rows.BelowCostsCardSaid :=
  Claim7.holds_tied_plain_at .later [] _ _ _ _ over (fun _ h => by cases h) (by kernel_rfl) (fun _ h => by cases h) belowCosts_row_tie rfl ⟨rfl, rfl⟩ (by kernel_rfl) rfl
    (fun f fn hf hfn => by
      obtain rfl : f = 3 := Option.some.inj ((show Tryz.prog.funcNamed "tombola/tombolalaw09.BelowCosts" = some 3 by kernel_rfl).symm.trans hf) |>.symm
      obtain rfl : fn = Tryz.f3 := (Option.some.inj (Tryz.func3.symm.trans hfn)).symm
      exact ⟨by kernel_rfl, (fun j t ht => by
        rw [Tryz.params3] at ht
        have hm : t ∈ [22] := by simpa using Array.mem_of_getElem? ht
        have hall : ([22].all fun u => !Tryz.prog.wantsStandIn u) = true := by kernel_rfl
        exact (show Tryz.prog.wantsStandIn t = false by simpa using List.all_eq_true.1 hall t hm))⟩)
    (by kernel_rfl)
#print axioms proved
end Go.Proofs.YtfmhghemlcbapaaGreatDoor.belowCosts
