/-
  PROVED: the statement WholeTells (tombolalaw05.WholeTells) about the landed commit: for every input the law returns true and leaves its arguments as they were. Conditions: none beyond those that the given row itself prints.
-/
import Derived.Test.YtgahnchfefngeaaGreatDoorCards
import Derived.Test.YtgahnchfefngeaaGreatDoorTie
import Derived.LaidMore
import Derived.Lay
import Derived.SevenTiedAt
import Derived.Stop.Joined
import Derived.Test.YtgahnchfefngeaaGreatDoorRows
import Derived.WalkKit
import Derived.ProofKit
import Derived.OpenShut
import Derived.RowKit3
import Derived.Test.YtgahnchfefngeaaGreatDoorGFrame
import Derived.Test.YtgahnchfefngeaaGreatDoorWholeAwake
import Derived.Test.YtgahnchfefngeaaGreatDoorWholeRefState
import Derived.Test.YtgahnchfefngeaaGreatDoorRegSym
namespace Go.Proofs.YtgahnchfefngeaaGreatDoor.wholeTells
open Go.ChangeShapes Go.WideShapes Go.ChangeAt Go.RowKit
set_option linter.unusedVariables false
set_option maxRecDepth 20000
open N
theorem own : ownKnob Tryz.prog.godebug = none := by kernel_rfl
open Go.Lib (decDigits nDigits decDigits_length nDigits_pos)
set_option maxRecDepth 100000 in
set_option maxHeartbeats 4000000 in
theorem walk (w : World) (b0 : Bool) (b1 : Bool) (A1 : Option Addr) (n1 c1 : Nat) (xs1 : List Int) (h1 : Sl w A1 n1 c1 xs1) (b2 : Bool) (A2 : Option Addr) (n2 c2 : Nat) (xs2 : List Int) (h2 : Sl w A2 n2 c2 xs2) (a3 : Int) (w3 : (Lit.int .i64 a3).wf = true) :
    Calls Tryz.prog 3 #[.bool b0, .agg #[.bool b1, .slice A1 n1 c1], .agg #[.bool b2, .slice A2 n2 c2], .int .i64 a3] w fun e w' => e = .returned (.bool true) ∧ Below w.heap.size w w' := by
  have hc1 := h1.cap
  have hm1 := h1.max
  unfold maxLen at hm1
  have hc2 := h2.cap
  have hm2 := h2.max
  unfold maxLen at hm2
  obtain ⟨wlo, whi⟩ := bounds_i64 w3
  by_cases hl : n1 ≤ 10 ∧ n2 ≤ 10
  · obtain ⟨hl1, hl2⟩ := hl
    obtain ⟨z1, hz1⟩ : ∃ z, iv b1 (val B xs1) = z := ⟨_, rfl⟩
    obtain ⟨z2, hz2⟩ : ∃ z, iv b2 (val B xs2) = z := ⟨_, rfl⟩
    obtain ⟨zn, hzn⟩ : ∃ z, iv b0 (val B xs1) = z := ⟨_, rfl⟩
    obtain ⟨q, is, hq⟩ := smOk z1
    obtain ⟨s, hs⟩ : ∃ s, sgn z1 = s := ⟨_, rfl⟩
    obtain ⟨c, hc⟩ : ∃ c, sgn (z1 - z2) = c := ⟨_, rfl⟩
    obtain ⟨mq, hmq⟩ : ∃ mq, mayB b1 xs1 = mq := ⟨_, rfl⟩
    have HZ1 := Lib.hid hz1
    have HZ2 := Lib.hid hz2
    have HZN := Lib.hid hzn
    have HQ := Lib.hid hq
    have HS := Lib.hid hs
    have HC := Lib.hid hc
    have HMQ := Lib.hid hmq
    have HLO := Lib.hid wlo
    have HHI := Lib.hid whi
    have hS := Lib.hid (((SB.start w).old h1 hl1 rfl).old h2 hl2 rfl)
    clear h1 h2 hz1 hz2 hzn hq hs hc hmq wlo whi
    go_enter Tryz.func3, Tryz.ntmps3
    have h1 := ((hS.out.boxed (b := b1) (A := A1) (n := n1) (c := c1) rfl).boxed (b := b2) (A := A2) (n := n2) (c := c2) rfl)
    try simp only [World.size_alloc] at h1
    obtain ⟨p0, q0⟩ := h1.cs 0 rfl
    obtain ⟨p1, q1⟩ := h1.cs 1 rfl
    clear h1
    go_wp2_with fail
    clear p0 q0 p1 q1
    generalize hwa : World.alloc (World.alloc w _) _ = v1
    have h1 := ((hS.out.boxed rfl).boxed hwa)
    simp only [World.size_alloc] at h1
    have hsz : v1.heap.size = w.heap.size + 1 + 1 := by rw [← hwa]; simp only [World.size_alloc]
    try rw [← hsz]
    clear hsz
    clear hwa
    clear hS; have hS := Lib.hid h1; clear h1
    obtain ⟨x0, y0⟩ := hS.out.cs 0 rfl
    obtain ⟨x1, y1⟩ := hS.out.cs 1 rfl
    go_wp2_with fail
    go_at_call 6
    with_reducible refine (wlong2_n hS.out _ _ _ _ _ _ _ _ hl1 hl2).mono ?_
    rintro e v2 ⟨rfl, h1⟩
    clear x0 y0 x1 y1
    clear hS; have hS := Lib.hid h1; clear h1
    obtain ⟨x0, y0⟩ := hS.out.cs 0 rfl
    obtain ⟨x1, y1⟩ := hS.out.cs 1 rfl
    go_wp2_with fail
    go_at_call 8
    with_reducible refine (small_g hS.out (by repeat (first | exact List.mem_cons_self | apply List.mem_cons_of_mem)) (by omega) HZ1.out HQ.out).mono ?_
    rintro e v3 ⟨rfl, h1⟩
    clear x0 y0 x1 y1
    clear hS; have hS := Lib.hid h1; clear h1
    obtain ⟨x0, y0⟩ := hS.out.cs 0 rfl
    obtain ⟨x1, y1⟩ := hS.out.cs 1 rfl
    go_wp2_with fail
    go_at_call 9
    with_reducible refine (rsmall_w hS.out (by repeat (first | exact List.mem_cons_self | apply List.mem_cons_of_mem)) (by omega) HZ1.out HQ.out).mono ?_
    rintro e v4 ⟨rfl, h1⟩
    clear x0 y0 x1 y1
    clear hS; have hS := Lib.hid h1; clear h1
    obtain ⟨x0, y0⟩ := hS.out.cs 0 rfl
    obtain ⟨x1, y1⟩ := hS.out.cs 1 rfl
    go_wp2_with fail
    clear x0 y0 x1 y1
    have h1 := hS.out.drew
    clear hS; have hS := Lib.hid h1; clear h1
    try simp only [List.append_eq, List.cons_append, List.nil_append]
    go_region_held3 (fun W => (W.cell? ⟨w.heap.size + 1, 0, none⟩ = some (.bool (b2)) ∧ W.cell? ⟨w.heap.size + 1, 1, none⟩ = some (.slice A2 n2 c2)) ∧ (W.cell? ⟨w.heap.size, 0, none⟩ = some (.bool (b1)) ∧ W.cell? ⟨w.heap.size, 1, none⟩ = some (.slice A1 n1 c1))) (first | with_reducible exact ⟨hS.out.cs 0 rfl, hS.out.cs 1 rfl⟩ | with_reducible exact ⟨hS.out.drew.cs 0 rfl, hS.out.drew.cs 1 rfl⟩ | with_reducible exact ⟨(hS.out.alloc _).cs 0 rfl, (hS.out.alloc _).cs 1 rfl⟩ | with_reducible exact ⟨((hS.out.alloc _).alloc _).cs 0 rfl, ((hS.out.alloc _).alloc _).cs 1 rfl⟩) (first
      | (go_at_call 11; (with_reducible refine (make_w hS.out (by repeat (first | exact List.mem_cons_self | apply List.mem_cons_of_mem)) (by omega) HZN.out).mono ?_); rintro e w' ⟨Ai, ni, ci, rfl, h1⟩; clear hS; have hS := Lib.hid h1; clear h1)
      | (go_at_call 12; (with_reducible refine (rmake_w hS.out (by repeat (first | exact List.mem_cons_self | apply List.mem_cons_of_mem)) (by omega) HZN.out).mono ?_); rintro e w' ⟨Ai, ni, ci, rfl, h1⟩; clear hS; have hS := Lib.hid h1; clear h1)
      | (go_at_call 10; (with_reducible refine (rsame_w hS.out (by repeat (first | exact List.mem_cons_self | apply List.mem_cons_of_mem)) (by repeat (first | exact List.mem_cons_self | apply List.mem_cons_of_mem)) (by rfl) (by rfl)).mono ?_); rintro e w' ⟨rfl, h1⟩; clear hS; have hS := Lib.hid h1; clear h1)
      | (go_at_call 13; (with_reducible refine (may_w hS.out (by repeat (first | exact List.mem_cons_self | apply List.mem_cons_of_mem)) (by omega) HMQ.out).mono ?_); rintro e w' ⟨rfl, h1⟩; clear hS; have hS := Lib.hid h1; clear h1)
      | (go_at_call 14; (with_reducible refine (rmay_w hS.out (by repeat (first | exact List.mem_cons_self | apply List.mem_cons_of_mem)) (by omega) HMQ.out).mono ?_); rintro e w' ⟨rfl, h1⟩; clear hS; have hS := Lib.hid h1; clear h1)
      | (go_at_call 15; (with_reducible refine (of_w hS.out HLO.out HHI.out).mono ?_); rintro e w' ⟨Ai, ni, ci, rfl, h1⟩; clear hS; have hS := Lib.hid h1; clear h1)
      | (go_at_call 16; (with_reducible refine (rof_w hS.out HLO.out HHI.out).mono ?_); rintro e w' ⟨Ai, ni, ci, rfl, h1⟩; clear hS; have hS := Lib.hid h1; clear h1)
      | (go_at_call 17; (with_reducible refine (sign_q hS.out (by repeat (first | exact List.mem_cons_self | apply List.mem_cons_of_mem)) (by omega) HZ1.out HS.out).mono ?_); rintro e w' ⟨rfl, h1⟩; clear hS; have hS := Lib.hid h1; clear h1)
      | (go_at_call 18; (with_reducible refine (rsign_w hS.out (by repeat (first | exact List.mem_cons_self | apply List.mem_cons_of_mem)) (by omega) HZ1.out HS.out).mono ?_); rintro e w' ⟨rfl, h1⟩; clear hS; have hS := Lib.hid h1; clear h1)
      | (go_at_call 19; (with_reducible refine (cmp_q hS.out (by repeat (first | exact List.mem_cons_self | apply List.mem_cons_of_mem)) (by repeat (first | exact List.mem_cons_self | apply List.mem_cons_of_mem)) (by omega) (by omega) HZ1.out HZ2.out HC.out).mono ?_); rintro e w' ⟨rfl, h1⟩; clear hS; have hS := Lib.hid h1; clear h1)
      | (go_at_call 20; (with_reducible refine (rcmp_w hS.out (by repeat (first | exact List.mem_cons_self | apply List.mem_cons_of_mem)) (by repeat (first | exact List.mem_cons_self | apply List.mem_cons_of_mem)) (by omega) (by omega) HZ1.out HZ2.out HC.out).mono ?_); rintro e w' ⟨rfl, h1⟩; clear hS; have hS := Lib.hid h1; clear h1)
      | (go_at_call 7; (with_reducible refine (wawake_s hS.out).mono ?_); rintro e w' ⟨rfl, h1⟩; clear hS; have hS := Lib.hid h1; clear h1))
    go_wp2
    go_ret
    exact ⟨rfl, hS.out.st.1⟩
  · have hS := Lib.hid (SB.start w)
    clear h1 h2
    go_enter Tryz.func3, Tryz.ntmps3
    have h1 := ((hS.out.boxed (b := b1) (A := A1) (n := n1) (c := c1) rfl).boxed (b := b2) (A := A2) (n := n2) (c := c2) rfl)
    try simp only [World.size_alloc] at h1
    obtain ⟨p0, q0⟩ := h1.cs 0 rfl
    obtain ⟨p1, q1⟩ := h1.cs 1 rfl
    clear h1
    go_wp2_with fail
    clear p0 q0 p1 q1
    generalize hwa : World.alloc (World.alloc w _) _ = v1
    have h1 := ((hS.out.boxed rfl).boxed hwa)
    simp only [World.size_alloc] at h1
    have hsz : v1.heap.size = w.heap.size + 1 + 1 := by rw [← hwa]; simp only [World.size_alloc]
    try rw [← hsz]
    clear hsz
    clear hwa
    clear hS; have hS := Lib.hid h1; clear h1
    obtain ⟨x0, y0⟩ := hS.out.cs 0 rfl
    obtain ⟨x1, y1⟩ := hS.out.cs 1 rfl
    go_wp2_with fail
    go_at_call 6
    with_reducible refine (wlong2_y hS.out _ _ _ _ _ _ _ _ (by omega) (by omega) hl).mono ?_
    rintro e v2 ⟨rfl, h1⟩
    clear x0 y0 x1 y1
    clear hS; have hS := Lib.hid h1; clear h1
    obtain ⟨x0, y0⟩ := hS.out.cs 0 rfl
    obtain ⟨x1, y1⟩ := hS.out.cs 1 rfl
    go_wp2_with fail
    go_at_call 7
    with_reducible refine (wawake_s hS.out).mono ?_
    rintro e v3 ⟨rfl, h1⟩
    clear x0 y0 x1 y1
    clear hS; have hS := Lib.hid h1; clear h1
    obtain ⟨x0, y0⟩ := hS.out.cs 0 rfl
    obtain ⟨x1, y1⟩ := hS.out.cs 1 rfl
    go_wp2
    go_ret
    exact ⟨rfl, hS.out.st.1⟩
set_option maxRecDepth 100000 in
theorem lifted (os : Os) (started : os.Started) (H : Type) (enc : TypeId × Value → H) :
    ReturnsInHanded {} Tryz.checked os 3 .any (fun w args => (Rows.wholeTellsSpec.pre enc Tryz.prog Tryz.f3 Rows.wholeTellsRow.domain false w args ∧ laidMetH Tryz.prog Rows.wholeTellsRow.laid w) ∧ sizedMet enc Tryz.prog Tryz.f3 (OpenSpec.ofChange Rows.wholeTellsSpec) false w args) (Rows.wholeTellsSpec.post enc Tryz.prog Tryz.f3 false true false false) := by
  refine returnsInHanded_of_change_and (C := Tryz.checked) (X := fun w _ => laidMetH Tryz.prog Rows.wholeTellsRow.laid w) (fun _ _ _ hh h => h.of_heap hh) own started (by kernel_rfl) Tryz.func3
    (ChangeSpec.witness_shaped (enc := enc) (C := Tryz.checked) (os := os) (X := fun w _ => laidMetH Tryz.prog Rows.wholeTellsRow.laid w) false (World.laidAll Tryz.prog os Rows.wholeTellsRow.laid) #[.bool false, .agg #[.bool false, .slice none 0 0], .agg #[.bool false, .slice none 0 0], .int .i64 0] 8 (World.laidAll_os _ _ _)
      (World.shaped_of_ZipB (by kernel_rfl) (by kernel_rfl)) (by kernel_rfl) (by kernel_rfl) (by kernel_rfl)
      (by rw [MakeChecks.laidMetH_plain _ _ _ (by kernel_rfl)]; exact laidMet_laidAll _ (by kernel_rfl) (by kernel_rfl))) ?_
  intro W base args ds gs before hval0 hW hcnd _ _ _
  have hval : ∀ (j : Nat) t v, Tryz.f3.params[j]? = some t → args[j]? = some v → Value.okWide Tryz.prog W .any base t v := hval0
  have hW' := hW
  obtain ⟨p, q, hA0, hV, hpq, hfz, hnd⟩ := hW
  have hA : DataW.TrodAll enc Tryz.prog W 0 (fun _ => true) true Tryz.f3.params.toList args.toList ds p := hA0
  rw [Tryz.params3] at hA hval
  obtain ⟨v0, vs0, d0, ds0, p0, q0, hargs, rfl, rfl, h0, r0⟩ := trodAll_cons hA
  obtain ⟨v1, vs1, d1, ds1, p1, q1, rfl, rfl, rfl, h1, r1⟩ := trodAll_cons r0
  obtain ⟨v2, vs2, d2, ds2, p2, q2, rfl, rfl, rfl, h2, r2⟩ := trodAll_cons r1
  obtain ⟨v3, vs3, d3, ds3, p3, q3, rfl, rfl, rfl, h3, r3⟩ := trodAll_cons r2
  obtain ⟨rfl, rfl, rfl⟩ := trodAll_nil r3
  obtain rfl : args = #[v0, v1, v2, v3] := by cases args; simp_all
  obtain ⟨rfl, rfl⟩ := trodVars_none hV
  obtain ⟨b0, rfl, rfl, rfl⟩ := Go.RowKit.open_bool Tryz.underlying4 (hval 0 4 v0 rfl rfl) h0
  obtain ⟨b1, A1, n1, c1, xs1, rfl, s1⟩ := open_whole (hval 1 25 v1 rfl rfl) h1
  obtain ⟨b2, A2, n2, c2, xs2, rfl, s2⟩ := open_whole (hval 2 25 v2 rfl rfl) h2
  obtain ⟨a3, rfl, rfl, rfl, w3⟩ := open_int Tryz.underlying2 (hval 3 2 v3 rfl rfl) h3
  refine (walk W b0 b1 A1 n1 c1 xs1 s1 b2 A2 n2 c2 xs2 s2 a3 w3).mono fun e W' ⟨he, hb⟩ => ?_
  subst he
  exact ⟨_, rfl, Frame.close laidOut hW' rfl rfl rfl Tryz.underlying4 (fun t ht => by rw [Tryz.params3] at ht; simp at ht; rcases ht with rfl | rfl | rfl <;> exact ⟨by kernel_rfl, of_decide_eq_true (by kernel_rfl)⟩) hb⟩
theorem over : Rows.wholeTellsRow.holds Tryz.pinned (OpenSpec.ofChange Rows.wholeTellsSpec) :=
  OpenClaim.holds_of_wide 3 Tryz.f3 rfl rfl rfl rfl rfl rfl rfl ⟨rfl, rfl, rfl, rfl, rfl⟩ rfl rfl rfl rfl rfl (by kernel_rfl) Tryz.func3 (by kernel_rfl)
    (of_decide_eq_true (by kernel_rfl)) (by unfold Func.isWrapper; first | (rw [if_pos (by decide +kernel)]; kernel_rfl) | (rw [if_neg (by decide +kernel)]; exact ⟨rfl, rfl⟩))
    (fun os started H enc _ => lifted os started H enc)
/-- the statement -/
theorem proved : Rows.WholeTellsCardSaid :=
  Claim7.holds_tied_plain_at .later [] _ _ _ _ over (fun _ h => by cases h) (by kernel_rfl) (fun _ h => by cases h) wholeTells_row_tie rfl ⟨rfl, rfl⟩ (by kernel_rfl) rfl
    (fun f fn hf hfn => by
      obtain rfl : f = 3 := Option.some.inj ((show Tryz.prog.funcNamed "tombola/tombolalaw05.WholeTells" = some 3 by kernel_rfl).symm.trans hf) |>.symm
      obtain rfl : fn = Tryz.f3 := (Option.some.inj (Tryz.func3.symm.trans hfn)).symm
      exact ⟨by kernel_rfl, (fun j t ht => by
        rw [Tryz.params3] at ht
        have hm : t ∈ [4, 25, 25, 2] := by simpa using Array.mem_of_getElem? ht
        have hall : ([4, 25, 25, 2].all fun u => !Tryz.prog.wantsStandIn u) = true := by kernel_rfl
        exact (show Tryz.prog.wantsStandIn t = false by simpa using List.all_eq_true.1 hall t hm))⟩)
    (by kernel_rfl)
#print axioms proved
end Go.Proofs.YtgahnchfefngeaaGreatDoor.wholeTells
