/-
  PROVED: the statement WholeSigns (tombolalaw05.WholeSigns) about the landed commit: for every input the law returns true and leaves its arguments as they were. Conditions: none beyond those that the given row itself prints.
-/
import Derived.Test.YtgahnchfefngeaaDoorCards
import Derived.Test.YtgahnchfefngeaaDoorTie
import Derived.LaidMore
import Derived.Lay
import Derived.SevenTiedAt
import Derived.Stop.Joined
import Derived.Test.YtgahnchfefngeaaDoorRows
import Derived.WalkKit
import Derived.ProofKit
import Derived.OpenShut
import Derived.RowKit3
import Derived.Test.YtgahnchfefngeaaDoorGFrame
import Derived.Test.YtgahnchfefngeaaDoorWholeAwake
import Derived.Test.YtgahnchfefngeaaDoorRegSym
namespace Go.Proofs.YtgahnchfefngeaaDoor.wholeSigns
open Go.ChangeShapes Go.WideShapes Go.ChangeAt Go.RowKit
set_option linter.unusedVariables false
set_option maxRecDepth 20000
open N
theorem own : ownKnob Tryd.prog.godebug = none := by kernel_rfl
open Go.Lib (decDigits nDigits decDigits_length nDigits_pos)
theorem iv_0z {b : Bool} {v : Int} : iv b v = 0 ↔ v = 0 := by cases b <;> simp [iv]
set_option maxRecDepth 100000 in
set_option maxHeartbeats 4000000 in
theorem walk (w : World) (b0 : Bool) (A0 : Option Addr) (n0 c0 : Nat) (xs0 : List Int) (h0 : Sl w A0 n0 c0 xs0) (b1 : Bool) (A1 : Option Addr) (n1 c1 : Nat) (xs1 : List Int) (h1 : Sl w A1 n1 c1 xs1) :
    Calls Tryd.prog 7 #[.agg #[.bool b0, .slice A0 n0 c0], .agg #[.bool b1, .slice A1 n1 c1]] w fun e w' => e = .returned (.bool true) ∧ Below w.heap.size w w' := by
  have hc0 := h0.cap
  have hm0 := h0.max
  unfold maxLen at hm0
  have hc1 := h1.cap
  have hm1 := h1.max
  unfold maxLen at hm1
  by_cases hl : n0 ≤ 10 ∧ n1 ≤ 10
  · obtain ⟨hl0, hl1⟩ := hl
    obtain ⟨z0, hz0⟩ : ∃ z, iv b0 (val B xs0) = z := ⟨_, rfl⟩
    obtain ⟨z1, hz1⟩ : ∃ z, iv b1 (val B xs1) = z := ⟨_, rfl⟩
    have HZ0 := Lib.hid hz0
    have HZ1 := Lib.hid hz1
    have hS := Lib.hid (((SB.start w).old h0 hl0 rfl).old h1 hl1 rfl)
    clear h0 hz0 h1 hz1
    go_enter Tryd.func7, Tryd.ntmps7
    have h1 := ((hS.out.boxed (b := b0) (A := A0) (n := n0) (c := c0) rfl).boxed (b := b1) (A := A1) (n := n1) (c := c1) rfl)
    try simp only [World.size_alloc] at h1
    obtain ⟨p0, q0⟩ := h1.cs 0 rfl
    obtain ⟨p1, q1⟩ := h1.cs 1 rfl
    clear h1
    go_wp2_with fail
    clear p0 q0 p1 q1
    generalize hwa : World.alloc (World.alloc w _) _ = v1
    have h1 := ((hS.out.boxed rfl).boxed hwa)
    simp only [World.size_alloc] at h1
    have hsz : v1.heap.size = w.heap.size + 1 + 1 := by rw [← hwa]; simp only [World.size_alloc]
    try rw [← hsz]
    clear hsz
    clear hwa
    clear hS; have hS := Lib.hid h1; clear h1
    obtain ⟨x0, y0⟩ := hS.out.cs 0 rfl
    obtain ⟨x1, y1⟩ := hS.out.cs 1 rfl
    go_wp2_with fail
    go_at_call 20
    with_reducible refine (wlong2_n hS.out _ _ _ _ _ _ _ _ hl0 hl1).mono ?_
    rintro e v2 ⟨rfl, h1⟩
    clear x0 y0 x1 y1
    clear hS; have hS := Lib.hid h1; clear h1
    obtain ⟨x0, y0⟩ := hS.out.cs 0 rfl
    obtain ⟨x1, y1⟩ := hS.out.cs 1 rfl
    go_wp2_with fail
    go_at_call 10
    with_reducible refine (wawake_s hS.out).mono ?_
    rintro e v3 ⟨rfl, h1⟩
    clear x0 y0 x1 y1
    clear hS; have hS := Lib.hid h1; clear h1
    obtain ⟨x0, y0⟩ := hS.out.cs 0 rfl
    obtain ⟨x1, y1⟩ := hS.out.cs 1 rfl
    obtain ⟨s, hs⟩ : ∃ s, sgn z0 = s := ⟨_, rfl⟩
    obtain ⟨t, ht⟩ : ∃ t, sgn z1 = t := ⟨_, rfl⟩
    obtain ⟨u, hu⟩ : ∃ u, s * t = u := ⟨_, rfl⟩
    obtain ⟨d, hd⟩ : ∃ d, -s = d := ⟨_, rfl⟩
    obtain ⟨zq, hzq⟩ : ∃ zq, decide (val B xs0 = 0) = zq := ⟨_, rfl⟩
    have hs3 := sgn_cases z0
    have ht3 := sgn_cases z1
    rw [hs] at hs3
    rw [ht] at ht3
    have eg : decide (s < 0) = sg z0 := by unfold sg; exact decide_eq_decide.2 (by omega)
    have ezq : (s == 0) = zq := by
      have h1 : s = 0 ↔ val B xs0 = 0 := by
        have h2 : iv b0 (val B xs0) = z0 := HZ0.out
        have h3 := iv_0z (b := b0) (v := val B xs0)
        rw [h2] at h3
        omega
      rw [← hzq]
      by_cases h2 : s = 0
      · rw [decide_eq_true (h1.1 h2), h2]; rfl
      · rw [decide_eq_false (fun h => h2 (h1.2 h))]; simpa using h2
    have eu : IntKind.i64.wrap (s * t) = u := by
      have h1 : s = -1 ∨ s = 0 ∨ s = 1 := by omega
      have h2 : t = -1 ∨ t = 0 ∨ t = 1 := by omega
      rw [← hu]
      rcases h1 with h | h | h <;> rcases h2 with h' | h' | h' <;> rw [h, h'] <;> decide
    have ed : IntKind.i64.wrap (-s) = d := by rw [IntKind.wrap_i64]; omega
    have HMU := Lib.hid (show sgn (z0 * z1) = u by rw [sgn_mul, hs, ht, hu])
    have HD := Lib.hid (show sgn (-z0) = d by rw [sgn_n, hs, hd])
    have HS := Lib.hid hs
    have HT := Lib.hid ht
    have HZQ := Lib.hid hzq
    clear hs ht hu hd hzq hs3 ht3
    go_wp2_with fail
    go_at_call 14
    with_reducible refine (make_w hS.out (by repeat (first | exact List.mem_cons_self | apply List.mem_cons_of_mem)) (by omega) HZ0.out).mono ?_
    rintro e v4 ⟨Aa, na, ca, rfl, h1⟩
    clear x0 y0 x1 y1
    clear hS; have hS := Lib.hid h1; clear h1
    obtain ⟨x0, y0⟩ := hS.out.cs 0 rfl
    obtain ⟨x1, y1⟩ := hS.out.cs 1 rfl
    have h1 := (hS.out.boxed (b := sg z0) (A := Aa) (n := na) (c := ca) rfl)
    try simp only [World.size_alloc] at h1
    obtain ⟨p0, q0⟩ := h1.cs 0 rfl
    obtain ⟨p1, q1⟩ := h1.cs 1 rfl
    obtain ⟨p2, q2⟩ := h1.cs 2 rfl
    clear h1
    go_wp2_with fail
    clear x0 y0 x1 y1
    clear p0 q0 p1 q1 p2 q2
    generalize hwa : World.alloc v4 _ = v5
    have h1 := (hS.out.boxed hwa)
    have hsz : v5.heap.size = v4.heap.size + 1 := by rw [← hwa]; simp only [World.size_alloc]
    try rw [← hsz]
    clear hsz
    have HL1 := Lib.hid (hS.out.lt_ 0 rfl)
    have HL2 := Lib.hid (hS.out.lt_ 1 rfl)
    clear hwa
    clear hS; have hS := Lib.hid h1; clear h1
    obtain ⟨x0, y0⟩ := hS.out.cs 0 rfl
    obtain ⟨x1, y1⟩ := hS.out.cs 1 rfl
    obtain ⟨x2, y2⟩ := hS.out.cs 2 rfl
    go_wp2_with fail
    clear x0 y0 x1 y1 x2 y2
    have h1 := hS.out.drew
    clear hS; have hS := Lib.hid h1; clear h1
    try simp only [List.append_eq, List.cons_append, List.nil_append]
    go_region_held3 (fun W => (W.cell? ⟨v4.heap.size, 0, none⟩ = some (.bool (sg z0)) ∧ W.cell? ⟨v4.heap.size, 1, none⟩ = some (.slice Aa na ca)) ∧ (W.cell? ⟨w.heap.size + 1, 0, none⟩ = some (.bool (b1)) ∧ W.cell? ⟨w.heap.size + 1, 1, none⟩ = some (.slice A1 n1 c1)) ∧ (W.cell? ⟨w.heap.size, 0, none⟩ = some (.bool (b0)) ∧ W.cell? ⟨w.heap.size, 1, none⟩ = some (.slice A0 n0 c0))) (first | with_reducible exact ⟨hS.out.cs 0 rfl, hS.out.cs 1 rfl, hS.out.cs 2 rfl⟩ | with_reducible exact ⟨hS.out.drew.cs 0 rfl, hS.out.drew.cs 1 rfl, hS.out.drew.cs 2 rfl⟩ | with_reducible exact ⟨(hS.out.alloc _).cs 0 rfl, (hS.out.alloc _).cs 1 rfl, (hS.out.alloc _).cs 2 rfl⟩ | with_reducible exact ⟨((hS.out.alloc _).alloc _).cs 0 rfl, ((hS.out.alloc _).alloc _).cs 1 rfl, ((hS.out.alloc _).alloc _).cs 2 rfl⟩) (first
      | (go_at_call 25; (with_reducible refine (mul_w hS.out (by repeat (first | exact List.mem_cons_self | apply List.mem_cons_of_mem)) (by repeat (first | exact List.mem_cons_self | apply List.mem_cons_of_mem)) (by omega) (by omega) (by first | exact iv_sm _ | exact HZ0.out | exact HZ1.out | exact HZ2.out) (by first | exact iv_sm _ | exact HZ0.out | exact HZ1.out | exact HZ2.out)).mono ?_); rintro e w' ⟨r, Ai, ni, ci, hr, rfl, h1⟩; clear hS; have hS := Lib.hid h1; clear h1)
      | (go_at_call 24; (with_reducible refine (neg_w hS.out (by repeat (first | exact List.mem_cons_self | apply List.mem_cons_of_mem)) (by omega) (by first | exact iv_sm _ | exact HZ0.out | exact HZ1.out | exact HZ2.out)).mono ?_); rintro e w' ⟨r, Ai, ni, ci, hr, rfl, h1⟩; clear hS; have hS := Lib.hid h1; clear h1)
      | (go_at_call 22; (with_reducible refine (add_w hS.out (by repeat (first | exact List.mem_cons_self | apply List.mem_cons_of_mem)) (by repeat (first | exact List.mem_cons_self | apply List.mem_cons_of_mem)) (by omega) (by omega) (by first | exact iv_sm _ | exact HZ0.out | exact HZ1.out | exact HZ2.out) (by first | exact iv_sm _ | exact HZ0.out | exact HZ1.out | exact HZ2.out)).mono ?_); rintro e w' ⟨r, Ai, ni, ci, hr, rfl, h1⟩; clear hS; have hS := Lib.hid h1; clear h1)
      | (go_at_call 19; (with_reducible refine (sign_q hS.out (by repeat (first | exact List.mem_cons_self | apply List.mem_cons_of_mem)) (by omega) (by first | exact iv_sm _ | exact HZ0.out | exact HZ1.out | exact HZ2.out) (by first | exact HMU.out | exact HD.out | exact HS.out | exact HT.out | (subst_vars; exact HMU.out) | (subst_vars; exact HD.out) | (subst_vars; exact HS.out) | (subst_vars; exact HT.out))).mono ?_); rintro e w' ⟨rfl, h1⟩; clear hS; have hS := Lib.hid h1; clear h1)
      | (go_at_call 21; (with_reducible refine (same_v hS.out (by repeat (first | exact List.mem_cons_self | apply List.mem_cons_of_mem)) (by repeat (first | exact List.mem_cons_self | apply List.mem_cons_of_mem)) (by first | rfl | omega | (subst_vars; first | rfl))).mono ?_); rintro e w' ⟨rfl, h1⟩; clear hS; have hS := Lib.hid h1; clear h1)
      | (go_at_call 21; (with_reducible refine (same_z hS.out (by repeat (first | exact List.mem_cons_self | apply List.mem_cons_of_mem)) (by first | rfl | omega)).mono ?_); rintro e w' ⟨rfl, h1⟩; clear hS; have hS := Lib.hid h1; clear h1)
      | (go_at_call 28; (with_reducible refine (zero_q hS.out (by repeat (first | exact List.mem_cons_self | apply List.mem_cons_of_mem)) HZQ.out).mono ?_); rintro e w' ⟨rfl, h1⟩; clear hS; have hS := Lib.hid h1; clear h1))
    go_wp2
    go_ret
    exact ⟨rfl, hS.out.st.1⟩
  · have hS := Lib.hid (SB.start w)
    clear h0 h1
    go_enter Tryd.func7, Tryd.ntmps7
    have h1 := ((hS.out.boxed (b := b0) (A := A0) (n := n0) (c := c0) rfl).boxed (b := b1) (A := A1) (n := n1) (c := c1) rfl)
    try simp only [World.size_alloc] at h1
    obtain ⟨p0, q0⟩ := h1.cs 0 rfl
    obtain ⟨p1, q1⟩ := h1.cs 1 rfl
    clear h1
    go_wp2_with fail
    clear p0 q0 p1 q1
    generalize hwa : World.alloc (World.alloc w _) _ = v1
    have h1 := ((hS.out.boxed rfl).boxed hwa)
    simp only [World.size_alloc] at h1
    have hsz : v1.heap.size = w.heap.size + 1 + 1 := by rw [← hwa]; simp only [World.size_alloc]
    try rw [← hsz]
    clear hsz
    clear hwa
    clear hS; have hS := Lib.hid h1; clear h1
    obtain ⟨x0, y0⟩ := hS.out.cs 0 rfl
    obtain ⟨x1, y1⟩ := hS.out.cs 1 rfl
    go_wp2_with fail
    go_at_call 20
    with_reducible refine (wlong2_y hS.out _ _ _ _ _ _ _ _ (by omega) (by omega) hl).mono ?_
    rintro e v2 ⟨rfl, h1⟩
    clear x0 y0 x1 y1
    clear hS; have hS := Lib.hid h1; clear h1
    obtain ⟨x0, y0⟩ := hS.out.cs 0 rfl
    obtain ⟨x1, y1⟩ := hS.out.cs 1 rfl
    go_wp2_with fail
    go_at_call 10
    with_reducible refine (wawake_s hS.out).mono ?_
    rintro e v3 ⟨rfl, h1⟩
    clear x0 y0 x1 y1
    clear hS; have hS := Lib.hid h1; clear h1
    obtain ⟨x0, y0⟩ := hS.out.cs 0 rfl
    obtain ⟨x1, y1⟩ := hS.out.cs 1 rfl
    go_wp2
    go_ret
    exact ⟨rfl, hS.out.st.1⟩
set_option maxRecDepth 100000 in
theorem lifted (os : Os) (started : os.Started) (H : Type) (enc : TypeId × Value → H) :
    ReturnsInHanded {} Tryd.checked os 7 .any (fun w args => (Rows.wholeSignsSpec.pre enc Tryd.prog Tryd.f7 Rows.wholeSignsRow.domain false w args ∧ laidMetH Tryd.prog Rows.wholeSignsRow.laid w) ∧ sizedMet enc Tryd.prog Tryd.f7 (OpenSpec.ofChange Rows.wholeSignsSpec) false w args) (Rows.wholeSignsSpec.post enc Tryd.prog Tryd.f7 false true false false) := by
  refine returnsInHanded_of_change_and (C := Tryd.checked) (X := fun w _ => laidMetH Tryd.prog Rows.wholeSignsRow.laid w) (fun _ _ _ hh h => h.of_heap hh) own started (by kernel_rfl) Tryd.func7
    (ChangeSpec.witness_shaped (enc := enc) (C := Tryd.checked) (os := os) (X := fun w _ => laidMetH Tryd.prog Rows.wholeSignsRow.laid w) false (World.laidAll Tryd.prog os Rows.wholeSignsRow.laid) #[.agg #[.bool false, .slice none 0 0], .agg #[.bool false, .slice none 0 0]] 8 (World.laidAll_os _ _ _)
      (World.shaped_of_ZipB (by kernel_rfl) (by kernel_rfl)) (by kernel_rfl) (by kernel_rfl) (by kernel_rfl)
      (by rw [MakeChecks.laidMetH_plain _ _ _ (by kernel_rfl)]; exact laidMet_laidAll _ (by kernel_rfl) (by kernel_rfl))) ?_
  intro W base args ds gs before hval0 hW hcnd _ _ _
  have hval : ∀ (j : Nat) t v, Tryd.f7.params[j]? = some t → args[j]? = some v → Value.okWide Tryd.prog W .any base t v := hval0
  have hW' := hW
  obtain ⟨p, q, hA0, hV, hpq, hfz, hnd⟩ := hW
  have hA : DataW.TrodAll enc Tryd.prog W 0 (fun _ => true) true Tryd.f7.params.toList args.toList ds p := hA0
  rw [Tryd.params7] at hA hval
  obtain ⟨v0, vs0, d0, ds0, p0, q0, hargs, rfl, rfl, h0, r0⟩ := trodAll_cons hA
  obtain ⟨v1, vs1, d1, ds1, p1, q1, rfl, rfl, rfl, h1, r1⟩ := trodAll_cons r0
  obtain ⟨rfl, rfl, rfl⟩ := trodAll_nil r1
  obtain rfl : args = #[v0, v1] := by cases args; simp_all
  obtain ⟨rfl, rfl⟩ := trodVars_none hV
  obtain ⟨b0, A0, n0, c0, xs0, rfl, s0⟩ := open_whole (hval 0 26 v0 rfl rfl) h0
  obtain ⟨b1, A1, n1, c1, xs1, rfl, s1⟩ := open_whole (hval 1 26 v1 rfl rfl) h1
  refine (walk W b0 A0 n0 c0 xs0 s0 b1 A1 n1 c1 xs1 s1).mono fun e W' ⟨he, hb⟩ => ?_
  subst he
  exact ⟨_, rfl, Frame.close laidOut hW' rfl rfl rfl Tryd.underlying4 (fun t ht => by rw [Tryd.params7] at ht; simp at ht; rcases ht with rfl <;> exact ⟨by kernel_rfl, of_decide_eq_true (by kernel_rfl)⟩) hb⟩
theorem over : Rows.wholeSignsRow.holds Tryd.pinned (OpenSpec.ofChange Rows.wholeSignsSpec) :=
  OpenClaim.holds_of_wide 7 Tryd.f7 rfl rfl rfl rfl rfl rfl rfl ⟨rfl, rfl, rfl, rfl, rfl⟩ rfl rfl rfl rfl rfl (by kernel_rfl) Tryd.func7 (by kernel_rfl)
    (of_decide_eq_true (by kernel_rfl)) (by unfold Func.isWrapper; first | (rw [if_pos (by decide +kernel)]; kernel_rfl) | (rw [if_neg (by decide +kernel)]; exact ⟨rfl, rfl⟩))
    (fun os started H enc _ => lifted os started H enc)
/-- the statement -/
theorem proved : Rows.WholeSignsCardSaid :=
  Claim7.holds_tied_plain_at .later [] _ _ _ _ over (fun _ h => by cases h) (by kernel_rfl) (fun _ h => by cases h) wholeSigns_row_tie rfl ⟨rfl, rfl⟩ (by kernel_rfl) rfl
    (fun f fn hf hfn => by
      obtain rfl : f = 7 := Option.some.inj ((show Tryd.prog.funcNamed "tombola/tombolalaw05.WholeSigns" = some 7 by kernel_rfl).symm.trans hf) |>.symm
      obtain rfl : fn = Tryd.f7 := (Option.some.inj (Tryd.func7.symm.trans hfn)).symm
      exact ⟨by kernel_rfl, (fun j t ht => by
        rw [Tryd.params7] at ht
        have hm : t ∈ [26, 26] := by simpa using Array.mem_of_getElem? ht
        have hall : ([26, 26].all fun u => !Tryd.prog.wantsStandIn u) = true := by kernel_rfl
        exact (show Tryd.prog.wantsStandIn t = false by simpa using List.all_eq_true.1 hall t hm))⟩)
    (by kernel_rfl)
#print axioms proved
end Go.Proofs.YtgahnchfefngeaaDoor.wholeSigns
