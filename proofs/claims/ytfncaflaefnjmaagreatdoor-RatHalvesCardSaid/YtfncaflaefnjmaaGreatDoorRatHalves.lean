/-
  PROVED: the statement RatHalves (tombolalaw06.RatHalves) about the landed commit: for every input the law returns true and leaves its arguments as they were. Conditions: none beyond those that the given row itself prints.
-/
import Derived.Test.YtfncaflaefnjmaaGreatDoorCards
import Derived.Test.YtfncaflaefnjmaaGreatDoorTie
import Derived.LaidMore
import Derived.Lay
import Derived.SevenTiedAt
import Derived.Stop.Joined
import Derived.Test.YtfncaflaefnjmaaGreatDoorRows
import Derived.WalkKit
import Derived.ProofKit
import Derived.OpenShut
import Derived.RowKit3
import Derived.Test.YtfncaflaefnjmaaGreatDoorGFrame
import Derived.Test.YtfncaflaefnjmaaGreatDoorRatOpen
import Derived.Test.YtfncaflaefnjmaaGreatDoorRatH
import Derived.Test.YtfncaflaefnjmaaGreatDoorRatL
import Derived.Deep.RegionHeld3
namespace Go.Proofs.YtfncaflaefnjmaaGreatDoor.ratHalves
open Go.ChangeShapes Go.WideShapes Go.ChangeAt Go.RowKit
set_option linter.unusedVariables false
set_option maxRecDepth 20000
open N
theorem own : ownKnob Tryz.prog.godebug = none := by kernel_rfl
open RC
open Go.Lib (decDigits nDigits decDigits_length nDigits_pos)
theorem pok1 {q : Nat} (h : q ≤ 255) : PowOk (mg (mkRat 1 2).num) q := .inr (by
  have : (1048576 : Int) / W.len (mg (mkRat 1 2).num) = 1048576 := by decide +kernel
  omega)
theorem pok2 {q : Nat} (h : q ≤ 255) : PowOk ((mkRat 1 2).den : Int) q := .inr (by
  have : (1048576 : Int) / W.len ((mkRat 1 2).den : Int) = 524288 := by decide +kernel
  omega)
set_option maxRecDepth 100000 in
set_option maxHeartbeats 4000000 in
theorem walk (w : World) (a0 : Int) (w0 : (Lit.int .u8 a0).wf = true) (a1 : Int) (w1 : (Lit.int .u8 a1).wf = true) :
    Calls Tryz.prog 10 #[.int .u8 a0, .int .u8 a1] w fun e w' => e = .returned (.bool true) ∧ Below w.heap.size w w' := by
  have hb0 := bounds_u8 w0
  have hb1 := bounds_u8 w1
  obtain ⟨hb2, hb3⟩ := hb0
  obtain ⟨hb4, hb5⟩ := hb1
  by_cases h0 : a0 = 0
  · subst h0
    have hS := Lib.hid (SC.start w)
    go_enter Tryz.func10, Tryz.ntmps10
    go_wp2_with fail
    go_at_call 12
    with_reducible refine (awake_any _).mono ?_
    rintro e v1 ⟨rfl, hb⟩
    have h1 := hS.out.below hb
    clear hb
    clear hS; have hS := Lib.hid h1; clear h1
    go_wp2_with fail
    go_at_call 18
    with_reducible refine (fhalf_s (q := 0) hS.out (by omega) (by omega)).mono ?_
    rintro e v2 ⟨ra, Aa, na, ca, Aa', na', ca', hra, rfl, h1⟩
    have HRa := Lib.hid hra; clear hra
    clear hS; have hS := Lib.hid h1; clear h1
    have h1 := (hS.out.boxed (vs := [.bool (sg (ra).num), .slice Aa na ca, .slice Aa' na' ca']) (ty := 27) rfl rfl)
    try simp only [World.size_alloc] at h1
    obtain ⟨p0_0, p1_0, p2_0⟩ := h1.cs3 0 rfl
    clear h1
    go_wp2_with fail
    clear p0_0 p1_0 p2_0
    generalize hwa : World.alloc v2 _ = v3
    have h1 := (hS.out.boxed (vs := [.bool (sg (ra).num), .slice Aa na ca, .slice Aa' na' ca']) (ty := 27) rfl hwa)
    have hsz : v3.heap.size = v2.heap.size + 1 := by rw [← hwa]; simp only [World.size_alloc]
    try rw [← hsz]
    clear hwa hsz
    clear hS; have hS := Lib.hid h1; clear h1
    obtain ⟨x0_0, x1_0, x2_0⟩ := hS.out.cs3 0 rfl
    go_wp2_with fail
    go_at_call 18
    with_reducible refine (fhalf_s (q := a1) hS.out (by omega) (by omega)).mono ?_
    rintro e v4 ⟨rb, Ab, nb, cb, Ab', nb', cb', hrb, rfl, h1⟩
    clear x0_0 x1_0 x2_0
    have HRb := Lib.hid hrb; clear hrb
    clear hS; have hS := Lib.hid h1; clear h1
    obtain ⟨x0_0, x1_0, x2_0⟩ := hS.out.cs3 0 rfl
    have h1 := (hS.out.boxed (vs := [.bool (sg (rb).num), .slice Ab nb cb, .slice Ab' nb' cb']) (ty := 27) rfl rfl)
    try simp only [World.size_alloc] at h1
    obtain ⟨p0_0, p1_0, p2_0⟩ := h1.cs3 0 rfl
    obtain ⟨p0_1, p1_1, p2_1⟩ := h1.cs3 1 rfl
    clear h1
    go_wp2_with fail
    clear x0_0 x1_0 x2_0
    clear p0_0 p1_0 p2_0 p0_1 p1_1 p2_1
    generalize hwa : World.alloc v4 _ = v5
    have h1 := (hS.out.boxed (vs := [.bool (sg (rb).num), .slice Ab nb cb, .slice Ab' nb' cb']) (ty := 27) rfl hwa)
    have hsz : v5.heap.size = v4.heap.size + 1 := by rw [← hwa]; simp only [World.size_alloc]
    try rw [← hsz]
    clear hwa hsz
    clear hS; have hS := Lib.hid h1; clear h1
    obtain ⟨x0_0, x1_0, x2_0⟩ := hS.out.cs3 0 rfl
    obtain ⟨x0_1, x1_1, x2_1⟩ := hS.out.cs3 1 rfl
    go_wp2_with fail
    go_at_call 18
    with_reducible refine (fhalf_s (q := a1) hS.out (by omega) (by omega)).mono ?_
    rintro e v6 ⟨rc, Ac, nc, cc, Ac', nc', cc', hrc, rfl, h1⟩
    clear x0_0 x1_0 x2_0 x0_1 x1_1 x2_1
    have HRc := Lib.hid hrc; clear hrc
    clear hS; have hS := Lib.hid h1; clear h1
    obtain ⟨x0_0, x1_0, x2_0⟩ := hS.out.cs3 0 rfl
    obtain ⟨x0_1, x1_1, x2_1⟩ := hS.out.cs3 1 rfl
    have h1 := (hS.out.boxed (vs := [.bool (sg (rc).num), .slice Ac nc cc, .slice Ac' nc' cc']) (ty := 27) rfl rfl)
    try simp only [World.size_alloc] at h1
    obtain ⟨p0_0, p1_0, p2_0⟩ := h1.cs3 0 rfl
    obtain ⟨p0_1, p1_1, p2_1⟩ := h1.cs3 1 rfl
    obtain ⟨p0_2, p1_2, p2_2⟩ := h1.cs3 2 rfl
    clear h1
    go_wp2_with fail
    clear x0_0 x1_0 x2_0 x0_1 x1_1 x2_1
    clear p0_0 p1_0 p2_0 p0_1 p1_1 p2_1 p0_2 p1_2 p2_2
    generalize hwa : World.alloc v6 _ = v7
    have h1 := (hS.out.boxed (vs := [.bool (sg (rc).num), .slice Ac nc cc, .slice Ac' nc' cc']) (ty := 27) rfl hwa)
    have hsz : v7.heap.size = v6.heap.size + 1 := by rw [← hwa]; simp only [World.size_alloc]
    try rw [← hsz]
    clear hwa hsz
    clear hS; have hS := Lib.hid h1; clear h1
    obtain ⟨x0_0, x1_0, x2_0⟩ := hS.out.cs3 0 rfl
    obtain ⟨x0_1, x1_1, x2_1⟩ := hS.out.cs3 1 rfl
    obtain ⟨x0_2, x1_2, x2_2⟩ := hS.out.cs3 2 rfl
    go_wp2_with fail
    go_at_call 29
    with_reducible refine (over_s (r0 := mkRat 1 2) (M := 1) (j := 0) hS.out (fun W => fover_pos W (x := 1) (y := 2) (by decide) (by decide) (by decide) (by decide) (by decide) rfl)).mono ?_
    rintro e v8 ⟨rd, Ad, nd, cd, Ad', nd', cd', hrd, rfl, h1⟩
    clear x0_0 x1_0 x2_0 x0_1 x1_1 x2_1 x0_2 x1_2 x2_2
    have HRd := Lib.hid hrd; clear hrd
    clear hS; have hS := Lib.hid h1; clear h1
    obtain ⟨x0_0, x1_0, x2_0⟩ := hS.out.cs3 0 rfl
    obtain ⟨x0_1, x1_1, x2_1⟩ := hS.out.cs3 1 rfl
    obtain ⟨x0_2, x1_2, x2_2⟩ := hS.out.cs3 2 rfl
    go_wp2_with fail
    go_at_call 30
    with_reducible refine (fpow_s (q := Int.toNat (0)) (z := 0) hS.out (by repeat (first | exact List.mem_cons_self | apply List.mem_cons_of_mem)) (by repeat (first | exact List.mem_cons_self | apply List.mem_cons_of_mem)) (by decide) (rv_self _) (by omega) (by omega) (by rw [← HRd.out]; exact pok1 (by omega)) (by rw [← HRd.out]; exact pok2 (by omega))).mono ?_
    rintro e v9 ⟨rp, Ap, np, cp, Ap', np', cp', hrp, rfl, h1⟩
    clear x0_0 x1_0 x2_0 x0_1 x1_1 x2_1 x0_2 x1_2 x2_2
    have HRp := Lib.hid hrp; clear hrp
    clear hS; have hS := Lib.hid h1; clear h1
    obtain ⟨x0_0, x1_0, x2_0⟩ := hS.out.cs3 0 rfl
    obtain ⟨x0_1, x1_1, x2_1⟩ := hS.out.cs3 1 rfl
    obtain ⟨x0_2, x1_2, x2_2⟩ := hS.out.cs3 2 rfl
    have h1 := (hS.out.boxed (vs := [.bool (sg (rp).num), .slice Ap np cp, .slice Ap' np' cp']) (ty := 27) rfl rfl)
    try simp only [World.size_alloc] at h1
    obtain ⟨p0_0, p1_0, p2_0⟩ := h1.cs3 0 rfl
    obtain ⟨p0_1, p1_1, p2_1⟩ := h1.cs3 1 rfl
    obtain ⟨p0_2, p1_2, p2_2⟩ := h1.cs3 2 rfl
    obtain ⟨p0_3, p1_3, p2_3⟩ := h1.cs3 3 rfl
    clear h1
    go_wp2_with fail
    clear x0_0 x1_0 x2_0 x0_1 x1_1 x2_1 x0_2 x1_2 x2_2
    clear p0_0 p1_0 p2_0 p0_1 p1_1 p2_1 p0_2 p1_2 p2_2 p0_3 p1_3 p2_3
    generalize hwa : World.alloc v9 _ = v10
    have h1 := (hS.out.boxed (vs := [.bool (sg (rp).num), .slice Ap np cp, .slice Ap' np' cp']) (ty := 27) rfl hwa)
    have hsz : v10.heap.size = v9.heap.size + 1 := by rw [← hwa]; simp only [World.size_alloc]
    try rw [← hsz]
    clear hwa hsz
    clear hS; have hS := Lib.hid h1; clear h1
    obtain ⟨x0_0, x1_0, x2_0⟩ := hS.out.cs3 0 rfl
    obtain ⟨x0_1, x1_1, x2_1⟩ := hS.out.cs3 1 rfl
    obtain ⟨x0_2, x1_2, x2_2⟩ := hS.out.cs3 2 rfl
    obtain ⟨x0_3, x1_3, x2_3⟩ := hS.out.cs3 3 rfl
    have F1 := Lib.hid (show ra * rb = rc by rw [← HRa.out, ← HRb.out, ← HRc.out, rh_mul]; congr 1; omega)
    have F2 := Lib.hid (show rp = ra by rw [← HRp.out, ← HRd.out, ← HRa.out]; exact rh_pow _)
    go_wp2_with fail
    clear x0_0 x1_0 x2_0 x0_1 x1_1 x2_1 x0_2 x1_2 x2_2 x0_3 x1_3 x2_3
    have h1 := hS.out.drew
    clear hS; have hS := Lib.hid h1; clear h1
    try simp only [List.append_eq, List.cons_append, List.nil_append]
    go_region_held3 (fun W => (W.cell? ⟨v9.heap.size, 0, none⟩ = some (.bool (sg (rp).num)) ∧ W.cell? ⟨v9.heap.size, 1, none⟩ = some (.slice Ap np cp) ∧ W.cell? ⟨v9.heap.size, 2, none⟩ = some (.slice Ap' np' cp')) ∧ (W.cell? ⟨v6.heap.size, 0, none⟩ = some (.bool (sg (rc).num)) ∧ W.cell? ⟨v6.heap.size, 1, none⟩ = some (.slice Ac nc cc) ∧ W.cell? ⟨v6.heap.size, 2, none⟩ = some (.slice Ac' nc' cc')) ∧ (W.cell? ⟨v4.heap.size, 0, none⟩ = some (.bool (sg (rb).num)) ∧ W.cell? ⟨v4.heap.size, 1, none⟩ = some (.slice Ab nb cb) ∧ W.cell? ⟨v4.heap.size, 2, none⟩ = some (.slice Ab' nb' cb')) ∧ (W.cell? ⟨v2.heap.size, 0, none⟩ = some (.bool (sg (ra).num)) ∧ W.cell? ⟨v2.heap.size, 1, none⟩ = some (.slice Aa na ca) ∧ W.cell? ⟨v2.heap.size, 2, none⟩ = some (.slice Aa' na' ca'))) (first | with_reducible exact ⟨hS.out.cs3 0 rfl, hS.out.cs3 1 rfl, hS.out.cs3 2 rfl, hS.out.cs3 3 rfl⟩ | with_reducible exact ⟨hS.out.drew.cs3 0 rfl, hS.out.drew.cs3 1 rfl, hS.out.drew.cs3 2 rfl, hS.out.drew.cs3 3 rfl⟩ | with_reducible exact ⟨(hS.out.alloc _).cs3 0 rfl, (hS.out.alloc _).cs3 1 rfl, (hS.out.alloc _).cs3 2 rfl, (hS.out.alloc _).cs3 3 rfl⟩ | with_reducible exact ⟨((hS.out.alloc _).alloc _).cs3 0 rfl, ((hS.out.alloc _).alloc _).cs3 1 rfl, ((hS.out.alloc _).alloc _).cs3 2 rfl, ((hS.out.alloc _).alloc _).cs3 3 rfl⟩) (first
      | (go_at_call 39; (with_reducible refine (fmul_s hS.out (by repeat (first | exact List.mem_cons_self | apply List.mem_cons_of_mem)) (by repeat (first | exact List.mem_cons_self | apply List.mem_cons_of_mem)) (by repeat (first | exact List.mem_cons_self | apply List.mem_cons_of_mem)) (by repeat (first | exact List.mem_cons_self | apply List.mem_cons_of_mem)) (by decide) (by decide) (by first | exact rv_self _) (by first | exact rv_self _)).mono ?_); rintro e w' ⟨rm, Am, nm, cm, Am', nm', cm', hrm, rfl, h1⟩; have HRm := Lib.hid hrm; clear hrm; clear hS; have hS := Lib.hid h1; clear h1)
      | (go_at_call 20; (with_reducible refine (is_v hS.out (by repeat (first | exact List.mem_cons_self | apply List.mem_cons_of_mem)) (by repeat (first | exact List.mem_cons_self | apply List.mem_cons_of_mem)) (by repeat (first | exact List.mem_cons_self | apply List.mem_cons_of_mem)) (by repeat (first | exact List.mem_cons_self | apply List.mem_cons_of_mem)) (by first | (rw [← HRm.out]; exact F1.out) | exact F2.out)).mono ?_); rintro e w' ⟨rfl, h1⟩; clear hS; have hS := Lib.hid h1; clear h1))
    obtain ⟨x0_0, x1_0, x2_0⟩ := hS.out.cs3 0 rfl
    obtain ⟨x0_1, x1_1, x2_1⟩ := hS.out.cs3 1 rfl
    obtain ⟨x0_2, x1_2, x2_2⟩ := hS.out.cs3 2 rfl
    obtain ⟨x0_3, x1_3, x2_3⟩ := hS.out.cs3 3 rfl
    go_wp2_with fail
    go_at_call 27
    with_reducible refine (fshow_s (Z := [49]) hS.out (by repeat (first | exact List.mem_cons_self | apply List.mem_cons_of_mem)) (by repeat (first | exact List.mem_cons_self | apply List.mem_cons_of_mem)) (by decide) (rv_self _) (by rw [← HRa.out]; exact shR_lit (by decide +kernel) (by decide +kernel))).mono ?_
    rintro e v11 ⟨rfl, h1⟩
    clear x0_0 x1_0 x2_0 x0_1 x1_1 x2_1 x0_2 x1_2 x2_2 x0_3 x1_3 x2_3
    clear hS; have hS := Lib.hid h1; clear h1
    obtain ⟨x0_0, x1_0, x2_0⟩ := hS.out.cs3 0 rfl
    obtain ⟨x0_1, x1_1, x2_1⟩ := hS.out.cs3 1 rfl
    obtain ⟨x0_2, x1_2, x2_2⟩ := hS.out.cs3 2 rfl
    obtain ⟨x0_3, x1_3, x2_3⟩ := hS.out.cs3 3 rfl
    go_wp2
    go_ret
    exact ⟨rfl, hS.out.st.1⟩
  · have hne : ¬ a0 = 0 := h0
    have hnb : (a0 == 0) = false := by simpa using h0
    have hS := Lib.hid (SC.start w)
    go_enter Tryz.func10, Tryz.ntmps10
    go_wp2_with fail
    go_at_call 12
    with_reducible refine (awake_any _).mono ?_
    rintro e v1 ⟨rfl, hb⟩
    have h1 := hS.out.below hb
    clear hb
    clear hS; have hS := Lib.hid h1; clear h1
    go_wp2_with fail
    go_at_call 18
    with_reducible refine (fhalf_s (q := a0) hS.out (by omega) (by omega)).mono ?_
    rintro e v2 ⟨ra, Aa, na, ca, Aa', na', ca', hra, rfl, h1⟩
    have HRa := Lib.hid hra; clear hra
    clear hS; have hS := Lib.hid h1; clear h1
    have h1 := (hS.out.boxed (vs := [.bool (sg (ra).num), .slice Aa na ca, .slice Aa' na' ca']) (ty := 27) rfl rfl)
    try simp only [World.size_alloc] at h1
    obtain ⟨p0_0, p1_0, p2_0⟩ := h1.cs3 0 rfl
    clear h1
    go_wp2_with fail
    clear p0_0 p1_0 p2_0
    generalize hwa : World.alloc v2 _ = v3
    have h1 := (hS.out.boxed (vs := [.bool (sg (ra).num), .slice Aa na ca, .slice Aa' na' ca']) (ty := 27) rfl hwa)
    have hsz : v3.heap.size = v2.heap.size + 1 := by rw [← hwa]; simp only [World.size_alloc]
    try rw [← hsz]
    clear hwa hsz
    clear hS; have hS := Lib.hid h1; clear h1
    obtain ⟨x0_0, x1_0, x2_0⟩ := hS.out.cs3 0 rfl
    go_wp2_with fail
    go_at_call 18
    with_reducible refine (fhalf_s (q := a1) hS.out (by omega) (by omega)).mono ?_
    rintro e v4 ⟨rb, Ab, nb, cb, Ab', nb', cb', hrb, rfl, h1⟩
    clear x0_0 x1_0 x2_0
    have HRb := Lib.hid hrb; clear hrb
    clear hS; have hS := Lib.hid h1; clear h1
    obtain ⟨x0_0, x1_0, x2_0⟩ := hS.out.cs3 0 rfl
    have h1 := (hS.out.boxed (vs := [.bool (sg (rb).num), .slice Ab nb cb, .slice Ab' nb' cb']) (ty := 27) rfl rfl)
    try simp only [World.size_alloc] at h1
    obtain ⟨p0_0, p1_0, p2_0⟩ := h1.cs3 0 rfl
    obtain ⟨p0_1, p1_1, p2_1⟩ := h1.cs3 1 rfl
    clear h1
    go_wp2_with fail
    clear x0_0 x1_0 x2_0
    clear p0_0 p1_0 p2_0 p0_1 p1_1 p2_1
    generalize hwa : World.alloc v4 _ = v5
    have h1 := (hS.out.boxed (vs := [.bool (sg (rb).num), .slice Ab nb cb, .slice Ab' nb' cb']) (ty := 27) rfl hwa)
    have hsz : v5.heap.size = v4.heap.size + 1 := by rw [← hwa]; simp only [World.size_alloc]
    try rw [← hsz]
    clear hwa hsz
    clear hS; have hS := Lib.hid h1; clear h1
    obtain ⟨x0_0, x1_0, x2_0⟩ := hS.out.cs3 0 rfl
    obtain ⟨x0_1, x1_1, x2_1⟩ := hS.out.cs3 1 rfl
    go_wp2_with fail
    go_at_call 18
    with_reducible refine (fhalf_s (q := a0 + a1) hS.out (by omega) (by omega)).mono ?_
    rintro e v6 ⟨rc, Ac, nc, cc, Ac', nc', cc', hrc, rfl, h1⟩
    clear x0_0 x1_0 x2_0 x0_1 x1_1 x2_1
    have HRc := Lib.hid hrc; clear hrc
    clear hS; have hS := Lib.hid h1; clear h1
    obtain ⟨x0_0, x1_0, x2_0⟩ := hS.out.cs3 0 rfl
    obtain ⟨x0_1, x1_1, x2_1⟩ := hS.out.cs3 1 rfl
    have h1 := (hS.out.boxed (vs := [.bool (sg (rc).num), .slice Ac nc cc, .slice Ac' nc' cc']) (ty := 27) rfl rfl)
    try simp only [World.size_alloc] at h1
    obtain ⟨p0_0, p1_0, p2_0⟩ := h1.cs3 0 rfl
    obtain ⟨p0_1, p1_1, p2_1⟩ := h1.cs3 1 rfl
    obtain ⟨p0_2, p1_2, p2_2⟩ := h1.cs3 2 rfl
    clear h1
    go_wp2_with fail
    clear x0_0 x1_0 x2_0 x0_1 x1_1 x2_1
    clear p0_0 p1_0 p2_0 p0_1 p1_1 p2_1 p0_2 p1_2 p2_2
    generalize hwa : World.alloc v6 _ = v7
    have h1 := (hS.out.boxed (vs := [.bool (sg (rc).num), .slice Ac nc cc, .slice Ac' nc' cc']) (ty := 27) rfl hwa)
    have hsz : v7.heap.size = v6.heap.size + 1 := by rw [← hwa]; simp only [World.size_alloc]
    try rw [← hsz]
    clear hwa hsz
    clear hS; have hS := Lib.hid h1; clear h1
    obtain ⟨x0_0, x1_0, x2_0⟩ := hS.out.cs3 0 rfl
    obtain ⟨x0_1, x1_1, x2_1⟩ := hS.out.cs3 1 rfl
    obtain ⟨x0_2, x1_2, x2_2⟩ := hS.out.cs3 2 rfl
    go_wp2_with fail
    go_at_call 29
    with_reducible refine (over_s (r0 := mkRat 1 2) (M := 1) (j := 0) hS.out (fun W => fover_pos W (x := 1) (y := 2) (by decide) (by decide) (by decide) (by decide) (by decide) rfl)).mono ?_
    rintro e v8 ⟨rd, Ad, nd, cd, Ad', nd', cd', hrd, rfl, h1⟩
    clear x0_0 x1_0 x2_0 x0_1 x1_1 x2_1 x0_2 x1_2 x2_2
    have HRd := Lib.hid hrd; clear hrd
    clear hS; have hS := Lib.hid h1; clear h1
    obtain ⟨x0_0, x1_0, x2_0⟩ := hS.out.cs3 0 rfl
    obtain ⟨x0_1, x1_1, x2_1⟩ := hS.out.cs3 1 rfl
    obtain ⟨x0_2, x1_2, x2_2⟩ := hS.out.cs3 2 rfl
    go_wp2_with fail
    go_at_call 30
    with_reducible refine (fpow_s (q := Int.toNat (a0)) (z := a0) hS.out (by repeat (first | exact List.mem_cons_self | apply List.mem_cons_of_mem)) (by repeat (first | exact List.mem_cons_self | apply List.mem_cons_of_mem)) (by decide) (rv_self _) (by omega) (by omega) (by rw [← HRd.out]; exact pok1 (by omega)) (by rw [← HRd.out]; exact pok2 (by omega))).mono ?_
    rintro e v9 ⟨rp, Ap, np, cp, Ap', np', cp', hrp, rfl, h1⟩
    clear x0_0 x1_0 x2_0 x0_1 x1_1 x2_1 x0_2 x1_2 x2_2
    have HRp := Lib.hid hrp; clear hrp
    clear hS; have hS := Lib.hid h1; clear h1
    obtain ⟨x0_0, x1_0, x2_0⟩ := hS.out.cs3 0 rfl
    obtain ⟨x0_1, x1_1, x2_1⟩ := hS.out.cs3 1 rfl
    obtain ⟨x0_2, x1_2, x2_2⟩ := hS.out.cs3 2 rfl
    have h1 := (hS.out.boxed (vs := [.bool (sg (rp).num), .slice Ap np cp, .slice Ap' np' cp']) (ty := 27) rfl rfl)
    try simp only [World.size_alloc] at h1
    obtain ⟨p0_0, p1_0, p2_0⟩ := h1.cs3 0 rfl
    obtain ⟨p0_1, p1_1, p2_1⟩ := h1.cs3 1 rfl
    obtain ⟨p0_2, p1_2, p2_2⟩ := h1.cs3 2 rfl
    obtain ⟨p0_3, p1_3, p2_3⟩ := h1.cs3 3 rfl
    clear h1
    go_wp2_with fail
    clear x0_0 x1_0 x2_0 x0_1 x1_1 x2_1 x0_2 x1_2 x2_2
    clear p0_0 p1_0 p2_0 p0_1 p1_1 p2_1 p0_2 p1_2 p2_2 p0_3 p1_3 p2_3
    generalize hwa : World.alloc v9 _ = v10
    have h1 := (hS.out.boxed (vs := [.bool (sg (rp).num), .slice Ap np cp, .slice Ap' np' cp']) (ty := 27) rfl hwa)
    have hsz : v10.heap.size = v9.heap.size + 1 := by rw [← hwa]; simp only [World.size_alloc]
    try rw [← hsz]
    clear hwa hsz
    clear hS; have hS := Lib.hid h1; clear h1
    obtain ⟨x0_0, x1_0, x2_0⟩ := hS.out.cs3 0 rfl
    obtain ⟨x0_1, x1_1, x2_1⟩ := hS.out.cs3 1 rfl
    obtain ⟨x0_2, x1_2, x2_2⟩ := hS.out.cs3 2 rfl
    obtain ⟨x0_3, x1_3, x2_3⟩ := hS.out.cs3 3 rfl
    have F1 := Lib.hid (show ra * rb = rc by rw [← HRa.out, ← HRb.out, ← HRc.out, rh_mul]; congr 1; omega)
    have F2 := Lib.hid (show rp = ra by rw [← HRp.out, ← HRd.out, ← HRa.out]; exact rh_pow _)
    go_wp2_with fail
    clear x0_0 x1_0 x2_0 x0_1 x1_1 x2_1 x0_2 x1_2 x2_2 x0_3 x1_3 x2_3
    have h1 := hS.out.drew
    clear hS; have hS := Lib.hid h1; clear h1
    try simp only [List.append_eq, List.cons_append, List.nil_append]
    go_region_held3 (fun W => (W.cell? ⟨v9.heap.size, 0, none⟩ = some (.bool (sg (rp).num)) ∧ W.cell? ⟨v9.heap.size, 1, none⟩ = some (.slice Ap np cp) ∧ W.cell? ⟨v9.heap.size, 2, none⟩ = some (.slice Ap' np' cp')) ∧ (W.cell? ⟨v6.heap.size, 0, none⟩ = some (.bool (sg (rc).num)) ∧ W.cell? ⟨v6.heap.size, 1, none⟩ = some (.slice Ac nc cc) ∧ W.cell? ⟨v6.heap.size, 2, none⟩ = some (.slice Ac' nc' cc')) ∧ (W.cell? ⟨v4.heap.size, 0, none⟩ = some (.bool (sg (rb).num)) ∧ W.cell? ⟨v4.heap.size, 1, none⟩ = some (.slice Ab nb cb) ∧ W.cell? ⟨v4.heap.size, 2, none⟩ = some (.slice Ab' nb' cb')) ∧ (W.cell? ⟨v2.heap.size, 0, none⟩ = some (.bool (sg (ra).num)) ∧ W.cell? ⟨v2.heap.size, 1, none⟩ = some (.slice Aa na ca) ∧ W.cell? ⟨v2.heap.size, 2, none⟩ = some (.slice Aa' na' ca'))) (first | with_reducible exact ⟨hS.out.cs3 0 rfl, hS.out.cs3 1 rfl, hS.out.cs3 2 rfl, hS.out.cs3 3 rfl⟩ | with_reducible exact ⟨hS.out.drew.cs3 0 rfl, hS.out.drew.cs3 1 rfl, hS.out.drew.cs3 2 rfl, hS.out.drew.cs3 3 rfl⟩ | with_reducible exact ⟨(hS.out.alloc _).cs3 0 rfl, (hS.out.alloc _).cs3 1 rfl, (hS.out.alloc _).cs3 2 rfl, (hS.out.alloc _).cs3 3 rfl⟩ | with_reducible exact ⟨((hS.out.alloc _).alloc _).cs3 0 rfl, ((hS.out.alloc _).alloc _).cs3 1 rfl, ((hS.out.alloc _).alloc _).cs3 2 rfl, ((hS.out.alloc _).alloc _).cs3 3 rfl⟩) (first
      | (go_at_call 39; (with_reducible refine (fmul_s hS.out (by repeat (first | exact List.mem_cons_self | apply List.mem_cons_of_mem)) (by repeat (first | exact List.mem_cons_self | apply List.mem_cons_of_mem)) (by repeat (first | exact List.mem_cons_self | apply List.mem_cons_of_mem)) (by repeat (first | exact List.mem_cons_self | apply List.mem_cons_of_mem)) (by decide) (by decide) (by first | exact rv_self _) (by first | exact rv_self _)).mono ?_); rintro e w' ⟨rm, Am, nm, cm, Am', nm', cm', hrm, rfl, h1⟩; have HRm := Lib.hid hrm; clear hrm; clear hS; have hS := Lib.hid h1; clear h1)
      | (go_at_call 20; (with_reducible refine (is_v hS.out (by repeat (first | exact List.mem_cons_self | apply List.mem_cons_of_mem)) (by repeat (first | exact List.mem_cons_self | apply List.mem_cons_of_mem)) (by repeat (first | exact List.mem_cons_self | apply List.mem_cons_of_mem)) (by repeat (first | exact List.mem_cons_self | apply List.mem_cons_of_mem)) (by first | (rw [← HRm.out]; exact F1.out) | exact F2.out)).mono ?_); rintro e w' ⟨rfl, h1⟩; clear hS; have hS := Lib.hid h1; clear h1))
    obtain ⟨x0_0, x1_0, x2_0⟩ := hS.out.cs3 0 rfl
    obtain ⟨x0_1, x1_1, x2_1⟩ := hS.out.cs3 1 rfl
    obtain ⟨x0_2, x1_2, x2_2⟩ := hS.out.cs3 2 rfl
    obtain ⟨x0_3, x1_3, x2_3⟩ := hS.out.cs3 3 rfl
    go_wp2_with fail
    go_at_call 18
    with_reducible refine (fhalf_s (q := a0 - 1) hS.out (by omega) (by omega)).mono ?_
    rintro e v11 ⟨re, Ae, ne, ce, Ae', ne', ce', hre, rfl, h1⟩
    clear x0_0 x1_0 x2_0 x0_1 x1_1 x2_1 x0_2 x1_2 x2_2 x0_3 x1_3 x2_3
    have HRe := Lib.hid hre; clear hre
    clear hS; have hS := Lib.hid h1; clear h1
    obtain ⟨x0_0, x1_0, x2_0⟩ := hS.out.cs3 0 rfl
    obtain ⟨x0_1, x1_1, x2_1⟩ := hS.out.cs3 1 rfl
    obtain ⟨x0_2, x1_2, x2_2⟩ := hS.out.cs3 2 rfl
    obtain ⟨x0_3, x1_3, x2_3⟩ := hS.out.cs3 3 rfl
    have h1 := (hS.out.boxed (vs := [.bool (sg (re).num), .slice Ae ne ce, .slice Ae' ne' ce']) (ty := 27) rfl rfl)
    try simp only [World.size_alloc] at h1
    obtain ⟨p0_0, p1_0, p2_0⟩ := h1.cs3 0 rfl
    obtain ⟨p0_1, p1_1, p2_1⟩ := h1.cs3 1 rfl
    obtain ⟨p0_2, p1_2, p2_2⟩ := h1.cs3 2 rfl
    obtain ⟨p0_3, p1_3, p2_3⟩ := h1.cs3 3 rfl
    obtain ⟨p0_4, p1_4, p2_4⟩ := h1.cs3 4 rfl
    clear h1
    go_wp2_with fail
    clear x0_0 x1_0 x2_0 x0_1 x1_1 x2_1 x0_2 x1_2 x2_2 x0_3 x1_3 x2_3
    clear p0_0 p1_0 p2_0 p0_1 p1_1 p2_1 p0_2 p1_2 p2_2 p0_3 p1_3 p2_3 p0_4 p1_4 p2_4
    generalize hwa : World.alloc v11 _ = v12
    have h1 := (hS.out.boxed (vs := [.bool (sg (re).num), .slice Ae ne ce, .slice Ae' ne' ce']) (ty := 27) rfl hwa)
    have hsz : v12.heap.size = v11.heap.size + 1 := by rw [← hwa]; simp only [World.size_alloc]
    try rw [← hsz]
    clear hwa hsz
    clear hS; have hS := Lib.hid h1; clear h1
    obtain ⟨x0_0, x1_0, x2_0⟩ := hS.out.cs3 0 rfl
    obtain ⟨x0_1, x1_1, x2_1⟩ := hS.out.cs3 1 rfl
    obtain ⟨x0_2, x1_2, x2_2⟩ := hS.out.cs3 2 rfl
    obtain ⟨x0_3, x1_3, x2_3⟩ := hS.out.cs3 3 rfl
    obtain ⟨x0_4, x1_4, x2_4⟩ := hS.out.cs3 4 rfl
    have hn : ∃ n, a0.toNat = n + 1 ∧ (a0 - 1).toNat = n := ⟨(a0 - 1).toNat, by omega, rfl⟩
    obtain ⟨n, hn1, hn2⟩ := hn
    have F3 := Lib.hid (show ra + ra = re by rw [← HRa.out, ← HRe.out, hn1, hn2]; exact rh_two n)
    have F4 := Lib.hid (show rs (ra - re) = -1 by rw [← HRa.out, ← HRe.out, hn1, hn2]; exact rh_lt n)
    clear hn1 hn2
    go_wp2_with fail
    clear x0_0 x1_0 x2_0 x0_1 x1_1 x2_1 x0_2 x1_2 x2_2 x0_3 x1_3 x2_3 x0_4 x1_4 x2_4
    have h1 := hS.out.drew
    clear hS; have hS := Lib.hid h1; clear h1
    try simp only [List.append_eq, List.cons_append, List.nil_append]
    go_region_held3 (fun W => (W.cell? ⟨v11.heap.size, 0, none⟩ = some (.bool (sg (re).num)) ∧ W.cell? ⟨v11.heap.size, 1, none⟩ = some (.slice Ae ne ce) ∧ W.cell? ⟨v11.heap.size, 2, none⟩ = some (.slice Ae' ne' ce')) ∧ (W.cell? ⟨v9.heap.size, 0, none⟩ = some (.bool (sg (rp).num)) ∧ W.cell? ⟨v9.heap.size, 1, none⟩ = some (.slice Ap np cp) ∧ W.cell? ⟨v9.heap.size, 2, none⟩ = some (.slice Ap' np' cp')) ∧ (W.cell? ⟨v6.heap.size, 0, none⟩ = some (.bool (sg (rc).num)) ∧ W.cell? ⟨v6.heap.size, 1, none⟩ = some (.slice Ac nc cc) ∧ W.cell? ⟨v6.heap.size, 2, none⟩ = some (.slice Ac' nc' cc')) ∧ (W.cell? ⟨v4.heap.size, 0, none⟩ = some (.bool (sg (rb).num)) ∧ W.cell? ⟨v4.heap.size, 1, none⟩ = some (.slice Ab nb cb) ∧ W.cell? ⟨v4.heap.size, 2, none⟩ = some (.slice Ab' nb' cb')) ∧ (W.cell? ⟨v2.heap.size, 0, none⟩ = some (.bool (sg (ra).num)) ∧ W.cell? ⟨v2.heap.size, 1, none⟩ = some (.slice Aa na ca) ∧ W.cell? ⟨v2.heap.size, 2, none⟩ = some (.slice Aa' na' ca'))) (first | with_reducible exact ⟨hS.out.cs3 0 rfl, hS.out.cs3 1 rfl, hS.out.cs3 2 rfl, hS.out.cs3 3 rfl, hS.out.cs3 4 rfl⟩ | with_reducible exact ⟨hS.out.drew.cs3 0 rfl, hS.out.drew.cs3 1 rfl, hS.out.drew.cs3 2 rfl, hS.out.drew.cs3 3 rfl, hS.out.drew.cs3 4 rfl⟩ | with_reducible exact ⟨(hS.out.alloc _).cs3 0 rfl, (hS.out.alloc _).cs3 1 rfl, (hS.out.alloc _).cs3 2 rfl, (hS.out.alloc _).cs3 3 rfl, (hS.out.alloc _).cs3 4 rfl⟩ | with_reducible exact ⟨((hS.out.alloc _).alloc _).cs3 0 rfl, ((hS.out.alloc _).alloc _).cs3 1 rfl, ((hS.out.alloc _).alloc _).cs3 2 rfl, ((hS.out.alloc _).alloc _).cs3 3 rfl, ((hS.out.alloc _).alloc _).cs3 4 rfl⟩) (first
      | (go_at_call 38; (with_reducible refine (fadd_s hS.out (by repeat (first | exact List.mem_cons_self | apply List.mem_cons_of_mem)) (by repeat (first | exact List.mem_cons_self | apply List.mem_cons_of_mem)) (by repeat (first | exact List.mem_cons_self | apply List.mem_cons_of_mem)) (by repeat (first | exact List.mem_cons_self | apply List.mem_cons_of_mem)) (by decide) (by decide) (by first | exact rv_self _) (by first | exact rv_self _)).mono ?_); rintro e w' ⟨rs, As, ns, cs, As', ns', cs', hrs, rfl, h1⟩; have HRs := Lib.hid hrs; clear hrs; clear hS; have hS := Lib.hid h1; clear h1)
      | (go_at_call 20; (with_reducible refine (is_v hS.out (by repeat (first | exact List.mem_cons_self | apply List.mem_cons_of_mem)) (by repeat (first | exact List.mem_cons_self | apply List.mem_cons_of_mem)) (by repeat (first | exact List.mem_cons_self | apply List.mem_cons_of_mem)) (by repeat (first | exact List.mem_cons_self | apply List.mem_cons_of_mem)) (by rw [← HRs.out]; exact F3.out)).mono ?_); rintro e w' ⟨rfl, h1⟩; clear hS; have hS := Lib.hid h1; clear h1)
      | (go_at_call 41; (with_reducible refine (fcmp_s (q := -1) hS.out (by repeat (first | exact List.mem_cons_self | apply List.mem_cons_of_mem)) (by repeat (first | exact List.mem_cons_self | apply List.mem_cons_of_mem)) (by repeat (first | exact List.mem_cons_self | apply List.mem_cons_of_mem)) (by repeat (first | exact List.mem_cons_self | apply List.mem_cons_of_mem)) (by decide) (by decide) (rv_self _) (rv_self _) F4.out).mono ?_); rintro e w' ⟨rfl, h1⟩; clear hS; have hS := Lib.hid h1; clear h1))
    obtain ⟨x0_0, x1_0, x2_0⟩ := hS.out.cs3 0 rfl
    obtain ⟨x0_1, x1_1, x2_1⟩ := hS.out.cs3 1 rfl
    obtain ⟨x0_2, x1_2, x2_2⟩ := hS.out.cs3 2 rfl
    obtain ⟨x0_3, x1_3, x2_3⟩ := hS.out.cs3 3 rfl
    obtain ⟨x0_4, x1_4, x2_4⟩ := hS.out.cs3 4 rfl
    go_wp2
    go_ret
    exact ⟨rfl, hS.out.st.1⟩
set_option maxRecDepth 100000 in
theorem lifted (os : Os) (started : os.Started) (H : Type) (enc : TypeId × Value → H) :
    ReturnsInHanded {} Tryz.checked os 10 .any (fun w args => (Rows.ratHalvesSpec.pre enc Tryz.prog Tryz.f10 Rows.ratHalvesRow.domain false w args ∧ laidMetH Tryz.prog Rows.ratHalvesRow.laid w) ∧ sizedMet enc Tryz.prog Tryz.f10 (OpenSpec.ofChange Rows.ratHalvesSpec) false w args) (Rows.ratHalvesSpec.post enc Tryz.prog Tryz.f10 false true false false) := by
  refine returnsInHanded_of_change_and (C := Tryz.checked) (X := fun w _ => laidMetH Tryz.prog Rows.ratHalvesRow.laid w) (fun _ _ _ hh h => h.of_heap hh) own started (by kernel_rfl) Tryz.func10
    (ChangeSpec.witness_shaped (enc := enc) (C := Tryz.checked) (os := os) (X := fun w _ => laidMetH Tryz.prog Rows.ratHalvesRow.laid w) false (World.laidAll Tryz.prog os Rows.ratHalvesRow.laid) #[.int .u8 0, .int .u8 0] 8 (World.laidAll_os _ _ _)
      (World.shaped_of_ZipB (by kernel_rfl) (by kernel_rfl)) (by kernel_rfl) (by kernel_rfl) (by kernel_rfl)
      (by rw [MakeChecks.laidMetH_plain _ _ _ (by kernel_rfl)]; exact laidMet_laidAll _ (by kernel_rfl) (by kernel_rfl))) ?_
  intro W base args ds gs before hval0 hW hcnd _ _ _
  have hval : ∀ (j : Nat) t v, Tryz.f10.params[j]? = some t → args[j]? = some v → Value.okWide Tryz.prog W .any base t v := hval0
  have hW' := hW
  obtain ⟨p, q, hA0, hV, hpq, hfz, hnd⟩ := hW
  have hA : DataW.TrodAll enc Tryz.prog W 0 (fun _ => true) true Tryz.f10.params.toList args.toList ds p := hA0
  rw [Tryz.params10] at hA hval
  obtain ⟨v0, vs0, d0, ds0, p0, q0, hargs, rfl, rfl, h0, r0⟩ := trodAll_cons hA
  obtain ⟨v1, vs1, d1, ds1, p1, q1, rfl, rfl, rfl, h1, r1⟩ := trodAll_cons r0
  obtain ⟨rfl, rfl, rfl⟩ := trodAll_nil r1
  obtain rfl : args = #[v0, v1] := by cases args; simp_all
  obtain ⟨rfl, rfl⟩ := trodVars_none hV
  obtain ⟨a0, rfl, rfl, rfl, w0⟩ := open_int Tryz.underlying5 (hval 0 5 v0 rfl rfl) h0
  obtain ⟨a1, rfl, rfl, rfl, w1⟩ := open_int Tryz.underlying5 (hval 1 5 v1 rfl rfl) h1
  refine (walk W a0 w0 a1 w1).mono fun e W' ⟨he, hb⟩ => ?_
  subst he
  exact ⟨_, rfl, Frame.close laidOut hW' rfl rfl rfl Tryz.underlying4 (fun t ht => by rw [Tryz.params10] at ht; simp at ht; rcases ht with rfl <;> exact ⟨by kernel_rfl, of_decide_eq_true (by kernel_rfl)⟩) hb⟩
theorem over : Rows.ratHalvesRow.holds Tryz.pinned (OpenSpec.ofChange Rows.ratHalvesSpec) :=
  OpenClaim.holds_of_wide 10 Tryz.f10 rfl rfl rfl rfl rfl rfl rfl ⟨rfl, rfl, rfl, rfl, rfl⟩ rfl rfl rfl rfl rfl (by kernel_rfl) Tryz.func10 (by kernel_rfl)
    (of_decide_eq_true (by kernel_rfl)) (by unfold Func.isWrapper; first | (rw [if_pos (by decide +kernel)]; kernel_rfl) | (rw [if_neg (by decide +kernel)]; exact ⟨rfl, rfl⟩))
    (fun os started H enc _ => lifted os started H enc)
/-- the statement -/
theorem proved : Rows.RatHalvesCardSaid :=
  Claim7.holds_tied_plain_at .later [] _ _ _ _ over (fun _ h => by cases h) (by kernel_rfl) (fun _ h => by cases h) ratHalves_row_tie rfl ⟨rfl, rfl⟩ (by kernel_rfl) rfl
    (fun f fn hf hfn => by
      obtain rfl : f = 10 := Option.some.inj ((show Tryz.prog.funcNamed "tombola/tombolalaw06.RatHalves" = some 10 by kernel_rfl).symm.trans hf) |>.symm
      obtain rfl : fn = Tryz.f10 := (Option.some.inj (Tryz.func10.symm.trans hfn)).symm
      exact ⟨by kernel_rfl, (fun j t ht => by
        rw [Tryz.params10] at ht
        have hm : t ∈ [5, 5] := by simpa using Array.mem_of_getElem? ht
        have hall : ([5, 5].all fun u => !Tryz.prog.wantsStandIn u) = true := by kernel_rfl
        exact (show Tryz.prog.wantsStandIn t = false by simpa using List.all_eq_true.1 hall t hm))⟩)
    (by kernel_rfl)
#print axioms proved
end Go.Proofs.YtfncaflaefnjmaaGreatDoor.ratHalves
