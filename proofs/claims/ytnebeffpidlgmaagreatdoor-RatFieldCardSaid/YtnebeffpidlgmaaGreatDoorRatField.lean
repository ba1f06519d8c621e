/-
  PROVED: the statement RatField (tombolalaw06.RatField) about the landed commit: for every input the law returns true and leaves its arguments as they were. Conditions: none beyond those that the given row itself prints.
-/
import Derived.Test.YtnebeffpidlgmaaGreatDoorCards
import Derived.Test.YtnebeffpidlgmaaGreatDoorTie
import Derived.LaidMore
import Derived.Lay
import Derived.SevenTiedAt
import Derived.Stop.Joined
import Derived.Test.YtnebeffpidlgmaaGreatDoorRows
import Derived.WalkKit
import Derived.ProofKit
import Derived.OpenShut
import Derived.RowKit3
import Derived.Test.YtnebeffpidlgmaaGreatDoorGFrame
import Derived.Test.YtnebeffpidlgmaaGreatDoorRatOpen
import Derived.Test.YtnebeffpidlgmaaGreatDoorRatH
import Derived.Test.YtnebeffpidlgmaaGreatDoorRatL
import Derived.Test.YtnebeffpidlgmaaGreatDoorRatL2
import Derived.Test.YtnebeffpidlgmaaGreatDoorRatFieldT
import Derived.Deep.RegionHeld3
namespace Go.Proofs.YtnebeffpidlgmaaGreatDoor.ratField
open Go.ChangeShapes Go.WideShapes Go.ChangeAt Go.RowKit
set_option linter.unusedVariables false
set_option linter.unusedSimpArgs false
set_option maxRecDepth 20000
open N
theorem own : ownKnob Tryz.prog.godebug = none := by kernel_rfl
open RC
open Go.Lib (decDigits nDigits decDigits_length nDigits_pos)
theorem mk01 : mkRat 0 1 = 0 := by decide
theorem mk11 : mkRat 1 1 = 1 := by decide
set_option maxRecDepth 100000 in
set_option maxHeartbeats 40000000 in
theorem walk (w : World) (b0 : Bool) (A0 : Option Addr) (n0 c0 : Nat) (xs0 : List Int) (A0' : Option Addr) (n0' c0' : Nat) (ys0 : List Int) (h0 : Sl w A0 n0 c0 xs0) (g0 : Sl w A0' n0' c0' ys0) (b1 : Bool) (A1 : Option Addr) (n1 c1 : Nat) (xs1 : List Int) (A1' : Option Addr) (n1' c1' : Nat) (ys1 : List Int) (h1 : Sl w A1 n1 c1 xs1) (g1 : Sl w A1' n1' c1' ys1) (b2 : Bool) (A2 : Option Addr) (n2 c2 : Nat) (xs2 : List Int) (A2' : Option Addr) (n2' c2' : Nat) (ys2 : List Int) (h2 : Sl w A2 n2 c2 xs2) (g2 : Sl w A2' n2' c2' ys2) :
    Calls Tryz.prog 6 #[.agg #[.bool b0, .slice A0 n0 c0, .slice A0' n0' c0'], .agg #[.bool b1, .slice A1 n1 c1, .slice A1' n1' c1'], .agg #[.bool b2, .slice A2 n2 c2, .slice A2' n2' c2']] w fun e w' => e = .returned (.bool true) ∧ Below w.heap.size w w' := by
  have hc0 := h0.cap
  have hm0 := h0.max
  have hd0 := g0.cap
  have he0 := g0.max
  unfold maxLen at hm0 he0
  have hc1 := h1.cap
  have hm1 := h1.max
  have hd1 := g1.cap
  have he1 := g1.max
  unfold maxLen at hm1 he1
  have hc2 := h2.cap
  have hm2 := h2.max
  have hd2 := g2.cap
  have he2 := g2.max
  unfold maxLen at hm2 he2
  by_cases hl : (n0 ≤ 6 ∧ n0' ≤ 6) ∧ (n1 ≤ 6 ∧ n1' ≤ 6) ∧ (n2 ≤ 6 ∧ n2' ≤ 6)
  · skip
    obtain ⟨hl0, hl1, hl2⟩ := hl
    have hmy0 := fun r (hr : rv b0 (val B xs0) (val B ys0) = r) h => ((mayR_iff h0.dg g0.dg hr).1 h).2
    have hS := Lib.hid (((((((SC.start w).old (k := 6) g0 hl0.2 rfl).old (k := 6) h0 hl0.1 rfl).old (k := 6) g1 hl1.2 rfl).old (k := 6) h1 hl1.1 rfl).old (k := 6) g2 hl2.2 rfl).old (k := 6) h2 hl2.1 rfl)
    clear h0 h1 h2 g0 g1 g2
    obtain ⟨ra, hra⟩ : ∃ r, rv b0 (val B xs0) (val B ys0) = r := ⟨_, rfl⟩
    obtain ⟨rb, hrb⟩ : ∃ r, rv b1 (val B xs1) (val B ys1) = r := ⟨_, rfl⟩
    obtain ⟨rc, hrc⟩ : ∃ r, rv b2 (val B xs2) (val B ys2) = r := ⟨_, rfl⟩
    have HZ0 := Lib.hid hra
    have HZ1 := Lib.hid hrb
    have HZ2 := Lib.hid hrc
    have HMY := Lib.hid (fun h => hmy0 ra hra h)
    clear hra hrb hrc hmy0
    go_enter Tryz.func6, Tryz.ntmps6
    have h1 := (((hS.out.boxed (vs := [.bool b0, .slice A0 n0 c0, .slice A0' n0' c0']) (ty := 27) rfl rfl).boxed (vs := [.bool b1, .slice A1 n1 c1, .slice A1' n1' c1']) (ty := 27) rfl rfl).boxed (vs := [.bool b2, .slice A2 n2 c2, .slice A2' n2' c2']) (ty := 27) rfl rfl)
    try simp only [World.size_alloc] at h1
    obtain ⟨p0_0, p1_0, p2_0⟩ := h1.cs3 0 rfl
    obtain ⟨p0_1, p1_1, p2_1⟩ := h1.cs3 1 rfl
    obtain ⟨p0_2, p1_2, p2_2⟩ := h1.cs3 2 rfl
    clear h1
    go_wp2_with fail
    clear p0_0 p1_0 p2_0 p0_1 p1_1 p2_1 p0_2 p1_2 p2_2
    generalize hwa : World.alloc (World.alloc (World.alloc w _) _) _ = v1
    have h1 := (((hS.out.boxed (vs := [.bool b0, .slice A0 n0 c0, .slice A0' n0' c0']) (ty := 27) rfl rfl).boxed (vs := [.bool b1, .slice A1 n1 c1, .slice A1' n1' c1']) (ty := 27) rfl rfl).boxed (vs := [.bool b2, .slice A2 n2 c2, .slice A2' n2' c2']) (ty := 27) rfl hwa)
    simp only [World.size_alloc] at h1
    have hsz : v1.heap.size = w.heap.size + 1 + 1 + 1 := by rw [← hwa]; simp only [World.size_alloc]
    try rw [← hsz]
    clear hwa hsz
    clear hS; have hS := Lib.hid h1; clear h1
    obtain ⟨x0_0, x1_0, x2_0⟩ := hS.out.cs3 0 rfl
    obtain ⟨x0_1, x1_1, x2_1⟩ := hS.out.cs3 1 rfl
    obtain ⟨x0_2, x1_2, x2_2⟩ := hS.out.cs3 2 rfl
    go_wp2_with fail
    go_at_call 7
    with_reducible refine (long3_n hS.out hl0 hl1 hl2).mono ?_
    rintro e v2 ⟨rfl, h1⟩
    clear x0_0 x1_0 x2_0 x0_1 x1_1 x2_1 x0_2 x1_2 x2_2
    clear hS; have hS := Lib.hid h1; clear h1
    obtain ⟨x0_0, x1_0, x2_0⟩ := hS.out.cs3 0 rfl
    obtain ⟨x0_1, x1_1, x2_1⟩ := hS.out.cs3 1 rfl
    obtain ⟨x0_2, x1_2, x2_2⟩ := hS.out.cs3 2 rfl
    go_wp2_with fail
    go_at_call 8
    with_reducible refine (awake_any _).mono ?_
    rintro e v3 ⟨rfl, hb⟩
    clear x0_0 x1_0 x2_0 x0_1 x1_1 x2_1 x0_2 x1_2 x2_2
    have h1 := hS.out.below hb
    clear hb
    clear hS; have hS := Lib.hid h1; clear h1
    obtain ⟨x0_0, x1_0, x2_0⟩ := hS.out.cs3 0 rfl
    obtain ⟨x0_1, x1_1, x2_1⟩ := hS.out.cs3 1 rfl
    obtain ⟨x0_2, x1_2, x2_2⟩ := hS.out.cs3 2 rfl
    go_wp2_with fail
    go_at_call 15
    with_reducible refine (fof_s (x := 0) hS.out (by decide) (by decide)).mono ?_
    rintro e v4 ⟨rz, Az, nz, cz, Az', nz', cz', hrz, rfl, h1⟩
    clear x0_0 x1_0 x2_0 x0_1 x1_1 x2_1 x0_2 x1_2 x2_2
    have HRz := Lib.hid hrz; clear hrz
    clear hS; have hS := Lib.hid h1; clear h1
    obtain ⟨x0_0, x1_0, x2_0⟩ := hS.out.cs3 0 rfl
    obtain ⟨x0_1, x1_1, x2_1⟩ := hS.out.cs3 1 rfl
    obtain ⟨x0_2, x1_2, x2_2⟩ := hS.out.cs3 2 rfl
    go_wp2_with fail
    go_at_call 15
    with_reducible refine (fof_s (x := 1) hS.out (by decide) (by decide)).mono ?_
    rintro e v5 ⟨ru, Au, nu, cu, Au', nu', cu', hru, rfl, h1⟩
    clear x0_0 x1_0 x2_0 x0_1 x1_1 x2_1 x0_2 x1_2 x2_2
    have HRu := Lib.hid hru; clear hru
    clear hS; have hS := Lib.hid h1; clear h1
    obtain ⟨x0_0, x1_0, x2_0⟩ := hS.out.cs3 0 rfl
    obtain ⟨x0_1, x1_1, x2_1⟩ := hS.out.cs3 1 rfl
    obtain ⟨x0_2, x1_2, x2_2⟩ := hS.out.cs3 2 rfl
    have h1 := ((hS.out.boxed (vs := [.bool (sg (rz).num), .slice Az nz cz, .slice Az' nz' cz']) (ty := 27) rfl rfl).boxed (vs := [.bool (sg (ru).num), .slice Au nu cu, .slice Au' nu' cu']) (ty := 27) rfl rfl)
    try simp only [World.size_alloc] at h1
    obtain ⟨p0_0, p1_0, p2_0⟩ := h1.cs3 0 rfl
    obtain ⟨p0_1, p1_1, p2_1⟩ := h1.cs3 1 rfl
    obtain ⟨p0_2, p1_2, p2_2⟩ := h1.cs3 2 rfl
    obtain ⟨p0_3, p1_3, p2_3⟩ := h1.cs3 3 rfl
    obtain ⟨p0_4, p1_4, p2_4⟩ := h1.cs3 4 rfl
    clear h1
    go_wp2_with fail
    clear x0_0 x1_0 x2_0 x0_1 x1_1 x2_1 x0_2 x1_2 x2_2
    clear p0_0 p1_0 p2_0 p0_1 p1_1 p2_1 p0_2 p1_2 p2_2 p0_3 p1_3 p2_3 p0_4 p1_4 p2_4
    generalize hwa : World.alloc (World.alloc v5 _) _ = v6
    have h1 := ((hS.out.boxed (vs := [.bool (sg (rz).num), .slice Az nz cz, .slice Az' nz' cz']) (ty := 27) rfl rfl).boxed (vs := [.bool (sg (ru).num), .slice Au nu cu, .slice Au' nu' cu']) (ty := 27) rfl hwa)
    simp only [World.size_alloc] at h1
    have hsz : v6.heap.size = v5.heap.size + 1 + 1 := by rw [← hwa]; simp only [World.size_alloc]
    try rw [← hsz]
    clear hwa hsz
    clear hS; have hS := Lib.hid h1; clear h1
    obtain ⟨x0_0, x1_0, x2_0⟩ := hS.out.cs3 0 rfl
    obtain ⟨x0_1, x1_1, x2_1⟩ := hS.out.cs3 1 rfl
    obtain ⟨x0_2, x1_2, x2_2⟩ := hS.out.cs3 2 rfl
    obtain ⟨x0_3, x1_3, x2_3⟩ := hS.out.cs3 3 rfl
    obtain ⟨x0_4, x1_4, x2_4⟩ := hS.out.cs3 4 rfl
    go_wp2_with fail
    go_at_call 30
    with_reducible refine (fadd_s hS.out (by repeat (first | exact List.mem_cons_self | apply List.mem_cons_of_mem)) (by repeat (first | exact List.mem_cons_self | apply List.mem_cons_of_mem)) (by repeat (first | exact List.mem_cons_self | apply List.mem_cons_of_mem)) (by repeat (first | exact List.mem_cons_self | apply List.mem_cons_of_mem)) (by decide) (by decide) HZ0.out (rv_self _)).mono ?_
    rintro e v7 ⟨ro, Ao, no, co, Ao', no', co', hro, rfl, h1⟩
    clear x0_0 x1_0 x2_0 x0_1 x1_1 x2_1 x0_2 x1_2 x2_2 x0_3 x1_3 x2_3 x0_4 x1_4 x2_4
    have HRo := Lib.hid hro; clear hro
    clear hS; have hS := Lib.hid h1; clear h1
    obtain ⟨x0_0, x1_0, x2_0⟩ := hS.out.cs3 0 rfl
    obtain ⟨x0_1, x1_1, x2_1⟩ := hS.out.cs3 1 rfl
    obtain ⟨x0_2, x1_2, x2_2⟩ := hS.out.cs3 2 rfl
    obtain ⟨x0_3, x1_3, x2_3⟩ := hS.out.cs3 3 rfl
    obtain ⟨x0_4, x1_4, x2_4⟩ := hS.out.cs3 4 rfl
    have h1 := (hS.out.boxed (vs := [.bool (sg (ro).num), .slice Ao no co, .slice Ao' no' co']) (ty := 27) rfl rfl)
    try simp only [World.size_alloc] at h1
    obtain ⟨p0_0, p1_0, p2_0⟩ := h1.cs3 0 rfl
    obtain ⟨p0_1, p1_1, p2_1⟩ := h1.cs3 1 rfl
    obtain ⟨p0_2, p1_2, p2_2⟩ := h1.cs3 2 rfl
    obtain ⟨p0_3, p1_3, p2_3⟩ := h1.cs3 3 rfl
    obtain ⟨p0_4, p1_4, p2_4⟩ := h1.cs3 4 rfl
    obtain ⟨p0_5, p1_5, p2_5⟩ := h1.cs3 5 rfl
    clear h1
    go_wp2_with fail
    clear x0_0 x1_0 x2_0 x0_1 x1_1 x2_1 x0_2 x1_2 x2_2 x0_3 x1_3 x2_3 x0_4 x1_4 x2_4
    clear p0_0 p1_0 p2_0 p0_1 p1_1 p2_1 p0_2 p1_2 p2_2 p0_3 p1_3 p2_3 p0_4 p1_4 p2_4 p0_5 p1_5 p2_5
    generalize hwa : World.alloc v7 _ = v8
    have h1 := (hS.out.boxed (vs := [.bool (sg (ro).num), .slice Ao no co, .slice Ao' no' co']) (ty := 27) rfl hwa)
    have hsz : v8.heap.size = v7.heap.size + 1 := by rw [← hwa]; simp only [World.size_alloc]
    try rw [← hsz]
    clear hwa hsz
    clear hS; have hS := Lib.hid h1; clear h1
    obtain ⟨x0_0, x1_0, x2_0⟩ := hS.out.cs3 0 rfl
    obtain ⟨x0_1, x1_1, x2_1⟩ := hS.out.cs3 1 rfl
    obtain ⟨x0_2, x1_2, x2_2⟩ := hS.out.cs3 2 rfl
    obtain ⟨x0_3, x1_3, x2_3⟩ := hS.out.cs3 3 rfl
    obtain ⟨x0_4, x1_4, x2_4⟩ := hS.out.cs3 4 rfl
    obtain ⟨x0_5, x1_5, x2_5⟩ := hS.out.cs3 5 rfl
    have HZE := Lib.hid (show rz = 0 from HRz.out.symm.trans mk01)
    have HON := Lib.hid (show ru = 1 from HRu.out.symm.trans mk11)
    have HOW := Lib.hid (show ro = ra by rw [← HRo.out, HZE.out, Rat.add_zero])
    go_wp2_with fail
    clear x0_0 x1_0 x2_0 x0_1 x1_1 x2_1 x0_2 x1_2 x2_2 x0_3 x1_3 x2_3 x0_4 x1_4 x2_4 x0_5 x1_5 x2_5
    have h1 := hS.out.drew
    clear hS; have hS := Lib.hid h1; clear h1
    try simp only [List.append_eq, List.cons_append, List.nil_append]
    go_region_held3 (fun W => (W.cell? ⟨v7.heap.size, 0, none⟩ = some (.bool (sg (ro).num)) ∧ W.cell? ⟨v7.heap.size, 1, none⟩ = some (.slice Ao no co) ∧ W.cell? ⟨v7.heap.size, 2, none⟩ = some (.slice Ao' no' co')) ∧ (W.cell? ⟨v5.heap.size + 1, 0, none⟩ = some (.bool (sg (ru).num)) ∧ W.cell? ⟨v5.heap.size + 1, 1, none⟩ = some (.slice Au nu cu) ∧ W.cell? ⟨v5.heap.size + 1, 2, none⟩ = some (.slice Au' nu' cu')) ∧ (W.cell? ⟨v5.heap.size, 0, none⟩ = some (.bool (sg (rz).num)) ∧ W.cell? ⟨v5.heap.size, 1, none⟩ = some (.slice Az nz cz) ∧ W.cell? ⟨v5.heap.size, 2, none⟩ = some (.slice Az' nz' cz')) ∧ (W.cell? ⟨w.heap.size + 1 + 1, 0, none⟩ = some (.bool b2) ∧ W.cell? ⟨w.heap.size + 1 + 1, 1, none⟩ = some (.slice A2 n2 c2) ∧ W.cell? ⟨w.heap.size + 1 + 1, 2, none⟩ = some (.slice A2' n2' c2')) ∧ (W.cell? ⟨w.heap.size + 1, 0, none⟩ = some (.bool b1) ∧ W.cell? ⟨w.heap.size + 1, 1, none⟩ = some (.slice A1 n1 c1) ∧ W.cell? ⟨w.heap.size + 1, 2, none⟩ = some (.slice A1' n1' c1')) ∧ (W.cell? ⟨w.heap.size, 0, none⟩ = some (.bool b0) ∧ W.cell? ⟨w.heap.size, 1, none⟩ = some (.slice A0 n0 c0) ∧ W.cell? ⟨w.heap.size, 2, none⟩ = some (.slice A0' n0' c0'))) (first | with_reducible exact ⟨hS.out.cs3 0 rfl, hS.out.cs3 1 rfl, hS.out.cs3 2 rfl, hS.out.cs3 3 rfl, hS.out.cs3 4 rfl, hS.out.cs3 5 rfl⟩ | with_reducible exact ⟨hS.out.drew.cs3 0 rfl, hS.out.drew.cs3 1 rfl, hS.out.drew.cs3 2 rfl, hS.out.drew.cs3 3 rfl, hS.out.drew.cs3 4 rfl, hS.out.drew.cs3 5 rfl⟩ | with_reducible exact ⟨(hS.out.alloc _).cs3 0 rfl, (hS.out.alloc _).cs3 1 rfl, (hS.out.alloc _).cs3 2 rfl, (hS.out.alloc _).cs3 3 rfl, (hS.out.alloc _).cs3 4 rfl, (hS.out.alloc _).cs3 5 rfl⟩ | with_reducible exact ⟨((hS.out.alloc _).alloc _).cs3 0 rfl, ((hS.out.alloc _).alloc _).cs3 1 rfl, ((hS.out.alloc _).alloc _).cs3 2 rfl, ((hS.out.alloc _).alloc _).cs3 3 rfl, ((hS.out.alloc _).alloc _).cs3 4 rfl, ((hS.out.alloc _).alloc _).cs3 5 rfl⟩) (first
      | (go_at_call 16; (with_reducible refine (is_v hS.out (by repeat (first | exact List.mem_cons_self | apply List.mem_cons_of_mem)) (by repeat (first | exact List.mem_cons_self | apply List.mem_cons_of_mem)) (by repeat (first | exact List.mem_cons_self | apply List.mem_cons_of_mem)) (by repeat (first | exact List.mem_cons_self | apply List.mem_cons_of_mem)) (by subst_vars; first | rfl | ((try simp only [HZE.out, HON.out, HOW.out]); grind) | (have hnz := HNZ.out; ((try simp only [HZE.out, HON.out, HOW.out, ← HRq.out]); grind)))).mono ?_); rintro e w' ⟨rfl, h1⟩; clear hS; have hS := Lib.hid h1; clear h1)
      | (go_at_call 30; (with_reducible refine (fadd_s hS.out (by repeat (first | exact List.mem_cons_self | apply List.mem_cons_of_mem)) (by repeat (first | exact List.mem_cons_self | apply List.mem_cons_of_mem)) (by repeat (first | exact List.mem_cons_self | apply List.mem_cons_of_mem)) (by repeat (first | exact List.mem_cons_self | apply List.mem_cons_of_mem)) (by decide) (by decide) (by first | exact rv_self _ | exact HZ0.out | exact HZ1.out | exact HZ2.out) (by first | exact rv_self _ | exact HZ0.out | exact HZ1.out | exact HZ2.out)).mono ?_); rintro e w' ⟨r, Ai, ni, ci, Ai', ni', ci', hr, rfl, h1⟩; clear hS; have hS := Lib.hid h1; clear h1)
      | (go_at_call 31; (with_reducible refine (fmul_s hS.out (by repeat (first | exact List.mem_cons_self | apply List.mem_cons_of_mem)) (by repeat (first | exact List.mem_cons_self | apply List.mem_cons_of_mem)) (by repeat (first | exact List.mem_cons_self | apply List.mem_cons_of_mem)) (by repeat (first | exact List.mem_cons_self | apply List.mem_cons_of_mem)) (by decide) (by decide) (by first | exact rv_self _ | exact HZ0.out | exact HZ1.out | exact HZ2.out) (by first | exact rv_self _ | exact HZ0.out | exact HZ1.out | exact HZ2.out)).mono ?_); rintro e w' ⟨r, Ai, ni, ci, Ai', ni', ci', hr, rfl, h1⟩; clear hS; have hS := Lib.hid h1; clear h1))
    obtain ⟨x0_0, x1_0, x2_0⟩ := hS.out.cs3 0 rfl
    obtain ⟨x0_1, x1_1, x2_1⟩ := hS.out.cs3 1 rfl
    obtain ⟨x0_2, x1_2, x2_2⟩ := hS.out.cs3 2 rfl
    obtain ⟨x0_3, x1_3, x2_3⟩ := hS.out.cs3 3 rfl
    obtain ⟨x0_4, x1_4, x2_4⟩ := hS.out.cs3 4 rfl
    obtain ⟨x0_5, x1_5, x2_5⟩ := hS.out.cs3 5 rfl
    by_cases hz : rb = 0
    · skip
      have HNZ := Lib.hid hz
      have HCB := Lib.hid (show rs (rb - rz) = 0 by rw [HZE.out, hz]; decide +kernel)
      clear hz
      go_wp2_with fail
      go_at_call 32
      with_reducible refine (fquo_x hS.out (by repeat (first | exact List.mem_cons_self | apply List.mem_cons_of_mem)) (by repeat (first | exact List.mem_cons_self | apply List.mem_cons_of_mem)) (by repeat (first | exact List.mem_cons_self | apply List.mem_cons_of_mem)) (by repeat (first | exact List.mem_cons_self | apply List.mem_cons_of_mem)) (by decide) (by decide) HZ0.out HZ1.out HNZ.out).mono ?_
      rintro e v9 ⟨rfl, h1⟩
      clear x0_0 x1_0 x2_0 x0_1 x1_1 x2_1 x0_2 x1_2 x2_2 x0_3 x1_3 x2_3 x0_4 x1_4 x2_4 x0_5 x1_5 x2_5
      clear hS; have hS := Lib.hid h1; clear h1
      obtain ⟨x0_0, x1_0, x2_0⟩ := hS.out.cs3 0 rfl
      obtain ⟨x0_1, x1_1, x2_1⟩ := hS.out.cs3 1 rfl
      obtain ⟨x0_2, x1_2, x2_2⟩ := hS.out.cs3 2 rfl
      obtain ⟨x0_3, x1_3, x2_3⟩ := hS.out.cs3 3 rfl
      obtain ⟨x0_4, x1_4, x2_4⟩ := hS.out.cs3 4 rfl
      obtain ⟨x0_5, x1_5, x2_5⟩ := hS.out.cs3 5 rfl
      have h1 := (hS.out.boxed (vs := [.bool false, .slice none 0 0, .slice none 0 0]) (ty := 27) rfl rfl)
      try simp only [World.size_alloc] at h1
      obtain ⟨p0_0, p1_0, p2_0⟩ := h1.cs3 0 rfl
      obtain ⟨p0_1, p1_1, p2_1⟩ := h1.cs3 1 rfl
      obtain ⟨p0_2, p1_2, p2_2⟩ := h1.cs3 2 rfl
      obtain ⟨p0_3, p1_3, p2_3⟩ := h1.cs3 3 rfl
      obtain ⟨p0_4, p1_4, p2_4⟩ := h1.cs3 4 rfl
      obtain ⟨p0_5, p1_5, p2_5⟩ := h1.cs3 5 rfl
      obtain ⟨p0_6, p1_6, p2_6⟩ := h1.cs3 6 rfl
      clear h1
      go_wp2_with fail
      clear x0_0 x1_0 x2_0 x0_1 x1_1 x2_1 x0_2 x1_2 x2_2 x0_3 x1_3 x2_3 x0_4 x1_4 x2_4 x0_5 x1_5 x2_5
      clear p0_0 p1_0 p2_0 p0_1 p1_1 p2_1 p0_2 p1_2 p2_2 p0_3 p1_3 p2_3 p0_4 p1_4 p2_4 p0_5 p1_5 p2_5 p0_6 p1_6 p2_6
      generalize hwa : World.alloc v9 _ = v10
      have h1 := (hS.out.boxed (vs := [.bool false, .slice none 0 0, .slice none 0 0]) (ty := 27) rfl hwa)
      have hsz : v10.heap.size = v9.heap.size + 1 := by rw [← hwa]; simp only [World.size_alloc]
      try rw [← hsz]
      clear hwa hsz
      clear hS; have hS := Lib.hid h1; clear h1
      obtain ⟨x0_0, x1_0, x2_0⟩ := hS.out.cs3 0 rfl
      obtain ⟨x0_1, x1_1, x2_1⟩ := hS.out.cs3 1 rfl
      obtain ⟨x0_2, x1_2, x2_2⟩ := hS.out.cs3 2 rfl
      obtain ⟨x0_3, x1_3, x2_3⟩ := hS.out.cs3 3 rfl
      obtain ⟨x0_4, x1_4, x2_4⟩ := hS.out.cs3 4 rfl
      obtain ⟨x0_5, x1_5, x2_5⟩ := hS.out.cs3 5 rfl
      obtain ⟨x0_6, x1_6, x2_6⟩ := hS.out.cs3 6 rfl
      go_wp2_with fail
      clear x0_0 x1_0 x2_0 x0_1 x1_1 x2_1 x0_2 x1_2 x2_2 x0_3 x1_3 x2_3 x0_4 x1_4 x2_4 x0_5 x1_5 x2_5 x0_6 x1_6 x2_6
      have h1 := hS.out.drew
      clear hS; have hS := Lib.hid h1; clear h1
      refine wp_region_held_drew (S := (fun W => (W.cell? ⟨v9.heap.size, 0, none⟩ = some (.bool false) ∧ W.cell? ⟨v9.heap.size, 1, none⟩ = some (.slice none 0 0) ∧ W.cell? ⟨v9.heap.size, 2, none⟩ = some (.slice none 0 0)) ∧ (W.cell? ⟨v7.heap.size, 0, none⟩ = some (.bool (sg (ro).num)) ∧ W.cell? ⟨v7.heap.size, 1, none⟩ = some (.slice Ao no co) ∧ W.cell? ⟨v7.heap.size, 2, none⟩ = some (.slice Ao' no' co')) ∧ (W.cell? ⟨v5.heap.size + 1, 0, none⟩ = some (.bool (sg (ru).num)) ∧ W.cell? ⟨v5.heap.size + 1, 1, none⟩ = some (.slice Au nu cu) ∧ W.cell? ⟨v5.heap.size + 1, 2, none⟩ = some (.slice Au' nu' cu')) ∧ (W.cell? ⟨v5.heap.size, 0, none⟩ = some (.bool (sg (rz).num)) ∧ W.cell? ⟨v5.heap.size, 1, none⟩ = some (.slice Az nz cz) ∧ W.cell? ⟨v5.heap.size, 2, none⟩ = some (.slice Az' nz' cz')) ∧ (W.cell? ⟨w.heap.size + 1 + 1, 0, none⟩ = some (.bool b2) ∧ W.cell? ⟨w.heap.size + 1 + 1, 1, none⟩ = some (.slice A2 n2 c2) ∧ W.cell? ⟨w.heap.size + 1 + 1, 2, none⟩ = some (.slice A2' n2' c2')) ∧ (W.cell? ⟨w.heap.size + 1, 0, none⟩ = some (.bool b1) ∧ W.cell? ⟨w.heap.size + 1, 1, none⟩ = some (.slice A1 n1 c1) ∧ W.cell? ⟨w.heap.size + 1, 2, none⟩ = some (.slice A1' n1' c1')) ∧ (W.cell? ⟨w.heap.size, 0, none⟩ = some (.bool b0) ∧ W.cell? ⟨w.heap.size, 1, none⟩ = some (.slice A0 n0 c0) ∧ W.cell? ⟨w.heap.size, 2, none⟩ = some (.slice A0' n0' c0')))) (by kernel_rfl) ?_ (fun hHeld => ?_)
      · (first | with_reducible exact ⟨hS.out.cs3 0 rfl, hS.out.cs3 1 rfl, hS.out.cs3 2 rfl, hS.out.cs3 3 rfl, hS.out.cs3 4 rfl, hS.out.cs3 5 rfl, hS.out.cs3 6 rfl⟩ | with_reducible exact ⟨hS.out.drew.cs3 0 rfl, hS.out.drew.cs3 1 rfl, hS.out.drew.cs3 2 rfl, hS.out.drew.cs3 3 rfl, hS.out.drew.cs3 4 rfl, hS.out.drew.cs3 5 rfl, hS.out.drew.cs3 6 rfl⟩ | with_reducible exact ⟨(hS.out.alloc _).cs3 0 rfl, (hS.out.alloc _).cs3 1 rfl, (hS.out.alloc _).cs3 2 rfl, (hS.out.alloc _).cs3 3 rfl, (hS.out.alloc _).cs3 4 rfl, (hS.out.alloc _).cs3 5 rfl, (hS.out.alloc _).cs3 6 rfl⟩ | with_reducible exact ⟨((hS.out.alloc _).alloc _).cs3 0 rfl, ((hS.out.alloc _).alloc _).cs3 1 rfl, ((hS.out.alloc _).alloc _).cs3 2 rfl, ((hS.out.alloc _).alloc _).cs3 3 rfl, ((hS.out.alloc _).alloc _).cs3 4 rfl, ((hS.out.alloc _).alloc _).cs3 5 rfl, ((hS.out.alloc _).alloc _).cs3 6 rfl⟩)
      refine wpAnyH_take (i := 0) (oi := { dst := some 101, op := Op.move (Operand.tmp 12), type := 30, pos := "outright.go:88", after := #[], guard := none }) (v := ?_) rfl (by kernel_rfl) (by kernel_rfl) (by kernel_rfl) (fun _ _ _ h => h) (Or.inl ⟨by rfl, ?_⟩) (by assumption) ?_
      rotate_left
      · intro w hSw
        try dsimp only at hSw
        go_simp
        try with_reducible rfl
      try simp only [Act.put, List.setIfInBounds_toArray, List.set_cons_zero, List.set_cons_succ]
      refine wpAnyH_take (i := 1) (oi := { dst := some 102, op := Op.binOp BinOp.eql 30 (Operand.tmp 101) (Operand.const (Value.int IntKind.i64 0)) 30, type := 4, pos := "outright.go:88", after := #[{ on := 0, ground := Ground.data }], guard := none }) (v := ?_) rfl (by kernel_rfl) (by kernel_rfl) (by kernel_rfl) (fun _ _ _ h => h) (Or.inl ⟨by rfl, ?_⟩) (by assumption) ?_
      rotate_left
      · intro w hSw
        try dsimp only at hSw
        go_simp
        try with_reducible rfl
      try simp only [Act.put, List.setIfInBounds_toArray, List.set_cons_zero, List.set_cons_succ]
      refine wpAnyH_take (i := 2) (oi := { dst := some 103, op := Op.load 27 (Operand.tmp 4), type := 27, pos := "outright.go:88", after := #[], guard := none }) (v := ?_) rfl (by kernel_rfl) (by kernel_rfl) (by kernel_rfl) (fun _ _ _ h => h) (Or.inl ⟨by rfl, ?_⟩) (by assumption) ?_
      rotate_left
      · intro w hSw
        try dsimp only at hSw
        go_simp
        try with_reducible rfl
      try simp only [Act.put, List.setIfInBounds_toArray, List.set_cons_zero, List.set_cons_succ]
      refine wpAnyH_take (i := 3) (oi := { dst := some 104, op := Op.load 27 (Operand.tmp 8), type := 27, pos := "outright.go:88", after := #[], guard := none }) (v := ?_) rfl (by kernel_rfl) (by kernel_rfl) (by kernel_rfl) (fun _ _ _ h => h) (Or.inl ⟨by rfl, ?_⟩) (by assumption) ?_
      rotate_left
      · intro w hSw
        try dsimp only at hSw
        go_simp
        try with_reducible rfl
      try simp only [Act.put, List.setIfInBounds_toArray, List.set_cons_zero, List.set_cons_succ]
      refine wpAnyH_ready (rs := [4]) (by kernel_rfl) (by simp) ?_
      refine AllReadyH.cons (o := { dst := some 105, op := Op.call { callee := Callee.value (Operand.func 33), args := #[Operand.tmp 103, Operand.tmp 104], argTypes := #[27, 27] }, type := 3, pos := "outright.go:88", after := #[{ on := 2, ground := Ground.data }, { on := 3, ground := Ground.data }], guard := none }) rfl (fun K hK => ?_) AllReadyH.nil
      go_simp
      (go_at_call 33; (with_reducible refine (fcmp_s hS.out (by repeat (first | exact List.mem_cons_self | apply List.mem_cons_of_mem)) (by repeat (first | exact List.mem_cons_self | apply List.mem_cons_of_mem)) (by repeat (first | exact List.mem_cons_self | apply List.mem_cons_of_mem)) (by repeat (first | exact List.mem_cons_self | apply List.mem_cons_of_mem)) (by decide) (by decide) (by first | exact rv_self _ | exact HZ0.out | exact HZ1.out | exact HZ2.out) (by first | exact rv_self _ | exact HZ0.out | exact HZ1.out | exact HZ2.out) (by first | exact HCB.out | (subst_vars; exact HCB.out))).mono ?_); rintro e w' ⟨rfl, h1⟩; clear hS; have hS := Lib.hid h1; clear h1)
      try go_wp2_with fail
      refine hK.out _ _ ?_ (fun hHeld => ?_)
      · try dsimp only
        (first | with_reducible exact ⟨hS.out.cs3 0 rfl, hS.out.cs3 1 rfl, hS.out.cs3 2 rfl, hS.out.cs3 3 rfl, hS.out.cs3 4 rfl, hS.out.cs3 5 rfl, hS.out.cs3 6 rfl⟩ | with_reducible exact ⟨hS.out.drew.cs3 0 rfl, hS.out.drew.cs3 1 rfl, hS.out.drew.cs3 2 rfl, hS.out.drew.cs3 3 rfl, hS.out.drew.cs3 4 rfl, hS.out.drew.cs3 5 rfl, hS.out.drew.cs3 6 rfl⟩ | with_reducible exact ⟨(hS.out.alloc _).cs3 0 rfl, (hS.out.alloc _).cs3 1 rfl, (hS.out.alloc _).cs3 2 rfl, (hS.out.alloc _).cs3 3 rfl, (hS.out.alloc _).cs3 4 rfl, (hS.out.alloc _).cs3 5 rfl, (hS.out.alloc _).cs3 6 rfl⟩ | with_reducible exact ⟨((hS.out.alloc _).alloc _).cs3 0 rfl, ((hS.out.alloc _).alloc _).cs3 1 rfl, ((hS.out.alloc _).alloc _).cs3 2 rfl, ((hS.out.alloc _).alloc _).cs3 3 rfl, ((hS.out.alloc _).alloc _).cs3 4 rfl, ((hS.out.alloc _).alloc _).cs3 5 rfl, ((hS.out.alloc _).alloc _).cs3 6 rfl⟩)
      clear hK K
      try simp only [Act.put, List.setIfInBounds_toArray, List.set_cons_zero, List.set_cons_succ]
      refine wpAnyH_take (i := 5) (oi := { dst := some 106, op := Op.binOp BinOp.neq 3 (Operand.tmp 105) (Operand.const (Value.int IntKind.i64 0)) 3, type := 4, pos := "outright.go:88", after := #[{ on := 4, ground := Ground.data }], guard := none }) (v := ?_) rfl (by kernel_rfl) (by kernel_rfl) (by kernel_rfl) (fun _ _ _ h => h) (Or.inl ⟨by rfl, ?_⟩) (by assumption) ?_
      rotate_left
      · intro w hSw
        try dsimp only at hSw
        go_simp
        try with_reducible rfl
      try simp only [Act.put, List.setIfInBounds_toArray, List.set_cons_zero, List.set_cons_succ]
      refine wpAnyH_take (i := 6) (oi := { dst := some 107, op := Op.binOp BinOp.neq 4 (Operand.tmp 102) (Operand.tmp 106) 4, type := 4, pos := "outright.go:88", after := #[{ on := 1, ground := Ground.data }, { on := 5, ground := Ground.data }], guard := none }) (v := ?_) rfl (by kernel_rfl) (by kernel_rfl) (by kernel_rfl) (fun _ _ _ h => h) (Or.inl ⟨by rfl, ?_⟩) (by assumption) ?_
      rotate_left
      · intro w hSw
        try dsimp only at hSw
        go_simp
        try with_reducible rfl
      try simp only [Act.put, List.setIfInBounds_toArray, List.set_cons_zero, List.set_cons_succ]
      refine wpAnyH_take (i := 7) (oi := { dst := some 108, op := Op.move (Operand.tmp 107), type := 4, pos := "outright.go:88", after := #[{ on := 6, ground := Ground.data }, { on := 4, ground := Ground.chain }], guard := none }) (v := ?_) rfl (by kernel_rfl) (by kernel_rfl) (by kernel_rfl) (fun _ _ _ h => h) (Or.inl ⟨by rfl, ?_⟩) (by assumption) ?_
      rotate_left
      · intro w hSw
        try dsimp only at hSw
        go_simp
        try with_reducible rfl
      try simp only [Act.put, List.setIfInBounds_toArray, List.set_cons_zero, List.set_cons_succ]
      refine wpAnyH_take (i := 8) (oi := { dst := some 109, op := Op.move (Operand.tmp 12), type := 30, pos := "outright.go:88", after := #[{ on := 7, ground := Ground.guard }], guard := some (7, false) }) (v := ?_) rfl (by kernel_rfl) (by kernel_rfl) (by kernel_rfl) (fun _ _ _ h => h) (Or.inl ⟨by rfl, ?_⟩) (by assumption) ?_
      rotate_left
      · intro w hSw
        try dsimp only at hSw
        go_simp
        try with_reducible rfl
      try simp only [Act.put, List.setIfInBounds_toArray, List.set_cons_zero, List.set_cons_succ]
      refine wpAnyH_take (i := 9) (oi := { dst := some 110, op := Op.binOp BinOp.eql 30 (Operand.tmp 109) (Operand.const (Value.int IntKind.i64 0)) 30, type := 4, pos := "outright.go:88", after := #[{ on := 8, ground := Ground.data }, { on := 7, ground := Ground.guard }], guard := some (7, false) }) (v := ?_) rfl (by kernel_rfl) (by kernel_rfl) (by kernel_rfl) (fun _ _ _ h => h) (Or.inl ⟨by rfl, ?_⟩) (by assumption) ?_
      rotate_left
      · intro w hSw
        try dsimp only at hSw
        go_simp
        try with_reducible rfl
      try simp only [Act.put, List.setIfInBounds_toArray, List.set_cons_zero, List.set_cons_succ]
      refine wpAnyH_take (i := 10) (oi := { dst := some 111, op := Op.move (Operand.tmp 110), type := 4, pos := "outright.go:88", after := #[{ on := 9, ground := Ground.data }, { on := 7, ground := Ground.chain }, { on := 7, ground := Ground.guard }], guard := some (7, false) }) (v := ?_) rfl (by kernel_rfl) (by kernel_rfl) (by kernel_rfl) (fun _ _ _ h => h) (Or.inl ⟨by rfl, ?_⟩) (by assumption) ?_
      rotate_left
      · intro w hSw
        try dsimp only at hSw
        go_simp
        try with_reducible rfl
      try simp only [Act.put, List.setIfInBounds_toArray, List.set_cons_zero, List.set_cons_succ]
      refine wpAnyH_take (i := 11) (oi := { dst := some 112, op := Op.move (Operand.tmp 7), type := 36, pos := "outright.go:88", after := #[{ on := 10, ground := Ground.guard }], guard := some (10, true) }) (v := undef) rfl (by kernel_rfl) (by kernel_rfl) (by kernel_rfl) (fun _ _ _ h => h) (Or.inr ⟨by rfl, rfl⟩) (by assumption) ?_
      try simp only [Act.put, List.setIfInBounds_toArray, List.set_cons_zero, List.set_cons_succ]
      refine wpAnyH_take (i := 12) (oi := { dst := some 113, op := Op.load 27 (Operand.tmp 11), type := 27, pos := "outright.go:88", after := #[{ on := 10, ground := Ground.guard }], guard := some (10, true) }) (v := undef) rfl (by kernel_rfl) (by kernel_rfl) (by kernel_rfl) (fun _ _ _ h => h) (Or.inr ⟨by rfl, rfl⟩) (by assumption) ?_
      try simp only [Act.put, List.setIfInBounds_toArray, List.set_cons_zero, List.set_cons_succ]
      refine wpAnyH_take (i := 13) (oi := { dst := some 114, op := Op.load 27 (Operand.tmp 4), type := 27, pos := "outright.go:88", after := #[{ on := 10, ground := Ground.guard }], guard := some (10, true) }) (v := undef) rfl (by kernel_rfl) (by kernel_rfl) (by kernel_rfl) (fun _ _ _ h => h) (Or.inr ⟨by rfl, rfl⟩) (by assumption) ?_
      try simp only [Act.put, List.setIfInBounds_toArray, List.set_cons_zero, List.set_cons_succ]
      refine wpAnyH_take (i := 15) (oi := { dst := some 116, op := Op.load 27 (Operand.tmp 10), type := 27, pos := "outright.go:88", after := #[{ on := 10, ground := Ground.guard }], guard := some (10, true) }) (v := undef) rfl (by kernel_rfl) (by kernel_rfl) (by kernel_rfl) (fun _ _ _ h => h) (Or.inr ⟨by rfl, rfl⟩) (by assumption) ?_
      try simp only [Act.put, List.setIfInBounds_toArray, List.set_cons_zero, List.set_cons_succ]
      refine wpAnyH_ready (rs := [14]) (by kernel_rfl) (by simp) ?_
      refine AllReadyH.cons (o := { dst := some 115, op := Op.call { callee := Callee.value (Operand.func 31), args := #[Operand.tmp 113, Operand.tmp 114], argTypes := #[27, 27] }, type := 27, pos := "outright.go:88", after := #[{ on := 12, ground := Ground.data }, { on := 13, ground := Ground.data }, { on := 10, ground := Ground.chain }, { on := 10, ground := Ground.guard }], guard := some (10, true) }) rfl (fun K hK => ?_) AllReadyH.nil
      go_simp
      refine hK.out _ _ ?_ (fun hHeld => ?_)
      · try dsimp only
        (first | with_reducible exact ⟨hS.out.cs3 0 rfl, hS.out.cs3 1 rfl, hS.out.cs3 2 rfl, hS.out.cs3 3 rfl, hS.out.cs3 4 rfl, hS.out.cs3 5 rfl, hS.out.cs3 6 rfl⟩ | with_reducible exact ⟨hS.out.drew.cs3 0 rfl, hS.out.drew.cs3 1 rfl, hS.out.drew.cs3 2 rfl, hS.out.drew.cs3 3 rfl, hS.out.drew.cs3 4 rfl, hS.out.drew.cs3 5 rfl, hS.out.drew.cs3 6 rfl⟩ | with_reducible exact ⟨(hS.out.alloc _).cs3 0 rfl, (hS.out.alloc _).cs3 1 rfl, (hS.out.alloc _).cs3 2 rfl, (hS.out.alloc _).cs3 3 rfl, (hS.out.alloc _).cs3 4 rfl, (hS.out.alloc _).cs3 5 rfl, (hS.out.alloc _).cs3 6 rfl⟩ | with_reducible exact ⟨((hS.out.alloc _).alloc _).cs3 0 rfl, ((hS.out.alloc _).alloc _).cs3 1 rfl, ((hS.out.alloc _).alloc _).cs3 2 rfl, ((hS.out.alloc _).alloc _).cs3 3 rfl, ((hS.out.alloc _).alloc _).cs3 4 rfl, ((hS.out.alloc _).alloc _).cs3 5 rfl, ((hS.out.alloc _).alloc _).cs3 6 rfl⟩)
      clear hK K
      try simp only [Act.put, List.setIfInBounds_toArray, List.set_cons_zero, List.set_cons_succ]
      refine wpAnyH_ready (rs := [16]) (by kernel_rfl) (by simp) ?_
      refine AllReadyH.cons (o := { dst := some 117, op := Op.call { callee := Callee.value (Operand.tmp 112), args := #[Operand.tmp 115, Operand.tmp 116], argTypes := #[27, 27] }, type := 4, pos := "outright.go:88", after := #[{ on := 11, ground := Ground.data }, { on := 14, ground := Ground.data }, { on := 15, ground := Ground.data }, { on := 14, ground := Ground.chain }, { on := 10, ground := Ground.guard }], guard := some (10, true) }) rfl (fun K hK => ?_) AllReadyH.nil
      go_simp
      refine hK.out _ _ ?_ (fun hHeld => ?_)
      · try dsimp only
        (first | with_reducible exact ⟨hS.out.cs3 0 rfl, hS.out.cs3 1 rfl, hS.out.cs3 2 rfl, hS.out.cs3 3 rfl, hS.out.cs3 4 rfl, hS.out.cs3 5 rfl, hS.out.cs3 6 rfl⟩ | with_reducible exact ⟨hS.out.drew.cs3 0 rfl, hS.out.drew.cs3 1 rfl, hS.out.drew.cs3 2 rfl, hS.out.drew.cs3 3 rfl, hS.out.drew.cs3 4 rfl, hS.out.drew.cs3 5 rfl, hS.out.drew.cs3 6 rfl⟩ | with_reducible exact ⟨(hS.out.alloc _).cs3 0 rfl, (hS.out.alloc _).cs3 1 rfl, (hS.out.alloc _).cs3 2 rfl, (hS.out.alloc _).cs3 3 rfl, (hS.out.alloc _).cs3 4 rfl, (hS.out.alloc _).cs3 5 rfl, (hS.out.alloc _).cs3 6 rfl⟩ | with_reducible exact ⟨((hS.out.alloc _).alloc _).cs3 0 rfl, ((hS.out.alloc _).alloc _).cs3 1 rfl, ((hS.out.alloc _).alloc _).cs3 2 rfl, ((hS.out.alloc _).alloc _).cs3 3 rfl, ((hS.out.alloc _).alloc _).cs3 4 rfl, ((hS.out.alloc _).alloc _).cs3 5 rfl, ((hS.out.alloc _).alloc _).cs3 6 rfl⟩)
      clear hK K
      try simp only [Act.put, List.setIfInBounds_toArray, List.set_cons_zero, List.set_cons_succ]
      refine wpAnyH_take (i := 17) (oi := { dst := some 118, op := Op.unOp UnOp.not 4 (Operand.tmp 117), type := 4, pos := "outright.go:88", after := #[{ on := 16, ground := Ground.data }, { on := 10, ground := Ground.guard }], guard := some (10, true) }) (v := undef) rfl (by kernel_rfl) (by kernel_rfl) (by kernel_rfl) (fun _ _ _ h => h) (Or.inr ⟨by rfl, rfl⟩) (by assumption) ?_
      try simp only [Act.put, List.setIfInBounds_toArray, List.set_cons_zero, List.set_cons_succ]
      refine wpAnyH_take (i := 18) (oi := { dst := some 119, op := Op.pick (Operand.tmp 111) (Operand.tmp 118) (Operand.const (Value.bool false)), type := 4, pos := "outright.go:88", after := #[{ on := 10, ground := Ground.data }, { on := 17, ground := Ground.data }, { on := 7, ground := Ground.guard }], guard := some (7, false) }) (v := ?_) rfl (by kernel_rfl) (by kernel_rfl) (by kernel_rfl) (fun _ _ _ h => h) (Or.inl ⟨by rfl, ?_⟩) (by assumption) ?_
      rotate_left
      · intro w hSw
        try dsimp only at hSw
        go_simp
        try with_reducible rfl
      try simp only [Act.put, List.setIfInBounds_toArray, List.set_cons_zero, List.set_cons_succ]
      refine wpAnyH_take (i := 19) (oi := { dst := some 120, op := Op.pick (Operand.tmp 108) (Operand.const (Value.bool true)) (Operand.tmp 119), type := 4, pos := "outright.go:88", after := #[{ on := 7, ground := Ground.data }, { on := 18, ground := Ground.data }], guard := none }) (v := ?_) rfl (by kernel_rfl) (by kernel_rfl) (by kernel_rfl) (fun _ _ _ h => h) (Or.inl ⟨by rfl, ?_⟩) (by assumption) ?_
      rotate_left
      · intro w hSw
        try dsimp only at hSw
        go_simp
        try with_reducible rfl
      try simp only [Act.put, List.setIfInBounds_toArray, List.set_cons_zero, List.set_cons_succ]
      refine wpAnyH_done (by kernel_rfl) ?_ _
      obtain ⟨x0_0, x1_0, x2_0⟩ := hS.out.cs3 0 rfl
      obtain ⟨x0_1, x1_1, x2_1⟩ := hS.out.cs3 1 rfl
      obtain ⟨x0_2, x1_2, x2_2⟩ := hS.out.cs3 2 rfl
      obtain ⟨x0_3, x1_3, x2_3⟩ := hS.out.cs3 3 rfl
      obtain ⟨x0_4, x1_4, x2_4⟩ := hS.out.cs3 4 rfl
      obtain ⟨x0_5, x1_5, x2_5⟩ := hS.out.cs3 5 rfl
      obtain ⟨x0_6, x1_6, x2_6⟩ := hS.out.cs3 6 rfl
      cases hmay : mayR b0 xs0 ys0 with
      | true =>
        have HMAY := Lib.hid hmay
        have HB0 := Lib.hid (HMY.out hmay).1
        have HB1 := Lib.hid (HMY.out hmay).2.1
        have HB2 := Lib.hid (HMY.out hmay).2.2
        clear hmay
        go_wp2_with fail
        refine tail_y ?_ (Lib.hid (hS.out.sub (S' := [⟨Ao, no, co, 60 * (6 + 1), limbs (mg ro.num), mg ro.num⟩, ⟨Ao', no', co', 60 * (6 + 1), limbs ro.den, ro.den⟩, ⟨Au, nu, cu, 1, limbs (mg ru.num), mg ru.num⟩, ⟨Au', nu', cu', 1, limbs ru.den, ru.den⟩, ⟨Az, nz, cz, 1, limbs (mg rz.num), mg rz.num⟩, ⟨Az', nz', cz', 1, limbs rz.den, rz.den⟩, ⟨A2, n2, c2, 6, xs2, val B xs2⟩, ⟨A2', n2', c2', 6, ys2, val B ys2⟩, ⟨A1, n1, c1, 6, xs1, val B xs1⟩, ⟨A1', n1', c1', 6, ys1, val B ys1⟩, ⟨A0, n0, c0, 6, xs0, val B xs0⟩, ⟨A0', n0', c0', 6, ys0, val B ys0⟩]) (O' := []) (T' := _) (by
          intro t ht
          simp only [List.mem_cons, List.not_mem_nil, or_false] at ht
          rcases ht with rfl | rfl | rfl | rfl | rfl | rfl | rfl | rfl | rfl | rfl | rfl | rfl <;> repeat (first | exact List.mem_cons_self | apply List.mem_cons_of_mem)) (List.sublist_cons_self _ _) (fun t ht => by cases ht))) HZ0 HZ1 HZ2 HZE HON HOW HMAY HB0 HB1 HB2
        assumption
      | false =>
        have HMAY := Lib.hid hmay
        clear hmay
        go_wp2_with fail
        refine tail_n ?_ (Lib.hid (hS.out.sub (S' := [⟨Ao, no, co, 60 * (6 + 1), limbs (mg ro.num), mg ro.num⟩, ⟨Ao', no', co', 60 * (6 + 1), limbs ro.den, ro.den⟩, ⟨Au, nu, cu, 1, limbs (mg ru.num), mg ru.num⟩, ⟨Au', nu', cu', 1, limbs ru.den, ru.den⟩, ⟨Az, nz, cz, 1, limbs (mg rz.num), mg rz.num⟩, ⟨Az', nz', cz', 1, limbs rz.den, rz.den⟩, ⟨A2, n2, c2, 6, xs2, val B xs2⟩, ⟨A2', n2', c2', 6, ys2, val B ys2⟩, ⟨A1, n1, c1, 6, xs1, val B xs1⟩, ⟨A1', n1', c1', 6, ys1, val B ys1⟩, ⟨A0, n0, c0, 6, xs0, val B xs0⟩, ⟨A0', n0', c0', 6, ys0, val B ys0⟩]) (O' := []) (T' := _) (by
          intro t ht
          simp only [List.mem_cons, List.not_mem_nil, or_false] at ht
          rcases ht with rfl | rfl | rfl | rfl | rfl | rfl | rfl | rfl | rfl | rfl | rfl | rfl <;> repeat (first | exact List.mem_cons_self | apply List.mem_cons_of_mem)) (List.sublist_cons_self _ _) (fun t ht => by cases ht))) HZ0 HZ1 HZ2 HZE HON HOW HMAY
        assumption
    · 
      have HNZ := Lib.hid hz
      obtain ⟨cb, hcb⟩ : ∃ c, rs (rb - rz) = c := ⟨_, rfl⟩
      have hcb0 : cb ≠ 0 := fun e => hz ((rs_eq0.1 (hcb.trans e)).trans HZE.out)
      have hcb1 : (cb == 0) = false := by simpa using hcb0
      have hcb2 : (cb != 0) = true := by simpa using hcb0
      have HCB := Lib.hid hcb
      clear hz hcb
      go_wp2_with fail
      go_at_call 32
      with_reducible refine (fquo_s hS.out (by repeat (first | exact List.mem_cons_self | apply List.mem_cons_of_mem)) (by repeat (first | exact List.mem_cons_self | apply List.mem_cons_of_mem)) (by repeat (first | exact List.mem_cons_self | apply List.mem_cons_of_mem)) (by repeat (first | exact List.mem_cons_self | apply List.mem_cons_of_mem)) (by decide) (by decide) HZ0.out HZ1.out HNZ.out).mono ?_
      rintro e v9 ⟨rq, Aq, nq, cq, Aq', nq', cq', hrq, rfl, h1⟩
      clear x0_0 x1_0 x2_0 x0_1 x1_1 x2_1 x0_2 x1_2 x2_2 x0_3 x1_3 x2_3 x0_4 x1_4 x2_4 x0_5 x1_5 x2_5
      have HRq := Lib.hid hrq; clear hrq
      clear hS; have hS := Lib.hid h1; clear h1
      obtain ⟨x0_0, x1_0, x2_0⟩ := hS.out.cs3 0 rfl
      obtain ⟨x0_1, x1_1, x2_1⟩ := hS.out.cs3 1 rfl
      obtain ⟨x0_2, x1_2, x2_2⟩ := hS.out.cs3 2 rfl
      obtain ⟨x0_3, x1_3, x2_3⟩ := hS.out.cs3 3 rfl
      obtain ⟨x0_4, x1_4, x2_4⟩ := hS.out.cs3 4 rfl
      obtain ⟨x0_5, x1_5, x2_5⟩ := hS.out.cs3 5 rfl
      have h1 := (hS.out.boxed (vs := [.bool (sg (rq).num), .slice Aq nq cq, .slice Aq' nq' cq']) (ty := 27) rfl rfl)
      try simp only [World.size_alloc] at h1
      obtain ⟨p0_0, p1_0, p2_0⟩ := h1.cs3 0 rfl
      obtain ⟨p0_1, p1_1, p2_1⟩ := h1.cs3 1 rfl
      obtain ⟨p0_2, p1_2, p2_2⟩ := h1.cs3 2 rfl
      obtain ⟨p0_3, p1_3, p2_3⟩ := h1.cs3 3 rfl
      obtain ⟨p0_4, p1_4, p2_4⟩ := h1.cs3 4 rfl
      obtain ⟨p0_5, p1_5, p2_5⟩ := h1.cs3 5 rfl
      obtain ⟨p0_6, p1_6, p2_6⟩ := h1.cs3 6 rfl
      clear h1
      go_wp2_with fail
      clear x0_0 x1_0 x2_0 x0_1 x1_1 x2_1 x0_2 x1_2 x2_2 x0_3 x1_3 x2_3 x0_4 x1_4 x2_4 x0_5 x1_5 x2_5
      clear p0_0 p1_0 p2_0 p0_1 p1_1 p2_1 p0_2 p1_2 p2_2 p0_3 p1_3 p2_3 p0_4 p1_4 p2_4 p0_5 p1_5 p2_5 p0_6 p1_6 p2_6
      generalize hwa : World.alloc v9 _ = v10
      have h1 := (hS.out.boxed (vs := [.bool (sg (rq).num), .slice Aq nq cq, .slice Aq' nq' cq']) (ty := 27) rfl hwa)
      have hsz : v10.heap.size = v9.heap.size + 1 := by rw [← hwa]; simp only [World.size_alloc]
      try rw [← hsz]
      clear hwa hsz
      clear hS; have hS := Lib.hid h1; clear h1
      obtain ⟨x0_0, x1_0, x2_0⟩ := hS.out.cs3 0 rfl
      obtain ⟨x0_1, x1_1, x2_1⟩ := hS.out.cs3 1 rfl
      obtain ⟨x0_2, x1_2, x2_2⟩ := hS.out.cs3 2 rfl
      obtain ⟨x0_3, x1_3, x2_3⟩ := hS.out.cs3 3 rfl
      obtain ⟨x0_4, x1_4, x2_4⟩ := hS.out.cs3 4 rfl
      obtain ⟨x0_5, x1_5, x2_5⟩ := hS.out.cs3 5 rfl
      obtain ⟨x0_6, x1_6, x2_6⟩ := hS.out.cs3 6 rfl
      go_wp2_with fail
      clear x0_0 x1_0 x2_0 x0_1 x1_1 x2_1 x0_2 x1_2 x2_2 x0_3 x1_3 x2_3 x0_4 x1_4 x2_4 x0_5 x1_5 x2_5 x0_6 x1_6 x2_6
      have h1 := hS.out.drew
      clear hS; have hS := Lib.hid h1; clear h1
      try simp only [List.append_eq, List.cons_append, List.nil_append]
      go_region_held3 (fun W => (W.cell? ⟨v9.heap.size, 0, none⟩ = some (.bool (sg (rq).num)) ∧ W.cell? ⟨v9.heap.size, 1, none⟩ = some (.slice Aq nq cq) ∧ W.cell? ⟨v9.heap.size, 2, none⟩ = some (.slice Aq' nq' cq')) ∧ (W.cell? ⟨v7.heap.size, 0, none⟩ = some (.bool (sg (ro).num)) ∧ W.cell? ⟨v7.heap.size, 1, none⟩ = some (.slice Ao no co) ∧ W.cell? ⟨v7.heap.size, 2, none⟩ = some (.slice Ao' no' co')) ∧ (W.cell? ⟨v5.heap.size + 1, 0, none⟩ = some (.bool (sg (ru).num)) ∧ W.cell? ⟨v5.heap.size + 1, 1, none⟩ = some (.slice Au nu cu) ∧ W.cell? ⟨v5.heap.size + 1, 2, none⟩ = some (.slice Au' nu' cu')) ∧ (W.cell? ⟨v5.heap.size, 0, none⟩ = some (.bool (sg (rz).num)) ∧ W.cell? ⟨v5.heap.size, 1, none⟩ = some (.slice Az nz cz) ∧ W.cell? ⟨v5.heap.size, 2, none⟩ = some (.slice Az' nz' cz')) ∧ (W.cell? ⟨w.heap.size + 1 + 1, 0, none⟩ = some (.bool b2) ∧ W.cell? ⟨w.heap.size + 1 + 1, 1, none⟩ = some (.slice A2 n2 c2) ∧ W.cell? ⟨w.heap.size + 1 + 1, 2, none⟩ = some (.slice A2' n2' c2')) ∧ (W.cell? ⟨w.heap.size + 1, 0, none⟩ = some (.bool b1) ∧ W.cell? ⟨w.heap.size + 1, 1, none⟩ = some (.slice A1 n1 c1) ∧ W.cell? ⟨w.heap.size + 1, 2, none⟩ = some (.slice A1' n1' c1')) ∧ (W.cell? ⟨w.heap.size, 0, none⟩ = some (.bool b0) ∧ W.cell? ⟨w.heap.size, 1, none⟩ = some (.slice A0 n0 c0) ∧ W.cell? ⟨w.heap.size, 2, none⟩ = some (.slice A0' n0' c0'))) (first | with_reducible exact ⟨hS.out.cs3 0 rfl, hS.out.cs3 1 rfl, hS.out.cs3 2 rfl, hS.out.cs3 3 rfl, hS.out.cs3 4 rfl, hS.out.cs3 5 rfl, hS.out.cs3 6 rfl⟩ | with_reducible exact ⟨hS.out.drew.cs3 0 rfl, hS.out.drew.cs3 1 rfl, hS.out.drew.cs3 2 rfl, hS.out.drew.cs3 3 rfl, hS.out.drew.cs3 4 rfl, hS.out.drew.cs3 5 rfl, hS.out.drew.cs3 6 rfl⟩ | with_reducible exact ⟨(hS.out.alloc _).cs3 0 rfl, (hS.out.alloc _).cs3 1 rfl, (hS.out.alloc _).cs3 2 rfl, (hS.out.alloc _).cs3 3 rfl, (hS.out.alloc _).cs3 4 rfl, (hS.out.alloc _).cs3 5 rfl, (hS.out.alloc _).cs3 6 rfl⟩ | with_reducible exact ⟨((hS.out.alloc _).alloc _).cs3 0 rfl, ((hS.out.alloc _).alloc _).cs3 1 rfl, ((hS.out.alloc _).alloc _).cs3 2 rfl, ((hS.out.alloc _).alloc _).cs3 3 rfl, ((hS.out.alloc _).alloc _).cs3 4 rfl, ((hS.out.alloc _).alloc _).cs3 5 rfl, ((hS.out.alloc _).alloc _).cs3 6 rfl⟩) (first
        | (go_at_call 33; (with_reducible refine (fcmp_s hS.out (by repeat (first | exact List.mem_cons_self | apply List.mem_cons_of_mem)) (by repeat (first | exact List.mem_cons_self | apply List.mem_cons_of_mem)) (by repeat (first | exact List.mem_cons_self | apply List.mem_cons_of_mem)) (by repeat (first | exact List.mem_cons_self | apply List.mem_cons_of_mem)) (by decide) (by decide) (by first | exact rv_self _ | exact HZ0.out | exact HZ1.out | exact HZ2.out) (by first | exact rv_self _ | exact HZ0.out | exact HZ1.out | exact HZ2.out) (by first | exact HCB.out | (subst_vars; exact HCB.out))).mono ?_); rintro e w' ⟨rfl, h1⟩; clear hS; have hS := Lib.hid h1; clear h1)
        | (go_at_call 31; (with_reducible refine (fmul_s hS.out (by repeat (first | exact List.mem_cons_self | apply List.mem_cons_of_mem)) (by repeat (first | exact List.mem_cons_self | apply List.mem_cons_of_mem)) (by repeat (first | exact List.mem_cons_self | apply List.mem_cons_of_mem)) (by repeat (first | exact List.mem_cons_self | apply List.mem_cons_of_mem)) (by decide) (by decide) (by first | exact rv_self _ | exact HZ0.out | exact HZ1.out | exact HZ2.out) (by first | exact rv_self _ | exact HZ0.out | exact HZ1.out | exact HZ2.out)).mono ?_); rintro e w' ⟨r, Ai, ni, ci, Ai', ni', ci', hr, rfl, h1⟩; clear hS; have hS := Lib.hid h1; clear h1)
        | (go_at_call 16; (with_reducible refine (is_v hS.out (by repeat (first | exact List.mem_cons_self | apply List.mem_cons_of_mem)) (by repeat (first | exact List.mem_cons_self | apply List.mem_cons_of_mem)) (by repeat (first | exact List.mem_cons_self | apply List.mem_cons_of_mem)) (by repeat (first | exact List.mem_cons_self | apply List.mem_cons_of_mem)) (by subst_vars; first | rfl | ((try simp only [HZE.out, HON.out, HOW.out]); grind) | (have hnz := HNZ.out; ((try simp only [HZE.out, HON.out, HOW.out, ← HRq.out]); grind)))).mono ?_); rintro e w' ⟨rfl, h1⟩; clear hS; have hS := Lib.hid h1; clear h1))
      obtain ⟨x0_0, x1_0, x2_0⟩ := hS.out.cs3 0 rfl
      obtain ⟨x0_1, x1_1, x2_1⟩ := hS.out.cs3 1 rfl
      obtain ⟨x0_2, x1_2, x2_2⟩ := hS.out.cs3 2 rfl
      obtain ⟨x0_3, x1_3, x2_3⟩ := hS.out.cs3 3 rfl
      obtain ⟨x0_4, x1_4, x2_4⟩ := hS.out.cs3 4 rfl
      obtain ⟨x0_5, x1_5, x2_5⟩ := hS.out.cs3 5 rfl
      obtain ⟨x0_6, x1_6, x2_6⟩ := hS.out.cs3 6 rfl
      cases hmay : mayR b0 xs0 ys0 with
      | true =>
        have HMAY := Lib.hid hmay
        have HB0 := Lib.hid (HMY.out hmay).1
        have HB1 := Lib.hid (HMY.out hmay).2.1
        have HB2 := Lib.hid (HMY.out hmay).2.2
        clear hmay
        go_wp2_with fail
        refine tail_y ?_ (Lib.hid (hS.out.sub (S' := [⟨Ao, no, co, 60 * (6 + 1), limbs (mg ro.num), mg ro.num⟩, ⟨Ao', no', co', 60 * (6 + 1), limbs ro.den, ro.den⟩, ⟨Au, nu, cu, 1, limbs (mg ru.num), mg ru.num⟩, ⟨Au', nu', cu', 1, limbs ru.den, ru.den⟩, ⟨Az, nz, cz, 1, limbs (mg rz.num), mg rz.num⟩, ⟨Az', nz', cz', 1, limbs rz.den, rz.den⟩, ⟨A2, n2, c2, 6, xs2, val B xs2⟩, ⟨A2', n2', c2', 6, ys2, val B ys2⟩, ⟨A1, n1, c1, 6, xs1, val B xs1⟩, ⟨A1', n1', c1', 6, ys1, val B ys1⟩, ⟨A0, n0, c0, 6, xs0, val B xs0⟩, ⟨A0', n0', c0', 6, ys0, val B ys0⟩]) (O' := []) (T' := _) (by
          intro t ht
          simp only [List.mem_cons, List.not_mem_nil, or_false] at ht
          rcases ht with rfl | rfl | rfl | rfl | rfl | rfl | rfl | rfl | rfl | rfl | rfl | rfl <;> repeat (first | exact List.mem_cons_self | apply List.mem_cons_of_mem)) (List.sublist_cons_self _ _) (fun t ht => by cases ht))) HZ0 HZ1 HZ2 HZE HON HOW HMAY HB0 HB1 HB2
        assumption
      | false =>
        have HMAY := Lib.hid hmay
        clear hmay
        go_wp2_with fail
        refine tail_n ?_ (Lib.hid (hS.out.sub (S' := [⟨Ao, no, co, 60 * (6 + 1), limbs (mg ro.num), mg ro.num⟩, ⟨Ao', no', co', 60 * (6 + 1), limbs ro.den, ro.den⟩, ⟨Au, nu, cu, 1, limbs (mg ru.num), mg ru.num⟩, ⟨Au', nu', cu', 1, limbs ru.den, ru.den⟩, ⟨Az, nz, cz, 1, limbs (mg rz.num), mg rz.num⟩, ⟨Az', nz', cz', 1, limbs rz.den, rz.den⟩, ⟨A2, n2, c2, 6, xs2, val B xs2⟩, ⟨A2', n2', c2', 6, ys2, val B ys2⟩, ⟨A1, n1, c1, 6, xs1, val B xs1⟩, ⟨A1', n1', c1', 6, ys1, val B ys1⟩, ⟨A0, n0, c0, 6, xs0, val B xs0⟩, ⟨A0', n0', c0', 6, ys0, val B ys0⟩]) (O' := []) (T' := _) (by
          intro t ht
          simp only [List.mem_cons, List.not_mem_nil, or_false] at ht
          rcases ht with rfl | rfl | rfl | rfl | rfl | rfl | rfl | rfl | rfl | rfl | rfl | rfl <;> repeat (first | exact List.mem_cons_self | apply List.mem_cons_of_mem)) (List.sublist_cons_self _ _) (fun t ht => by cases ht))) HZ0 HZ1 HZ2 HZE HON HOW HMAY
        assumption
  · have hS := Lib.hid (SC.start w)
    clear h0 h1 h2 g0 g1 g2
    go_enter Tryz.func6, Tryz.ntmps6
    have h1 := (((hS.out.boxed (vs := [.bool b0, .slice A0 n0 c0, .slice A0' n0' c0']) (ty := 27) rfl rfl).boxed (vs := [.bool b1, .slice A1 n1 c1, .slice A1' n1' c1']) (ty := 27) rfl rfl).boxed (vs := [.bool b2, .slice A2 n2 c2, .slice A2' n2' c2']) (ty := 27) rfl rfl)
    try simp only [World.size_alloc] at h1
    obtain ⟨p0_0, p1_0, p2_0⟩ := h1.cs3 0 rfl
    obtain ⟨p0_1, p1_1, p2_1⟩ := h1.cs3 1 rfl
    obtain ⟨p0_2, p1_2, p2_2⟩ := h1.cs3 2 rfl
    clear h1
    go_wp2_with fail
    clear p0_0 p1_0 p2_0 p0_1 p1_1 p2_1 p0_2 p1_2 p2_2
    generalize hwa : World.alloc (World.alloc (World.alloc w _) _) _ = v1
    have h1 := (((hS.out.boxed (vs := [.bool b0, .slice A0 n0 c0, .slice A0' n0' c0']) (ty := 27) rfl rfl).boxed (vs := [.bool b1, .slice A1 n1 c1, .slice A1' n1' c1']) (ty := 27) rfl rfl).boxed (vs := [.bool b2, .slice A2 n2 c2, .slice A2' n2' c2']) (ty := 27) rfl hwa)
    simp only [World.size_alloc] at h1
    have hsz : v1.heap.size = w.heap.size + 1 + 1 + 1 := by rw [← hwa]; simp only [World.size_alloc]
    try rw [← hsz]
    clear hwa hsz
    clear hS; have hS := Lib.hid h1; clear h1
    obtain ⟨x0_0, x1_0, x2_0⟩ := hS.out.cs3 0 rfl
    obtain ⟨x0_1, x1_1, x2_1⟩ := hS.out.cs3 1 rfl
    obtain ⟨x0_2, x1_2, x2_2⟩ := hS.out.cs3 2 rfl
    go_wp2_with fail
    go_at_call 7
    with_reducible refine (long3_y hS.out ⟨by omega, by omega⟩ ⟨by omega, by omega⟩ ⟨by omega, by omega⟩ hl).mono ?_
    rintro e v2 ⟨rfl, h1⟩
    clear x0_0 x1_0 x2_0 x0_1 x1_1 x2_1 x0_2 x1_2 x2_2
    clear hS; have hS := Lib.hid h1; clear h1
    obtain ⟨x0_0, x1_0, x2_0⟩ := hS.out.cs3 0 rfl
    obtain ⟨x0_1, x1_1, x2_1⟩ := hS.out.cs3 1 rfl
    obtain ⟨x0_2, x1_2, x2_2⟩ := hS.out.cs3 2 rfl
    go_wp2_with fail
    go_at_call 8
    with_reducible refine (awake_any _).mono ?_
    rintro e v3 ⟨rfl, hb⟩
    clear x0_0 x1_0 x2_0 x0_1 x1_1 x2_1 x0_2 x1_2 x2_2
    have h1 := hS.out.below hb
    clear hb
    clear hS; have hS := Lib.hid h1; clear h1
    obtain ⟨x0_0, x1_0, x2_0⟩ := hS.out.cs3 0 rfl
    obtain ⟨x0_1, x1_1, x2_1⟩ := hS.out.cs3 1 rfl
    obtain ⟨x0_2, x1_2, x2_2⟩ := hS.out.cs3 2 rfl
    go_wp2
    go_ret
    exact ⟨rfl, hS.out.st.1⟩
set_option maxRecDepth 100000 in
theorem lifted (os : Os) (started : os.Started) (H : Type) (enc : TypeId × Value → H) :
    ReturnsInHanded {} Tryz.checked os 6 .any (fun w args => (Rows.ratFieldSpec.pre enc Tryz.prog Tryz.f6 Rows.ratFieldRow.domain false w args ∧ laidMetH Tryz.prog Rows.ratFieldRow.laid w) ∧ sizedMet enc Tryz.prog Tryz.f6 (OpenSpec.ofChange Rows.ratFieldSpec) false w args) (Rows.ratFieldSpec.post enc Tryz.prog Tryz.f6 false true false false) := by
  refine returnsInHanded_of_change_and (C := Tryz.checked) (X := fun w _ => laidMetH Tryz.prog Rows.ratFieldRow.laid w) (fun _ _ _ hh h => h.of_heap hh) own started (by kernel_rfl) Tryz.func6
    (ChangeSpec.witness_shaped (enc := enc) (C := Tryz.checked) (os := os) (X := fun w _ => laidMetH Tryz.prog Rows.ratFieldRow.laid w) false (World.laidAll Tryz.prog os Rows.ratFieldRow.laid) #[.agg #[.bool false, .slice none 0 0, .slice none 0 0], .agg #[.bool false, .slice none 0 0, .slice none 0 0], .agg #[.bool false, .slice none 0 0, .slice none 0 0]] 8 (World.laidAll_os _ _ _)
      (World.shaped_of_ZipB (by kernel_rfl) (by kernel_rfl)) (by kernel_rfl) (by kernel_rfl) (by kernel_rfl)
      (by rw [MakeChecks.laidMetH_plain _ _ _ (by kernel_rfl)]; exact laidMet_laidAll _ (by kernel_rfl) (by kernel_rfl))) ?_
  intro W base args ds gs before hval0 hW hcnd _ _ _
  have hval : ∀ (j : Nat) t v, Tryz.f6.params[j]? = some t → args[j]? = some v → Value.okWide Tryz.prog W .any base t v := hval0
  have hW' := hW
  obtain ⟨p, q, hA0, hV, hpq, hfz, hnd⟩ := hW
  have hA : DataW.TrodAll enc Tryz.prog W 0 (fun _ => true) true Tryz.f6.params.toList args.toList ds p := hA0
  rw [Tryz.params6] at hA hval
  obtain ⟨v0, vs0, d0, ds0, p0, q0, hargs, rfl, rfl, h0, r0⟩ := trodAll_cons hA
  obtain ⟨v1, vs1, d1, ds1, p1, q1, rfl, rfl, rfl, h1, r1⟩ := trodAll_cons r0
  obtain ⟨v2, vs2, d2, ds2, p2, q2, rfl, rfl, rfl, h2, r2⟩ := trodAll_cons r1
  obtain ⟨rfl, rfl, rfl⟩ := trodAll_nil r2
  obtain rfl : args = #[v0, v1, v2] := by cases args; simp_all
  obtain ⟨rfl, rfl⟩ := trodVars_none hV
  obtain ⟨b0, A0, n0, c0, xs0, A0', n0', c0', ys0, rfl, s0, sd0⟩ := open_frac (hval 0 27 v0 rfl rfl) h0
  obtain ⟨b1, A1, n1, c1, xs1, A1', n1', c1', ys1, rfl, s1, sd1⟩ := open_frac (hval 1 27 v1 rfl rfl) h1
  obtain ⟨b2, A2, n2, c2, xs2, A2', n2', c2', ys2, rfl, s2, sd2⟩ := open_frac (hval 2 27 v2 rfl rfl) h2
  refine (walk W b0 A0 n0 c0 xs0 A0' n0' c0' ys0 s0 sd0 b1 A1 n1 c1 xs1 A1' n1' c1' ys1 s1 sd1 b2 A2 n2 c2 xs2 A2' n2' c2' ys2 s2 sd2).mono fun e W' ⟨he, hb⟩ => ?_
  subst he
  exact ⟨_, rfl, Frame.close laidOut hW' rfl rfl rfl Tryz.underlying4 (fun t ht => by rw [Tryz.params6] at ht; simp at ht; rcases ht with rfl <;> exact ⟨by kernel_rfl, of_decide_eq_true (by kernel_rfl)⟩) hb⟩
theorem over : Rows.ratFieldRow.holds Tryz.pinned (OpenSpec.ofChange Rows.ratFieldSpec) :=
  OpenClaim.holds_of_wide 6 Tryz.f6 rfl rfl rfl rfl rfl rfl rfl ⟨rfl, rfl, rfl, rfl, rfl⟩ rfl rfl rfl rfl rfl (by kernel_rfl) Tryz.func6 (by kernel_rfl)
    (of_decide_eq_true (by kernel_rfl)) (by unfold Func.isWrapper; first | (rw [if_pos (by decide +kernel)]; kernel_rfl) | (rw [if_neg (by decide +kernel)]; exact ⟨rfl, rfl⟩))
    (fun os started H enc _ => lifted os started H enc)
/-- the statement -/
theorem proved : Rows.RatFieldCardSaid :=
  Claim7.holds_tied_plain_at .later [] _ _ _ _ over (fun _ h => by cases h) (by kernel_rfl) (fun _ h => by cases h) ratField_row_tie rfl ⟨rfl, rfl⟩ (by kernel_rfl) rfl
    (fun f fn hf hfn => by
      obtain rfl : f = 6 := Option.some.inj ((show Tryz.prog.funcNamed "tombola/tombolalaw06.RatField" = some 6 by kernel_rfl).symm.trans hf) |>.symm
      obtain rfl : fn = Tryz.f6 := (Option.some.inj (Tryz.func6.symm.trans hfn)).symm
      exact ⟨by kernel_rfl, (fun j t ht => by
        rw [Tryz.params6] at ht
        have hm : t ∈ [27, 27, 27] := by simpa using Array.mem_of_getElem? ht
        have hall : ([27, 27, 27].all fun u => !Tryz.prog.wantsStandIn u) = true := by kernel_rfl
        exact (show Tryz.prog.wantsStandIn t = false by simpa using List.all_eq_true.1 hall t hm))⟩)
    (by kernel_rfl)
#print axioms proved
end Go.Proofs.YtnebeffpidlgmaaGreatDoor.ratField
