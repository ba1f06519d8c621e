/-
  PROVED: the statement RatOrder (tombolalaw06.RatOrder) about the landed commit: for every input the law returns true and leaves its arguments as they were. Conditions: none beyond those that the given row itself prints.
-/
import Derived.Test.YtfncaflaefnjmaaGreatDoorCards
import Derived.Test.YtfncaflaefnjmaaGreatDoorTie
import Derived.LaidMore
import Derived.Lay
import Derived.SevenTiedAt
import Derived.Stop.Joined
import Derived.Test.YtfncaflaefnjmaaGreatDoorRows
import Derived.WalkKit
import Derived.ProofKit
import Derived.OpenShut
import Derived.RowKit3
import Derived.Test.YtfncaflaefnjmaaGreatDoorGFrame
import Derived.Test.YtfncaflaefnjmaaGreatDoorRatOpen
import Derived.Test.YtfncaflaefnjmaaGreatDoorRatH
import Derived.Test.YtfncaflaefnjmaaGreatDoorRatL
import Derived.Deep.RegionHeld3
namespace Go.Proofs.YtfncaflaefnjmaaGreatDoor.ratOrder
open Go.ChangeShapes Go.WideShapes Go.ChangeAt Go.RowKit
set_option linter.unusedVariables false
set_option maxRecDepth 20000
open N
theorem own : ownKnob Tryz.prog.godebug = none := by kernel_rfl
open RC
open Go.Lib (decDigits nDigits decDigits_length nDigits_pos)
theorem rs_vals (r : Rat) : rs r = -1 ∨ rs r = 0 ∨ rs r = 1 := by
  rcases rs_cases r with ⟨_, e⟩ | ⟨_, e⟩ | ⟨_, e⟩ <;> rw [e] <;> simp
theorem rs_trans {x y z : Rat} (h1 : rs (x - y) ≤ 0) (h2 : rs (y - z) ≤ 0) : rs (x - z) ≤ 0 := by
  rcases rs_cases (x - y) with ⟨a, e⟩ | ⟨a, e⟩ | ⟨a, e⟩ <;> rcases rs_cases (y - z) with ⟨a', e'⟩ | ⟨a', e'⟩ | ⟨a', e'⟩ <;> rcases rs_cases (x - z) with ⟨a2, e2⟩ | ⟨a2, e2⟩ | ⟨a2, e2⟩ <;> first | omega | (exfalso; grind)
theorem mk01 : mkRat 0 1 = 0 := by decide
set_option maxRecDepth 100000 in
set_option maxHeartbeats 4000000 in
theorem walk (w : World) (b0 : Bool) (A0 : Option Addr) (n0 c0 : Nat) (xs0 : List Int) (A0' : Option Addr) (n0' c0' : Nat) (ys0 : List Int) (h0 : Sl w A0 n0 c0 xs0) (g0 : Sl w A0' n0' c0' ys0) (b1 : Bool) (A1 : Option Addr) (n1 c1 : Nat) (xs1 : List Int) (A1' : Option Addr) (n1' c1' : Nat) (ys1 : List Int) (h1 : Sl w A1 n1 c1 xs1) (g1 : Sl w A1' n1' c1' ys1) (b2 : Bool) (A2 : Option Addr) (n2 c2 : Nat) (xs2 : List Int) (A2' : Option Addr) (n2' c2' : Nat) (ys2 : List Int) (h2 : Sl w A2 n2 c2 xs2) (g2 : Sl w A2' n2' c2' ys2) :
    Calls Tryz.prog 8 #[.agg #[.bool b0, .slice A0 n0 c0, .slice A0' n0' c0'], .agg #[.bool b1, .slice A1 n1 c1, .slice A1' n1' c1'], .agg #[.bool b2, .slice A2 n2 c2, .slice A2' n2' c2']] w fun e w' => e = .returned (.bool true) ∧ Below w.heap.size w w' := by
  have hc0 := h0.cap
  have hm0 := h0.max
  have hd0 := g0.cap
  have he0 := g0.max
  unfold maxLen at hm0 he0
  have hc1 := h1.cap
  have hm1 := h1.max
  have hd1 := g1.cap
  have he1 := g1.max
  unfold maxLen at hm1 he1
  have hc2 := h2.cap
  have hm2 := h2.max
  have hd2 := g2.cap
  have he2 := g2.max
  unfold maxLen at hm2 he2
  by_cases hl : (n0 ≤ 6 ∧ n0' ≤ 6) ∧ (n1 ≤ 6 ∧ n1' ≤ 6) ∧ (n2 ≤ 6 ∧ n2' ≤ 6)
  · obtain ⟨hl0, hl1, hl2⟩ := hl
    have hS := Lib.hid (((((((SC.start w).old (k := 6) g0 hl0.2 rfl).old (k := 6) h0 hl0.1 rfl).old (k := 6) g1 hl1.2 rfl).old (k := 6) h1 hl1.1 rfl).old (k := 6) g2 hl2.2 rfl).old (k := 6) h2 hl2.1 rfl)
    clear h0 h1 h2 g0 g1 g2
    obtain ⟨ra, hra⟩ : ∃ r, rv b0 (val B xs0) (val B ys0) = r := ⟨_, rfl⟩
    obtain ⟨rb, hrb⟩ : ∃ r, rv b1 (val B xs1) (val B ys1) = r := ⟨_, rfl⟩
    obtain ⟨rc, hrc⟩ : ∃ r, rv b2 (val B xs2) (val B ys2) = r := ⟨_, rfl⟩
    have HZ0 := Lib.hid hra
    have HZ1 := Lib.hid hrb
    have HZ2 := Lib.hid hrc
    clear hra hrb hrc
    go_enter Tryz.func8, Tryz.ntmps8
    have h1 := (((hS.out.boxed (vs := [.bool b0, .slice A0 n0 c0, .slice A0' n0' c0']) (ty := 27) rfl rfl).boxed (vs := [.bool b1, .slice A1 n1 c1, .slice A1' n1' c1']) (ty := 27) rfl rfl).boxed (vs := [.bool b2, .slice A2 n2 c2, .slice A2' n2' c2']) (ty := 27) rfl rfl)
    try simp only [World.size_alloc] at h1
    obtain ⟨p0_0, p1_0, p2_0⟩ := h1.cs3 0 rfl
    obtain ⟨p0_1, p1_1, p2_1⟩ := h1.cs3 1 rfl
    obtain ⟨p0_2, p1_2, p2_2⟩ := h1.cs3 2 rfl
    clear h1
    go_wp2_with fail
    clear p0_0 p1_0 p2_0 p0_1 p1_1 p2_1 p0_2 p1_2 p2_2
    generalize hwa : World.alloc (World.alloc (World.alloc w _) _) _ = v1
    have h1 := (((hS.out.boxed (vs := [.bool b0, .slice A0 n0 c0, .slice A0' n0' c0']) (ty := 27) rfl rfl).boxed (vs := [.bool b1, .slice A1 n1 c1, .slice A1' n1' c1']) (ty := 27) rfl rfl).boxed (vs := [.bool b2, .slice A2 n2 c2, .slice A2' n2' c2']) (ty := 27) rfl hwa)
    simp only [World.size_alloc] at h1
    have hsz : v1.heap.size = w.heap.size + 1 + 1 + 1 := by rw [← hwa]; simp only [World.size_alloc]
    try rw [← hsz]
    clear hwa hsz
    clear hS; have hS := Lib.hid h1; clear h1
    obtain ⟨x0_0, x1_0, x2_0⟩ := hS.out.cs3 0 rfl
    obtain ⟨x0_1, x1_1, x2_1⟩ := hS.out.cs3 1 rfl
    obtain ⟨x0_2, x1_2, x2_2⟩ := hS.out.cs3 2 rfl
    go_wp2_with fail
    go_at_call 11
    with_reducible refine (long3_n hS.out hl0 hl1 hl2).mono ?_
    rintro e v2 ⟨rfl, h1⟩
    clear x0_0 x1_0 x2_0 x0_1 x1_1 x2_1 x0_2 x1_2 x2_2
    clear hS; have hS := Lib.hid h1; clear h1
    obtain ⟨x0_0, x1_0, x2_0⟩ := hS.out.cs3 0 rfl
    obtain ⟨x0_1, x1_1, x2_1⟩ := hS.out.cs3 1 rfl
    obtain ⟨x0_2, x1_2, x2_2⟩ := hS.out.cs3 2 rfl
    go_wp2_with fail
    go_at_call 12
    with_reducible refine (awake_any _).mono ?_
    rintro e v3 ⟨rfl, hb⟩
    clear x0_0 x1_0 x2_0 x0_1 x1_1 x2_1 x0_2 x1_2 x2_2
    have h1 := hS.out.below hb
    clear hb
    clear hS; have hS := Lib.hid h1; clear h1
    obtain ⟨x0_0, x1_0, x2_0⟩ := hS.out.cs3 0 rfl
    obtain ⟨x0_1, x1_1, x2_1⟩ := hS.out.cs3 1 rfl
    obtain ⟨x0_2, x1_2, x2_2⟩ := hS.out.cs3 2 rfl
    obtain ⟨c, hc⟩ : ∃ c, rs (ra - rb) = c := ⟨_, rfl⟩
    obtain ⟨s, hs⟩ : ∃ s, rs rc = s := ⟨_, rfl⟩
    obtain ⟨t, ht⟩ : ∃ t, c * s = t := ⟨_, rfl⟩
    obtain ⟨d, hd⟩ : ∃ d, -c = d := ⟨_, rfl⟩
    obtain ⟨p, hp⟩ : ∃ p, rs (rb - rc) = p := ⟨_, rfl⟩
    obtain ⟨q, hq⟩ : ∃ q, rs (ra - rc) = q := ⟨_, rfl⟩
    have hc3 := rs_vals (ra - rb)
    have hs3 := rs_vals rc
    have htr := rs_trans (x := ra) (y := rb) (z := rc)
    rw [hc] at hc3 htr
    rw [hs] at hs3
    rw [hp, hq] at htr
    have ed : wrap64 (-d) = c := by unfold wrap64; omega
    have ed2 : IntKind.i64.wrap (-c) = d := by
      rw [← hd]
      rcases hc3 with h | h | h <;> rw [h] <;> decide
    have et : IntKind.i64.wrap (c * s) = t := by
      rw [← ht]
      rcases hc3 with h | h | h <;> rcases hs3 with h' | h' | h' <;> rw [h, h'] <;> decide
    have cl : -1 ≤ c := by omega
    have cu : c ≤ 1 := by omega
    have hx1 : decide (c < -1) = false := decide_eq_false (by omega)
    have hx2 : decide (1 < c) = false := decide_eq_false (by omega)
    have hx3 : decide (c > 1) = false := decide_eq_false (by omega)
    have HEND := Lib.hid htr
    have HD := Lib.hid (show rs (rb - ra) = d by rw [← hd, ← hc, ← rs_neg]; congr 1; grind)
    have HM := Lib.hid (show rs (ra * rc - rb * rc) = t by rw [show ra * rc - rb * rc = (ra - rb) * rc by grind, rs_mul, hc, hs, ht])
    have HA := Lib.hid (show rs (ra + rc - (rb + rc)) = c by rw [← hc]; congr 1; grind)
    have HC := Lib.hid hc
    have HS := Lib.hid (show rs (rc - mkRat 0 1) = s by rw [mk01, ← hs]; congr 1; grind)
    have HP := Lib.hid hp
    have HQ := Lib.hid hq
    have HU := Lib.hid (show rs (ra - rb - mkRat 0 1) = c by rw [mk01, ← hc]; congr 1; grind)
    have HE := Lib.hid (show (rs (ra - rb) == 0) = (c == 0) by rw [hc])
    clear hc hs ht hd hp hq hc3 hs3 htr
    go_wp2_with fail
    clear x0_0 x1_0 x2_0 x0_1 x1_1 x2_1 x0_2 x1_2 x2_2
    have h1 := hS.out.drew
    clear hS; have hS := Lib.hid h1; clear h1
    try simp only [List.append_eq, List.cons_append, List.nil_append]
    go_region_held3 (fun W => (W.cell? ⟨w.heap.size + 1 + 1, 0, none⟩ = some (.bool b2) ∧ W.cell? ⟨w.heap.size + 1 + 1, 1, none⟩ = some (.slice A2 n2 c2) ∧ W.cell? ⟨w.heap.size + 1 + 1, 2, none⟩ = some (.slice A2' n2' c2')) ∧ (W.cell? ⟨w.heap.size + 1, 0, none⟩ = some (.bool b1) ∧ W.cell? ⟨w.heap.size + 1, 1, none⟩ = some (.slice A1 n1 c1) ∧ W.cell? ⟨w.heap.size + 1, 2, none⟩ = some (.slice A1' n1' c1')) ∧ (W.cell? ⟨w.heap.size, 0, none⟩ = some (.bool b0) ∧ W.cell? ⟨w.heap.size, 1, none⟩ = some (.slice A0 n0 c0) ∧ W.cell? ⟨w.heap.size, 2, none⟩ = some (.slice A0' n0' c0'))) (first | with_reducible exact ⟨hS.out.cs3 0 rfl, hS.out.cs3 1 rfl, hS.out.cs3 2 rfl⟩ | with_reducible exact ⟨hS.out.drew.cs3 0 rfl, hS.out.drew.cs3 1 rfl, hS.out.drew.cs3 2 rfl⟩ | with_reducible exact ⟨(hS.out.alloc _).cs3 0 rfl, (hS.out.alloc _).cs3 1 rfl, (hS.out.alloc _).cs3 2 rfl⟩ | with_reducible exact ⟨((hS.out.alloc _).alloc _).cs3 0 rfl, ((hS.out.alloc _).alloc _).cs3 1 rfl, ((hS.out.alloc _).alloc _).cs3 2 rfl⟩) (first
      | (go_at_call 41; (with_reducible refine (fcmp_s hS.out (by repeat (first | exact List.mem_cons_self | apply List.mem_cons_of_mem)) (by repeat (first | exact List.mem_cons_self | apply List.mem_cons_of_mem)) (by repeat (first | exact List.mem_cons_self | apply List.mem_cons_of_mem)) (by repeat (first | exact List.mem_cons_self | apply List.mem_cons_of_mem)) (by decide) (by decide) (by first | exact rv_self _ | exact HZ0.out | exact HZ1.out | exact HZ2.out) (by first | exact rv_self _ | exact HZ0.out | exact HZ1.out | exact HZ2.out) (by first | exact HC.out | (subst_vars; exact HC.out) | exact HS.out | (subst_vars; exact HS.out) | exact HD.out | (subst_vars; exact HD.out) | exact HA.out | (subst_vars; exact HA.out) | exact HM.out | (subst_vars; exact HM.out) | exact HU.out | (subst_vars; exact HU.out) | exact HP.out | (subst_vars; exact HP.out) | exact HQ.out | (subst_vars; exact HQ.out))).mono ?_); rintro e w' ⟨rfl, h1⟩; clear hS; have hS := Lib.hid h1; clear h1)
      | (go_at_call 19; (with_reducible refine (fof_s hS.out (by decide) (by decide)).mono ?_); rintro e w' ⟨r, Ai, ni, ci, Ai', ni', ci', hr, rfl, h1⟩; clear hS; have hS := Lib.hid h1; clear h1))
    obtain ⟨x0_0, x1_0, x2_0⟩ := hS.out.cs3 0 rfl
    obtain ⟨x0_1, x1_1, x2_1⟩ := hS.out.cs3 1 rfl
    obtain ⟨x0_2, x1_2, x2_2⟩ := hS.out.cs3 2 rfl
    go_wp2_with fail
    clear x0_0 x1_0 x2_0 x0_1 x1_1 x2_1 x0_2 x1_2 x2_2
    have h1 := hS.out.drew
    clear hS; have hS := Lib.hid h1; clear h1
    try simp only [List.append_eq, List.cons_append, List.nil_append]
    go_region_held3 (fun W => (W.cell? ⟨w.heap.size + 1 + 1, 0, none⟩ = some (.bool b2) ∧ W.cell? ⟨w.heap.size + 1 + 1, 1, none⟩ = some (.slice A2 n2 c2) ∧ W.cell? ⟨w.heap.size + 1 + 1, 2, none⟩ = some (.slice A2' n2' c2')) ∧ (W.cell? ⟨w.heap.size + 1, 0, none⟩ = some (.bool b1) ∧ W.cell? ⟨w.heap.size + 1, 1, none⟩ = some (.slice A1 n1 c1) ∧ W.cell? ⟨w.heap.size + 1, 2, none⟩ = some (.slice A1' n1' c1')) ∧ (W.cell? ⟨w.heap.size, 0, none⟩ = some (.bool b0) ∧ W.cell? ⟨w.heap.size, 1, none⟩ = some (.slice A0 n0 c0) ∧ W.cell? ⟨w.heap.size, 2, none⟩ = some (.slice A0' n0' c0'))) (first | with_reducible exact ⟨hS.out.cs3 0 rfl, hS.out.cs3 1 rfl, hS.out.cs3 2 rfl⟩ | with_reducible exact ⟨hS.out.drew.cs3 0 rfl, hS.out.drew.cs3 1 rfl, hS.out.drew.cs3 2 rfl⟩ | with_reducible exact ⟨(hS.out.alloc _).cs3 0 rfl, (hS.out.alloc _).cs3 1 rfl, (hS.out.alloc _).cs3 2 rfl⟩ | with_reducible exact ⟨((hS.out.alloc _).alloc _).cs3 0 rfl, ((hS.out.alloc _).alloc _).cs3 1 rfl, ((hS.out.alloc _).alloc _).cs3 2 rfl⟩) (first
      | (go_at_call 41; (with_reducible refine (fcmp_s hS.out (by repeat (first | exact List.mem_cons_self | apply List.mem_cons_of_mem)) (by repeat (first | exact List.mem_cons_self | apply List.mem_cons_of_mem)) (by repeat (first | exact List.mem_cons_self | apply List.mem_cons_of_mem)) (by repeat (first | exact List.mem_cons_self | apply List.mem_cons_of_mem)) (by decide) (by decide) (by first | exact rv_self _ | exact HZ0.out | exact HZ1.out | exact HZ2.out) (by first | exact rv_self _ | exact HZ0.out | exact HZ1.out | exact HZ2.out) (by first | exact HC.out | (subst_vars; exact HC.out) | exact HS.out | (subst_vars; exact HS.out) | exact HD.out | (subst_vars; exact HD.out) | exact HA.out | (subst_vars; exact HA.out) | exact HM.out | (subst_vars; exact HM.out) | exact HU.out | (subst_vars; exact HU.out) | exact HP.out | (subst_vars; exact HP.out) | exact HQ.out | (subst_vars; exact HQ.out))).mono ?_); rintro e w' ⟨rfl, h1⟩; clear hS; have hS := Lib.hid h1; clear h1)
      | (go_at_call 32; (with_reducible refine (fsame_s hS.out (by repeat (first | exact List.mem_cons_self | apply List.mem_cons_of_mem)) (by repeat (first | exact List.mem_cons_self | apply List.mem_cons_of_mem)) (by repeat (first | exact List.mem_cons_self | apply List.mem_cons_of_mem)) (by repeat (first | exact List.mem_cons_self | apply List.mem_cons_of_mem)) (by decide) (by decide) (by first | exact rv_self _ | exact HZ0.out | exact HZ1.out | exact HZ2.out) (by first | exact rv_self _ | exact HZ0.out | exact HZ1.out | exact HZ2.out) HE.out).mono ?_); rintro e w' ⟨rfl, h1⟩; clear hS; have hS := Lib.hid h1; clear h1)
      | (go_at_call 38; (with_reducible refine (fadd_s hS.out (by repeat (first | exact List.mem_cons_self | apply List.mem_cons_of_mem)) (by repeat (first | exact List.mem_cons_self | apply List.mem_cons_of_mem)) (by repeat (first | exact List.mem_cons_self | apply List.mem_cons_of_mem)) (by repeat (first | exact List.mem_cons_self | apply List.mem_cons_of_mem)) (by decide) (by decide) (by first | exact rv_self _ | exact HZ0.out | exact HZ1.out | exact HZ2.out) (by first | exact rv_self _ | exact HZ0.out | exact HZ1.out | exact HZ2.out)).mono ?_); rintro e w' ⟨r, Ai, ni, ci, Ai', ni', ci', hr, rfl, h1⟩; clear hS; have hS := Lib.hid h1; clear h1)
      | (go_at_call 19; (with_reducible refine (fof_s hS.out (by decide) (by decide)).mono ?_); rintro e w' ⟨r, Ai, ni, ci, Ai', ni', ci', hr, rfl, h1⟩; clear hS; have hS := Lib.hid h1; clear h1))
    obtain ⟨x0_0, x1_0, x2_0⟩ := hS.out.cs3 0 rfl
    obtain ⟨x0_1, x1_1, x2_1⟩ := hS.out.cs3 1 rfl
    obtain ⟨x0_2, x1_2, x2_2⟩ := hS.out.cs3 2 rfl
    by_cases h1 : 0 < c
    · go_wp2_with fail
      clear x0_0 x1_0 x2_0 x0_1 x1_1 x2_1 x0_2 x1_2 x2_2
      have h1 := hS.out.drew
      clear hS; have hS := Lib.hid h1; clear h1
      try simp only [List.append_eq, List.cons_append, List.nil_append]
      go_region_held3 (fun W => (W.cell? ⟨w.heap.size + 1 + 1, 0, none⟩ = some (.bool b2) ∧ W.cell? ⟨w.heap.size + 1 + 1, 1, none⟩ = some (.slice A2 n2 c2) ∧ W.cell? ⟨w.heap.size + 1 + 1, 2, none⟩ = some (.slice A2' n2' c2')) ∧ (W.cell? ⟨w.heap.size + 1, 0, none⟩ = some (.bool b1) ∧ W.cell? ⟨w.heap.size + 1, 1, none⟩ = some (.slice A1 n1 c1) ∧ W.cell? ⟨w.heap.size + 1, 2, none⟩ = some (.slice A1' n1' c1')) ∧ (W.cell? ⟨w.heap.size, 0, none⟩ = some (.bool b0) ∧ W.cell? ⟨w.heap.size, 1, none⟩ = some (.slice A0 n0 c0) ∧ W.cell? ⟨w.heap.size, 2, none⟩ = some (.slice A0' n0' c0'))) (first | with_reducible exact ⟨hS.out.cs3 0 rfl, hS.out.cs3 1 rfl, hS.out.cs3 2 rfl⟩ | with_reducible exact ⟨hS.out.drew.cs3 0 rfl, hS.out.drew.cs3 1 rfl, hS.out.drew.cs3 2 rfl⟩ | with_reducible exact ⟨(hS.out.alloc _).cs3 0 rfl, (hS.out.alloc _).cs3 1 rfl, (hS.out.alloc _).cs3 2 rfl⟩ | with_reducible exact ⟨((hS.out.alloc _).alloc _).cs3 0 rfl, ((hS.out.alloc _).alloc _).cs3 1 rfl, ((hS.out.alloc _).alloc _).cs3 2 rfl⟩) (first
        | (go_at_call 41; (with_reducible refine (fcmp_s hS.out (by repeat (first | exact List.mem_cons_self | apply List.mem_cons_of_mem)) (by repeat (first | exact List.mem_cons_self | apply List.mem_cons_of_mem)) (by repeat (first | exact List.mem_cons_self | apply List.mem_cons_of_mem)) (by repeat (first | exact List.mem_cons_self | apply List.mem_cons_of_mem)) (by decide) (by decide) (by first | exact rv_self _ | exact HZ0.out | exact HZ1.out | exact HZ2.out) (by first | exact rv_self _ | exact HZ0.out | exact HZ1.out | exact HZ2.out) (by first | exact HC.out | (subst_vars; exact HC.out) | exact HS.out | (subst_vars; exact HS.out) | exact HD.out | (subst_vars; exact HD.out) | exact HA.out | (subst_vars; exact HA.out) | exact HM.out | (subst_vars; exact HM.out) | exact HU.out | (subst_vars; exact HU.out) | exact HP.out | (subst_vars; exact HP.out) | exact HQ.out | (subst_vars; exact HQ.out))).mono ?_); rintro e w' ⟨rfl, h1⟩; clear hS; have hS := Lib.hid h1; clear h1)
        | (go_at_call 39; (with_reducible refine (fmul_s hS.out (by repeat (first | exact List.mem_cons_self | apply List.mem_cons_of_mem)) (by repeat (first | exact List.mem_cons_self | apply List.mem_cons_of_mem)) (by repeat (first | exact List.mem_cons_self | apply List.mem_cons_of_mem)) (by repeat (first | exact List.mem_cons_self | apply List.mem_cons_of_mem)) (by decide) (by decide) (by first | exact rv_self _ | exact HZ0.out | exact HZ1.out | exact HZ2.out) (by first | exact rv_self _ | exact HZ0.out | exact HZ1.out | exact HZ2.out)).mono ?_); rintro e w' ⟨r, Ai, ni, ci, Ai', ni', ci', hr, rfl, h1⟩; clear hS; have hS := Lib.hid h1; clear h1)
        | (go_at_call 43; (with_reducible refine (fsub_s hS.out (by repeat (first | exact List.mem_cons_self | apply List.mem_cons_of_mem)) (by repeat (first | exact List.mem_cons_self | apply List.mem_cons_of_mem)) (by repeat (first | exact List.mem_cons_self | apply List.mem_cons_of_mem)) (by repeat (first | exact List.mem_cons_self | apply List.mem_cons_of_mem)) (by decide) (by decide) (by first | exact rv_self _ | exact HZ0.out | exact HZ1.out | exact HZ2.out) (by first | exact rv_self _ | exact HZ0.out | exact HZ1.out | exact HZ2.out)).mono ?_); rintro e w' ⟨r, Ai, ni, ci, Ai', ni', ci', hr, rfl, h1⟩; clear hS; have hS := Lib.hid h1; clear h1)
        | (go_at_call 19; (with_reducible refine (fof_s hS.out (by decide) (by decide)).mono ?_); rintro e w' ⟨r, Ai, ni, ci, Ai', ni', ci', hr, rfl, h1⟩; clear hS; have hS := Lib.hid h1; clear h1))
      obtain ⟨x0_0, x1_0, x2_0⟩ := hS.out.cs3 0 rfl
      obtain ⟨x0_1, x1_1, x2_1⟩ := hS.out.cs3 1 rfl
      obtain ⟨x0_2, x1_2, x2_2⟩ := hS.out.cs3 2 rfl
      go_wp2
      go_ret
      exact ⟨rfl, hS.out.st.1⟩
    · have h3 : c ≤ 0 := by omega
      clear h1
      by_cases h2 : 0 < p
      · go_wp2_with fail
        go_at_call 41
        with_reducible refine (fcmp_s (q := p) hS.out (by repeat (first | exact List.mem_cons_self | apply List.mem_cons_of_mem)) (by repeat (first | exact List.mem_cons_self | apply List.mem_cons_of_mem)) (by repeat (first | exact List.mem_cons_self | apply List.mem_cons_of_mem)) (by repeat (first | exact List.mem_cons_self | apply List.mem_cons_of_mem)) (by decide) (by decide) HZ1.out HZ2.out HP.out).mono ?_
        rintro e v4 ⟨rfl, h1⟩
        clear x0_0 x1_0 x2_0 x0_1 x1_1 x2_1 x0_2 x1_2 x2_2
        clear hS; have hS := Lib.hid h1; clear h1
        obtain ⟨x0_0, x1_0, x2_0⟩ := hS.out.cs3 0 rfl
        obtain ⟨x0_1, x1_1, x2_1⟩ := hS.out.cs3 1 rfl
        obtain ⟨x0_2, x1_2, x2_2⟩ := hS.out.cs3 2 rfl
        go_wp2_with fail
        clear x0_0 x1_0 x2_0 x0_1 x1_1 x2_1 x0_2 x1_2 x2_2
        have h1 := hS.out.drew
        clear hS; have hS := Lib.hid h1; clear h1
        try simp only [List.append_eq, List.cons_append, List.nil_append]
        go_region_held3 (fun W => (W.cell? ⟨w.heap.size + 1 + 1, 0, none⟩ = some (.bool b2) ∧ W.cell? ⟨w.heap.size + 1 + 1, 1, none⟩ = some (.slice A2 n2 c2) ∧ W.cell? ⟨w.heap.size + 1 + 1, 2, none⟩ = some (.slice A2' n2' c2')) ∧ (W.cell? ⟨w.heap.size + 1, 0, none⟩ = some (.bool b1) ∧ W.cell? ⟨w.heap.size + 1, 1, none⟩ = some (.slice A1 n1 c1) ∧ W.cell? ⟨w.heap.size + 1, 2, none⟩ = some (.slice A1' n1' c1')) ∧ (W.cell? ⟨w.heap.size, 0, none⟩ = some (.bool b0) ∧ W.cell? ⟨w.heap.size, 1, none⟩ = some (.slice A0 n0 c0) ∧ W.cell? ⟨w.heap.size, 2, none⟩ = some (.slice A0' n0' c0'))) (first | with_reducible exact ⟨hS.out.cs3 0 rfl, hS.out.cs3 1 rfl, hS.out.cs3 2 rfl⟩ | with_reducible exact ⟨hS.out.drew.cs3 0 rfl, hS.out.drew.cs3 1 rfl, hS.out.drew.cs3 2 rfl⟩ | with_reducible exact ⟨(hS.out.alloc _).cs3 0 rfl, (hS.out.alloc _).cs3 1 rfl, (hS.out.alloc _).cs3 2 rfl⟩ | with_reducible exact ⟨((hS.out.alloc _).alloc _).cs3 0 rfl, ((hS.out.alloc _).alloc _).cs3 1 rfl, ((hS.out.alloc _).alloc _).cs3 2 rfl⟩) (first
          | (go_at_call 41; (with_reducible refine (fcmp_s hS.out (by repeat (first | exact List.mem_cons_self | apply List.mem_cons_of_mem)) (by repeat (first | exact List.mem_cons_self | apply List.mem_cons_of_mem)) (by repeat (first | exact List.mem_cons_self | apply List.mem_cons_of_mem)) (by repeat (first | exact List.mem_cons_self | apply List.mem_cons_of_mem)) (by decide) (by decide) (by first | exact rv_self _ | exact HZ0.out | exact HZ1.out | exact HZ2.out) (by first | exact rv_self _ | exact HZ0.out | exact HZ1.out | exact HZ2.out) (by first | exact HC.out | (subst_vars; exact HC.out) | exact HS.out | (subst_vars; exact HS.out) | exact HD.out | (subst_vars; exact HD.out) | exact HA.out | (subst_vars; exact HA.out) | exact HM.out | (subst_vars; exact HM.out) | exact HU.out | (subst_vars; exact HU.out) | exact HP.out | (subst_vars; exact HP.out) | exact HQ.out | (subst_vars; exact HQ.out))).mono ?_); rintro e w' ⟨rfl, h1⟩; clear hS; have hS := Lib.hid h1; clear h1)
          | (go_at_call 39; (with_reducible refine (fmul_s hS.out (by repeat (first | exact List.mem_cons_self | apply List.mem_cons_of_mem)) (by repeat (first | exact List.mem_cons_self | apply List.mem_cons_of_mem)) (by repeat (first | exact List.mem_cons_self | apply List.mem_cons_of_mem)) (by repeat (first | exact List.mem_cons_self | apply List.mem_cons_of_mem)) (by decide) (by decide) (by first | exact rv_self _ | exact HZ0.out | exact HZ1.out | exact HZ2.out) (by first | exact rv_self _ | exact HZ0.out | exact HZ1.out | exact HZ2.out)).mono ?_); rintro e w' ⟨r, Ai, ni, ci, Ai', ni', ci', hr, rfl, h1⟩; clear hS; have hS := Lib.hid h1; clear h1)
          | (go_at_call 43; (with_reducible refine (fsub_s hS.out (by repeat (first | exact List.mem_cons_self | apply List.mem_cons_of_mem)) (by repeat (first | exact List.mem_cons_self | apply List.mem_cons_of_mem)) (by repeat (first | exact List.mem_cons_self | apply List.mem_cons_of_mem)) (by repeat (first | exact List.mem_cons_self | apply List.mem_cons_of_mem)) (by decide) (by decide) (by first | exact rv_self _ | exact HZ0.out | exact HZ1.out | exact HZ2.out) (by first | exact rv_self _ | exact HZ0.out | exact HZ1.out | exact HZ2.out)).mono ?_); rintro e w' ⟨r, Ai, ni, ci, Ai', ni', ci', hr, rfl, h1⟩; clear hS; have hS := Lib.hid h1; clear h1)
          | (go_at_call 19; (with_reducible refine (fof_s hS.out (by decide) (by decide)).mono ?_); rintro e w' ⟨r, Ai, ni, ci, Ai', ni', ci', hr, rfl, h1⟩; clear hS; have hS := Lib.hid h1; clear h1))
        obtain ⟨x0_0, x1_0, x2_0⟩ := hS.out.cs3 0 rfl
        obtain ⟨x0_1, x1_1, x2_1⟩ := hS.out.cs3 1 rfl
        obtain ⟨x0_2, x1_2, x2_2⟩ := hS.out.cs3 2 rfl
        go_wp2
        go_ret
        exact ⟨rfl, hS.out.st.1⟩
      · have h4 : p ≤ 0 := by omega
        clear h2
        have h5 : q ≤ 0 := HEND.out h3 h4
        go_wp2_with fail
        go_at_call 41
        with_reducible refine (fcmp_s hS.out (by repeat (first | exact List.mem_cons_self | apply List.mem_cons_of_mem)) (by repeat (first | exact List.mem_cons_self | apply List.mem_cons_of_mem)) (by repeat (first | exact List.mem_cons_self | apply List.mem_cons_of_mem)) (by repeat (first | exact List.mem_cons_self | apply List.mem_cons_of_mem)) (by decide) (by decide) HZ1.out HZ2.out HP.out).mono ?_
        rintro e v4 ⟨rfl, h1⟩
        clear x0_0 x1_0 x2_0 x0_1 x1_1 x2_1 x0_2 x1_2 x2_2
        clear hS; have hS := Lib.hid h1; clear h1
        obtain ⟨x0_0, x1_0, x2_0⟩ := hS.out.cs3 0 rfl
        obtain ⟨x0_1, x1_1, x2_1⟩ := hS.out.cs3 1 rfl
        obtain ⟨x0_2, x1_2, x2_2⟩ := hS.out.cs3 2 rfl
        go_wp2_with fail
        go_at_call 41
        with_reducible refine (fcmp_s hS.out (by repeat (first | exact List.mem_cons_self | apply List.mem_cons_of_mem)) (by repeat (first | exact List.mem_cons_self | apply List.mem_cons_of_mem)) (by repeat (first | exact List.mem_cons_self | apply List.mem_cons_of_mem)) (by repeat (first | exact List.mem_cons_self | apply List.mem_cons_of_mem)) (by decide) (by decide) HZ0.out HZ2.out HQ.out).mono ?_
        rintro e v5 ⟨rfl, h1⟩
        clear x0_0 x1_0 x2_0 x0_1 x1_1 x2_1 x0_2 x1_2 x2_2
        clear hS; have hS := Lib.hid h1; clear h1
        obtain ⟨x0_0, x1_0, x2_0⟩ := hS.out.cs3 0 rfl
        obtain ⟨x0_1, x1_1, x2_1⟩ := hS.out.cs3 1 rfl
        obtain ⟨x0_2, x1_2, x2_2⟩ := hS.out.cs3 2 rfl
        go_wp2_with fail
        clear x0_0 x1_0 x2_0 x0_1 x1_1 x2_1 x0_2 x1_2 x2_2
        have h1 := hS.out.drew
        clear hS; have hS := Lib.hid h1; clear h1
        try simp only [List.append_eq, List.cons_append, List.nil_append]
        go_region_held3 (fun W => (W.cell? ⟨w.heap.size + 1 + 1, 0, none⟩ = some (.bool b2) ∧ W.cell? ⟨w.heap.size + 1 + 1, 1, none⟩ = some (.slice A2 n2 c2) ∧ W.cell? ⟨w.heap.size + 1 + 1, 2, none⟩ = some (.slice A2' n2' c2')) ∧ (W.cell? ⟨w.heap.size + 1, 0, none⟩ = some (.bool b1) ∧ W.cell? ⟨w.heap.size + 1, 1, none⟩ = some (.slice A1 n1 c1) ∧ W.cell? ⟨w.heap.size + 1, 2, none⟩ = some (.slice A1' n1' c1')) ∧ (W.cell? ⟨w.heap.size, 0, none⟩ = some (.bool b0) ∧ W.cell? ⟨w.heap.size, 1, none⟩ = some (.slice A0 n0 c0) ∧ W.cell? ⟨w.heap.size, 2, none⟩ = some (.slice A0' n0' c0'))) (first | with_reducible exact ⟨hS.out.cs3 0 rfl, hS.out.cs3 1 rfl, hS.out.cs3 2 rfl⟩ | with_reducible exact ⟨hS.out.drew.cs3 0 rfl, hS.out.drew.cs3 1 rfl, hS.out.drew.cs3 2 rfl⟩ | with_reducible exact ⟨(hS.out.alloc _).cs3 0 rfl, (hS.out.alloc _).cs3 1 rfl, (hS.out.alloc _).cs3 2 rfl⟩ | with_reducible exact ⟨((hS.out.alloc _).alloc _).cs3 0 rfl, ((hS.out.alloc _).alloc _).cs3 1 rfl, ((hS.out.alloc _).alloc _).cs3 2 rfl⟩) (first
          | (go_at_call 41; (with_reducible refine (fcmp_s hS.out (by repeat (first | exact List.mem_cons_self | apply List.mem_cons_of_mem)) (by repeat (first | exact List.mem_cons_self | apply List.mem_cons_of_mem)) (by repeat (first | exact List.mem_cons_self | apply List.mem_cons_of_mem)) (by repeat (first | exact List.mem_cons_self | apply List.mem_cons_of_mem)) (by decide) (by decide) (by first | exact rv_self _ | exact HZ0.out | exact HZ1.out | exact HZ2.out) (by first | exact rv_self _ | exact HZ0.out | exact HZ1.out | exact HZ2.out) (by first | exact HC.out | (subst_vars; exact HC.out) | exact HS.out | (subst_vars; exact HS.out) | exact HD.out | (subst_vars; exact HD.out) | exact HA.out | (subst_vars; exact HA.out) | exact HM.out | (subst_vars; exact HM.out) | exact HU.out | (subst_vars; exact HU.out) | exact HP.out | (subst_vars; exact HP.out) | exact HQ.out | (subst_vars; exact HQ.out))).mono ?_); rintro e w' ⟨rfl, h1⟩; clear hS; have hS := Lib.hid h1; clear h1)
          | (go_at_call 39; (with_reducible refine (fmul_s hS.out (by repeat (first | exact List.mem_cons_self | apply List.mem_cons_of_mem)) (by repeat (first | exact List.mem_cons_self | apply List.mem_cons_of_mem)) (by repeat (first | exact List.mem_cons_self | apply List.mem_cons_of_mem)) (by repeat (first | exact List.mem_cons_self | apply List.mem_cons_of_mem)) (by decide) (by decide) (by first | exact rv_self _ | exact HZ0.out | exact HZ1.out | exact HZ2.out) (by first | exact rv_self _ | exact HZ0.out | exact HZ1.out | exact HZ2.out)).mono ?_); rintro e w' ⟨r, Ai, ni, ci, Ai', ni', ci', hr, rfl, h1⟩; clear hS; have hS := Lib.hid h1; clear h1)
          | (go_at_call 43; (with_reducible refine (fsub_s hS.out (by repeat (first | exact List.mem_cons_self | apply List.mem_cons_of_mem)) (by repeat (first | exact List.mem_cons_self | apply List.mem_cons_of_mem)) (by repeat (first | exact List.mem_cons_self | apply List.mem_cons_of_mem)) (by repeat (first | exact List.mem_cons_self | apply List.mem_cons_of_mem)) (by decide) (by decide) (by first | exact rv_self _ | exact HZ0.out | exact HZ1.out | exact HZ2.out) (by first | exact rv_self _ | exact HZ0.out | exact HZ1.out | exact HZ2.out)).mono ?_); rintro e w' ⟨r, Ai, ni, ci, Ai', ni', ci', hr, rfl, h1⟩; clear hS; have hS := Lib.hid h1; clear h1)
          | (go_at_call 19; (with_reducible refine (fof_s hS.out (by decide) (by decide)).mono ?_); rintro e w' ⟨r, Ai, ni, ci, Ai', ni', ci', hr, rfl, h1⟩; clear hS; have hS := Lib.hid h1; clear h1))
        obtain ⟨x0_0, x1_0, x2_0⟩ := hS.out.cs3 0 rfl
        obtain ⟨x0_1, x1_1, x2_1⟩ := hS.out.cs3 1 rfl
        obtain ⟨x0_2, x1_2, x2_2⟩ := hS.out.cs3 2 rfl
        go_wp2
        go_ret
        exact ⟨rfl, hS.out.st.1⟩
  · have hS := Lib.hid (SC.start w)
    clear h0 h1 h2 g0 g1 g2
    go_enter Tryz.func8, Tryz.ntmps8
    have h1 := (((hS.out.boxed (vs := [.bool b0, .slice A0 n0 c0, .slice A0' n0' c0']) (ty := 27) rfl rfl).boxed (vs := [.bool b1, .slice A1 n1 c1, .slice A1' n1' c1']) (ty := 27) rfl rfl).boxed (vs := [.bool b2, .slice A2 n2 c2, .slice A2' n2' c2']) (ty := 27) rfl rfl)
    try simp only [World.size_alloc] at h1
    obtain ⟨p0_0, p1_0, p2_0⟩ := h1.cs3 0 rfl
    obtain ⟨p0_1, p1_1, p2_1⟩ := h1.cs3 1 rfl
    obtain ⟨p0_2, p1_2, p2_2⟩ := h1.cs3 2 rfl
    clear h1
    go_wp2_with fail
    clear p0_0 p1_0 p2_0 p0_1 p1_1 p2_1 p0_2 p1_2 p2_2
    generalize hwa : World.alloc (World.alloc (World.alloc w _) _) _ = v1
    have h1 := (((hS.out.boxed (vs := [.bool b0, .slice A0 n0 c0, .slice A0' n0' c0']) (ty := 27) rfl rfl).boxed (vs := [.bool b1, .slice A1 n1 c1, .slice A1' n1' c1']) (ty := 27) rfl rfl).boxed (vs := [.bool b2, .slice A2 n2 c2, .slice A2' n2' c2']) (ty := 27) rfl hwa)
    simp only [World.size_alloc] at h1
    have hsz : v1.heap.size = w.heap.size + 1 + 1 + 1 := by rw [← hwa]; simp only [World.size_alloc]
    try rw [← hsz]
    clear hwa hsz
    clear hS; have hS := Lib.hid h1; clear h1
    obtain ⟨x0_0, x1_0, x2_0⟩ := hS.out.cs3 0 rfl
    obtain ⟨x0_1, x1_1, x2_1⟩ := hS.out.cs3 1 rfl
    obtain ⟨x0_2, x1_2, x2_2⟩ := hS.out.cs3 2 rfl
    go_wp2_with fail
    go_at_call 11
    with_reducible refine (long3_y hS.out ⟨by omega, by omega⟩ ⟨by omega, by omega⟩ ⟨by omega, by omega⟩ hl).mono ?_
    rintro e v2 ⟨rfl, h1⟩
    clear x0_0 x1_0 x2_0 x0_1 x1_1 x2_1 x0_2 x1_2 x2_2
    clear hS; have hS := Lib.hid h1; clear h1
    obtain ⟨x0_0, x1_0, x2_0⟩ := hS.out.cs3 0 rfl
    obtain ⟨x0_1, x1_1, x2_1⟩ := hS.out.cs3 1 rfl
    obtain ⟨x0_2, x1_2, x2_2⟩ := hS.out.cs3 2 rfl
    go_wp2_with fail
    go_at_call 12
    with_reducible refine (awake_any _).mono ?_
    rintro e v3 ⟨rfl, hb⟩
    clear x0_0 x1_0 x2_0 x0_1 x1_1 x2_1 x0_2 x1_2 x2_2
    have h1 := hS.out.below hb
    clear hb
    clear hS; have hS := Lib.hid h1; clear h1
    obtain ⟨x0_0, x1_0, x2_0⟩ := hS.out.cs3 0 rfl
    obtain ⟨x0_1, x1_1, x2_1⟩ := hS.out.cs3 1 rfl
    obtain ⟨x0_2, x1_2, x2_2⟩ := hS.out.cs3 2 rfl
    go_wp2
    go_ret
    exact ⟨rfl, hS.out.st.1⟩
set_option maxRecDepth 100000 in
theorem lifted (os : Os) (started : os.Started) (H : Type) (enc : TypeId × Value → H) :
    ReturnsInHanded {} Tryz.checked os 8 .any (fun w args => (Rows.ratOrderSpec.pre enc Tryz.prog Tryz.f8 Rows.ratOrderRow.domain false w args ∧ laidMetH Tryz.prog Rows.ratOrderRow.laid w) ∧ sizedMet enc Tryz.prog Tryz.f8 (OpenSpec.ofChange Rows.ratOrderSpec) false w args) (Rows.ratOrderSpec.post enc Tryz.prog Tryz.f8 false true false false) := by
  refine returnsInHanded_of_change_and (C := Tryz.checked) (X := fun w _ => laidMetH Tryz.prog Rows.ratOrderRow.laid w) (fun _ _ _ hh h => h.of_heap hh) own started (by kernel_rfl) Tryz.func8
    (ChangeSpec.witness_shaped (enc := enc) (C := Tryz.checked) (os := os) (X := fun w _ => laidMetH Tryz.prog Rows.ratOrderRow.laid w) false (World.laidAll Tryz.prog os Rows.ratOrderRow.laid) #[.agg #[.bool false, .slice none 0 0, .slice none 0 0], .agg #[.bool false, .slice none 0 0, .slice none 0 0], .agg #[.bool false, .slice none 0 0, .slice none 0 0]] 8 (World.laidAll_os _ _ _)
      (World.shaped_of_ZipB (by kernel_rfl) (by kernel_rfl)) (by kernel_rfl) (by kernel_rfl) (by kernel_rfl)
      (by rw [MakeChecks.laidMetH_plain _ _ _ (by kernel_rfl)]; exact laidMet_laidAll _ (by kernel_rfl) (by kernel_rfl))) ?_
  intro W base args ds gs before hval0 hW hcnd _ _ _
  have hval : ∀ (j : Nat) t v, Tryz.f8.params[j]? = some t → args[j]? = some v → Value.okWide Tryz.prog W .any base t v := hval0
  have hW' := hW
  obtain ⟨p, q, hA0, hV, hpq, hfz, hnd⟩ := hW
  have hA : DataW.TrodAll enc Tryz.prog W 0 (fun _ => true) true Tryz.f8.params.toList args.toList ds p := hA0
  rw [Tryz.params8] at hA hval
  obtain ⟨v0, vs0, d0, ds0, p0, q0, hargs, rfl, rfl, h0, r0⟩ := trodAll_cons hA
  obtain ⟨v1, vs1, d1, ds1, p1, q1, rfl, rfl, rfl, h1, r1⟩ := trodAll_cons r0
  obtain ⟨v2, vs2, d2, ds2, p2, q2, rfl, rfl, rfl, h2, r2⟩ := trodAll_cons r1
  obtain ⟨rfl, rfl, rfl⟩ := trodAll_nil r2
  obtain rfl : args = #[v0, v1, v2] := by cases args; simp_all
  obtain ⟨rfl, rfl⟩ := trodVars_none hV
  obtain ⟨b0, A0, n0, c0, xs0, A0', n0', c0', ys0, rfl, s0, sd0⟩ := open_frac (hval 0 27 v0 rfl rfl) h0
  obtain ⟨b1, A1, n1, c1, xs1, A1', n1', c1', ys1, rfl, s1, sd1⟩ := open_frac (hval 1 27 v1 rfl rfl) h1
  obtain ⟨b2, A2, n2, c2, xs2, A2', n2', c2', ys2, rfl, s2, sd2⟩ := open_frac (hval 2 27 v2 rfl rfl) h2
  refine (walk W b0 A0 n0 c0 xs0 A0' n0' c0' ys0 s0 sd0 b1 A1 n1 c1 xs1 A1' n1' c1' ys1 s1 sd1 b2 A2 n2 c2 xs2 A2' n2' c2' ys2 s2 sd2).mono fun e W' ⟨he, hb⟩ => ?_
  subst he
  exact ⟨_, rfl, Frame.close laidOut hW' rfl rfl rfl Tryz.underlying4 (fun t ht => by rw [Tryz.params8] at ht; simp at ht; rcases ht with rfl <;> exact ⟨by kernel_rfl, of_decide_eq_true (by kernel_rfl)⟩) hb⟩
theorem over : Rows.ratOrderRow.holds Tryz.pinned (OpenSpec.ofChange Rows.ratOrderSpec) :=
  OpenClaim.holds_of_wide 8 Tryz.f8 rfl rfl rfl rfl rfl rfl rfl ⟨rfl, rfl, rfl, rfl, rfl⟩ rfl rfl rfl rfl rfl (by kernel_rfl) Tryz.func8 (by kernel_rfl)
    (of_decide_eq_true (by kernel_rfl)) (by unfold Func.isWrapper; first | (rw [if_pos (by decide +kernel)]; kernel_rfl) | (rw [if_neg (by decide +kernel)]; exact ⟨rfl, rfl⟩))
    (fun os started H enc _ => lifted os started H enc)
/-- the statement -/
theorem proved : Rows.RatOrderCardSaid :=
  Claim7.holds_tied_plain_at .later [] _ _ _ _ over (fun _ h => by cases h) (by kernel_rfl) (fun _ h => by cases h) ratOrder_row_tie rfl ⟨rfl, rfl⟩ (by kernel_rfl) rfl
    (fun f fn hf hfn => by
      obtain rfl : f = 8 := Option.some.inj ((show Tryz.prog.funcNamed "tombola/tombolalaw06.RatOrder" = some 8 by kernel_rfl).symm.trans hf) |>.symm
      obtain rfl : fn = Tryz.f8 := (Option.some.inj (Tryz.func8.symm.trans hfn)).symm
      exact ⟨by kernel_rfl, (fun j t ht => by
        rw [Tryz.params8] at ht
        have hm : t ∈ [27, 27, 27] := by simpa using Array.mem_of_getElem? ht
        have hall : ([27, 27, 27].all fun u => !Tryz.prog.wantsStandIn u) = true := by kernel_rfl
        exact (show Tryz.prog.wantsStandIn t = false by simpa using List.all_eq_true.1 hall t hm))⟩)
    (by kernel_rfl)
#print axioms proved
end Go.Proofs.YtfncaflaefnjmaaGreatDoor.ratOrder
