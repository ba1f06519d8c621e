/-
  PROVED: the statement WholeOrder (tombolalaw05.WholeOrder) about the landed commit: for every input the law returns true and leaves its arguments as they were. Conditions: none beyond those that the given row itself prints.
-/
import Derived.Test.YtgahnchfefngeaaDoorCards
import Derived.Test.YtgahnchfefngeaaDoorTie
import Derived.LaidMore
import Derived.Lay
import Derived.SevenTiedAt
import Derived.Stop.Joined
import Derived.Test.YtgahnchfefngeaaDoorRows
import Derived.WalkKit
import Derived.ProofKit
import Derived.OpenShut
import Derived.RowKit3
import Derived.Test.YtgahnchfefngeaaDoorGFrame
import Derived.Test.YtgahnchfefngeaaDoorWholeAwake
namespace Go.Proofs.YtgahnchfefngeaaDoor.wholeOrder
open Go.ChangeShapes Go.WideShapes Go.ChangeAt Go.RowKit
set_option linter.unusedVariables false
set_option maxRecDepth 20000
open N
theorem own : ownKnob Tryd.prog.godebug = none := by kernel_rfl
open Go.Lib (decDigits nDigits decDigits_length nDigits_pos)
set_option maxRecDepth 100000 in
set_option maxHeartbeats 4000000 in
theorem walk (w : World) (b0 : Bool) (A0 : Option Addr) (n0 c0 : Nat) (xs0 : List Int) (h0 : Sl w A0 n0 c0 xs0) (b1 : Bool) (A1 : Option Addr) (n1 c1 : Nat) (xs1 : List Int) (h1 : Sl w A1 n1 c1 xs1) (b2 : Bool) (A2 : Option Addr) (n2 c2 : Nat) (xs2 : List Int) (h2 : Sl w A2 n2 c2 xs2) :
    Calls Tryd.prog 5 #[.agg #[.bool b0, .slice A0 n0 c0], .agg #[.bool b1, .slice A1 n1 c1], .agg #[.bool b2, .slice A2 n2 c2]] w fun e w' => e = .returned (.bool true) ∧ Below w.heap.size w w' := by
  have hc0 := h0.cap
  have hm0 := h0.max
  unfold maxLen at hm0
  have hc1 := h1.cap
  have hm1 := h1.max
  unfold maxLen at hm1
  have hc2 := h2.cap
  have hm2 := h2.max
  unfold maxLen at hm2
  by_cases hl : n0 ≤ 10 ∧ n1 ≤ 10 ∧ n2 ≤ 10
  · obtain ⟨hl0, hl1, hl2⟩ := hl
    obtain ⟨z0, hz0⟩ : ∃ z, iv b0 (val B xs0) = z := ⟨_, rfl⟩
    obtain ⟨z1, hz1⟩ : ∃ z, iv b1 (val B xs1) = z := ⟨_, rfl⟩
    obtain ⟨z2, hz2⟩ : ∃ z, iv b2 (val B xs2) = z := ⟨_, rfl⟩
    have HZ0 := Lib.hid hz0
    have HZ1 := Lib.hid hz1
    have HZ2 := Lib.hid hz2
    have hS := Lib.hid ((((SB.start w).old h0 hl0 rfl).old h1 hl1 rfl).old h2 hl2 rfl)
    clear h0 hz0 h1 hz1 h2 hz2
    go_enter Tryd.func5, Tryd.ntmps5
    have h1 := (((hS.out.boxed (b := b0) (A := A0) (n := n0) (c := c0) rfl).boxed (b := b1) (A := A1) (n := n1) (c := c1) rfl).boxed (b := b2) (A := A2) (n := n2) (c := c2) rfl)
    try simp only [World.size_alloc] at h1
    obtain ⟨p0, q0⟩ := h1.cs 0 rfl
    obtain ⟨p1, q1⟩ := h1.cs 1 rfl
    obtain ⟨p2, q2⟩ := h1.cs 2 rfl
    clear h1
    go_wp2_with fail
    clear p0 q0 p1 q1 p2 q2
    generalize hwa : World.alloc (World.alloc (World.alloc w _) _) _ = v1
    have h1 := (((hS.out.boxed rfl).boxed rfl).boxed hwa)
    simp only [World.size_alloc] at h1
    have hsz : v1.heap.size = w.heap.size + 1 + 1 + 1 := by rw [← hwa]; simp only [World.size_alloc]
    try rw [← hsz]
    clear hsz
    clear hwa
    clear hS; have hS := Lib.hid h1; clear h1
    obtain ⟨x0, y0⟩ := hS.out.cs 0 rfl
    obtain ⟨x1, y1⟩ := hS.out.cs 1 rfl
    obtain ⟨x2, y2⟩ := hS.out.cs 2 rfl
    go_wp2_with fail
    go_at_call 20
    with_reducible refine (wlong3_n hS.out _ _ _ _ _ _ _ _ _ _ _ _ hl0 hl1 hl2).mono ?_
    rintro e v2 ⟨rfl, h1⟩
    clear x0 y0 x1 y1 x2 y2
    clear hS; have hS := Lib.hid h1; clear h1
    obtain ⟨x0, y0⟩ := hS.out.cs 0 rfl
    obtain ⟨x1, y1⟩ := hS.out.cs 1 rfl
    obtain ⟨x2, y2⟩ := hS.out.cs 2 rfl
    go_wp2_with fail
    go_at_call 10
    with_reducible refine (wawake_s hS.out).mono ?_
    rintro e v3 ⟨rfl, h1⟩
    clear x0 y0 x1 y1 x2 y2
    clear hS; have hS := Lib.hid h1; clear h1
    obtain ⟨x0, y0⟩ := hS.out.cs 0 rfl
    obtain ⟨x1, y1⟩ := hS.out.cs 1 rfl
    obtain ⟨x2, y2⟩ := hS.out.cs 2 rfl
    obtain ⟨c, hc⟩ : ∃ c, sgn (z0 - z1) = c := ⟨_, rfl⟩
    obtain ⟨s, hs⟩ : ∃ s, sgn z2 = s := ⟨_, rfl⟩
    obtain ⟨t, ht⟩ : ∃ t, c * s = t := ⟨_, rfl⟩
    obtain ⟨d, hd⟩ : ∃ d, -c = d := ⟨_, rfl⟩
    obtain ⟨p, hp⟩ : ∃ p, sgn (z1 - z2) = p := ⟨_, rfl⟩
    obtain ⟨q, hq⟩ : ∃ q, sgn (z0 - z2) = q := ⟨_, rfl⟩
    have hc3 := sgn_cases (z0 - z1)
    have hs3 := sgn_cases z2
    have hp3 := sgn_cases (z1 - z2)
    have hq3 := sgn_cases (z0 - z2)
    rw [hc] at hc3
    rw [hs] at hs3
    rw [hp] at hp3
    rw [hq] at hq3
    have ed : wrap64 (-d) = c := by unfold wrap64; omega
    have et : IntKind.i64.wrap (c * s) = t := by
      have h1 : c = -1 ∨ c = 0 ∨ c = 1 := by omega
      have h2 : s = -1 ∨ s = 0 ∨ s = 1 := by omega
      rw [← ht]
      rcases h1 with h | h | h <;> rcases h2 with h' | h' | h' <;> rw [h, h'] <;> decide
    have cl : -1 ≤ c := by omega
    have cu : c ≤ 1 := by omega
    have HEND := Lib.hid (show c ≤ 0 → p ≤ 0 → q ≤ 0 by omega)
    have HX := Lib.hid (show sgn (z0 - z0) = 0 by rw [Int.sub_self]; rfl)
    have HD := Lib.hid (show sgn (z1 - z0) = d by rw [← hd, ← hc, ← sgn_n]; congr 1; omega)
    have HM := Lib.hid (show sgn (z0 * z2 - z1 * z2) = t by rw [← Int.sub_mul, sgn_mul, hc, hs, ht])
    have HA := Lib.hid (show sgn (z0 + z2 - (z1 + z2)) = c by rw [← hc]; congr 1; omega)
    have HC := Lib.hid hc
    have HS := Lib.hid hs
    have HP := Lib.hid hp
    have HQ := Lib.hid hq
    clear hc hs ht hd hp hq hc3 hs3 hp3 hq3
    go_wp2_with fail
    go_at_call 26
    with_reducible refine (cmp_q hS.out (by repeat (first | exact List.mem_cons_self | apply List.mem_cons_of_mem)) (by repeat (first | exact List.mem_cons_self | apply List.mem_cons_of_mem)) (by omega) (by omega) HZ0.out HZ1.out HC.out).mono ?_
    rintro e v4 ⟨rfl, h1⟩
    clear x0 y0 x1 y1 x2 y2
    clear hS; have hS := Lib.hid h1; clear h1
    obtain ⟨x0, y0⟩ := hS.out.cs 0 rfl
    obtain ⟨x1, y1⟩ := hS.out.cs 1 rfl
    obtain ⟨x2, y2⟩ := hS.out.cs 2 rfl
    go_wp2_with (first
      | (go_at_call 22; (with_reducible refine (add_w hS.out (by repeat (first | exact List.mem_cons_self | apply List.mem_cons_of_mem)) (by repeat (first | exact List.mem_cons_self | apply List.mem_cons_of_mem)) (by omega) (by omega) (by first | exact iv_sm _ | exact HZ0.out | exact HZ1.out | exact HZ2.out) (by first | exact iv_sm _ | exact HZ0.out | exact HZ1.out | exact HZ2.out)).mono ?_); rintro e w' ⟨r, Ai, ni, ci, hr, rfl, h1⟩; clear x0 y0 x1 y1 x2 y2; clear hS; have hS := Lib.hid h1; clear h1; obtain ⟨x0, y0⟩ := hS.out.cs 0 rfl; obtain ⟨x1, y1⟩ := hS.out.cs 1 rfl; obtain ⟨x2, y2⟩ := hS.out.cs 2 rfl)
      | (go_at_call 23; (with_reducible refine (sub_w hS.out (by repeat (first | exact List.mem_cons_self | apply List.mem_cons_of_mem)) (by repeat (first | exact List.mem_cons_self | apply List.mem_cons_of_mem)) (by omega) (by omega) (by first | exact iv_sm _ | exact HZ0.out | exact HZ1.out | exact HZ2.out) (by first | exact iv_sm _ | exact HZ0.out | exact HZ1.out | exact HZ2.out)).mono ?_); rintro e w' ⟨r, Ai, ni, ci, hr, rfl, h1⟩; clear x0 y0 x1 y1 x2 y2; clear hS; have hS := Lib.hid h1; clear h1; obtain ⟨x0, y0⟩ := hS.out.cs 0 rfl; obtain ⟨x1, y1⟩ := hS.out.cs 1 rfl; obtain ⟨x2, y2⟩ := hS.out.cs 2 rfl)
      | (go_at_call 25; (with_reducible refine (mul_w hS.out (by repeat (first | exact List.mem_cons_self | apply List.mem_cons_of_mem)) (by repeat (first | exact List.mem_cons_self | apply List.mem_cons_of_mem)) (by omega) (by omega) (by first | exact iv_sm _ | exact HZ0.out | exact HZ1.out | exact HZ2.out) (by first | exact iv_sm _ | exact HZ0.out | exact HZ1.out | exact HZ2.out)).mono ?_); rintro e w' ⟨r, Ai, ni, ci, hr, rfl, h1⟩; clear x0 y0 x1 y1 x2 y2; clear hS; have hS := Lib.hid h1; clear h1; obtain ⟨x0, y0⟩ := hS.out.cs 0 rfl; obtain ⟨x1, y1⟩ := hS.out.cs 1 rfl; obtain ⟨x2, y2⟩ := hS.out.cs 2 rfl)
      | (go_at_call 26; (with_reducible refine (cmp_q hS.out (by repeat (first | exact List.mem_cons_self | apply List.mem_cons_of_mem)) (by repeat (first | exact List.mem_cons_self | apply List.mem_cons_of_mem)) (by omega) (by omega) (by first | exact iv_sm _ | exact HZ0.out | exact HZ1.out | exact HZ2.out) (by first | exact iv_sm _ | exact HZ0.out | exact HZ1.out | exact HZ2.out) (by first | exact HC.out | exact HX.out | exact HD.out | exact HM.out | exact HA.out | exact HP.out | exact HQ.out | (subst_vars; exact HC.out) | (subst_vars; exact HX.out) | (subst_vars; exact HD.out) | (subst_vars; exact HM.out) | (subst_vars; exact HA.out) | (subst_vars; exact HP.out) | (subst_vars; exact HQ.out))).mono ?_); rintro e w' ⟨rfl, h1⟩; clear x0 y0 x1 y1 x2 y2; clear hS; have hS := Lib.hid h1; clear h1; obtain ⟨x0, y0⟩ := hS.out.cs 0 rfl; obtain ⟨x1, y1⟩ := hS.out.cs 1 rfl; obtain ⟨x2, y2⟩ := hS.out.cs 2 rfl)
      | (go_at_call 19; (with_reducible refine (sign_q hS.out (by repeat (first | exact List.mem_cons_self | apply List.mem_cons_of_mem)) (by omega) (by first | exact iv_sm _ | exact HZ0.out | exact HZ1.out | exact HZ2.out) (by first | exact HC.out | exact HS.out | (subst_vars; exact HC.out) | (subst_vars; exact HS.out))).mono ?_); rintro e w' ⟨rfl, h1⟩; clear x0 y0 x1 y1 x2 y2; clear hS; have hS := Lib.hid h1; clear h1; obtain ⟨x0, y0⟩ := hS.out.cs 0 rfl; obtain ⟨x1, y1⟩ := hS.out.cs 1 rfl; obtain ⟨x2, y2⟩ := hS.out.cs 2 rfl))
    go_wp2_with fail
    clear x0 y0 x1 y1 x2 y2
    have h1 := hS.out.drew
    clear hS; have hS := Lib.hid h1; clear h1
    try simp only [List.append_eq, List.cons_append, List.nil_append]
    go_region_held3 (fun W => (W.cell? ⟨w.heap.size + 1 + 1, 0, none⟩ = some (.bool (b2)) ∧ W.cell? ⟨w.heap.size + 1 + 1, 1, none⟩ = some (.slice A2 n2 c2)) ∧ (W.cell? ⟨w.heap.size + 1, 0, none⟩ = some (.bool (b1)) ∧ W.cell? ⟨w.heap.size + 1, 1, none⟩ = some (.slice A1 n1 c1)) ∧ (W.cell? ⟨w.heap.size, 0, none⟩ = some (.bool (b0)) ∧ W.cell? ⟨w.heap.size, 1, none⟩ = some (.slice A0 n0 c0))) (first | with_reducible exact ⟨hS.out.cs 0 rfl, hS.out.cs 1 rfl, hS.out.cs 2 rfl⟩ | with_reducible exact ⟨hS.out.drew.cs 0 rfl, hS.out.drew.cs 1 rfl, hS.out.drew.cs 2 rfl⟩ | with_reducible exact ⟨(hS.out.alloc _).cs 0 rfl, (hS.out.alloc _).cs 1 rfl, (hS.out.alloc _).cs 2 rfl⟩ | with_reducible exact ⟨((hS.out.alloc _).alloc _).cs 0 rfl, ((hS.out.alloc _).alloc _).cs 1 rfl, ((hS.out.alloc _).alloc _).cs 2 rfl⟩) (first
      | (go_at_call 22; (with_reducible refine (add_w hS.out (by repeat (first | exact List.mem_cons_self | apply List.mem_cons_of_mem)) (by repeat (first | exact List.mem_cons_self | apply List.mem_cons_of_mem)) (by omega) (by omega) (by first | exact iv_sm _ | exact HZ0.out | exact HZ1.out | exact HZ2.out) (by first | exact iv_sm _ | exact HZ0.out | exact HZ1.out | exact HZ2.out)).mono ?_); rintro e w' ⟨r, Ai, ni, ci, hr, rfl, h1⟩; clear hS; have hS := Lib.hid h1; clear h1)
      | (go_at_call 23; (with_reducible refine (sub_w hS.out (by repeat (first | exact List.mem_cons_self | apply List.mem_cons_of_mem)) (by repeat (first | exact List.mem_cons_self | apply List.mem_cons_of_mem)) (by omega) (by omega) (by first | exact iv_sm _ | exact HZ0.out | exact HZ1.out | exact HZ2.out) (by first | exact iv_sm _ | exact HZ0.out | exact HZ1.out | exact HZ2.out)).mono ?_); rintro e w' ⟨r, Ai, ni, ci, hr, rfl, h1⟩; clear hS; have hS := Lib.hid h1; clear h1)
      | (go_at_call 25; (with_reducible refine (mul_w hS.out (by repeat (first | exact List.mem_cons_self | apply List.mem_cons_of_mem)) (by repeat (first | exact List.mem_cons_self | apply List.mem_cons_of_mem)) (by omega) (by omega) (by first | exact iv_sm _ | exact HZ0.out | exact HZ1.out | exact HZ2.out) (by first | exact iv_sm _ | exact HZ0.out | exact HZ1.out | exact HZ2.out)).mono ?_); rintro e w' ⟨r, Ai, ni, ci, hr, rfl, h1⟩; clear hS; have hS := Lib.hid h1; clear h1)
      | (go_at_call 26; (with_reducible refine (cmp_q hS.out (by repeat (first | exact List.mem_cons_self | apply List.mem_cons_of_mem)) (by repeat (first | exact List.mem_cons_self | apply List.mem_cons_of_mem)) (by omega) (by omega) (by first | exact iv_sm _ | exact HZ0.out | exact HZ1.out | exact HZ2.out) (by first | exact iv_sm _ | exact HZ0.out | exact HZ1.out | exact HZ2.out) (by first | exact HC.out | exact HX.out | exact HD.out | exact HM.out | exact HA.out | exact HP.out | exact HQ.out | (subst_vars; exact HC.out) | (subst_vars; exact HX.out) | (subst_vars; exact HD.out) | (subst_vars; exact HM.out) | (subst_vars; exact HA.out) | (subst_vars; exact HP.out) | (subst_vars; exact HQ.out))).mono ?_); rintro e w' ⟨rfl, h1⟩; clear hS; have hS := Lib.hid h1; clear h1)
      | (go_at_call 19; (with_reducible refine (sign_q hS.out (by repeat (first | exact List.mem_cons_self | apply List.mem_cons_of_mem)) (by omega) (by first | exact iv_sm _ | exact HZ0.out | exact HZ1.out | exact HZ2.out) (by first | exact HC.out | exact HS.out | (subst_vars; exact HC.out) | (subst_vars; exact HS.out))).mono ?_); rintro e w' ⟨rfl, h1⟩; clear hS; have hS := Lib.hid h1; clear h1))
    by_cases h1 : 0 < c
    · obtain ⟨x0, y0⟩ := hS.out.cs 0 rfl
      obtain ⟨x1, y1⟩ := hS.out.cs 1 rfl
      obtain ⟨x2, y2⟩ := hS.out.cs 2 rfl
      go_wp2
      go_ret
      exact ⟨rfl, hS.out.st.1⟩
    · have h3 : c ≤ 0 := by omega
      clear h1
      by_cases h2 : 0 < p
      · obtain ⟨x0, y0⟩ := hS.out.cs 0 rfl
        obtain ⟨x1, y1⟩ := hS.out.cs 1 rfl
        obtain ⟨x2, y2⟩ := hS.out.cs 2 rfl
        go_wp2_with (first
          | (go_at_call 26; (with_reducible refine (cmp_q hS.out (by repeat (first | exact List.mem_cons_self | apply List.mem_cons_of_mem)) (by repeat (first | exact List.mem_cons_self | apply List.mem_cons_of_mem)) (by omega) (by omega) (by first | exact iv_sm _ | exact HZ0.out | exact HZ1.out | exact HZ2.out) (by first | exact iv_sm _ | exact HZ0.out | exact HZ1.out | exact HZ2.out) (by first | exact HC.out | exact HX.out | exact HD.out | exact HM.out | exact HA.out | exact HP.out | exact HQ.out | (subst_vars; exact HC.out) | (subst_vars; exact HX.out) | (subst_vars; exact HD.out) | (subst_vars; exact HM.out) | (subst_vars; exact HA.out) | (subst_vars; exact HP.out) | (subst_vars; exact HQ.out))).mono ?_); rintro e w' ⟨rfl, h1⟩; clear x0 y0 x1 y1 x2 y2; clear hS; have hS := Lib.hid h1; clear h1; obtain ⟨x0, y0⟩ := hS.out.cs 0 rfl; obtain ⟨x1, y1⟩ := hS.out.cs 1 rfl; obtain ⟨x2, y2⟩ := hS.out.cs 2 rfl))
        go_ret
        exact ⟨rfl, hS.out.st.1⟩
      · have h4 : p ≤ 0 := by omega
        clear h2
        have h5 : q ≤ 0 := HEND.out h3 h4
        obtain ⟨x0, y0⟩ := hS.out.cs 0 rfl
        obtain ⟨x1, y1⟩ := hS.out.cs 1 rfl
        obtain ⟨x2, y2⟩ := hS.out.cs 2 rfl
        go_wp2_with (first
          | (go_at_call 26; (with_reducible refine (cmp_q hS.out (by repeat (first | exact List.mem_cons_self | apply List.mem_cons_of_mem)) (by repeat (first | exact List.mem_cons_self | apply List.mem_cons_of_mem)) (by omega) (by omega) (by first | exact iv_sm _ | exact HZ0.out | exact HZ1.out | exact HZ2.out) (by first | exact iv_sm _ | exact HZ0.out | exact HZ1.out | exact HZ2.out) (by first | exact HC.out | exact HX.out | exact HD.out | exact HM.out | exact HA.out | exact HP.out | exact HQ.out | (subst_vars; exact HC.out) | (subst_vars; exact HX.out) | (subst_vars; exact HD.out) | (subst_vars; exact HM.out) | (subst_vars; exact HA.out) | (subst_vars; exact HP.out) | (subst_vars; exact HQ.out))).mono ?_); rintro e w' ⟨rfl, h1⟩; clear x0 y0 x1 y1 x2 y2; clear hS; have hS := Lib.hid h1; clear h1; obtain ⟨x0, y0⟩ := hS.out.cs 0 rfl; obtain ⟨x1, y1⟩ := hS.out.cs 1 rfl; obtain ⟨x2, y2⟩ := hS.out.cs 2 rfl))
        go_ret
        exact ⟨rfl, hS.out.st.1⟩
  · have hS := Lib.hid (SB.start w)
    clear h0 h1 h2
    go_enter Tryd.func5, Tryd.ntmps5
    have h1 := (((hS.out.boxed (b := b0) (A := A0) (n := n0) (c := c0) rfl).boxed (b := b1) (A := A1) (n := n1) (c := c1) rfl).boxed (b := b2) (A := A2) (n := n2) (c := c2) rfl)
    try simp only [World.size_alloc] at h1
    obtain ⟨p0, q0⟩ := h1.cs 0 rfl
    obtain ⟨p1, q1⟩ := h1.cs 1 rfl
    obtain ⟨p2, q2⟩ := h1.cs 2 rfl
    clear h1
    go_wp2_with fail
    clear p0 q0 p1 q1 p2 q2
    generalize hwa : World.alloc (World.alloc (World.alloc w _) _) _ = v1
    have h1 := (((hS.out.boxed rfl).boxed rfl).boxed hwa)
    simp only [World.size_alloc] at h1
    have hsz : v1.heap.size = w.heap.size + 1 + 1 + 1 := by rw [← hwa]; simp only [World.size_alloc]
    try rw [← hsz]
    clear hsz
    clear hwa
    clear hS; have hS := Lib.hid h1; clear h1
    obtain ⟨x0, y0⟩ := hS.out.cs 0 rfl
    obtain ⟨x1, y1⟩ := hS.out.cs 1 rfl
    obtain ⟨x2, y2⟩ := hS.out.cs 2 rfl
    go_wp2_with fail
    go_at_call 20
    with_reducible refine (wlong3_y hS.out _ _ _ _ _ _ _ _ _ _ _ _ (by omega) (by omega) (by omega) hl).mono ?_
    rintro e v2 ⟨rfl, h1⟩
    clear x0 y0 x1 y1 x2 y2
    clear hS; have hS := Lib.hid h1; clear h1
    obtain ⟨x0, y0⟩ := hS.out.cs 0 rfl
    obtain ⟨x1, y1⟩ := hS.out.cs 1 rfl
    obtain ⟨x2, y2⟩ := hS.out.cs 2 rfl
    go_wp2_with fail
    go_at_call 10
    with_reducible refine (wawake_s hS.out).mono ?_
    rintro e v3 ⟨rfl, h1⟩
    clear x0 y0 x1 y1 x2 y2
    clear hS; have hS := Lib.hid h1; clear h1
    obtain ⟨x0, y0⟩ := hS.out.cs 0 rfl
    obtain ⟨x1, y1⟩ := hS.out.cs 1 rfl
    obtain ⟨x2, y2⟩ := hS.out.cs 2 rfl
    go_wp2
    go_ret
    exact ⟨rfl, hS.out.st.1⟩
set_option maxRecDepth 100000 in
theorem lifted (os : Os) (started : os.Started) (H : Type) (enc : TypeId × Value → H) :
    ReturnsInHanded {} Tryd.checked os 5 .any (fun w args => (Rows.wholeOrderSpec.pre enc Tryd.prog Tryd.f5 Rows.wholeOrderRow.domain false w args ∧ laidMetH Tryd.prog Rows.wholeOrderRow.laid w) ∧ sizedMet enc Tryd.prog Tryd.f5 (OpenSpec.ofChange Rows.wholeOrderSpec) false w args) (Rows.wholeOrderSpec.post enc Tryd.prog Tryd.f5 false true false false) := by
  refine returnsInHanded_of_change_and (C := Tryd.checked) (X := fun w _ => laidMetH Tryd.prog Rows.wholeOrderRow.laid w) (fun _ _ _ hh h => h.of_heap hh) own started (by kernel_rfl) Tryd.func5
    (ChangeSpec.witness_shaped (enc := enc) (C := Tryd.checked) (os := os) (X := fun w _ => laidMetH Tryd.prog Rows.wholeOrderRow.laid w) false (World.laidAll Tryd.prog os Rows.wholeOrderRow.laid) #[.agg #[.bool false, .slice none 0 0], .agg #[.bool false, .slice none 0 0], .agg #[.bool false, .slice none 0 0]] 8 (World.laidAll_os _ _ _)
      (World.shaped_of_ZipB (by kernel_rfl) (by kernel_rfl)) (by kernel_rfl) (by kernel_rfl) (by kernel_rfl)
      (by rw [MakeChecks.laidMetH_plain _ _ _ (by kernel_rfl)]; exact laidMet_laidAll _ (by kernel_rfl) (by kernel_rfl))) ?_
  intro W base args ds gs before hval0 hW hcnd _ _ _
  have hval : ∀ (j : Nat) t v, Tryd.f5.params[j]? = some t → args[j]? = some v → Value.okWide Tryd.prog W .any base t v := hval0
  have hW' := hW
  obtain ⟨p, q, hA0, hV, hpq, hfz, hnd⟩ := hW
  have hA : DataW.TrodAll enc Tryd.prog W 0 (fun _ => true) true Tryd.f5.params.toList args.toList ds p := hA0
  rw [Tryd.params5] at hA hval
  obtain ⟨v0, vs0, d0, ds0, p0, q0, hargs, rfl, rfl, h0, r0⟩ := trodAll_cons hA
  obtain ⟨v1, vs1, d1, ds1, p1, q1, rfl, rfl, rfl, h1, r1⟩ := trodAll_cons r0
  obtain ⟨v2, vs2, d2, ds2, p2, q2, rfl, rfl, rfl, h2, r2⟩ := trodAll_cons r1
  obtain ⟨rfl, rfl, rfl⟩ := trodAll_nil r2
  obtain rfl : args = #[v0, v1, v2] := by cases args; simp_all
  obtain ⟨rfl, rfl⟩ := trodVars_none hV
  obtain ⟨b0, A0, n0, c0, xs0, rfl, s0⟩ := open_whole (hval 0 26 v0 rfl rfl) h0
  obtain ⟨b1, A1, n1, c1, xs1, rfl, s1⟩ := open_whole (hval 1 26 v1 rfl rfl) h1
  obtain ⟨b2, A2, n2, c2, xs2, rfl, s2⟩ := open_whole (hval 2 26 v2 rfl rfl) h2
  refine (walk W b0 A0 n0 c0 xs0 s0 b1 A1 n1 c1 xs1 s1 b2 A2 n2 c2 xs2 s2).mono fun e W' ⟨he, hb⟩ => ?_
  subst he
  exact ⟨_, rfl, Frame.close laidOut hW' rfl rfl rfl Tryd.underlying4 (fun t ht => by rw [Tryd.params5] at ht; simp at ht; rcases ht with rfl <;> exact ⟨by kernel_rfl, of_decide_eq_true (by kernel_rfl)⟩) hb⟩
theorem over : Rows.wholeOrderRow.holds Tryd.pinned (OpenSpec.ofChange Rows.wholeOrderSpec) :=
  OpenClaim.holds_of_wide 5 Tryd.f5 rfl rfl rfl rfl rfl rfl rfl ⟨rfl, rfl, rfl, rfl, rfl⟩ rfl rfl rfl rfl rfl (by kernel_rfl) Tryd.func5 (by kernel_rfl)
    (of_decide_eq_true (by kernel_rfl)) (by unfold Func.isWrapper; first | (rw [if_pos (by decide +kernel)]; kernel_rfl) | (rw [if_neg (by decide +kernel)]; exact ⟨rfl, rfl⟩))
    (fun os started H enc _ => lifted os started H enc)
/-- the statement -/
theorem proved : Rows.WholeOrderCardSaid :=
  Claim7.holds_tied_plain_at .later [] _ _ _ _ over (fun _ h => by cases h) (by kernel_rfl) (fun _ h => by cases h) wholeOrder_row_tie rfl ⟨rfl, rfl⟩ (by kernel_rfl) rfl
    (fun f fn hf hfn => by
      obtain rfl : f = 5 := Option.some.inj ((show Tryd.prog.funcNamed "tombola/tombolalaw05.WholeOrder" = some 5 by kernel_rfl).symm.trans hf) |>.symm
      obtain rfl : fn = Tryd.f5 := (Option.some.inj (Tryd.func5.symm.trans hfn)).symm
      exact ⟨by kernel_rfl, (fun j t ht => by
        rw [Tryd.params5] at ht
        have hm : t ∈ [26, 26, 26] := by simpa using Array.mem_of_getElem? ht
        have hall : ([26, 26, 26].all fun u => !Tryd.prog.wantsStandIn u) = true := by kernel_rfl
        exact (show Tryd.prog.wantsStandIn t = false by simpa using List.all_eq_true.1 hall t hm))⟩)
    (by kernel_rfl)
#print axioms proved
end Go.Proofs.YtgahnchfefngeaaDoor.wholeOrder
