/-
  PROVED: the statement WholeDivides (tombolalaw05.WholeDivides) about the landed commit: for every input the law returns true and leaves its arguments as they were. Conditions: none beyond those that the given row itself prints.
-/
import Derived.Test.YtgahnchfefngeaaDoorCards
import Derived.Test.YtgahnchfefngeaaDoorTie
import Derived.LaidMore
import Derived.Lay
import Derived.SevenTiedAt
import Derived.Stop.Joined
import Derived.Test.YtgahnchfefngeaaDoorRows
import Derived.WalkKit
import Derived.ProofKit
import Derived.OpenShut
import Derived.RowKit3
import Derived.Test.YtgahnchfefngeaaDoorGFrame
import Derived.Test.YtgahnchfefngeaaDoorWholeAwake
import Derived.Test.YtgahnchfefngeaaDoorRegSym
namespace Go.Proofs.YtgahnchfefngeaaDoor.wholeDivides
open Go.ChangeShapes Go.WideShapes Go.ChangeAt Go.RowKit
set_option linter.unusedVariables false
set_option maxRecDepth 20000
open N
theorem own : ownKnob Tryd.prog.godebug = none := by kernel_rfl
open Go.Lib (decDigits nDigits decDigits_length nDigits_pos)
theorem emod_mg (x : Int) {y : Int} (h : y ≠ 0) : 0 ≤ x % y ∧ x % y < mg y := by
  refine ⟨Int.emod_nonneg _ h, ?_⟩
  by_cases h0 : 0 < y
  · rw [mg_f (by omega)]; exact Int.emod_lt_of_pos _ h0
  · have h1 := Int.emod_lt_of_pos x (show 0 < -y by omega)
    rw [Int.emod_neg] at h1
    rw [mg_t (by omega)]
    exact h1
set_option maxRecDepth 100000 in
set_option maxHeartbeats 4000000 in
theorem walk (w : World) (b0 : Bool) (A0 : Option Addr) (n0 c0 : Nat) (xs0 : List Int) (h0 : Sl w A0 n0 c0 xs0) (b1 : Bool) (A1 : Option Addr) (n1 c1 : Nat) (xs1 : List Int) (h1 : Sl w A1 n1 c1 xs1) (b2 : Bool) (A2 : Option Addr) (n2 c2 : Nat) (xs2 : List Int) (h2 : Sl w A2 n2 c2 xs2) :
    Calls Tryd.prog 6 #[.agg #[.bool b0, .slice A0 n0 c0], .agg #[.bool b1, .slice A1 n1 c1], .agg #[.bool b2, .slice A2 n2 c2]] w fun e w' => e = .returned (.bool true) ∧ Below w.heap.size w w' := by
  have hc0 := h0.cap
  have hm0 := h0.max
  unfold maxLen at hm0
  have hc1 := h1.cap
  have hm1 := h1.max
  unfold maxLen at hm1
  have hc2 := h2.cap
  have hm2 := h2.max
  unfold maxLen at hm2
  by_cases hl : n0 ≤ 10 ∧ n1 ≤ 10 ∧ n2 ≤ 10
  · obtain ⟨hl0, hl1, hl2⟩ := hl
    obtain ⟨z0, hz0⟩ : ∃ z, iv b0 (val B xs0) = z := ⟨_, rfl⟩
    obtain ⟨z1, hz1⟩ : ∃ z, iv b1 (val B xs1) = z := ⟨_, rfl⟩
    obtain ⟨z2, hz2⟩ : ∃ z, iv b2 (val B xs2) = z := ⟨_, rfl⟩
    have HV1 := Lib.hid h1.nn0
    have HZ0 := Lib.hid hz0
    have HZ1 := Lib.hid hz1
    have HZ2 := Lib.hid hz2
    have hS := Lib.hid ((((SB.start w).old h0 hl0 rfl).old h1 hl1 rfl).old h2 hl2 rfl)
    clear h0 hz0 h1 hz1 h2 hz2
    go_enter Tryd.func6, Tryd.ntmps6
    have h1 := (((hS.out.boxed (b := b0) (A := A0) (n := n0) (c := c0) rfl).boxed (b := b1) (A := A1) (n := n1) (c := c1) rfl).boxed (b := b2) (A := A2) (n := n2) (c := c2) rfl)
    try simp only [World.size_alloc] at h1
    obtain ⟨p0, q0⟩ := h1.cs 0 rfl
    obtain ⟨p1, q1⟩ := h1.cs 1 rfl
    obtain ⟨p2, q2⟩ := h1.cs 2 rfl
    clear h1
    go_wp2_with fail
    clear p0 q0 p1 q1 p2 q2
    generalize hwa : World.alloc (World.alloc (World.alloc w _) _) _ = v1
    have h1 := (((hS.out.boxed rfl).boxed rfl).boxed hwa)
    simp only [World.size_alloc] at h1
    have hsz : v1.heap.size = w.heap.size + 1 + 1 + 1 := by rw [← hwa]; simp only [World.size_alloc]
    try rw [← hsz]
    clear hsz
    clear hwa
    clear hS; have hS := Lib.hid h1; clear h1
    obtain ⟨x0, y0⟩ := hS.out.cs 0 rfl
    obtain ⟨x1, y1⟩ := hS.out.cs 1 rfl
    obtain ⟨x2, y2⟩ := hS.out.cs 2 rfl
    go_wp2_with fail
    go_at_call 20
    with_reducible refine (wlong3_n hS.out _ _ _ _ _ _ _ _ _ _ _ _ hl0 hl1 hl2).mono ?_
    rintro e v2 ⟨rfl, h1⟩
    clear x0 y0 x1 y1 x2 y2
    clear hS; have hS := Lib.hid h1; clear h1
    obtain ⟨x0, y0⟩ := hS.out.cs 0 rfl
    obtain ⟨x1, y1⟩ := hS.out.cs 1 rfl
    obtain ⟨x2, y2⟩ := hS.out.cs 2 rfl
    go_wp2_with fail
    go_at_call 10
    with_reducible refine (wawake_s hS.out).mono ?_
    rintro e v3 ⟨rfl, h1⟩
    clear x0 y0 x1 y1 x2 y2
    clear hS; have hS := Lib.hid h1; clear h1
    obtain ⟨x0, y0⟩ := hS.out.cs 0 rfl
    obtain ⟨x1, y1⟩ := hS.out.cs 1 rfl
    obtain ⟨x2, y2⟩ := hS.out.cs 2 rfl
    have HY0 := Lib.hid (sgn_cases z1)
    by_cases hz : z1 = 0
    · have HS1 := Lib.hid (sgn_zero hz)
      have HZZ := Lib.hid (show iv b1 (val B xs1) = 0 from HZ1.out.trans hz)
      clear hz HY0
      go_wp2_with fail
      go_at_call 15
      with_reducible refine (div_x hS.out (by repeat (first | exact List.mem_cons_self | apply List.mem_cons_of_mem)) (by repeat (first | exact List.mem_cons_self | apply List.mem_cons_of_mem)) (by omega) (by omega) HZZ.out).mono ?_
      rintro e v4 ⟨Aq, nq, cq, Ar, nr, cr, rfl, h1⟩
      clear x0 y0 x1 y1 x2 y2
      clear hS; have hS := Lib.hid h1; clear h1
      obtain ⟨x0, y0⟩ := hS.out.cs 0 rfl
      obtain ⟨x1, y1⟩ := hS.out.cs 1 rfl
      obtain ⟨x2, y2⟩ := hS.out.cs 2 rfl
      have h1 := ((hS.out.boxed (b := sg 0) (A := Aq) (n := nq) (c := cq) rfl).boxed (b := sg 0) (A := Ar) (n := nr) (c := cr) rfl)
      try simp only [World.size_alloc] at h1
      obtain ⟨p0, q0⟩ := h1.cs 0 rfl
      obtain ⟨p1, q1⟩ := h1.cs 1 rfl
      obtain ⟨p2, q2⟩ := h1.cs 2 rfl
      obtain ⟨p3, q3⟩ := h1.cs 3 rfl
      obtain ⟨p4, q4⟩ := h1.cs 4 rfl
      clear h1
      go_wp2_with fail
      clear x0 y0 x1 y1 x2 y2
      clear p0 q0 p1 q1 p2 q2 p3 q3 p4 q4
      generalize hwa : World.alloc (World.alloc v4 _) _ = v5
      have h1 := ((hS.out.boxed rfl).boxed hwa)
      simp only [World.size_alloc] at h1
      have hsz : v5.heap.size = v4.heap.size + 1 + 1 := by rw [← hwa]; simp only [World.size_alloc]
      try rw [← hsz]
      clear hsz
      have HL1 := Lib.hid (hS.out.lt_ 0 rfl)
      have HL2 := Lib.hid (hS.out.lt_ 1 rfl)
      have HL3 := Lib.hid (hS.out.lt_ 2 rfl)
      clear hwa
      clear hS; have hS := Lib.hid h1; clear h1
      obtain ⟨x0, y0⟩ := hS.out.cs 0 rfl
      obtain ⟨x1, y1⟩ := hS.out.cs 1 rfl
      obtain ⟨x2, y2⟩ := hS.out.cs 2 rfl
      obtain ⟨x3, y3⟩ := hS.out.cs 3 rfl
      obtain ⟨x4, y4⟩ := hS.out.cs 4 rfl
      go_wp2_with fail
      go_at_call 19
      with_reducible refine (sign_q hS.out (by repeat (first | exact List.mem_cons_self | apply List.mem_cons_of_mem)) (by omega) HZ1.out HS1.out).mono ?_
      rintro e v6 ⟨rfl, h1⟩
      clear x0 y0 x1 y1 x2 y2 x3 y3 x4 y4
      clear hS; have hS := Lib.hid h1; clear h1
      obtain ⟨x0, y0⟩ := hS.out.cs 0 rfl
      obtain ⟨x1, y1⟩ := hS.out.cs 1 rfl
      obtain ⟨x2, y2⟩ := hS.out.cs 2 rfl
      obtain ⟨x3, y3⟩ := hS.out.cs 3 rfl
      obtain ⟨x4, y4⟩ := hS.out.cs 4 rfl
      go_wp2_with (first
        | (go_at_call 21; (with_reducible refine (same_z hS.out (by repeat (first | exact List.mem_cons_self | apply List.mem_cons_of_mem)) (by first | rfl | omega)).mono ?_); rintro e w' ⟨rfl, h1⟩; clear x0 y0 x1 y1 x2 y2 x3 y3 x4 y4; clear hS; have hS := Lib.hid h1; clear h1; obtain ⟨x0, y0⟩ := hS.out.cs 0 rfl; obtain ⟨x1, y1⟩ := hS.out.cs 1 rfl; obtain ⟨x2, y2⟩ := hS.out.cs 2 rfl; obtain ⟨x3, y3⟩ := hS.out.cs 3 rfl; obtain ⟨x4, y4⟩ := hS.out.cs 4 rfl))
      go_ret
      exact ⟨rfl, hS.out.st.1⟩
    · obtain ⟨s1, hs1⟩ : ∃ s, sgn z1 = s := ⟨_, rfl⟩
      have hs0 : (s1 == 0) = false := by
        rw [← hs1, beq_eq_false_iff_ne]
        rcases HY0.out with ⟨e1, e2⟩ | ⟨e1, e2⟩ | ⟨e1, e2⟩ <;> omega
      have HS1 := Lib.hid hs1
      have HNZ := Lib.hid hz
      clear hs1 hz HY0
      go_wp2_with fail
      go_at_call 15
      with_reducible refine (div_w hS.out (by repeat (first | exact List.mem_cons_self | apply List.mem_cons_of_mem)) (by repeat (first | exact List.mem_cons_self | apply List.mem_cons_of_mem)) (by omega) (by omega) HZ0.out HZ1.out HNZ.out).mono ?_
      rintro e v4 ⟨Q, R, Aq, nq, cq, Ar, nr, cr, hQ, hR, rfl, h1⟩
      clear x0 y0 x1 y1 x2 y2
      obtain ⟨hR0, hRB⟩ := emod_mg z0 HNZ.out
      rw [hR] at hR0 hRB
      have HRB := Lib.hid hRB
      clear hRB
      rw [sg_f hR0]
      have HC := Lib.hid (show mg R < val B xs1 by rw [mg_f hR0]; have h2 := HRB.out; rw [← HZ1.out, mg_iv HV1.out] at h2; exact h2)
      have HE1 := Lib.hid (show Q * z1 + R = z0 by rw [← hQ, ← hR]; exact Int.ediv_mul_add_emod z0 z1)
      have HR0 := Lib.hid hR0
      have HRF := Lib.hid (show iv false (mg R) = R by rw [iv_f, mg_f hR0])
      have HQ := Lib.hid hQ
      have HR := Lib.hid hR
      clear hR0 hQ hR
      clear hS; have hS := Lib.hid h1; clear h1
      obtain ⟨x0, y0⟩ := hS.out.cs 0 rfl
      obtain ⟨x1, y1⟩ := hS.out.cs 1 rfl
      obtain ⟨x2, y2⟩ := hS.out.cs 2 rfl
      have h1 := ((hS.out.boxed (b := sg Q) (A := Aq) (n := nq) (c := cq) rfl).boxed (b := false) (A := Ar) (n := nr) (c := cr) rfl)
      try simp only [World.size_alloc] at h1
      obtain ⟨p0, q0⟩ := h1.cs 0 rfl
      obtain ⟨p1, q1⟩ := h1.cs 1 rfl
      obtain ⟨p2, q2⟩ := h1.cs 2 rfl
      obtain ⟨p3, q3⟩ := h1.cs 3 rfl
      obtain ⟨p4, q4⟩ := h1.cs 4 rfl
      clear h1
      go_wp2_with fail
      clear x0 y0 x1 y1 x2 y2
      clear p0 q0 p1 q1 p2 q2 p3 q3 p4 q4
      generalize hwa : World.alloc (World.alloc v4 _) _ = v5
      have h1 := ((hS.out.boxed rfl).boxed hwa)
      simp only [World.size_alloc] at h1
      have hsz : v5.heap.size = v4.heap.size + 1 + 1 := by rw [← hwa]; simp only [World.size_alloc]
      try rw [← hsz]
      clear hsz
      have HL1 := Lib.hid (hS.out.lt_ 0 rfl)
      have HL2 := Lib.hid (hS.out.lt_ 1 rfl)
      have HL3 := Lib.hid (hS.out.lt_ 2 rfl)
      clear hwa
      clear hS; have hS := Lib.hid h1; clear h1
      obtain ⟨x0, y0⟩ := hS.out.cs 0 rfl
      obtain ⟨x1, y1⟩ := hS.out.cs 1 rfl
      obtain ⟨x2, y2⟩ := hS.out.cs 2 rfl
      obtain ⟨x3, y3⟩ := hS.out.cs 3 rfl
      obtain ⟨x4, y4⟩ := hS.out.cs 4 rfl
      go_wp2_with fail
      go_at_call 19
      with_reducible refine (sign_q hS.out (by repeat (first | exact List.mem_cons_self | apply List.mem_cons_of_mem)) (by omega) HZ1.out HS1.out).mono ?_
      rintro e v6 ⟨rfl, h1⟩
      clear x0 y0 x1 y1 x2 y2 x3 y3 x4 y4
      clear hS; have hS := Lib.hid h1; clear h1
      obtain ⟨x0, y0⟩ := hS.out.cs 0 rfl
      obtain ⟨x1, y1⟩ := hS.out.cs 1 rfl
      obtain ⟨x2, y2⟩ := hS.out.cs 2 rfl
      obtain ⟨x3, y3⟩ := hS.out.cs 3 rfl
      obtain ⟨x4, y4⟩ := hS.out.cs 4 rfl
      go_wp2_with fail
      clear x0 y0 x1 y1 x2 y2 x3 y3 x4 y4
      have h1 := hS.out.drew
      clear hS; have hS := Lib.hid h1; clear h1
      try simp only [List.append_eq, List.cons_append, List.nil_append]
      go_region_held3 (fun W => (W.cell? ⟨v4.heap.size + 1, 0, none⟩ = some (.bool (false)) ∧ W.cell? ⟨v4.heap.size + 1, 1, none⟩ = some (.slice Ar nr cr)) ∧ (W.cell? ⟨v4.heap.size, 0, none⟩ = some (.bool (sg Q)) ∧ W.cell? ⟨v4.heap.size, 1, none⟩ = some (.slice Aq nq cq)) ∧ (W.cell? ⟨w.heap.size + 1 + 1, 0, none⟩ = some (.bool (b2)) ∧ W.cell? ⟨w.heap.size + 1 + 1, 1, none⟩ = some (.slice A2 n2 c2)) ∧ (W.cell? ⟨w.heap.size + 1, 0, none⟩ = some (.bool (b1)) ∧ W.cell? ⟨w.heap.size + 1, 1, none⟩ = some (.slice A1 n1 c1)) ∧ (W.cell? ⟨w.heap.size, 0, none⟩ = some (.bool (b0)) ∧ W.cell? ⟨w.heap.size, 1, none⟩ = some (.slice A0 n0 c0))) (first | with_reducible exact ⟨hS.out.cs 0 rfl, hS.out.cs 1 rfl, hS.out.cs 2 rfl, hS.out.cs 3 rfl, hS.out.cs 4 rfl⟩ | with_reducible exact ⟨hS.out.drew.cs 0 rfl, hS.out.drew.cs 1 rfl, hS.out.drew.cs 2 rfl, hS.out.drew.cs 3 rfl, hS.out.drew.cs 4 rfl⟩ | with_reducible exact ⟨(hS.out.alloc _).cs 0 rfl, (hS.out.alloc _).cs 1 rfl, (hS.out.alloc _).cs 2 rfl, (hS.out.alloc _).cs 3 rfl, (hS.out.alloc _).cs 4 rfl⟩ | with_reducible exact ⟨((hS.out.alloc _).alloc _).cs 0 rfl, ((hS.out.alloc _).alloc _).cs 1 rfl, ((hS.out.alloc _).alloc _).cs 2 rfl, ((hS.out.alloc _).alloc _).cs 3 rfl, ((hS.out.alloc _).alloc _).cs 4 rfl⟩) (first
        | (go_at_call 25; (with_reducible refine (mul_w hS.out (by repeat (first | exact List.mem_cons_self | apply List.mem_cons_of_mem)) (by repeat (first | exact List.mem_cons_self | apply List.mem_cons_of_mem)) (by omega) (by omega) (by first | exact iv_sm _ | exact HZ0.out | exact HZ1.out | exact HZ2.out) (by first | exact iv_sm _ | exact HZ0.out | exact HZ1.out | exact HZ2.out)).mono ?_); rintro e w' ⟨r, Ai, ni, ci, hr, rfl, h1⟩; clear hS; have hS := Lib.hid h1; clear h1)
        | (go_at_call 22; (with_reducible refine (add_w hS.out (by repeat (first | exact List.mem_cons_self | apply List.mem_cons_of_mem)) (by repeat (first | exact List.mem_cons_self | apply List.mem_cons_of_mem)) (by omega) (by omega) (by first | exact iv_sm _ | exact HZ0.out | exact HZ1.out | exact HZ2.out | exact HRF.out) (by first | exact iv_sm _ | exact HZ0.out | exact HZ1.out | exact HZ2.out | exact HRF.out)).mono ?_); rintro e w' ⟨r, Ai, ni, ci, hr, rfl, h1⟩; clear hS; have hS := Lib.hid h1; clear h1)
        | (go_at_call 14; (with_reducible refine (make_w hS.out (by repeat (first | exact List.mem_cons_self | apply List.mem_cons_of_mem)) (by omega) (by first | exact iv_sm _ | exact HZ0.out | exact HZ1.out | exact HZ2.out)).mono ?_); rintro e w' ⟨Ai, ni, ci, rfl, h1⟩; clear hS; have hS := Lib.hid h1; clear h1)
        | (go_at_call 21; (with_reducible refine (same_v hS.out (by repeat (first | exact List.mem_cons_self | apply List.mem_cons_of_mem)) (by repeat (first | exact List.mem_cons_self | apply List.mem_cons_of_mem)) (by first | rfl | omega | (subst_vars; first | rfl | exact HE1.out))).mono ?_); rintro e w' ⟨rfl, h1⟩; clear hS; have hS := Lib.hid h1; clear h1)
        | (go_at_call 27; (with_reducible refine (ncmp_q hS.out (by repeat (first | exact List.mem_cons_self | apply List.mem_cons_of_mem)) (by repeat (first | exact List.mem_cons_self | apply List.mem_cons_of_mem)) (by omega) (by omega) (cmpI_lt HC.out)).mono ?_); rintro e w' ⟨rfl, h1⟩; clear hS; have hS := Lib.hid h1; clear h1))
      obtain ⟨x0, y0⟩ := hS.out.cs 0 rfl
      obtain ⟨x1, y1⟩ := hS.out.cs 1 rfl
      obtain ⟨x2, y2⟩ := hS.out.cs 2 rfl
      obtain ⟨x3, y3⟩ := hS.out.cs 3 rfl
      obtain ⟨x4, y4⟩ := hS.out.cs 4 rfl
      go_wp2_with fail
      clear x0 y0 x1 y1 x2 y2 x3 y3 x4 y4
      refine wp_region_ri (fs [[.val 74 (.agg #[.bool (b0), .slice A0 n0 c0])], [.val 75 (.agg #[.bool (b2), .slice A2 n2 c2])], [.val 76 (.agg #[.bool (b1), .slice A1 n1 c1])], [.int 77 (z2 * z1) (10 + 10)], [.int 78 (z0 + z2 * z1) (10 + (10 + 10) + 1)], [.val 79 (.agg #[.bool (b1), .slice A1 n1 c1])], [.two 80 (Q + z2) (R) (10 + (10 + 10) + 1 + 10 + 1) 0], [.two 73 (Q + z2) (R) (10 + (10 + 10) + 1 + 10 + 1) 0], [.int 81 (Q + z2) (10 + (10 + 10) + 1 + 10 + 1)], [.int 82 (R) (10 + (10 + 10) + 1 + 10 + 1)], [.val 83 (.int .i64 0)], [.box 10], [.box 11], [.boxv 10 (Q + z2) (10 + (10 + 10) + 1 + 10 + 1)], [.boxv 11 (R) (10 + (10 + 10) + 1 + 10 + 1)], [.val 12 (.int .i64 0)]]) [10, 11, 12, 73, 74, 75, 76, 77, 78, 79, 80, 81, 82, 83] hS.out (by have hHL1 := HL1.out; have hHL2 := HL2.out; have hHL3 := HL3.out; (try simp only at hHL1 hHL2 hHL3); simp only [List.map_cons, List.map_nil, List.nodup_cons, List.mem_cons, List.not_mem_nil, or_false, not_or, List.nodup_nil, and_true, not_false_eq_true]; omega) ?_ (by kernel_rfl) ?_
      · intro i hi L a w' S T D hp hno
        match i, hi with
        | 0, _ =>
          exact st_load D rfl (D.at0 rfl rfl) (D.subT _ (by repeat (first | exact List.mem_cons_self | apply List.mem_cons_of_mem))) rfl (of_decide_eq_true rfl) rfl rfl
        | 1, _ =>
          exact st_load D rfl (D.at0 rfl rfl) (D.subT _ (by repeat (first | exact List.mem_cons_self | apply List.mem_cons_of_mem))) rfl (of_decide_eq_true rfl) rfl rfl
        | 2, _ =>
          exact st_load D rfl (D.at0 rfl rfl) (D.subT _ (by repeat (first | exact List.mem_cons_self | apply List.mem_cons_of_mem))) rfl (of_decide_eq_true rfl) rfl rfl
        | 3, _ =>
          have p0 : a.eval (.tmp 75) = .agg #[.bool (b2), .slice A2 n2 c2] := D.ft (hp 1 (by kernel_rfl)) rfl
          have p1 : a.eval (.tmp 76) = .agg #[.bool (b1), .slice A1 n1 c1] := D.ft (hp 2 (by kernel_rfl)) rfl
          have hv : #[Operand.tmp 75, Operand.tmp 76].map a.eval = #[.agg #[.bool (b2), .slice A2 n2 c2], .agg #[.bool (b1), .slice A1 n1 c1]] := by simp only [List.map_toArray, List.map_cons, List.map_nil, p0, p1]
          refine st_call D rfl hv Tryd.func25 (by kernel_rfl) rfl (mul_w D.sb (D.sub _ (by repeat (first | exact List.mem_cons_self | apply List.mem_cons_of_mem))) (D.sub _ (by repeat (first | exact List.mem_cons_self | apply List.mem_cons_of_mem))) (by omega) (by omega) HZ2.out HZ1.out) rfl (of_decide_eq_true rfl) rfl rfl rfl ?_
          rintro e w2 ⟨r, A, n, c, rfl, rfl, h1⟩
          exact ⟨_, _, rfl, h1, fun t ht => List.mem_cons_of_mem _ ht, fun a' ha' => ⟨_, _, _, ha', List.mem_cons_self⟩⟩
        | 4, _ =>
          have p0 : a.eval (.tmp 74) = .agg #[.bool (b0), .slice A0 n0 c0] := D.ft (hp 0 (by kernel_rfl)) rfl
          obtain ⟨A1', n1', c1', p1, m1⟩ : Ft.ok a S T (.int 77 (z2 * z1) (10 + 10)) := D.ft (hp 3 (by kernel_rfl)) rfl
          have hv : #[Operand.tmp 74, Operand.tmp 77].map a.eval = #[.agg #[.bool (b0), .slice A0 n0 c0], .agg #[.bool (sg (z2 * z1)), .slice A1' n1' c1']] := by simp only [List.map_toArray, List.map_cons, List.map_nil, p0, p1]
          refine st_call D rfl hv Tryd.func22 (by kernel_rfl) rfl (add_w D.sb (D.sub _ (by repeat (first | exact List.mem_cons_self | apply List.mem_cons_of_mem))) m1 (by omega) (by omega) HZ0.out (iv_sm _)) rfl (of_decide_eq_true rfl) rfl rfl rfl ?_
          rintro e w2 ⟨r, A, n, c, rfl, rfl, h1⟩
          exact ⟨_, _, rfl, h1, fun t ht => List.mem_cons_of_mem _ ht, fun a' ha' => ⟨_, _, _, ha', List.mem_cons_self⟩⟩
        | 5, _ =>
          exact st_load D rfl (D.at0 rfl rfl) (D.subT _ (by repeat (first | exact List.mem_cons_self | apply List.mem_cons_of_mem))) rfl (of_decide_eq_true rfl) rfl rfl
        | 6, _ =>
          obtain ⟨A0', n0', c0', p0, m0⟩ : Ft.ok a S T (.int 78 (z0 + z2 * z1) (10 + (10 + 10) + 1)) := D.ft (hp 4 (by kernel_rfl)) rfl
          have p1 : a.eval (.tmp 79) = .agg #[.bool (b1), .slice A1 n1 c1] := D.ft (hp 5 (by kernel_rfl)) rfl
          have hv : #[Operand.tmp 78, Operand.tmp 79].map a.eval = #[.agg #[.bool (sg (z0 + z2 * z1)), .slice A0' n0' c0'], .agg #[.bool (b1), .slice A1 n1 c1]] := by simp only [List.map_toArray, List.map_cons, List.map_nil, p0, p1]
          refine st_call D rfl hv Tryd.func15 (by kernel_rfl) rfl (div_w D.sb m0 (D.sub _ (by repeat (first | exact List.mem_cons_self | apply List.mem_cons_of_mem))) (by omega) (by omega) (iv_sm _) HZ1.out HNZ.out) rfl (of_decide_eq_true rfl) rfl rfl rfl ?_
          rintro e w2 ⟨q, r, A, n, c, A', n', c', hq, hr, rfl, h1⟩
          obtain rfl : (Q + z2) = q := by rw [← hq]; rw [Int.add_mul_ediv_right _ _ HNZ.out, HQ.out]
          obtain rfl : (R) = r := by rw [← hr]; rw [Int.add_mul_emod_self_right, HR.out]
          exact ⟨_, _, rfl, h1, fun t ht => List.mem_cons_of_mem _ (List.mem_cons_of_mem _ ht), fun a' ha' => ⟨_, _, _, _, _, _, ha', List.mem_cons_of_mem _ List.mem_cons_self, List.mem_cons_self⟩⟩
        | 7, _ =>
          obtain ⟨A, n, c, A', n', c', p, m1, m2⟩ : Ft.ok a S T (.two 80 (Q + z2) (R) (10 + (10 + 10) + 1 + 10 + 1) 0) := D.ft (hp 6 (by kernel_rfl)) rfl
          exact st_move D rfl p rfl (of_decide_eq_true rfl) rfl rfl rfl (fun a' ha' => ⟨_, _, _, _, _, _, ha', m1, m2⟩)
        | 8, _ =>
          obtain ⟨A, n, c, A', n', c', p, m1, m2⟩ : Ft.ok a S T (.two 73 (Q + z2) (R) (10 + (10 + 10) + 1 + 10 + 1) 0) := D.ft (hp 7 (by kernel_rfl)) rfl
          exact st_extract D rfl p rfl rfl (of_decide_eq_true rfl) rfl rfl rfl (fun a' ha' => ⟨_, _, _, ha', m1⟩)
        | 9, _ =>
          obtain ⟨A, n, c, A', n', c', p, m1, m2⟩ : Ft.ok a S T (.two 73 (Q + z2) (R) (10 + (10 + 10) + 1 + 10 + 1) 0) := D.ft (hp 7 (by kernel_rfl)) rfl
          exact st_extract D rfl p rfl rfl (of_decide_eq_true rfl) rfl rfl rfl (fun a' ha' => ⟨_, _, _, ha', m2⟩)
        | 10, _ =>
          obtain ⟨A, n, c, A', n', c', p, m1, m2⟩ : Ft.ok a S T (.two 73 (Q + z2) (R) (10 + (10 + 10) + 1 + 10 + 1) 0) := D.ft (hp 7 (by kernel_rfl)) rfl
          exact st_extract D rfl p rfl rfl (of_decide_eq_true rfl) rfl rfl rfl (fun a' ha' => ha')
        | 11, _ =>
          exact st_alloc D rfl rfl (of_decide_eq_true rfl) hno (by kernel_rfl) rfl
        | 12, _ =>
          exact st_alloc D rfl rfl (of_decide_eq_true rfl) hno (by kernel_rfl) rfl
        | 13, _ =>
          obtain ⟨A, n, c, p, m⟩ : Ft.ok a S T (.int 81 (Q + z2) (10 + (10 + 10) + 1 + 10 + 1)) := D.ft (hp 8 (by kernel_rfl)) rfl
          exact st_store D rfl (hp 11 (by kernel_rfl)) rfl (by decide) p m rfl rfl
        | 14, _ =>
          obtain ⟨A, n, c, p, m⟩ : Ft.ok a S T (.int 82 (R) (10 + (10 + 10) + 1 + 10 + 1)) := D.ft (hp 9 (by kernel_rfl)) rfl
          exact st_store D rfl (hp 12 (by kernel_rfl)) rfl (by decide) p m rfl rfl
        | 15, _ =>
          have p : a.eval (.tmp 83) = .int .i64 0 := D.ft (hp 10 (by kernel_rfl)) rfl
          exact st_assign D rfl p rfl (of_decide_eq_true rfl) rfl rfl rfl (fun a' ha' => ha')
        | i + 16, hi => exact absurd hi (by show ¬ (i + 16 < 16); omega)
      · intro a w5 S T hfr hsb hs0 hT0 hnd hf hsep hold
        obtain ⟨gp, Ap, np, cp, ep, qp, mp⟩ : Ft.ok a S T (.boxv 10 (Q + z2) (10 + (10 + 10) + 1 + 10 + 1)) := hf 13 (by decide) _ (List.mem_singleton.2 rfl)
        obtain ⟨gs, As, ns, cs, es, qs, ms⟩ : Ft.ok a S T (.boxv 11 (R) (10 + (10 + 10) + 1 + 10 + 1)) := hf 14 (by decide) _ (List.mem_singleton.2 rfl)
        have ek12 : a.eval (.tmp 12) = .int .i64 0 := hf 15 (by decide) _ (List.mem_singleton.2 rfl)
        have h1 := hsb.pick (mem_more ms (mem_more mp hs0)) (mem_more qs (mem_more qp hT0))
        have hc := hfr.closed
        simp only [List.map_cons, List.map_nil] at hc
        rw [ep, es, ek12] at hc
        clear ep es ek12 hf hs0 hT0 hnd hfr hsb hsep hold mp ms qp qs
        generalize a.eval (.tmp 73) = u73 at hc
        generalize a.eval (.tmp 74) = u74 at hc
        generalize a.eval (.tmp 75) = u75 at hc
        generalize a.eval (.tmp 76) = u76 at hc
        generalize a.eval (.tmp 77) = u77 at hc
        generalize a.eval (.tmp 78) = u78 at hc
        generalize a.eval (.tmp 79) = u79 at hc
        generalize a.eval (.tmp 80) = u80 at hc
        generalize a.eval (.tmp 81) = u81 at hc
        generalize a.eval (.tmp 82) = u82 at hc
        generalize a.eval (.tmp 83) = u83 at hc
        subst hc
        clear hS; have hS := Lib.hid h1; clear h1
        simp only [putAll, List.foldl_cons, List.foldl_nil, Act.put, List.setIfInBounds_toArray, List.set_cons_zero, List.set_cons_succ]
        obtain ⟨P, hP⟩ : ∃ P, Q + z2 = P := ⟨_, rfl⟩
        rw [hP] at hS
        have HP := Lib.hid hP.symm
        clear hP
        obtain ⟨x0, y0⟩ := hS.out.cs 0 rfl
        obtain ⟨x1, y1⟩ := hS.out.cs 1 rfl
        obtain ⟨x2, y2⟩ := hS.out.cs 2 rfl
        obtain ⟨x3, y3⟩ := hS.out.cs 3 rfl
        obtain ⟨x4, y4⟩ := hS.out.cs 4 rfl
        obtain ⟨x5, y5⟩ := hS.out.cs 5 rfl
        obtain ⟨x6, y6⟩ := hS.out.cs 6 rfl
        go_wp2_with fail
        clear x0 y0 x1 y1 x2 y2 x3 y3 x4 y4 x5 y5 x6 y6
        have h1 := hS.out.drew
        clear hS; have hS := Lib.hid h1; clear h1
        try simp only [List.append_eq, List.cons_append, List.nil_append]
        go_region_held3 (fun W => (W.cell? ⟨gs, 0, none⟩ = some (.bool (sg (R))) ∧ W.cell? ⟨gs, 1, none⟩ = some (.slice As ns cs)) ∧ (W.cell? ⟨gp, 0, none⟩ = some (.bool (sg (P))) ∧ W.cell? ⟨gp, 1, none⟩ = some (.slice Ap np cp)) ∧ (W.cell? ⟨v4.heap.size + 1, 0, none⟩ = some (.bool (false)) ∧ W.cell? ⟨v4.heap.size + 1, 1, none⟩ = some (.slice Ar nr cr)) ∧ (W.cell? ⟨v4.heap.size, 0, none⟩ = some (.bool (sg Q)) ∧ W.cell? ⟨v4.heap.size, 1, none⟩ = some (.slice Aq nq cq)) ∧ (W.cell? ⟨w.heap.size + 1 + 1, 0, none⟩ = some (.bool (b2)) ∧ W.cell? ⟨w.heap.size + 1 + 1, 1, none⟩ = some (.slice A2 n2 c2)) ∧ (W.cell? ⟨w.heap.size + 1, 0, none⟩ = some (.bool (b1)) ∧ W.cell? ⟨w.heap.size + 1, 1, none⟩ = some (.slice A1 n1 c1)) ∧ (W.cell? ⟨w.heap.size, 0, none⟩ = some (.bool (b0)) ∧ W.cell? ⟨w.heap.size, 1, none⟩ = some (.slice A0 n0 c0))) (first | with_reducible exact ⟨hS.out.cs 0 rfl, hS.out.cs 1 rfl, hS.out.cs 2 rfl, hS.out.cs 3 rfl, hS.out.cs 4 rfl, hS.out.cs 5 rfl, hS.out.cs 6 rfl⟩ | with_reducible exact ⟨hS.out.drew.cs 0 rfl, hS.out.drew.cs 1 rfl, hS.out.drew.cs 2 rfl, hS.out.drew.cs 3 rfl, hS.out.drew.cs 4 rfl, hS.out.drew.cs 5 rfl, hS.out.drew.cs 6 rfl⟩ | with_reducible exact ⟨(hS.out.alloc _).cs 0 rfl, (hS.out.alloc _).cs 1 rfl, (hS.out.alloc _).cs 2 rfl, (hS.out.alloc _).cs 3 rfl, (hS.out.alloc _).cs 4 rfl, (hS.out.alloc _).cs 5 rfl, (hS.out.alloc _).cs 6 rfl⟩ | with_reducible exact ⟨((hS.out.alloc _).alloc _).cs 0 rfl, ((hS.out.alloc _).alloc _).cs 1 rfl, ((hS.out.alloc _).alloc _).cs 2 rfl, ((hS.out.alloc _).alloc _).cs 3 rfl, ((hS.out.alloc _).alloc _).cs 4 rfl, ((hS.out.alloc _).alloc _).cs 5 rfl, ((hS.out.alloc _).alloc _).cs 6 rfl⟩) (first
          | (go_at_call 22; (with_reducible refine (add_w hS.out (by repeat (first | exact List.mem_cons_self | apply List.mem_cons_of_mem)) (by repeat (first | exact List.mem_cons_self | apply List.mem_cons_of_mem)) (by omega) (by omega) (by first | exact iv_sm _ | exact HZ0.out | exact HZ1.out | exact HZ2.out | exact HRF.out) (by first | exact iv_sm _ | exact HZ0.out | exact HZ1.out | exact HZ2.out | exact HRF.out)).mono ?_); rintro e w' ⟨r, Ai, ni, ci, hr, rfl, h1⟩; clear hS; have hS := Lib.hid h1; clear h1)
          | (go_at_call 21; (with_reducible refine (same_v hS.out (by repeat (first | exact List.mem_cons_self | apply List.mem_cons_of_mem)) (by repeat (first | exact List.mem_cons_self | apply List.mem_cons_of_mem)) (by first | rfl | omega | (subst_vars; first | rfl | exact HP.out))).mono ?_); rintro e w' ⟨rfl, h1⟩; clear hS; have hS := Lib.hid h1; clear h1)
          | (go_at_call 21; (with_reducible refine (same_w hS.out (by repeat (first | exact List.mem_cons_self | apply List.mem_cons_of_mem)) (by repeat (first | exact List.mem_cons_self | apply List.mem_cons_of_mem)) (by exact sg_f HR0.out) (by rfl)).mono ?_); rintro e w' ⟨rfl, h1⟩; clear hS; have hS := Lib.hid h1; clear h1))
        go_wp2
        go_ret
        exact ⟨rfl, hS.out.st.1⟩
  · have hS := Lib.hid (SB.start w)
    clear h0 h1 h2
    go_enter Tryd.func6, Tryd.ntmps6
    have h1 := (((hS.out.boxed (b := b0) (A := A0) (n := n0) (c := c0) rfl).boxed (b := b1) (A := A1) (n := n1) (c := c1) rfl).boxed (b := b2) (A := A2) (n := n2) (c := c2) rfl)
    try simp only [World.size_alloc] at h1
    obtain ⟨p0, q0⟩ := h1.cs 0 rfl
    obtain ⟨p1, q1⟩ := h1.cs 1 rfl
    obtain ⟨p2, q2⟩ := h1.cs 2 rfl
    clear h1
    go_wp2_with fail
    clear p0 q0 p1 q1 p2 q2
    generalize hwa : World.alloc (World.alloc (World.alloc w _) _) _ = v1
    have h1 := (((hS.out.boxed rfl).boxed rfl).boxed hwa)
    simp only [World.size_alloc] at h1
    have hsz : v1.heap.size = w.heap.size + 1 + 1 + 1 := by rw [← hwa]; simp only [World.size_alloc]
    try rw [← hsz]
    clear hsz
    clear hwa
    clear hS; have hS := Lib.hid h1; clear h1
    obtain ⟨x0, y0⟩ := hS.out.cs 0 rfl
    obtain ⟨x1, y1⟩ := hS.out.cs 1 rfl
    obtain ⟨x2, y2⟩ := hS.out.cs 2 rfl
    go_wp2_with fail
    go_at_call 20
    with_reducible refine (wlong3_y hS.out _ _ _ _ _ _ _ _ _ _ _ _ (by omega) (by omega) (by omega) hl).mono ?_
    rintro e v2 ⟨rfl, h1⟩
    clear x0 y0 x1 y1 x2 y2
    clear hS; have hS := Lib.hid h1; clear h1
    obtain ⟨x0, y0⟩ := hS.out.cs 0 rfl
    obtain ⟨x1, y1⟩ := hS.out.cs 1 rfl
    obtain ⟨x2, y2⟩ := hS.out.cs 2 rfl
    go_wp2_with fail
    go_at_call 10
    with_reducible refine (wawake_s hS.out).mono ?_
    rintro e v3 ⟨rfl, h1⟩
    clear x0 y0 x1 y1 x2 y2
    clear hS; have hS := Lib.hid h1; clear h1
    obtain ⟨x0, y0⟩ := hS.out.cs 0 rfl
    obtain ⟨x1, y1⟩ := hS.out.cs 1 rfl
    obtain ⟨x2, y2⟩ := hS.out.cs 2 rfl
    go_wp2
    go_ret
    exact ⟨rfl, hS.out.st.1⟩
set_option maxRecDepth 100000 in
theorem lifted (os : Os) (started : os.Started) (H : Type) (enc : TypeId × Value → H) :
    ReturnsInHanded {} Tryd.checked os 6 .any (fun w args => (Rows.wholeDividesSpec.pre enc Tryd.prog Tryd.f6 Rows.wholeDividesRow.domain false w args ∧ laidMetH Tryd.prog Rows.wholeDividesRow.laid w) ∧ sizedMet enc Tryd.prog Tryd.f6 (OpenSpec.ofChange Rows.wholeDividesSpec) false w args) (Rows.wholeDividesSpec.post enc Tryd.prog Tryd.f6 false true false false) := by
  refine returnsInHanded_of_change_and (C := Tryd.checked) (X := fun w _ => laidMetH Tryd.prog Rows.wholeDividesRow.laid w) (fun _ _ _ hh h => h.of_heap hh) own started (by kernel_rfl) Tryd.func6
    (ChangeSpec.witness_shaped (enc := enc) (C := Tryd.checked) (os := os) (X := fun w _ => laidMetH Tryd.prog Rows.wholeDividesRow.laid w) false (World.laidAll Tryd.prog os Rows.wholeDividesRow.laid) #[.agg #[.bool false, .slice none 0 0], .agg #[.bool false, .slice none 0 0], .agg #[.bool false, .slice none 0 0]] 8 (World.laidAll_os _ _ _)
      (World.shaped_of_ZipB (by kernel_rfl) (by kernel_rfl)) (by kernel_rfl) (by kernel_rfl) (by kernel_rfl)
      (by rw [MakeChecks.laidMetH_plain _ _ _ (by kernel_rfl)]; exact laidMet_laidAll _ (by kernel_rfl) (by kernel_rfl))) ?_
  intro W base args ds gs before hval0 hW hcnd _ _ _
  have hval : ∀ (j : Nat) t v, Tryd.f6.params[j]? = some t → args[j]? = some v → Value.okWide Tryd.prog W .any base t v := hval0
  have hW' := hW
  obtain ⟨p, q, hA0, hV, hpq, hfz, hnd⟩ := hW
  have hA : DataW.TrodAll enc Tryd.prog W 0 (fun _ => true) true Tryd.f6.params.toList args.toList ds p := hA0
  rw [Tryd.params6] at hA hval
  obtain ⟨v0, vs0, d0, ds0, p0, q0, hargs, rfl, rfl, h0, r0⟩ := trodAll_cons hA
  obtain ⟨v1, vs1, d1, ds1, p1, q1, rfl, rfl, rfl, h1, r1⟩ := trodAll_cons r0
  obtain ⟨v2, vs2, d2, ds2, p2, q2, rfl, rfl, rfl, h2, r2⟩ := trodAll_cons r1
  obtain ⟨rfl, rfl, rfl⟩ := trodAll_nil r2
  obtain rfl : args = #[v0, v1, v2] := by cases args; simp_all
  obtain ⟨rfl, rfl⟩ := trodVars_none hV
  obtain ⟨b0, A0, n0, c0, xs0, rfl, s0⟩ := open_whole (hval 0 26 v0 rfl rfl) h0
  obtain ⟨b1, A1, n1, c1, xs1, rfl, s1⟩ := open_whole (hval 1 26 v1 rfl rfl) h1
  obtain ⟨b2, A2, n2, c2, xs2, rfl, s2⟩ := open_whole (hval 2 26 v2 rfl rfl) h2
  refine (walk W b0 A0 n0 c0 xs0 s0 b1 A1 n1 c1 xs1 s1 b2 A2 n2 c2 xs2 s2).mono fun e W' ⟨he, hb⟩ => ?_
  subst he
  exact ⟨_, rfl, Frame.close laidOut hW' rfl rfl rfl Tryd.underlying4 (fun t ht => by rw [Tryd.params6] at ht; simp at ht; rcases ht with rfl <;> exact ⟨by kernel_rfl, of_decide_eq_true (by kernel_rfl)⟩) hb⟩
theorem over : Rows.wholeDividesRow.holds Tryd.pinned (OpenSpec.ofChange Rows.wholeDividesSpec) :=
  OpenClaim.holds_of_wide 6 Tryd.f6 rfl rfl rfl rfl rfl rfl rfl ⟨rfl, rfl, rfl, rfl, rfl⟩ rfl rfl rfl rfl rfl (by kernel_rfl) Tryd.func6 (by kernel_rfl)
    (of_decide_eq_true (by kernel_rfl)) (by unfold Func.isWrapper; first | (rw [if_pos (by decide +kernel)]; kernel_rfl) | (rw [if_neg (by decide +kernel)]; exact ⟨rfl, rfl⟩))
    (fun os started H enc _ => lifted os started H enc)
/-- the statement -/
theorem proved : Rows.WholeDividesCardSaid :=
  Claim7.holds_tied_plain_at .later [] _ _ _ _ over (fun _ h => by cases h) (by kernel_rfl) (fun _ h => by cases h) wholeDivides_row_tie rfl ⟨rfl, rfl⟩ (by kernel_rfl) rfl
    (fun f fn hf hfn => by
      obtain rfl : f = 6 := Option.some.inj ((show Tryd.prog.funcNamed "tombola/tombolalaw05.WholeDivides" = some 6 by kernel_rfl).symm.trans hf) |>.symm
      obtain rfl : fn = Tryd.f6 := (Option.some.inj (Tryd.func6.symm.trans hfn)).symm
      exact ⟨by kernel_rfl, (fun j t ht => by
        rw [Tryd.params6] at ht
        have hm : t ∈ [26, 26, 26] := by simpa using Array.mem_of_getElem? ht
        have hall : ([26, 26, 26].all fun u => !Tryd.prog.wantsStandIn u) = true := by kernel_rfl
        exact (show Tryd.prog.wantsStandIn t = false by simpa using List.all_eq_true.1 hall t hm))⟩)
    (by kernel_rfl)
#print axioms proved
end Go.Proofs.YtgahnchfefngeaaDoor.wholeDivides
