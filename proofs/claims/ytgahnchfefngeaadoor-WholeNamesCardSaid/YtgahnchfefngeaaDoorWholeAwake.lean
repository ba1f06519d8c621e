/- The examples of the document hold of the program: what each statement of layer 5 asks first, or last. -/
import Derived.Test.YtgahnchfefngeaaDoorWholeState
namespace Go.Proofs.YtgahnchfefngeaaDoor
open Go.RowKit
set_option linter.unusedVariables false
set_option maxRecDepth 20000
open N
open Go.Lib (decDigits nDigits decDigits_length nDigits_pos)
set_option maxRecDepth 100000 in
set_option maxHeartbeats 2000000 in
theorem wawake_any (w : World) : Calls Tryd.prog 10 #[] w fun e w' => e = .returned (.bool true) ∧ Below w.heap.size w w' := by
  have hS := Lib.hid (SB.start w)
  go_enter Tryd.func10, Tryd.ntmps10
  go_wp2_with fail
  go_at_call 13
  refine (of_w (z := -17) hS.out (by omega) (by omega)).mono ?_
  rintro e v1 ⟨A1, n1, c1, rfl, h1⟩
  clear hS; have hS := Lib.hid h1; clear h1
  go_wp2_with fail
  go_at_call 13
  refine (of_w (z := -5) hS.out (by omega) (by omega)).mono ?_
  rintro e v2 ⟨A2, n2, c2, rfl, h1⟩
  clear hS; have hS := Lib.hid h1; clear h1
  go_wp2_with fail
  go_at_call 15
  refine (div_w (z := -17) (y := -5) hS.out (by repeat (first | exact List.mem_cons_self | apply List.mem_cons_of_mem)) (by repeat (first | exact List.mem_cons_self | apply List.mem_cons_of_mem)) (by omega) (by omega) (iv_sm _) (iv_sm _) (by omega)).mono ?_
  rintro e v3 ⟨q, r, Aq, nq, cq, Ar, nr, cr, hq, hr, rfl, h1⟩
  obtain rfl : q = 4 := hq.symm
  obtain rfl : r = 3 := hr.symm
  clear hq hr
  clear hS; have hS := Lib.hid h1; clear h1
  go_wp2_with fail
  generalize hwa : World.alloc (World.alloc v3 _) _ = v4
  have h1 := ((hS.out.boxed rfl).boxed hwa)
  simp only [World.size_alloc] at h1
  clear hwa
  clear hS; have hS := Lib.hid h1; clear h1
  obtain ⟨x0, y0⟩ := hS.out.cs 0 rfl
  obtain ⟨x1, y1⟩ := hS.out.cs 1 rfl
  go_wp2_with fail
  go_at_call 13
  refine (of_w (z := 1) hS.out (by omega) (by omega)).mono ?_
  rintro e v5 ⟨A3, n3, c3, rfl, h1⟩
  clear x0 y0 x1 y1
  clear hS; have hS := Lib.hid h1; clear h1
  obtain ⟨x0, y0⟩ := hS.out.cs 0 rfl
  obtain ⟨x1, y1⟩ := hS.out.cs 1 rfl
  go_wp2_with fail
  go_at_call 13
  refine (of_w (z := 0) hS.out (by omega) (by omega)).mono ?_
  rintro e v6 ⟨A4, n4, c4, rfl, h1⟩
  clear x0 y0 x1 y1
  clear hS; have hS := Lib.hid h1; clear h1
  obtain ⟨x0, y0⟩ := hS.out.cs 0 rfl
  obtain ⟨x1, y1⟩ := hS.out.cs 1 rfl
  go_wp2_with fail
  go_at_call 15
  refine (div_x (b' := sg 0) hS.out (by repeat (first | exact List.mem_cons_self | apply List.mem_cons_of_mem)) (by repeat (first | exact List.mem_cons_self | apply List.mem_cons_of_mem)) (by omega) (by omega) (iv_sm 0)).mono ?_
  rintro e v7 ⟨Ay, ny, cy, Az, nz, cz, rfl, h1⟩
  clear x0 y0 x1 y1
  clear hS; have hS := Lib.hid h1; clear h1
  obtain ⟨x0, y0⟩ := hS.out.cs 0 rfl
  obtain ⟨x1, y1⟩ := hS.out.cs 1 rfl
  go_wp2_with fail
  clear x0 y0 x1 y1
  generalize hwa : World.alloc (World.alloc v7 _) _ = v8
  have h1 := ((hS.out.allocs rfl).allocs hwa)
  clear hwa
  clear hS; have hS := Lib.hid h1; clear h1
  obtain ⟨x0, y0⟩ := hS.out.cs 0 rfl
  obtain ⟨x1, y1⟩ := hS.out.cs 1 rfl
  go_wp2_with fail
  go_at_call 16
  refine (read_w hS.out [45, 49, 56, 52, 52, 54, 55, 52, 52, 48, 55, 51, 55, 48, 57, 53, 53, 49, 54, 49, 54] (j := 0) (z := -18446744073709551616) (by decide) (by decide +kernel) (by decide +kernel)).mono ?_
  rintro e v9 ⟨Ax, nx, cx, rfl, h1⟩
  clear x0 y0 x1 y1
  clear hS; have hS := Lib.hid h1; clear h1
  obtain ⟨x0, y0⟩ := hS.out.cs 0 rfl
  obtain ⟨x1, y1⟩ := hS.out.cs 1 rfl
  go_wp2_with fail
  clear x0 y0 x1 y1
  generalize hwa : World.alloc v9 _ = v10
  have h1 := (hS.out.boxed hwa)
  clear hwa
  clear hS; have hS := Lib.hid h1; clear h1
  obtain ⟨x0, y0⟩ := hS.out.cs 0 rfl
  obtain ⟨x1, y1⟩ := hS.out.cs 1 rfl
  obtain ⟨x2, y2⟩ := hS.out.cs 2 rfl
  go_wp2_with fail
  go_at_call 16
  refine (read_w hS.out [45, 48] (j := 3) (z := 0) (by decide) (by decide +kernel) (by decide +kernel)).mono ?_
  rintro e v11 ⟨Ah, nh, ch, rfl, h1⟩
  clear x0 y0 x1 y1 x2 y2
  clear hS; have hS := Lib.hid h1; clear h1
  obtain ⟨x0, y0⟩ := hS.out.cs 0 rfl
  obtain ⟨x1, y1⟩ := hS.out.cs 1 rfl
  obtain ⟨x2, y2⟩ := hS.out.cs 2 rfl
  go_wp2_with fail
  clear x0 y0 x1 y1 x2 y2
  generalize hwa : World.alloc v11 _ = v12
  have h1 := (hS.out.allocs hwa)
  clear hwa
  clear hS; have hS := Lib.hid h1; clear h1
  obtain ⟨x0, y0⟩ := hS.out.cs 0 rfl
  obtain ⟨x1, y1⟩ := hS.out.cs 1 rfl
  obtain ⟨x2, y2⟩ := hS.out.cs 2 rfl
  go_wp2_with fail
  go_at_call 13
  refine (of_w (z := -9223372036854775808) hS.out (by omega) (by omega)).mono ?_
  rintro e v13 ⟨A5, n5, c5, rfl, h1⟩
  clear x0 y0 x1 y1 x2 y2
  clear hS; have hS := Lib.hid h1; clear h1
  obtain ⟨x0, y0⟩ := hS.out.cs 0 rfl
  obtain ⟨x1, y1⟩ := hS.out.cs 1 rfl
  obtain ⟨x2, y2⟩ := hS.out.cs 2 rfl
  go_wp2_with fail
  go_at_call 11
  refine (small_w (z := -9223372036854775808) hS.out (by repeat (first | exact List.mem_cons_self | apply List.mem_cons_of_mem)) (by omega) (iv_sm _) (by omega) (by omega)).mono ?_
  rintro e v14 ⟨rfl, h1⟩
  clear x0 y0 x1 y1 x2 y2
  clear hS; have hS := Lib.hid h1; clear h1
  obtain ⟨x0, y0⟩ := hS.out.cs 0 rfl
  obtain ⟨x1, y1⟩ := hS.out.cs 1 rfl
  obtain ⟨x2, y2⟩ := hS.out.cs 2 rfl
  go_wp2_with fail
  clear x0 y0 x1 y1 x2 y2
  have h1 := hS.out.drew
  clear hS; have hS := Lib.hid h1; clear h1
  try simp only [List.append_eq, List.cons_append, List.nil_append]
  go_region_held3 (fun W => (W.cell? ⟨v9.heap.size, 0, none⟩ = some (.bool (sg (-18446744073709551616))) ∧ W.cell? ⟨v9.heap.size, 1, none⟩ = some (.slice Ax nx cx)) ∧ (W.cell? ⟨v3.heap.size + 1, 0, none⟩ = some (.bool (sg 3)) ∧ W.cell? ⟨v3.heap.size + 1, 1, none⟩ = some (.slice Ar nr cr)) ∧ (W.cell? ⟨v3.heap.size, 0, none⟩ = some (.bool (sg 4)) ∧ W.cell? ⟨v3.heap.size, 1, none⟩ = some (.slice Aq nq cq))) (first | with_reducible exact ⟨hS.out.cs 0 rfl, hS.out.cs 1 rfl, hS.out.cs 2 rfl⟩ | with_reducible exact ⟨hS.out.drew.cs 0 rfl, hS.out.drew.cs 1 rfl, hS.out.drew.cs 2 rfl⟩ | with_reducible exact ⟨(hS.out.alloc _).cs 0 rfl, (hS.out.alloc _).cs 1 rfl, (hS.out.alloc _).cs 2 rfl⟩ | with_reducible exact ⟨((hS.out.alloc _).alloc _).cs 0 rfl, ((hS.out.alloc _).alloc _).cs 1 rfl, ((hS.out.alloc _).alloc _).cs 2 rfl⟩) (first
    | (go_at_call 13; (with_reducible refine (of_w hS.out (by omega) (by omega)).mono ?_); rintro e w' ⟨Ai, ni, ci, rfl, h1⟩; clear hS; have hS := Lib.hid h1; clear h1)
    | (go_at_call 22; (with_reducible refine (add_w (z := 3) (y := -5) hS.out (by repeat (first | exact List.mem_cons_self | apply List.mem_cons_of_mem)) (by repeat (first | exact List.mem_cons_self | apply List.mem_cons_of_mem)) (by omega) (by omega) (iv_sm _) (iv_sm _)).mono ?_); rintro e w' ⟨r, Ai, ni, ci, hr, rfl, h1⟩; obtain rfl : r = -2 := hr.symm; clear hr; clear hS; have hS := Lib.hid h1; clear h1)
    | (go_at_call 25; (with_reducible refine (mul_w (z := -3) (y := -5) hS.out (by repeat (first | exact List.mem_cons_self | apply List.mem_cons_of_mem)) (by repeat (first | exact List.mem_cons_self | apply List.mem_cons_of_mem)) (by omega) (by omega) (iv_sm _) (iv_sm _)).mono ?_); rintro e w' ⟨r, Ai, ni, ci, hr, rfl, h1⟩; obtain rfl : r = 15 := hr.symm; clear hr; clear hS; have hS := Lib.hid h1; clear h1)
    | (go_at_call 21; (with_reducible refine (same_w hS.out (by repeat (first | exact List.mem_cons_self | apply List.mem_cons_of_mem)) (by repeat (first | exact List.mem_cons_self | apply List.mem_cons_of_mem)) (by with_reducible rfl) (by with_reducible rfl)).mono ?_); rintro e w' ⟨rfl, h1⟩; clear hS; have hS := Lib.hid h1; clear h1)
    | (go_at_call 21; (with_reducible refine (same_w (hS.out.lit2 0 1 (by omega) (by omega)) (by repeat (first | exact List.mem_cons_self | apply List.mem_cons_of_mem)) List.mem_cons_self (sg_t (by omega)) (limbs_is [0, 1] (by decide +kernel) (by unfold Dg B; decide +kernel) (by decide +kernel))).mono ?_); rintro e w' ⟨rfl, h1⟩; clear hS; have hS := Lib.hid h1; clear h1)
    | (go_at_call 18; (with_reducible refine (show_w hS.out (by repeat (first | exact List.mem_cons_self | apply List.mem_cons_of_mem)) (by omega) (iv_sm _) (X := [45, 50]) (by decide +kernel)).mono ?_); rintro e w' ⟨rfl, h1⟩; clear hS; have hS := Lib.hid h1; clear h1)
    | (go_at_call 17; (with_reducible refine (may_w hS.out (by repeat (first | exact List.mem_cons_self | apply List.mem_cons_of_mem)) (by omega) (mayB_told _)).mono ?_); rintro e w' ⟨rfl, h1⟩; clear hS; have hS := Lib.hid h1; clear h1)
    | (go_at_call 19; (with_reducible refine (sign_w hS.out (by repeat (first | exact List.mem_cons_self | apply List.mem_cons_of_mem)) (by omega) (iv_sm _)).mono ?_); rw [sgn_neg (show (-18446744073709551616 : Int) < 0 by decide)]; rintro e w' ⟨rfl, h1⟩; clear hS; have hS := Lib.hid h1; clear h1))
  go_wp2
  go_ret
  exact ⟨rfl, hS.out.st.1⟩
theorem wawake_s {w0 w : World} {S : List Ent} {T : List Bx} (h : SB w0 w S T) : Calls Tryd.prog 10 #[] w fun e w' => e = .returned (.bool true) ∧ SB w0 w' S T :=
  (wawake_any w).mono fun e w' ⟨he, hb⟩ => ⟨he, h.below hb⟩
end Go.Proofs.YtgahnchfefngeaaDoor
