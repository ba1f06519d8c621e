/- The document of layer 6: size, Over, Of, Half. -/
import Derived.Test.YtpokcocfdchfeaaGreatDoorRefRatL0
import Derived.Test.YtpokcocfdchfeaaGreatDoorRatC
import Derived.Deep.RegionHeld3
namespace Go.Proofs.YtpokcocfdchfeaaGreatDoor
open Go.RowKit
set_option linter.unusedVariables false
set_option linter.unusedSimpArgs false
set_option maxRecDepth 20000
open N
open Go.Lib (decDigits nDigits decDigits_length nDigits_pos)
theorem QB1_ge {z : Int} (h : z < 18446744073709551616) : z < Q B 1 := by rw [QB_two]; exact h
theorem limbs1 : limbs (1 : Int) = [1] := by decide +kernel
section
variable {w0 v0 w : World} {S O : List Ent} {T : List Blk} {A A' : Option Addr} {n c m d k k' M : Nat} {xs ys : List Int} {v u : Int} {b : Bool}
theorem r6size_n (w : World) {x : Int} (hx1 : -9223372036854775808 ≤ x) (hx2 : x ≤ 9223372036854775807) (hx : x < 0) :
    Calls Tryz.prog 84 #[.int .i64 x] w (fun e w' => ∃ A n c, e = .returned (.slice A n c) ∧ SC w w w' [⟨A, n, c, 1, limbs (-x), -x⟩] [] [⟨A, n, c, 1, limbs (-x), -x⟩]) := by
  have e1 : IntKind.i64.wrap (x + 1) = x + 1 := by rw [IntKind.wrap_i64]; omega
  have e2 : IntKind.i64.wrap (-(x + 1)) = -(x + 1) := by rw [IntKind.wrap_i64]; omega
  have e3 : IntKind.u64.wrap (-(x + 1)) = -(x + 1) := by rw [IntKind.wrap_u64]; omega
  have HW := Lib.hid (show W.Wd (-(x + 1)) from ⟨by omega, by omega⟩)
  have HQ := Lib.hid (QB1_ge (z := -(x + 1)) (by omega))
  have HQ2 := Lib.hid (QB1_ge (z := -x) (by omega))
  have HE := Lib.hid (show -(x + 1) + 1 = -x by omega)
  have hS := Lib.hid (SC.start w)
  clear hx1 hx2
  go_enter Tryz.func84, Tryz.ntmps84
  go_wp2_with fail
  go_at_call 113
  with_reducible refine (rof_k (K := 1) hS.out HW.out HQ.out).mono ?_
  rintro e v1 ⟨A1, n1, c1, rfl, h1⟩
  clear hS; have hS := Lib.hid h1; clear h1
  go_wp2_with fail
  go_at_call 117
  with_reducible refine (radd_k (K := 1) (hS.out.lit1 1 (by decide)) (by repeat (first | exact ms | apply mo)) (by decide) (by repeat (first | exact ms | apply mo)) (by decide) HE.out HQ2.out).mono ?_
  rintro e v2 ⟨A2, n2, c2, rfl, h1⟩
  clear hS; have hS := Lib.hid h1; clear h1
  go_wp2
  go_ret
  exact ⟨A2, n2, c2, rfl, hS.out.sub (fun t ht => by obtain rfl : t = _ := List.mem_singleton.1 ht; exact List.mem_cons_self) (List.Sublist.refl _) (fun t ht => by obtain rfl : t = _ := List.mem_singleton.1 ht; exact List.mem_cons_self)⟩
theorem r6size_p (w : World) {x : Int} (hx1 : -9223372036854775808 ≤ x) (hx2 : x ≤ 9223372036854775807) (hx : 0 ≤ x) :
    Calls Tryz.prog 84 #[.int .i64 x] w (fun e w' => ∃ A n c, e = .returned (.slice A n c) ∧ SC w w w' [⟨A, n, c, 1, limbs (x), x⟩] [] [⟨A, n, c, 1, limbs (x), x⟩]) := by
  have e1 : IntKind.u64.wrap x = x := by rw [IntKind.wrap_u64]; omega
  have HW := Lib.hid (show W.Wd x from ⟨by omega, by omega⟩)
  have HQ := Lib.hid (QB1_ge (z := x) (by omega))
  have hS := Lib.hid (SC.start w)
  clear hx1 hx2
  go_enter Tryz.func84, Tryz.ntmps84
  go_wp2_with fail
  go_at_call 113
  with_reducible refine (rof_k (K := 1) hS.out HW.out HQ.out).mono ?_
  rintro e v1 ⟨A1, n1, c1, rfl, h1⟩
  clear hS; have hS := Lib.hid h1; clear h1
  go_wp2
  go_ret
  exact ⟨A1, n1, c1, rfl, hS.out⟩
theorem r6size_c (h : SC w0 v0 w S T O) {x : Int} (hx1 : -9223372036854775808 ≤ x) (hx2 : x ≤ 9223372036854775807) {z : Int} (hz : mg x = z) :
    Calls Tryz.prog 84 #[.int .i64 x] w fun e w' => ∃ A n c, e = .returned (.slice A n c) ∧ SC w0 v0 w' (⟨A, n, c, 1, limbs z, z⟩ :: S) T (⟨A, n, c, 1, limbs z, z⟩ :: O) := by
  have key : Calls Tryz.prog 84 #[.int .i64 x] w (fun e w' => ∃ A n c, e = .returned (.slice A n c) ∧ SC w w w' [⟨A, n, c, 1, limbs (z), z⟩] [] [⟨A, n, c, 1, limbs (z), z⟩]) := by
    by_cases hx : x < 0
    · have e : -x = z := by rw [← hz, mg_t (Int.le_of_lt hx)]
      rw [← e]; exact r6size_n w hx1 hx2 hx
    · have e : x = z := by rw [← hz, mg_f (by omega)]
      rw [← e]; exact r6size_p w hx1 hx2 (by omega)
  refine key.mono ?_
  rintro e w' ⟨A1, n1, c1, rfl, h1⟩
  have ho := h1.own _ List.mem_cons_self
  have h9 := h1.get (A := A1) (n := n1) (c := c1) List.mem_cons_self
  exact ⟨A1, n1, c1, rfl, h.new h1.bl ho h9.2.1 h9.2.2⟩
theorem r6over_nn (w : World) {x y : Int} (hx1 : -9223372036854775808 ≤ x) (hx2 : x ≤ 9223372036854775807) (hy1 : -9223372036854775808 ≤ y) (hy2 : y ≤ 9223372036854775807) (hx : x < 0) (hy : y < 0) (hmy : 0 < mg y) {r : Rat} (hr : rv false (mg x) (mg y) = r) : Calls Tryz.prog 46 #[.int .i64 x, .int .i64 y] w (OutRE w 1 r 0) := by
  have hS := Lib.hid (SC.start w)
  have DX := Lib.hid (show decide (x < 0) = true from decide_eq_true (by omega))
  have DY := Lib.hid (show decide (y < 0) = true from decide_eq_true (by omega))
  have HX1 := Lib.hid hx1
  have HX2 := Lib.hid hx2
  have HY1 := Lib.hid hy1
  have HY2 := Lib.hid hy2
  have HM := Lib.hid hmy
  have HR := Lib.hid hr
  clear hx1 hx2 hy1 hy2 hmy hr
  go_enter Tryz.func46, Tryz.ntmps46
  have h1 := (hS.out.boxed (vs := [.bool false, .slice none 0 0, .slice none 0 0]) (ty := 27) rfl rfl)
  try simp only [World.size_alloc] at h1
  obtain ⟨p0_0, p1_0, p2_0⟩ := h1.cs3 0 rfl
  clear h1
  go_wp2_with fail
  clear p0_0 p1_0 p2_0
  generalize hwa : World.alloc w _ = v1
  have h1 := (hS.out.boxed (vs := [.bool false, .slice none 0 0, .slice none 0 0]) (ty := 27) rfl hwa)
  have hsz : v1.heap.size = w.heap.size + 1 := by rw [← hwa]; simp only [World.size_alloc]
  try rw [← hsz]
  clear hwa hsz
  clear hS; have hS := Lib.hid h1; clear h1
  obtain ⟨x0_0, x1_0, x2_0⟩ := hS.out.cs3 0 rfl
  go_wp2_with fail
  go_at_call 84
  with_reducible refine (r6size_c hS.out HX1.out HX2.out rfl).mono ?_
  rintro e v2 ⟨A1, n1, c1, rfl, h1⟩
  clear x0_0 x1_0 x2_0
  clear hS; have hS := Lib.hid h1; clear h1
  obtain ⟨x0_0, x1_0, x2_0⟩ := hS.out.cs3 0 rfl
  go_wp2_with fail
  go_at_call 84
  with_reducible refine (r6size_c hS.out HY1.out HY2.out rfl).mono ?_
  rintro e v3 ⟨A2, n2, c2, rfl, h1⟩
  clear x0_0 x1_0 x2_0
  clear hS; have hS := Lib.hid h1; clear h1
  obtain ⟨x0_0, x1_0, x2_0⟩ := hS.out.cs3 0 rfl
  go_wp2_with fail
  go_at_call 44
  with_reducible refine (r6mk_c (M := 1) (r := r) hS.out (by repeat (first | exact ms | apply mo)) (by repeat (first | exact ms | apply mo)) (by omega) (by omega) (by omega) (by omega) HM.out (by have hq := HR.out; first | exact hq | (simp only [DX.out, DY.out, Bool.not_true, Bool.not_false]; exact hq) | (simp only [DX.out, DY.out, beq_self_eq_true, Bool.not_true, Bool.not_false]; exact hq) | (simp [DX.out, DY.out]; exact hq))).mono ?_
  rintro e v4 ⟨A4, n4, c4, A5, n5, c5, rfl, h1⟩
  clear x0_0 x1_0 x2_0
  clear hS; have hS := Lib.hid h1; clear h1
  obtain ⟨x0_0, x1_0, x2_0⟩ := hS.out.cs3 0 rfl
  have hp0 := hS.out.put3 0 rfl (hS.out.ge_ 0 rfl) (.bool (sg r.num)) (.slice A4 n4 c4) (.slice A5 n5 c5)
  simp only [List.set_cons_zero, List.set_cons_succ] at hp0
  have fz0_0 := hS.out.frs 0 rfl 0
  have fz0_1 := hS.out.frs 0 rfl 1
  have fz0_2 := hS.out.frs 0 rfl 2
  have HPUT := Lib.hid hp0
  clear hp0
  go_wp2_with fail
  refine bodyPost_ret (results_B2 rfl rfl rfl (loadR (HPUT.out.box _ (List.mem_of_getElem? (i := 0) rfl)))) rfl ?_
  exact HPUT.out.toRE2 (r := r) (by repeat (first | exact ms | apply mo)) (by repeat (first | exact ms | apply mo)) (by repeat (first | exact ms | apply mo)) (by repeat (first | exact ms | apply mo)) (by omega) (by omega) rfl rfl rfl
theorem r6over_np (w : World) {x y : Int} (hx1 : -9223372036854775808 ≤ x) (hx2 : x ≤ 9223372036854775807) (hy1 : -9223372036854775808 ≤ y) (hy2 : y ≤ 9223372036854775807) (hx : x < 0) (hy : 0 ≤ y) (hmy : 0 < mg y) {r : Rat} (hr : rv true (mg x) (mg y) = r) : Calls Tryz.prog 46 #[.int .i64 x, .int .i64 y] w (OutRE w 1 r 0) := by
  have hS := Lib.hid (SC.start w)
  have DX := Lib.hid (show decide (x < 0) = true from decide_eq_true (by omega))
  have DY := Lib.hid (show decide (y < 0) = false from decide_eq_false (by omega))
  have HX1 := Lib.hid hx1
  have HX2 := Lib.hid hx2
  have HY1 := Lib.hid hy1
  have HY2 := Lib.hid hy2
  have HM := Lib.hid hmy
  have HR := Lib.hid hr
  clear hx1 hx2 hy1 hy2 hmy hr
  go_enter Tryz.func46, Tryz.ntmps46
  have h1 := (hS.out.boxed (vs := [.bool false, .slice none 0 0, .slice none 0 0]) (ty := 27) rfl rfl)
  try simp only [World.size_alloc] at h1
  obtain ⟨p0_0, p1_0, p2_0⟩ := h1.cs3 0 rfl
  clear h1
  go_wp2_with fail
  clear p0_0 p1_0 p2_0
  generalize hwa : World.alloc w _ = v1
  have h1 := (hS.out.boxed (vs := [.bool false, .slice none 0 0, .slice none 0 0]) (ty := 27) rfl hwa)
  have hsz : v1.heap.size = w.heap.size + 1 := by rw [← hwa]; simp only [World.size_alloc]
  try rw [← hsz]
  clear hwa hsz
  clear hS; have hS := Lib.hid h1; clear h1
  obtain ⟨x0_0, x1_0, x2_0⟩ := hS.out.cs3 0 rfl
  go_wp2_with fail
  go_at_call 84
  with_reducible refine (r6size_c hS.out HX1.out HX2.out rfl).mono ?_
  rintro e v2 ⟨A1, n1, c1, rfl, h1⟩
  clear x0_0 x1_0 x2_0
  clear hS; have hS := Lib.hid h1; clear h1
  obtain ⟨x0_0, x1_0, x2_0⟩ := hS.out.cs3 0 rfl
  go_wp2_with fail
  go_at_call 84
  with_reducible refine (r6size_c hS.out HY1.out HY2.out rfl).mono ?_
  rintro e v3 ⟨A2, n2, c2, rfl, h1⟩
  clear x0_0 x1_0 x2_0
  clear hS; have hS := Lib.hid h1; clear h1
  obtain ⟨x0_0, x1_0, x2_0⟩ := hS.out.cs3 0 rfl
  go_wp2_with fail
  go_at_call 44
  with_reducible refine (r6mk_c (M := 1) (r := r) hS.out (by repeat (first | exact ms | apply mo)) (by repeat (first | exact ms | apply mo)) (by omega) (by omega) (by omega) (by omega) HM.out (by have hq := HR.out; first | exact hq | (simp only [DX.out, DY.out, Bool.not_true, Bool.not_false]; exact hq) | (simp only [DX.out, DY.out, beq_self_eq_true, Bool.not_true, Bool.not_false]; exact hq) | (simp [DX.out, DY.out]; exact hq))).mono ?_
  rintro e v4 ⟨A4, n4, c4, A5, n5, c5, rfl, h1⟩
  clear x0_0 x1_0 x2_0
  clear hS; have hS := Lib.hid h1; clear h1
  obtain ⟨x0_0, x1_0, x2_0⟩ := hS.out.cs3 0 rfl
  have hp0 := hS.out.put3 0 rfl (hS.out.ge_ 0 rfl) (.bool (sg r.num)) (.slice A4 n4 c4) (.slice A5 n5 c5)
  simp only [List.set_cons_zero, List.set_cons_succ] at hp0
  have fz0_0 := hS.out.frs 0 rfl 0
  have fz0_1 := hS.out.frs 0 rfl 1
  have fz0_2 := hS.out.frs 0 rfl 2
  have HPUT := Lib.hid hp0
  clear hp0
  go_wp2_with fail
  refine bodyPost_ret (results_B2 rfl rfl rfl (loadR (HPUT.out.box _ (List.mem_of_getElem? (i := 0) rfl)))) rfl ?_
  exact HPUT.out.toRE2 (r := r) (by repeat (first | exact ms | apply mo)) (by repeat (first | exact ms | apply mo)) (by repeat (first | exact ms | apply mo)) (by repeat (first | exact ms | apply mo)) (by omega) (by omega) rfl rfl rfl
theorem r6over_nz (w : World) {x y : Int} (hx1 : -9223372036854775808 ≤ x) (hx2 : x ≤ 9223372036854775807) (hy1 : -9223372036854775808 ≤ y) (hy2 : y ≤ 9223372036854775807) (hx : x < 0) (hy : 0 ≤ y) (hmy : mg y = 0) : Calls Tryz.prog 46 #[.int .i64 x, .int .i64 y] w (OutRZ w 7) := by
  have hS := Lib.hid (SC.start w)
  have DX := Lib.hid (show decide (x < 0) = true from decide_eq_true (by omega))
  have DY := Lib.hid (show decide (y < 0) = false from decide_eq_false (by omega))
  have HX1 := Lib.hid hx1
  have HX2 := Lib.hid hx2
  have HY1 := Lib.hid hy1
  have HY2 := Lib.hid hy2
  have HM := Lib.hid hmy
  clear hx1 hx2 hy1 hy2 hmy
  go_enter Tryz.func46, Tryz.ntmps46
  have h1 := (hS.out.boxed (vs := [.bool false, .slice none 0 0, .slice none 0 0]) (ty := 27) rfl rfl)
  try simp only [World.size_alloc] at h1
  obtain ⟨p0_0, p1_0, p2_0⟩ := h1.cs3 0 rfl
  clear h1
  go_wp2_with fail
  clear p0_0 p1_0 p2_0
  generalize hwa : World.alloc w _ = v1
  have h1 := (hS.out.boxed (vs := [.bool false, .slice none 0 0, .slice none 0 0]) (ty := 27) rfl hwa)
  have hsz : v1.heap.size = w.heap.size + 1 := by rw [← hwa]; simp only [World.size_alloc]
  try rw [← hsz]
  clear hwa hsz
  clear hS; have hS := Lib.hid h1; clear h1
  obtain ⟨x0_0, x1_0, x2_0⟩ := hS.out.cs3 0 rfl
  go_wp2_with fail
  go_at_call 84
  with_reducible refine (r6size_c hS.out HX1.out HX2.out rfl).mono ?_
  rintro e v2 ⟨A1, n1, c1, rfl, h1⟩
  clear x0_0 x1_0 x2_0
  clear hS; have hS := Lib.hid h1; clear h1
  obtain ⟨x0_0, x1_0, x2_0⟩ := hS.out.cs3 0 rfl
  go_wp2_with fail
  go_at_call 84
  with_reducible refine (r6size_c hS.out HY1.out HY2.out rfl).mono ?_
  rintro e v3 ⟨A2, n2, c2, rfl, h1⟩
  clear x0_0 x1_0 x2_0
  clear hS; have hS := Lib.hid h1; clear h1
  obtain ⟨x0_0, x1_0, x2_0⟩ := hS.out.cs3 0 rfl
  go_wp2_with fail
  go_at_call 44
  with_reducible refine (r6mk_z hS.out (by repeat (first | exact ms | apply mo)) (by repeat (first | exact ms | apply mo)) (by omega) (by omega) HM.out).mono ?_
  rintro e v4 ⟨rfl, h1⟩
  clear x0_0 x1_0 x2_0
  clear hS; have hS := Lib.hid h1; clear h1
  obtain ⟨x0_0, x1_0, x2_0⟩ := hS.out.cs3 0 rfl
  have hp0 := hS.out.put3 0 rfl (hS.out.ge_ 0 rfl) (.bool false) (.slice none 0 0) (.slice none 0 0)
  simp only [List.set_cons_zero, List.set_cons_succ] at hp0
  have fz0_0 := hS.out.frs 0 rfl 0
  have fz0_1 := hS.out.frs 0 rfl 1
  have fz0_2 := hS.out.frs 0 rfl 2
  have HPUT := Lib.hid hp0
  clear hp0
  go_wp2_with fail
  refine bodyPost_ret (results_B2 rfl rfl rfl (loadR (HPUT.out.box _ (List.mem_of_getElem? (i := 0) rfl)))) rfl ?_
  exact ⟨rfl, HPUT.out.bl⟩
theorem r6over_pn (w : World) {x y : Int} (hx1 : -9223372036854775808 ≤ x) (hx2 : x ≤ 9223372036854775807) (hy1 : -9223372036854775808 ≤ y) (hy2 : y ≤ 9223372036854775807) (hx : 0 ≤ x) (hy : y < 0) (hmy : 0 < mg y) {r : Rat} (hr : rv true (mg x) (mg y) = r) : Calls Tryz.prog 46 #[.int .i64 x, .int .i64 y] w (OutRE w 1 r 0) := by
  have hS := Lib.hid (SC.start w)
  have DX := Lib.hid (show decide (x < 0) = false from decide_eq_false (by omega))
  have DY := Lib.hid (show decide (y < 0) = true from decide_eq_true (by omega))
  have HX1 := Lib.hid hx1
  have HX2 := Lib.hid hx2
  have HY1 := Lib.hid hy1
  have HY2 := Lib.hid hy2
  have HM := Lib.hid hmy
  have HR := Lib.hid hr
  clear hx1 hx2 hy1 hy2 hmy hr
  go_enter Tryz.func46, Tryz.ntmps46
  have h1 := (hS.out.boxed (vs := [.bool false, .slice none 0 0, .slice none 0 0]) (ty := 27) rfl rfl)
  try simp only [World.size_alloc] at h1
  obtain ⟨p0_0, p1_0, p2_0⟩ := h1.cs3 0 rfl
  clear h1
  go_wp2_with fail
  clear p0_0 p1_0 p2_0
  generalize hwa : World.alloc w _ = v1
  have h1 := (hS.out.boxed (vs := [.bool false, .slice none 0 0, .slice none 0 0]) (ty := 27) rfl hwa)
  have hsz : v1.heap.size = w.heap.size + 1 := by rw [← hwa]; simp only [World.size_alloc]
  try rw [← hsz]
  clear hwa hsz
  clear hS; have hS := Lib.hid h1; clear h1
  obtain ⟨x0_0, x1_0, x2_0⟩ := hS.out.cs3 0 rfl
  go_wp2_with fail
  go_at_call 84
  with_reducible refine (r6size_c hS.out HX1.out HX2.out rfl).mono ?_
  rintro e v2 ⟨A1, n1, c1, rfl, h1⟩
  clear x0_0 x1_0 x2_0
  clear hS; have hS := Lib.hid h1; clear h1
  obtain ⟨x0_0, x1_0, x2_0⟩ := hS.out.cs3 0 rfl
  go_wp2_with fail
  go_at_call 84
  with_reducible refine (r6size_c hS.out HY1.out HY2.out rfl).mono ?_
  rintro e v3 ⟨A2, n2, c2, rfl, h1⟩
  clear x0_0 x1_0 x2_0
  clear hS; have hS := Lib.hid h1; clear h1
  obtain ⟨x0_0, x1_0, x2_0⟩ := hS.out.cs3 0 rfl
  go_wp2_with fail
  go_at_call 44
  with_reducible refine (r6mk_c (M := 1) (r := r) hS.out (by repeat (first | exact ms | apply mo)) (by repeat (first | exact ms | apply mo)) (by omega) (by omega) (by omega) (by omega) HM.out (by have hq := HR.out; first | exact hq | (simp only [DX.out, DY.out, Bool.not_true, Bool.not_false]; exact hq) | (simp only [DX.out, DY.out, beq_self_eq_true, Bool.not_true, Bool.not_false]; exact hq) | (simp [DX.out, DY.out]; exact hq))).mono ?_
  rintro e v4 ⟨A4, n4, c4, A5, n5, c5, rfl, h1⟩
  clear x0_0 x1_0 x2_0
  clear hS; have hS := Lib.hid h1; clear h1
  obtain ⟨x0_0, x1_0, x2_0⟩ := hS.out.cs3 0 rfl
  have hp0 := hS.out.put3 0 rfl (hS.out.ge_ 0 rfl) (.bool (sg r.num)) (.slice A4 n4 c4) (.slice A5 n5 c5)
  simp only [List.set_cons_zero, List.set_cons_succ] at hp0
  have fz0_0 := hS.out.frs 0 rfl 0
  have fz0_1 := hS.out.frs 0 rfl 1
  have fz0_2 := hS.out.frs 0 rfl 2
  have HPUT := Lib.hid hp0
  clear hp0
  go_wp2_with fail
  refine bodyPost_ret (results_B2 rfl rfl rfl (loadR (HPUT.out.box _ (List.mem_of_getElem? (i := 0) rfl)))) rfl ?_
  exact HPUT.out.toRE2 (r := r) (by repeat (first | exact ms | apply mo)) (by repeat (first | exact ms | apply mo)) (by repeat (first | exact ms | apply mo)) (by repeat (first | exact ms | apply mo)) (by omega) (by omega) rfl rfl rfl
theorem r6over_pp (w : World) {x y : Int} (hx1 : -9223372036854775808 ≤ x) (hx2 : x ≤ 9223372036854775807) (hy1 : -9223372036854775808 ≤ y) (hy2 : y ≤ 9223372036854775807) (hx : 0 ≤ x) (hy : 0 ≤ y) (hmy : 0 < mg y) {r : Rat} (hr : rv false (mg x) (mg y) = r) : Calls Tryz.prog 46 #[.int .i64 x, .int .i64 y] w (OutRE w 1 r 0) := by
  have hS := Lib.hid (SC.start w)
  have DX := Lib.hid (show decide (x < 0) = false from decide_eq_false (by omega))
  have DY := Lib.hid (show decide (y < 0) = false from decide_eq_false (by omega))
  have HX1 := Lib.hid hx1
  have HX2 := Lib.hid hx2
  have HY1 := Lib.hid hy1
  have HY2 := Lib.hid hy2
  have HM := Lib.hid hmy
  have HR := Lib.hid hr
  clear hx1 hx2 hy1 hy2 hmy hr
  go_enter Tryz.func46, Tryz.ntmps46
  have h1 := (hS.out.boxed (vs := [.bool false, .slice none 0 0, .slice none 0 0]) (ty := 27) rfl rfl)
  try simp only [World.size_alloc] at h1
  obtain ⟨p0_0, p1_0, p2_0⟩ := h1.cs3 0 rfl
  clear h1
  go_wp2_with fail
  clear p0_0 p1_0 p2_0
  generalize hwa : World.alloc w _ = v1
  have h1 := (hS.out.boxed (vs := [.bool false, .slice none 0 0, .slice none 0 0]) (ty := 27) rfl hwa)
  have hsz : v1.heap.size = w.heap.size + 1 := by rw [← hwa]; simp only [World.size_alloc]
  try rw [← hsz]
  clear hwa hsz
  clear hS; have hS := Lib.hid h1; clear h1
  obtain ⟨x0_0, x1_0, x2_0⟩ := hS.out.cs3 0 rfl
  go_wp2_with fail
  go_at_call 84
  with_reducible refine (r6size_c hS.out HX1.out HX2.out rfl).mono ?_
  rintro e v2 ⟨A1, n1, c1, rfl, h1⟩
  clear x0_0 x1_0 x2_0
  clear hS; have hS := Lib.hid h1; clear h1
  obtain ⟨x0_0, x1_0, x2_0⟩ := hS.out.cs3 0 rfl
  go_wp2_with fail
  go_at_call 84
  with_reducible refine (r6size_c hS.out HY1.out HY2.out rfl).mono ?_
  rintro e v3 ⟨A2, n2, c2, rfl, h1⟩
  clear x0_0 x1_0 x2_0
  clear hS; have hS := Lib.hid h1; clear h1
  obtain ⟨x0_0, x1_0, x2_0⟩ := hS.out.cs3 0 rfl
  go_wp2_with fail
  go_at_call 44
  with_reducible refine (r6mk_c (M := 1) (r := r) hS.out (by repeat (first | exact ms | apply mo)) (by repeat (first | exact ms | apply mo)) (by omega) (by omega) (by omega) (by omega) HM.out (by have hq := HR.out; first | exact hq | (simp only [DX.out, DY.out, Bool.not_true, Bool.not_false]; exact hq) | (simp only [DX.out, DY.out, beq_self_eq_true, Bool.not_true, Bool.not_false]; exact hq) | (simp [DX.out, DY.out]; exact hq))).mono ?_
  rintro e v4 ⟨A4, n4, c4, A5, n5, c5, rfl, h1⟩
  clear x0_0 x1_0 x2_0
  clear hS; have hS := Lib.hid h1; clear h1
  obtain ⟨x0_0, x1_0, x2_0⟩ := hS.out.cs3 0 rfl
  have hp0 := hS.out.put3 0 rfl (hS.out.ge_ 0 rfl) (.bool (sg r.num)) (.slice A4 n4 c4) (.slice A5 n5 c5)
  simp only [List.set_cons_zero, List.set_cons_succ] at hp0
  have fz0_0 := hS.out.frs 0 rfl 0
  have fz0_1 := hS.out.frs 0 rfl 1
  have fz0_2 := hS.out.frs 0 rfl 2
  have HPUT := Lib.hid hp0
  clear hp0
  go_wp2_with fail
  refine bodyPost_ret (results_B2 rfl rfl rfl (loadR (HPUT.out.box _ (List.mem_of_getElem? (i := 0) rfl)))) rfl ?_
  exact HPUT.out.toRE2 (r := r) (by repeat (first | exact ms | apply mo)) (by repeat (first | exact ms | apply mo)) (by repeat (first | exact ms | apply mo)) (by repeat (first | exact ms | apply mo)) (by omega) (by omega) rfl rfl rfl
theorem r6over_pz (w : World) {x y : Int} (hx1 : -9223372036854775808 ≤ x) (hx2 : x ≤ 9223372036854775807) (hy1 : -9223372036854775808 ≤ y) (hy2 : y ≤ 9223372036854775807) (hx : 0 ≤ x) (hy : 0 ≤ y) (hmy : mg y = 0) : Calls Tryz.prog 46 #[.int .i64 x, .int .i64 y] w (OutRZ w 7) := by
  have hS := Lib.hid (SC.start w)
  have DX := Lib.hid (show decide (x < 0) = false from decide_eq_false (by omega))
  have DY := Lib.hid (show decide (y < 0) = false from decide_eq_false (by omega))
  have HX1 := Lib.hid hx1
  have HX2 := Lib.hid hx2
  have HY1 := Lib.hid hy1
  have HY2 := Lib.hid hy2
  have HM := Lib.hid hmy
  clear hx1 hx2 hy1 hy2 hmy
  go_enter Tryz.func46, Tryz.ntmps46
  have h1 := (hS.out.boxed (vs := [.bool false, .slice none 0 0, .slice none 0 0]) (ty := 27) rfl rfl)
  try simp only [World.size_alloc] at h1
  obtain ⟨p0_0, p1_0, p2_0⟩ := h1.cs3 0 rfl
  clear h1
  go_wp2_with fail
  clear p0_0 p1_0 p2_0
  generalize hwa : World.alloc w _ = v1
  have h1 := (hS.out.boxed (vs := [.bool false, .slice none 0 0, .slice none 0 0]) (ty := 27) rfl hwa)
  have hsz : v1.heap.size = w.heap.size + 1 := by rw [← hwa]; simp only [World.size_alloc]
  try rw [← hsz]
  clear hwa hsz
  clear hS; have hS := Lib.hid h1; clear h1
  obtain ⟨x0_0, x1_0, x2_0⟩ := hS.out.cs3 0 rfl
  go_wp2_with fail
  go_at_call 84
  with_reducible refine (r6size_c hS.out HX1.out HX2.out rfl).mono ?_
  rintro e v2 ⟨A1, n1, c1, rfl, h1⟩
  clear x0_0 x1_0 x2_0
  clear hS; have hS := Lib.hid h1; clear h1
  obtain ⟨x0_0, x1_0, x2_0⟩ := hS.out.cs3 0 rfl
  go_wp2_with fail
  go_at_call 84
  with_reducible refine (r6size_c hS.out HY1.out HY2.out rfl).mono ?_
  rintro e v3 ⟨A2, n2, c2, rfl, h1⟩
  clear x0_0 x1_0 x2_0
  clear hS; have hS := Lib.hid h1; clear h1
  obtain ⟨x0_0, x1_0, x2_0⟩ := hS.out.cs3 0 rfl
  go_wp2_with fail
  go_at_call 44
  with_reducible refine (r6mk_z hS.out (by repeat (first | exact ms | apply mo)) (by repeat (first | exact ms | apply mo)) (by omega) (by omega) HM.out).mono ?_
  rintro e v4 ⟨rfl, h1⟩
  clear x0_0 x1_0 x2_0
  clear hS; have hS := Lib.hid h1; clear h1
  obtain ⟨x0_0, x1_0, x2_0⟩ := hS.out.cs3 0 rfl
  have hp0 := hS.out.put3 0 rfl (hS.out.ge_ 0 rfl) (.bool false) (.slice none 0 0) (.slice none 0 0)
  simp only [List.set_cons_zero, List.set_cons_succ] at hp0
  have fz0_0 := hS.out.frs 0 rfl 0
  have fz0_1 := hS.out.frs 0 rfl 1
  have fz0_2 := hS.out.frs 0 rfl 2
  have HPUT := Lib.hid hp0
  clear hp0
  go_wp2_with fail
  refine bodyPost_ret (results_B2 rfl rfl rfl (loadR (HPUT.out.box _ (List.mem_of_getElem? (i := 0) rfl)))) rfl ?_
  exact ⟨rfl, HPUT.out.bl⟩
theorem r6over_z (w : World) {x : Int} (hx1 : -9223372036854775808 ≤ x) (hx2 : x ≤ 9223372036854775807) : Calls Tryz.prog 46 #[.int .i64 x, .int .i64 0] w (OutRZ w 7) := by
  by_cases hx : x < 0
  · exact r6over_nz w hx1 hx2 (by decide) (by decide) hx (by decide) mg_0
  · exact r6over_pz w hx1 hx2 (by decide) (by decide) (by omega) (by decide) mg_0
theorem r6over_pos (w : World) {x y : Int} (hx1 : -9223372036854775808 ≤ x) (hx2 : x ≤ 9223372036854775807) (hy1 : -9223372036854775808 ≤ y) (hy2 : y ≤ 9223372036854775807) (hy : 0 < y) {r : Rat} (hr : mkRat x y.toNat = r) : Calls Tryz.prog 46 #[.int .i64 x, .int .i64 y] w (OutRE w 1 r 0) := by
  have hmy : 0 < mg y := by rw [mg_f (Int.le_of_lt hy)]; exact hy
  by_cases hx : x < 0
  · refine r6over_np w hx1 hx2 hy1 hy2 hx (Int.le_of_lt hy) hmy ?_
    rw [← hr, mg_f (Int.le_of_lt hy), mg_t (Int.le_of_lt hx)]; unfold rv; rw [iv_t, Int.neg_neg]
  · refine r6over_pp w hx1 hx2 hy1 hy2 (by omega) (Int.le_of_lt hy) hmy ?_
    rw [← hr, mg_f (Int.le_of_lt hy), mg_f (by omega)]; unfold rv; rw [iv_f]
theorem r6over_neg (w : World) {x y : Int} (hx1 : -9223372036854775808 ≤ x) (hx2 : x ≤ 9223372036854775807) (hy1 : -9223372036854775808 ≤ y) (hy2 : y ≤ 9223372036854775807) (hy : y < 0) {r : Rat} (hr : mkRat (-x) (-y).toNat = r) : Calls Tryz.prog 46 #[.int .i64 x, .int .i64 y] w (OutRE w 1 r 0) := by
  have hmy : 0 < mg y := by rw [mg_t (Int.le_of_lt hy)]; omega
  by_cases hx : x < 0
  · refine r6over_nn w hx1 hx2 hy1 hy2 hx hy hmy ?_
    rw [← hr, mg_t (Int.le_of_lt hy), mg_t (Int.le_of_lt hx)]; unfold rv; rw [iv_f]
  · refine r6over_pn w hx1 hx2 hy1 hy2 (by omega) hy hmy ?_
    rw [← hr, mg_t (Int.le_of_lt hy), mg_f (by omega)]; unfold rv; rw [iv_t]
theorem r6of_any (w : World) {x : Int} (hx1 : -9223372036854775808 ≤ x) (hx2 : x ≤ 9223372036854775807) {r : Rat} (hr : mkRat x (1 : Int).toNat = r) :
    Calls Tryz.prog 21 #[.int .i64 x] w (OutR w 1 r) := by
  have HH := Lib.hid (fun W => r6over_pos W hx1 hx2 (y := 1) (by decide) (by decide) (by decide) hr)
  have hS := Lib.hid (SC.start w)
  clear hx1 hx2 hr
  go_enter Tryz.func21, Tryz.ntmps21
  have h1 := (hS.out.boxed (vs := [.bool false, .slice none 0 0, .slice none 0 0]) (ty := 27) rfl rfl)
  try simp only [World.size_alloc] at h1
  obtain ⟨p0_0, p1_0, p2_0⟩ := h1.cs3 0 rfl
  clear h1
  go_wp2_with fail
  clear p0_0 p1_0 p2_0
  generalize hwa : World.alloc w _ = v1
  have h1 := (hS.out.boxed (vs := [.bool false, .slice none 0 0, .slice none 0 0]) (ty := 27) rfl hwa)
  have hsz : v1.heap.size = w.heap.size + 1 := by rw [← hwa]; simp only [World.size_alloc]
  try rw [← hsz]
  clear hwa hsz
  clear hS; have hS := Lib.hid h1; clear h1
  obtain ⟨x0_0, x1_0, x2_0⟩ := hS.out.cs3 0 rfl
  go_wp2_with fail
  go_at_call 46
  with_reducible refine (HH.out _).mono ?_
  rintro e v2 ho
  clear x0_0 x1_0 x2_0
  obtain ⟨A3, n3, c3, A4, n4, c4, rfl, h1⟩ := hS.out.rRE (Nat.le_refl _) ho
  clear hS; have hS := Lib.hid h1; clear h1
  obtain ⟨x0_0, x1_0, x2_0⟩ := hS.out.cs3 0 rfl
  have hm0 := hS.out.boxed (vs := [.bool (sg r.num), .slice A3 n3 c3, .slice A4 n4 c4]) (ty := 27) rfl rfl
  try simp only [World.size_alloc] at hm0
  obtain ⟨m00_0, m01_0, m02_0⟩ := hm0.cs3 0 rfl
  obtain ⟨m00_1, m01_1, m02_1⟩ := hm0.cs3 1 rfl
  have hp0 := hm0.put3 1 rfl (hm0.ge_ 1 rfl) (.bool (sg r.num)) (.slice A3 n3 c3) (.slice A4 n4 c4)
  simp only [List.set_cons_zero, List.set_cons_succ] at hp0
  have fz0_0 := hm0.frs 1 rfl 0
  have fz0_1 := hm0.frs 1 rfl 1
  have fz0_2 := hm0.frs 1 rfl 2
  have HPUT := Lib.hid hp0
  clear hp0
  clear hm0
  go_wp2_with fail
  refine bodyPost_ret (results_B rfl rfl (loadR (HPUT.out.box _ (List.mem_of_getElem? (i := 1) rfl)))) rfl ?_
  exact HPUT.out.toR2 (k := 1) (k' := 1) (r := r) (by repeat (first | exact ms | apply mo)) (by repeat (first | exact ms | apply mo)) (by repeat (first | exact ms | apply mo)) (by repeat (first | exact ms | apply mo)) (Nat.le_refl _) (Nat.le_refl _) rfl rfl rfl
theorem rshl_x (h : SC w0 v0 w S T O) {q : Int} (hq : q < 0 ∨ 65536 < q) :
    Calls Tryz.prog 116 #[.slice A n c, .int .i64 q] w fun e w' => e = .returned (.tuple #[.slice none 0 0, .int .i64 1]) ∧ SC w0 v0 w' S T O := by
  exact (rshl_no w A n c q hq).mono fun e w' ⟨he, hb⟩ => ⟨he, by rw [hb]; exact h⟩
end
end Go.Proofs.YtpokcocfdchfeaaGreatDoor
