/- The examples of layer 6 as a call. -/
import Derived.Test.YtpokcocfdchfeaaGreatDoorRatG
import Derived.Deep.RegionHeld3
namespace Go.Proofs.YtpokcocfdchfeaaGreatDoor
open Go.RowKit
set_option linter.unusedVariables false
set_option linter.unusedSimpArgs false
set_option maxRecDepth 20000
open N
open Go.Lib (decDigits nDigits decDigits_length nDigits_pos)
section
variable {w0 v0 w : World} {S O : List Ent} {T : List Blk} {A0 A0' A1 A1' : Option Addr} {n0 c0 n0' c0' n1 c1 n1' c1' k k' k0 k0' k1 k1' : Nat} {x0 x1 y0 y1 : List Int} {v0' v1 u0 u1 : Int} {b b' : Bool} {r r' : Rat}
theorem is_c (h : SC w0 v0 w S T O) (h1 : (⟨A0, n0, c0, k0, x0, v0'⟩ : Ent) ∈ S) (h2 : (⟨A0', n0', c0', k0', y0, u0⟩ : Ent) ∈ S) (g1 : (⟨A1, n1, c1, k1, x1, v1⟩ : Ent) ∈ S) (g2 : (⟨A1', n1', c1', k1', y1, u1⟩ : Ent) ∈ S) (hb : b = b') (hx : x0 = x1) (hy : y0 = y1) :
    Calls Tryz.prog 8 #[.agg #[.bool b, .slice A0 n0 c0, .slice A0' n0' c0'], .agg #[.bool b', .slice A1 n1 c1, .slice A1' n1' c1']] w fun e w' => e = .returned (.bool true) ∧ SC w0 v0 w' S T O := by
  subst hb hx hy
  exact (is_any w b (h.get h1).1 (h.get h2).1 (h.get g1).1 (h.get g2).1).mono fun e w' ⟨he, hb⟩ => ⟨he, h.below hb⟩
theorem is_told (h : SC w0 v0 w S T O) (h1 : (⟨A0, n0, c0, k, limbs (mg r.num), mg r.num⟩ : Ent) ∈ S) (h2 : (⟨A0', n0', c0', k, limbs r.den, r.den⟩ : Ent) ∈ S) (g1 : (⟨A1, n1, c1, k', limbs (mg r'.num), mg r'.num⟩ : Ent) ∈ S) (g2 : (⟨A1', n1', c1', k', limbs r'.den, r'.den⟩ : Ent) ∈ S) (hr : r = r') :
    Calls Tryz.prog 8 #[.agg #[.bool (sg r.num), .slice A0 n0 c0, .slice A0' n0' c0'], .agg #[.bool (sg r'.num), .slice A1 n1 c1, .slice A1' n1' c1']] w fun e w' => e = .returned (.bool true) ∧ SC w0 v0 w' S T O := by
  subst hr
  exact is_c h h1 h2 g1 g2 rfl rfl rfl
theorem is_lit0 (h : SC w0 v0 w S T O) (h1 : (⟨A0, n0, c0, k, limbs (mg r.num), mg r.num⟩ : Ent) ∈ S) (h2 : (⟨A0', n0', c0', k, limbs r.den, r.den⟩ : Ent) ∈ S) (g1 : (⟨none, 0, 0, 0, [], 0⟩ : Ent) ∈ S) (g2 : (⟨A1', n1', c1', k', y1, u1⟩ : Ent) ∈ S) (hr : sg r.num = false) (hx : limbs (mg r.num) = []) (hy : limbs r.den = y1) :
    Calls Tryz.prog 8 #[.agg #[.bool (sg r.num), .slice A0 n0 c0, .slice A0' n0' c0'], .agg #[.bool false, .slice none 0 0, .slice A1' n1' c1']] w fun e w' => e = .returned (.bool true) ∧ SC w0 v0 w' S T O :=
  is_c h h1 h2 g1 g2 hr hx hy
theorem fpow_z {b0 : Bool} {M q : Nat} {z : Int} (hz : (q : Int) = z) (w : World) (h : Frm w b0 A0 n0 c0 x0 A0' n0' c0' y0 M r) (h1M : 1 ≤ M) (hM : M ≤ 100000) (hq : q ≤ 9223372036854775807) (hok1 : PowOk (mg r.num) q) (hok2 : PowOk r.den q) :
    Calls Tryz.prog 7 #[.agg #[.bool b0, .slice A0 n0 c0, .slice A0' n0' c0'], .int .i64 z] w (OutRE w 16385 (r ^ q) 0) := by
  subst hz
  exact fpow_any w h h1M hM hq hok1 hok2
theorem powOk3 {v : Int} (h : v = 1 ∨ v = 2) : PowOk v 3 := by
  rcases h with rfl | rfl
  · exact .inr (by decide +kernel)
  · exact .inr (by decide +kernel)
end
set_option maxHeartbeats 4000000 in
theorem awake_any (w : World) : Calls Tryz.prog 5 #[] w fun e w' => e = .returned (.bool true) ∧ Below w.heap.size w w' := by
  have hS := Lib.hid (SC.start w)
  go_enter Tryz.func5, Tryz.ntmps5
  obtain ⟨q1, hq1⟩ : ∃ q : Rat, mkRat 2 3 = q := ⟨_, rfl⟩
  have Hq1 := Lib.hid hq1
  clear hq1
  obtain ⟨q2, hq2⟩ : ∃ q : Rat, mkRat 0 1 = q := ⟨_, rfl⟩
  have Hq2 := Lib.hid hq2
  clear hq2
  go_wp2_with fail
  go_at_call 10
  with_reducible refine (fmk_c (M := 1) (b := false) (r := q1) (hS.out.lit11 4 6 (by decide) (by decide)) (by repeat (first | exact List.mem_cons_self | apply List.mem_cons_of_mem)) (by repeat (first | exact List.mem_cons_self | apply List.mem_cons_of_mem)) (by decide) (by decide) (by decide) (by decide) (by rw [← Hq1.out]; decide +kernel)).mono ?_
  rintro e v1 ⟨A1, n1, c1, A2, n2, c2, rfl, h1⟩
  clear hS; have hS := Lib.hid h1; clear h1
  have h1 := (hS.out.boxed (vs := [.bool (sg (q1).num), .slice A1 n1 c1, .slice A2 n2 c2]) (ty := 27) rfl rfl)
  try simp only [World.size_alloc] at h1
  obtain ⟨p0_0, p1_0, p2_0⟩ := h1.cs3 0 rfl
  clear h1
  go_wp2_with fail
  clear p0_0 p1_0 p2_0
  generalize hwa : World.alloc v1 _ = v2
  have h1 := (hS.out.boxed (vs := [.bool (sg (q1).num), .slice A1 n1 c1, .slice A2 n2 c2]) (ty := 27) rfl hwa)
  have hsz : v2.heap.size = v1.heap.size + 1 := by rw [← hwa]; simp only [World.size_alloc]
  try rw [← hsz]
  clear hwa hsz
  clear hS; have hS := Lib.hid h1; clear h1
  obtain ⟨x0_0, x1_0, x2_0⟩ := hS.out.cs3 0 rfl
  go_wp2_with fail
  go_at_call 10
  with_reducible refine (fmk_c (M := 1) (b := true) (r := q2) (hS.out.none_.lit1 5 (by decide)) (by repeat (first | exact List.mem_cons_self | apply List.mem_cons_of_mem)) (by repeat (first | exact List.mem_cons_self | apply List.mem_cons_of_mem)) (by decide) (by decide) (by decide) (by decide) (by rw [← Hq2.out]; decide +kernel)).mono ?_
  rintro e v3 ⟨A3, n3, c3, A4, n4, c4, rfl, h1⟩
  clear x0_0 x1_0 x2_0
  clear hS; have hS := Lib.hid h1; clear h1
  obtain ⟨x0_0, x1_0, x2_0⟩ := hS.out.cs3 0 rfl
  have h1 := (hS.out.boxed (vs := [.bool (sg (q2).num), .slice A3 n3 c3, .slice A4 n4 c4]) (ty := 27) rfl rfl)
  try simp only [World.size_alloc] at h1
  obtain ⟨p0_0, p1_0, p2_0⟩ := h1.cs3 0 rfl
  obtain ⟨p0_1, p1_1, p2_1⟩ := h1.cs3 1 rfl
  clear h1
  go_wp2_with fail
  clear x0_0 x1_0 x2_0
  clear p0_0 p1_0 p2_0 p0_1 p1_1 p2_1
  generalize hwa : World.alloc v3 _ = v4
  have h1 := (hS.out.boxed (vs := [.bool (sg (q2).num), .slice A3 n3 c3, .slice A4 n4 c4]) (ty := 27) rfl hwa)
  have hsz : v4.heap.size = v3.heap.size + 1 := by rw [← hwa]; simp only [World.size_alloc]
  try rw [← hsz]
  clear hwa hsz
  clear hS; have hS := Lib.hid h1; clear h1
  obtain ⟨x0_0, x1_0, x2_0⟩ := hS.out.cs3 0 rfl
  obtain ⟨x0_1, x1_1, x2_1⟩ := hS.out.cs3 1 rfl
  go_wp2_with fail
  go_at_call 10
  with_reducible refine (fmk_z (b := false) (hS.out.none_.lit1 1 (by decide)) (by repeat (first | exact List.mem_cons_self | apply List.mem_cons_of_mem)) (by repeat (first | exact List.mem_cons_self | apply List.mem_cons_of_mem)) (by decide) (by decide) rfl).mono ?_
  rintro e v5 ⟨rfl, h1⟩
  clear x0_0 x1_0 x2_0 x0_1 x1_1 x2_1
  clear hS; have hS := Lib.hid h1; clear h1
  obtain ⟨x0_0, x1_0, x2_0⟩ := hS.out.cs3 0 rfl
  obtain ⟨x0_1, x1_1, x2_1⟩ := hS.out.cs3 1 rfl
  have h1 := (hS.out.boxed (vs := [.bool false, .slice none 0 0, .slice none 0 0]) (ty := 27) rfl rfl)
  try simp only [World.size_alloc] at h1
  obtain ⟨p0_0, p1_0, p2_0⟩ := h1.cs3 0 rfl
  obtain ⟨p0_1, p1_1, p2_1⟩ := h1.cs3 1 rfl
  obtain ⟨p0_2, p1_2, p2_2⟩ := h1.cs3 2 rfl
  clear h1
  go_wp2_with fail
  clear x0_0 x1_0 x2_0 x0_1 x1_1 x2_1
  clear p0_0 p1_0 p2_0 p0_1 p1_1 p2_1 p0_2 p1_2 p2_2
  generalize hwa : World.alloc v5 _ = v6
  have h1 := (hS.out.boxed (vs := [.bool false, .slice none 0 0, .slice none 0 0]) (ty := 27) rfl hwa)
  have hsz : v6.heap.size = v5.heap.size + 1 := by rw [← hwa]; simp only [World.size_alloc]
  try rw [← hsz]
  clear hwa hsz
  clear hS; have hS := Lib.hid h1; clear h1
  obtain ⟨x0_0, x1_0, x2_0⟩ := hS.out.cs3 0 rfl
  obtain ⟨x0_1, x1_1, x2_1⟩ := hS.out.cs3 1 rfl
  obtain ⟨x0_2, x1_2, x2_2⟩ := hS.out.cs3 2 rfl
  obtain ⟨q3, hq3⟩ : ∃ q : Rat, mkRat (1) 2 = q := ⟨_, rfl⟩
  have Hq3 := Lib.hid hq3
  clear hq3
  go_wp2_with fail
  go_at_call 12
  with_reducible refine (over_of (r := q3) (M := 1) (j := 0) (fun W => fover_pos W (x := 1) (y := 2) (r := q3) (by decide) (by decide) (by decide) (by decide) (by decide) (by rw [← Hq3.out]; decide +kernel)) _).mono ?_
  rintro e v7 ho
  clear x0_0 x1_0 x2_0 x0_1 x1_1 x2_1 x0_2 x1_2 x2_2
  obtain ⟨A11, n11, c11, A12, n12, c12, rfl, h1⟩ := hS.out.rR (Nat.le_refl _) ho
  clear hS; have hS := Lib.hid h1; clear h1
  obtain ⟨x0_0, x1_0, x2_0⟩ := hS.out.cs3 0 rfl
  obtain ⟨x0_1, x1_1, x2_1⟩ := hS.out.cs3 1 rfl
  obtain ⟨x0_2, x1_2, x2_2⟩ := hS.out.cs3 2 rfl
  obtain ⟨q4, hq4⟩ : ∃ q : Rat, mkRat 0 1 = q := ⟨_, rfl⟩
  have Hq4 := Lib.hid hq4
  clear hq4
  go_wp2_with fail
  go_at_call 13
  with_reducible refine (fof_any _ 0 (by decide) (by decide)).mono ?_
  rintro e v8 ho
  clear x0_0 x1_0 x2_0 x0_1 x1_1 x2_1 x0_2 x1_2 x2_2
  rw [Hq4.out] at ho
  obtain ⟨A13, n13, c13, A14, n14, c14, rfl, h1⟩ := hS.out.rR (Nat.le_refl _) ho
  clear hS; have hS := Lib.hid h1; clear h1
  obtain ⟨x0_0, x1_0, x2_0⟩ := hS.out.cs3 0 rfl
  obtain ⟨x0_1, x1_1, x2_1⟩ := hS.out.cs3 1 rfl
  obtain ⟨x0_2, x1_2, x2_2⟩ := hS.out.cs3 2 rfl
  go_wp2_with fail
  go_at_call 11
  with_reducible refine (fquo_zero _ (hS.out.frt (r := q3) (k := 1) (A := A11) (n := n11) (c := c11) (A' := A12) (m := n12) (d := c12) (by repeat (first | exact List.mem_cons_self | apply List.mem_cons_of_mem)) (by repeat (first | exact List.mem_cons_self | apply List.mem_cons_of_mem))) (hS.out.frt (r := q4) (k := 1) (A := A13) (n := n13) (c := c13) (A' := A14) (m := n14) (d := c14) (by repeat (first | exact List.mem_cons_self | apply List.mem_cons_of_mem)) (by repeat (first | exact List.mem_cons_self | apply List.mem_cons_of_mem))) (by decide) (by decide) (by decide) (by decide) (by rw [← Hq4.out]; decide +kernel)).mono ?_
  rintro e v9 ho
  clear x0_0 x1_0 x2_0 x0_1 x1_1 x2_1 x0_2 x1_2 x2_2
  obtain ⟨rfl, h1⟩ := hS.out.rRZ ho
  clear hS; have hS := Lib.hid h1; clear h1
  obtain ⟨x0_0, x1_0, x2_0⟩ := hS.out.cs3 0 rfl
  obtain ⟨x0_1, x1_1, x2_1⟩ := hS.out.cs3 1 rfl
  obtain ⟨x0_2, x1_2, x2_2⟩ := hS.out.cs3 2 rfl
  have h1 := (hS.out.boxed (vs := [.bool false, .slice none 0 0, .slice none 0 0]) (ty := 27) rfl rfl)
  try simp only [World.size_alloc] at h1
  obtain ⟨p0_0, p1_0, p2_0⟩ := h1.cs3 0 rfl
  obtain ⟨p0_1, p1_1, p2_1⟩ := h1.cs3 1 rfl
  obtain ⟨p0_2, p1_2, p2_2⟩ := h1.cs3 2 rfl
  obtain ⟨p0_3, p1_3, p2_3⟩ := h1.cs3 3 rfl
  clear h1
  go_wp2_with fail
  clear x0_0 x1_0 x2_0 x0_1 x1_1 x2_1 x0_2 x1_2 x2_2
  clear p0_0 p1_0 p2_0 p0_1 p1_1 p2_1 p0_2 p1_2 p2_2 p0_3 p1_3 p2_3
  generalize hwa : World.alloc v9 _ = v10
  have h1 := (hS.out.boxed (vs := [.bool false, .slice none 0 0, .slice none 0 0]) (ty := 27) rfl hwa)
  have hsz : v10.heap.size = v9.heap.size + 1 := by rw [← hwa]; simp only [World.size_alloc]
  try rw [← hsz]
  clear hwa hsz
  clear hS; have hS := Lib.hid h1; clear h1
  obtain ⟨x0_0, x1_0, x2_0⟩ := hS.out.cs3 0 rfl
  obtain ⟨x0_1, x1_1, x2_1⟩ := hS.out.cs3 1 rfl
  obtain ⟨x0_2, x1_2, x2_2⟩ := hS.out.cs3 2 rfl
  obtain ⟨x0_3, x1_3, x2_3⟩ := hS.out.cs3 3 rfl
  go_wp2_with fail
  go_at_call 14
  with_reducible refine (fread_bad _ [50, 47, 52] (by decide) (by decide) (z := 2) (d := 4) (by decide +kernel) (by decide +kernel) (by decide +kernel) (by decide +kernel) (by decide) (by decide +kernel)).mono ?_
  rintro e v11 ho
  clear x0_0 x1_0 x2_0 x0_1 x1_1 x2_1 x0_2 x1_2 x2_2 x0_3 x1_3 x2_3
  obtain ⟨rfl, h1⟩ := hS.out.rRZ ho
  clear hS; have hS := Lib.hid h1; clear h1
  obtain ⟨x0_0, x1_0, x2_0⟩ := hS.out.cs3 0 rfl
  obtain ⟨x0_1, x1_1, x2_1⟩ := hS.out.cs3 1 rfl
  obtain ⟨x0_2, x1_2, x2_2⟩ := hS.out.cs3 2 rfl
  obtain ⟨x0_3, x1_3, x2_3⟩ := hS.out.cs3 3 rfl
  have h1 := (hS.out.boxed (vs := [.bool false, .slice none 0 0, .slice none 0 0]) (ty := 27) rfl rfl)
  try simp only [World.size_alloc] at h1
  obtain ⟨p0_0, p1_0, p2_0⟩ := h1.cs3 0 rfl
  obtain ⟨p0_1, p1_1, p2_1⟩ := h1.cs3 1 rfl
  obtain ⟨p0_2, p1_2, p2_2⟩ := h1.cs3 2 rfl
  obtain ⟨p0_3, p1_3, p2_3⟩ := h1.cs3 3 rfl
  obtain ⟨p0_4, p1_4, p2_4⟩ := h1.cs3 4 rfl
  clear h1
  go_wp2_with fail
  clear x0_0 x1_0 x2_0 x0_1 x1_1 x2_1 x0_2 x1_2 x2_2 x0_3 x1_3 x2_3
  clear p0_0 p1_0 p2_0 p0_1 p1_1 p2_1 p0_2 p1_2 p2_2 p0_3 p1_3 p2_3 p0_4 p1_4 p2_4
  generalize hwa : World.alloc v11 _ = v12
  have h1 := (hS.out.boxed (vs := [.bool false, .slice none 0 0, .slice none 0 0]) (ty := 27) rfl hwa)
  have hsz : v12.heap.size = v11.heap.size + 1 := by rw [← hwa]; simp only [World.size_alloc]
  try rw [← hsz]
  clear hwa hsz
  clear hS; have hS := Lib.hid h1; clear h1
  obtain ⟨x0_0, x1_0, x2_0⟩ := hS.out.cs3 0 rfl
  obtain ⟨x0_1, x1_1, x2_1⟩ := hS.out.cs3 1 rfl
  obtain ⟨x0_2, x1_2, x2_2⟩ := hS.out.cs3 2 rfl
  obtain ⟨x0_3, x1_3, x2_3⟩ := hS.out.cs3 3 rfl
  obtain ⟨x0_4, x1_4, x2_4⟩ := hS.out.cs3 4 rfl
  obtain ⟨q5, hq5⟩ : ∃ q : Rat, mkRat (-1) 2 = q := ⟨_, rfl⟩
  have Hq5 := Lib.hid hq5
  clear hq5
  go_wp2_with fail
  go_at_call 14
  with_reducible refine (fread_good _ [45, 49, 47, 50] (by decide) (by decide) (z := -1) (d := 2) (r := q5) (by decide +kernel) (by decide +kernel) (by decide +kernel) (by decide +kernel) (by decide) (by decide +kernel) (by rw [← Hq5.out]; decide +kernel)).mono ?_
  rintro e v13 ho
  clear x0_0 x1_0 x2_0 x0_1 x1_1 x2_1 x0_2 x1_2 x2_2 x0_3 x1_3 x2_3 x0_4 x1_4 x2_4
  obtain ⟨A15, n15, c15, A16, n16, c16, rfl, h1⟩ := hS.out.rRE (Nat.le_refl _) ho
  clear hS; have hS := Lib.hid h1; clear h1
  obtain ⟨x0_0, x1_0, x2_0⟩ := hS.out.cs3 0 rfl
  obtain ⟨x0_1, x1_1, x2_1⟩ := hS.out.cs3 1 rfl
  obtain ⟨x0_2, x1_2, x2_2⟩ := hS.out.cs3 2 rfl
  obtain ⟨x0_3, x1_3, x2_3⟩ := hS.out.cs3 3 rfl
  obtain ⟨x0_4, x1_4, x2_4⟩ := hS.out.cs3 4 rfl
  have h1 := (hS.out.boxed (vs := [.bool (sg (q5).num), .slice A15 n15 c15, .slice A16 n16 c16]) (ty := 27) rfl rfl)
  try simp only [World.size_alloc] at h1
  obtain ⟨p0_0, p1_0, p2_0⟩ := h1.cs3 0 rfl
  obtain ⟨p0_1, p1_1, p2_1⟩ := h1.cs3 1 rfl
  obtain ⟨p0_2, p1_2, p2_2⟩ := h1.cs3 2 rfl
  obtain ⟨p0_3, p1_3, p2_3⟩ := h1.cs3 3 rfl
  obtain ⟨p0_4, p1_4, p2_4⟩ := h1.cs3 4 rfl
  obtain ⟨p0_5, p1_5, p2_5⟩ := h1.cs3 5 rfl
  clear h1
  go_wp2_with fail
  clear x0_0 x1_0 x2_0 x0_1 x1_1 x2_1 x0_2 x1_2 x2_2 x0_3 x1_3 x2_3 x0_4 x1_4 x2_4
  clear p0_0 p1_0 p2_0 p0_1 p1_1 p2_1 p0_2 p1_2 p2_2 p0_3 p1_3 p2_3 p0_4 p1_4 p2_4 p0_5 p1_5 p2_5
  generalize hwa : World.alloc v13 _ = v14
  have h1 := (hS.out.boxed (vs := [.bool (sg (q5).num), .slice A15 n15 c15, .slice A16 n16 c16]) (ty := 27) rfl hwa)
  have hsz : v14.heap.size = v13.heap.size + 1 := by rw [← hwa]; simp only [World.size_alloc]
  try rw [← hsz]
  clear hwa hsz
  clear hS; have hS := Lib.hid h1; clear h1
  obtain ⟨x0_0, x1_0, x2_0⟩ := hS.out.cs3 0 rfl
  obtain ⟨x0_1, x1_1, x2_1⟩ := hS.out.cs3 1 rfl
  obtain ⟨x0_2, x1_2, x2_2⟩ := hS.out.cs3 2 rfl
  obtain ⟨x0_3, x1_3, x2_3⟩ := hS.out.cs3 3 rfl
  obtain ⟨x0_4, x1_4, x2_4⟩ := hS.out.cs3 4 rfl
  obtain ⟨x0_5, x1_5, x2_5⟩ := hS.out.cs3 5 rfl
  obtain ⟨q6, hq6⟩ : ∃ q : Rat, rh (Int.toNat 3) = q := ⟨_, rfl⟩
  have Hq6 := Lib.hid hq6
  clear hq6
  go_wp2_with fail
  go_at_call 15
  with_reducible refine (fhalf_any _ (q := 3) (by decide) (by decide)).mono ?_
  rintro e v15 ho
  clear x0_0 x1_0 x2_0 x0_1 x1_1 x2_1 x0_2 x1_2 x2_2 x0_3 x1_3 x2_3 x0_4 x1_4 x2_4 x0_5 x1_5 x2_5
  rw [Hq6.out] at ho
  obtain ⟨A17, n17, c17, A18, n18, c18, rfl, h1⟩ := hS.out.rRE (Nat.le_refl _) ho
  clear hS; have hS := Lib.hid h1; clear h1
  obtain ⟨x0_0, x1_0, x2_0⟩ := hS.out.cs3 0 rfl
  obtain ⟨x0_1, x1_1, x2_1⟩ := hS.out.cs3 1 rfl
  obtain ⟨x0_2, x1_2, x2_2⟩ := hS.out.cs3 2 rfl
  obtain ⟨x0_3, x1_3, x2_3⟩ := hS.out.cs3 3 rfl
  obtain ⟨x0_4, x1_4, x2_4⟩ := hS.out.cs3 4 rfl
  obtain ⟨x0_5, x1_5, x2_5⟩ := hS.out.cs3 5 rfl
  have h1 := (hS.out.boxed (vs := [.bool (sg (q6).num), .slice A17 n17 c17, .slice A18 n18 c18]) (ty := 27) rfl rfl)
  try simp only [World.size_alloc] at h1
  obtain ⟨p0_0, p1_0, p2_0⟩ := h1.cs3 0 rfl
  obtain ⟨p0_1, p1_1, p2_1⟩ := h1.cs3 1 rfl
  obtain ⟨p0_2, p1_2, p2_2⟩ := h1.cs3 2 rfl
  obtain ⟨p0_3, p1_3, p2_3⟩ := h1.cs3 3 rfl
  obtain ⟨p0_4, p1_4, p2_4⟩ := h1.cs3 4 rfl
  obtain ⟨p0_5, p1_5, p2_5⟩ := h1.cs3 5 rfl
  obtain ⟨p0_6, p1_6, p2_6⟩ := h1.cs3 6 rfl
  clear h1
  go_wp2_with fail
  clear x0_0 x1_0 x2_0 x0_1 x1_1 x2_1 x0_2 x1_2 x2_2 x0_3 x1_3 x2_3 x0_4 x1_4 x2_4 x0_5 x1_5 x2_5
  clear p0_0 p1_0 p2_0 p0_1 p1_1 p2_1 p0_2 p1_2 p2_2 p0_3 p1_3 p2_3 p0_4 p1_4 p2_4 p0_5 p1_5 p2_5 p0_6 p1_6 p2_6
  generalize hwa : World.alloc v15 _ = v16
  have h1 := (hS.out.boxed (vs := [.bool (sg (q6).num), .slice A17 n17 c17, .slice A18 n18 c18]) (ty := 27) rfl hwa)
  have hsz : v16.heap.size = v15.heap.size + 1 := by rw [← hwa]; simp only [World.size_alloc]
  try rw [← hsz]
  clear hwa hsz
  clear hS; have hS := Lib.hid h1; clear h1
  obtain ⟨x0_0, x1_0, x2_0⟩ := hS.out.cs3 0 rfl
  obtain ⟨x0_1, x1_1, x2_1⟩ := hS.out.cs3 1 rfl
  obtain ⟨x0_2, x1_2, x2_2⟩ := hS.out.cs3 2 rfl
  obtain ⟨x0_3, x1_3, x2_3⟩ := hS.out.cs3 3 rfl
  obtain ⟨x0_4, x1_4, x2_4⟩ := hS.out.cs3 4 rfl
  obtain ⟨x0_5, x1_5, x2_5⟩ := hS.out.cs3 5 rfl
  obtain ⟨x0_6, x1_6, x2_6⟩ := hS.out.cs3 6 rfl
  obtain ⟨q7, hq7⟩ : ∃ q : Rat, mkRat (-1) 2 = q := ⟨_, rfl⟩
  have Hq7 := Lib.hid hq7
  clear hq7
  go_wp2_with fail
  go_at_call 12
  with_reducible refine (over_of (r := q7) (M := 1) (j := 0) (fun W => fover_pos W (x := -1) (y := 2) (r := q7) (by decide) (by decide) (by decide) (by decide) (by decide) (by rw [← Hq7.out]; decide +kernel)) _).mono ?_
  rintro e v17 ho
  clear x0_0 x1_0 x2_0 x0_1 x1_1 x2_1 x0_2 x1_2 x2_2 x0_3 x1_3 x2_3 x0_4 x1_4 x2_4 x0_5 x1_5 x2_5 x0_6 x1_6 x2_6
  obtain ⟨A19, n19, c19, A20, n20, c20, rfl, h1⟩ := hS.out.rR (Nat.le_refl _) ho
  clear hS; have hS := Lib.hid h1; clear h1
  obtain ⟨x0_0, x1_0, x2_0⟩ := hS.out.cs3 0 rfl
  obtain ⟨x0_1, x1_1, x2_1⟩ := hS.out.cs3 1 rfl
  obtain ⟨x0_2, x1_2, x2_2⟩ := hS.out.cs3 2 rfl
  obtain ⟨x0_3, x1_3, x2_3⟩ := hS.out.cs3 3 rfl
  obtain ⟨x0_4, x1_4, x2_4⟩ := hS.out.cs3 4 rfl
  obtain ⟨x0_5, x1_5, x2_5⟩ := hS.out.cs3 5 rfl
  obtain ⟨x0_6, x1_6, x2_6⟩ := hS.out.cs3 6 rfl
  obtain ⟨q8, hq8⟩ : ∃ q : Rat, q7 ^ 3 = q := ⟨_, rfl⟩
  have Hq8 := Lib.hid hq8
  clear hq8
  go_wp2_with fail
  go_at_call 7
  with_reducible refine (fpow_z (q := 3) (z := 3) rfl _ (hS.out.frt (r := q7) (k := 1) (A := A19) (n := n19) (c := c19) (A' := A20) (m := n20) (d := c20) (by repeat (first | exact List.mem_cons_self | apply List.mem_cons_of_mem)) (by repeat (first | exact List.mem_cons_self | apply List.mem_cons_of_mem))) (by decide) (by decide) (by decide) (powOk3 (by rw [← Hq7.out]; decide +kernel)) (powOk3 (by rw [← Hq7.out]; decide +kernel))).mono ?_
  rintro e v18 ho
  clear x0_0 x1_0 x2_0 x0_1 x1_1 x2_1 x0_2 x1_2 x2_2 x0_3 x1_3 x2_3 x0_4 x1_4 x2_4 x0_5 x1_5 x2_5 x0_6 x1_6 x2_6
  rw [Hq8.out] at ho
  obtain ⟨A21, n21, c21, A22, n22, c22, rfl, h1⟩ := hS.out.rRE (Nat.le_refl _) ho
  clear hS; have hS := Lib.hid h1; clear h1
  obtain ⟨x0_0, x1_0, x2_0⟩ := hS.out.cs3 0 rfl
  obtain ⟨x0_1, x1_1, x2_1⟩ := hS.out.cs3 1 rfl
  obtain ⟨x0_2, x1_2, x2_2⟩ := hS.out.cs3 2 rfl
  obtain ⟨x0_3, x1_3, x2_3⟩ := hS.out.cs3 3 rfl
  obtain ⟨x0_4, x1_4, x2_4⟩ := hS.out.cs3 4 rfl
  obtain ⟨x0_5, x1_5, x2_5⟩ := hS.out.cs3 5 rfl
  obtain ⟨x0_6, x1_6, x2_6⟩ := hS.out.cs3 6 rfl
  have h1 := (hS.out.boxed (vs := [.bool (sg (q8).num), .slice A21 n21 c21, .slice A22 n22 c22]) (ty := 27) rfl rfl)
  try simp only [World.size_alloc] at h1
  obtain ⟨p0_0, p1_0, p2_0⟩ := h1.cs3 0 rfl
  obtain ⟨p0_1, p1_1, p2_1⟩ := h1.cs3 1 rfl
  obtain ⟨p0_2, p1_2, p2_2⟩ := h1.cs3 2 rfl
  obtain ⟨p0_3, p1_3, p2_3⟩ := h1.cs3 3 rfl
  obtain ⟨p0_4, p1_4, p2_4⟩ := h1.cs3 4 rfl
  obtain ⟨p0_5, p1_5, p2_5⟩ := h1.cs3 5 rfl
  obtain ⟨p0_6, p1_6, p2_6⟩ := h1.cs3 6 rfl
  obtain ⟨p0_7, p1_7, p2_7⟩ := h1.cs3 7 rfl
  clear h1
  go_wp2_with fail
  clear x0_0 x1_0 x2_0 x0_1 x1_1 x2_1 x0_2 x1_2 x2_2 x0_3 x1_3 x2_3 x0_4 x1_4 x2_4 x0_5 x1_5 x2_5 x0_6 x1_6 x2_6
  clear p0_0 p1_0 p2_0 p0_1 p1_1 p2_1 p0_2 p1_2 p2_2 p0_3 p1_3 p2_3 p0_4 p1_4 p2_4 p0_5 p1_5 p2_5 p0_6 p1_6 p2_6 p0_7 p1_7 p2_7
  generalize hwa : World.alloc v18 _ = v19
  have h1 := (hS.out.boxed (vs := [.bool (sg (q8).num), .slice A21 n21 c21, .slice A22 n22 c22]) (ty := 27) rfl hwa)
  have hsz : v19.heap.size = v18.heap.size + 1 := by rw [← hwa]; simp only [World.size_alloc]
  try rw [← hsz]
  clear hwa hsz
  clear hS; have hS := Lib.hid h1; clear h1
  obtain ⟨x0_0, x1_0, x2_0⟩ := hS.out.cs3 0 rfl
  obtain ⟨x0_1, x1_1, x2_1⟩ := hS.out.cs3 1 rfl
  obtain ⟨x0_2, x1_2, x2_2⟩ := hS.out.cs3 2 rfl
  obtain ⟨x0_3, x1_3, x2_3⟩ := hS.out.cs3 3 rfl
  obtain ⟨x0_4, x1_4, x2_4⟩ := hS.out.cs3 4 rfl
  obtain ⟨x0_5, x1_5, x2_5⟩ := hS.out.cs3 5 rfl
  obtain ⟨x0_6, x1_6, x2_6⟩ := hS.out.cs3 6 rfl
  obtain ⟨x0_7, x1_7, x2_7⟩ := hS.out.cs3 7 rfl
  obtain ⟨q9, hq9⟩ : ∃ q : Rat, mkRat (-1) 2 = q := ⟨_, rfl⟩
  have Hq9 := Lib.hid hq9
  clear hq9
  obtain ⟨q10, hq10⟩ : ∃ q : Rat, mkRat (1) 2 = q := ⟨_, rfl⟩
  have Hq10 := Lib.hid hq10
  clear hq10
  obtain ⟨q11, hq11⟩ : ∃ q : Rat, mkRat (1) 3 = q := ⟨_, rfl⟩
  have Hq11 := Lib.hid hq11
  clear hq11
  obtain ⟨q12, hq12⟩ : ∃ q : Rat, q10 + q11 = q := ⟨_, rfl⟩
  have Hq12 := Lib.hid hq12
  clear hq12
  obtain ⟨q13, hq13⟩ : ∃ q : Rat, mkRat 3 1 = q := ⟨_, rfl⟩
  have Hq13 := Lib.hid hq13
  clear hq13
  go_wp2_with fail
  clear x0_0 x1_0 x2_0 x0_1 x1_1 x2_1 x0_2 x1_2 x2_2 x0_3 x1_3 x2_3 x0_4 x1_4 x2_4 x0_5 x1_5 x2_5 x0_6 x1_6 x2_6 x0_7 x1_7 x2_7
  have h1 := hS.out.drew
  clear hS; have hS := Lib.hid h1; clear h1
  try simp only [List.append_eq, List.cons_append, List.nil_append]
  go_region_held3 (fun W => (W.cell? ⟨v18.heap.size, 0, none⟩ = some (.bool (sg (q8).num)) ∧ W.cell? ⟨v18.heap.size, 1, none⟩ = some (.slice A21 n21 c21) ∧ W.cell? ⟨v18.heap.size, 2, none⟩ = some (.slice A22 n22 c22)) ∧ (W.cell? ⟨v15.heap.size, 0, none⟩ = some (.bool (sg (q6).num)) ∧ W.cell? ⟨v15.heap.size, 1, none⟩ = some (.slice A17 n17 c17) ∧ W.cell? ⟨v15.heap.size, 2, none⟩ = some (.slice A18 n18 c18)) ∧ (W.cell? ⟨v13.heap.size, 0, none⟩ = some (.bool (sg (q5).num)) ∧ W.cell? ⟨v13.heap.size, 1, none⟩ = some (.slice A15 n15 c15) ∧ W.cell? ⟨v13.heap.size, 2, none⟩ = some (.slice A16 n16 c16)) ∧ (W.cell? ⟨v11.heap.size, 0, none⟩ = some (.bool false) ∧ W.cell? ⟨v11.heap.size, 1, none⟩ = some (.slice none 0 0) ∧ W.cell? ⟨v11.heap.size, 2, none⟩ = some (.slice none 0 0)) ∧ (W.cell? ⟨v9.heap.size, 0, none⟩ = some (.bool false) ∧ W.cell? ⟨v9.heap.size, 1, none⟩ = some (.slice none 0 0) ∧ W.cell? ⟨v9.heap.size, 2, none⟩ = some (.slice none 0 0)) ∧ (W.cell? ⟨v5.heap.size, 0, none⟩ = some (.bool false) ∧ W.cell? ⟨v5.heap.size, 1, none⟩ = some (.slice none 0 0) ∧ W.cell? ⟨v5.heap.size, 2, none⟩ = some (.slice none 0 0)) ∧ (W.cell? ⟨v3.heap.size, 0, none⟩ = some (.bool (sg (q2).num)) ∧ W.cell? ⟨v3.heap.size, 1, none⟩ = some (.slice A3 n3 c3) ∧ W.cell? ⟨v3.heap.size, 2, none⟩ = some (.slice A4 n4 c4)) ∧ (W.cell? ⟨v1.heap.size, 0, none⟩ = some (.bool (sg (q1).num)) ∧ W.cell? ⟨v1.heap.size, 1, none⟩ = some (.slice A1 n1 c1) ∧ W.cell? ⟨v1.heap.size, 2, none⟩ = some (.slice A2 n2 c2))) (first | with_reducible exact ⟨hS.out.cs3 0 rfl, hS.out.cs3 1 rfl, hS.out.cs3 2 rfl, hS.out.cs3 3 rfl, hS.out.cs3 4 rfl, hS.out.cs3 5 rfl, hS.out.cs3 6 rfl, hS.out.cs3 7 rfl⟩ | with_reducible exact ⟨hS.out.drew.cs3 0 rfl, hS.out.drew.cs3 1 rfl, hS.out.drew.cs3 2 rfl, hS.out.drew.cs3 3 rfl, hS.out.drew.cs3 4 rfl, hS.out.drew.cs3 5 rfl, hS.out.drew.cs3 6 rfl, hS.out.drew.cs3 7 rfl⟩ | with_reducible exact ⟨(hS.out.alloc _).cs3 0 rfl, (hS.out.alloc _).cs3 1 rfl, (hS.out.alloc _).cs3 2 rfl, (hS.out.alloc _).cs3 3 rfl, (hS.out.alloc _).cs3 4 rfl, (hS.out.alloc _).cs3 5 rfl, (hS.out.alloc _).cs3 6 rfl, (hS.out.alloc _).cs3 7 rfl⟩ | with_reducible exact ⟨((hS.out.alloc _).alloc _).cs3 0 rfl, ((hS.out.alloc _).alloc _).cs3 1 rfl, ((hS.out.alloc _).alloc _).cs3 2 rfl, ((hS.out.alloc _).alloc _).cs3 3 rfl, ((hS.out.alloc _).alloc _).cs3 4 rfl, ((hS.out.alloc _).alloc _).cs3 5 rfl, ((hS.out.alloc _).alloc _).cs3 6 rfl, ((hS.out.alloc _).alloc _).cs3 7 rfl⟩) (first
    | (go_at_call 16; (with_reducible refine (fshow_any _ (hS.out.frt (r := q1) (k := 1) (A := A1) (n := n1) (c := c1) (A' := A2) (m := n2) (d := c2) (by repeat (first | exact List.mem_cons_self | apply List.mem_cons_of_mem)) (by repeat (first | exact List.mem_cons_self | apply List.mem_cons_of_mem))) (by decide) (by decide) (Z := [50, 47, 51]) (shR_lit (by decide +kernel) (by rw [← Hq1.out]; decide +kernel))).mono ?_); rintro e w' ⟨rfl, hb⟩; have h1 := hS.out.below hb; clear hb; clear hS; have hS := Lib.hid h1; clear h1)
    | (go_at_call 8; (with_reducible refine (is_lit0 (r := q2) (k := 1) (hS.out.none_.lit1 1 (by decide)) (by repeat (first | exact List.mem_cons_self | apply List.mem_cons_of_mem)) (by repeat (first | exact List.mem_cons_self | apply List.mem_cons_of_mem)) (by repeat (first | exact List.mem_cons_self | apply List.mem_cons_of_mem)) (by repeat (first | exact List.mem_cons_self | apply List.mem_cons_of_mem)) (by rw [← Hq2.out]; decide +kernel) (by rw [← Hq2.out]; decide +kernel) (by rw [← Hq2.out]; decide +kernel)).mono ?_); rintro e w' ⟨rfl, h1⟩; clear hS; have hS := Lib.hid h1; clear h1)
    | (go_at_call 12; (with_reducible refine (over_of (r := q9) (M := 1) (j := 0) (fun W => fover_neg W (x := 1) (y := -2) (r := q9) (by decide) (by decide) (by decide) (by decide) (by decide) (by rw [← Hq9.out]; decide +kernel)) _).mono ?_); rintro e w' ho; obtain ⟨A23, n23, c23, A24, n24, c24, rfl, h1⟩ := hS.out.rR (Nat.le_refl _) ho; clear hS; have hS := Lib.hid h1; clear h1)
    | (go_at_call 16; (with_reducible refine (fshow_any _ (hS.out.frt (r := q9) (k := 1) (A := A23) (n := n23) (c := c23) (A' := A24) (m := n24) (d := c24) (by repeat (first | exact List.mem_cons_self | apply List.mem_cons_of_mem)) (by repeat (first | exact List.mem_cons_self | apply List.mem_cons_of_mem))) (by decide) (by decide) (Z := [45, 49, 47, 50]) (shR_lit (by decide +kernel) (by rw [← Hq9.out]; decide +kernel))).mono ?_); rintro e w' ⟨rfl, hb⟩; have h1 := hS.out.below hb; clear hb; clear hS; have hS := Lib.hid h1; clear h1)
    | (go_at_call 12; (with_reducible refine (over_of (r := q10) (M := 1) (j := 0) (fun W => fover_pos W (x := 1) (y := 2) (r := q10) (by decide) (by decide) (by decide) (by decide) (by decide) (by rw [← Hq10.out]; decide +kernel)) _).mono ?_); rintro e w' ho; obtain ⟨A25, n25, c25, A26, n26, c26, rfl, h1⟩ := hS.out.rR (Nat.le_refl _) ho; clear hS; have hS := Lib.hid h1; clear h1)
    | (go_at_call 12; (with_reducible refine (over_of (r := q11) (M := 1) (j := 0) (fun W => fover_pos W (x := 1) (y := 3) (r := q11) (by decide) (by decide) (by decide) (by decide) (by decide) (by rw [← Hq11.out]; decide +kernel)) _).mono ?_); rintro e w' ho; obtain ⟨A27, n27, c27, A28, n28, c28, rfl, h1⟩ := hS.out.rR (Nat.le_refl _) ho; clear hS; have hS := Lib.hid h1; clear h1)
    | (go_at_call 17; (with_reducible refine (fadd_any _ (hS.out.frt (r := q10) (k := 1) (A := A25) (n := n25) (c := c25) (A' := A26) (m := n26) (d := c26) (by repeat (first | exact List.mem_cons_self | apply List.mem_cons_of_mem)) (by repeat (first | exact List.mem_cons_self | apply List.mem_cons_of_mem))) (hS.out.frt (r := q11) (k := 1) (A := A27) (n := n27) (c := c27) (A' := A28) (m := n28) (d := c28) (by repeat (first | exact List.mem_cons_self | apply List.mem_cons_of_mem)) (by repeat (first | exact List.mem_cons_self | apply List.mem_cons_of_mem))) (by decide) (by decide)).mono ?_); rintro e w' ho; rw [Hq12.out] at ho; obtain ⟨A29, n29, c29, A30, n30, c30, rfl, h1⟩ := hS.out.rR (Nat.le_refl _) ho; clear hS; have hS := Lib.hid h1; clear h1)
    | (go_at_call 16; (with_reducible refine (fshow_any _ (hS.out.frt (r := q12) (k := 60 * 1) (A := A29) (n := n29) (c := c29) (A' := A30) (m := n30) (d := c30) (by repeat (first | exact List.mem_cons_self | apply List.mem_cons_of_mem)) (by repeat (first | exact List.mem_cons_self | apply List.mem_cons_of_mem))) (by decide) (by decide) (Z := [53, 47, 54]) (shR_lit (by decide +kernel) (by rw [← Hq12.out, ← Hq10.out, ← Hq11.out]; decide +kernel))).mono ?_); rintro e w' ⟨rfl, hb⟩; have h1 := hS.out.below hb; clear hb; clear hS; have hS := Lib.hid h1; clear h1)
    | (go_at_call 8; (with_reducible refine (is_told (r := q5) (r' := q9) (k := 20001) (k' := 1) hS.out (by repeat (first | exact List.mem_cons_self | apply List.mem_cons_of_mem)) (by repeat (first | exact List.mem_cons_self | apply List.mem_cons_of_mem)) (by repeat (first | exact List.mem_cons_self | apply List.mem_cons_of_mem)) (by repeat (first | exact List.mem_cons_self | apply List.mem_cons_of_mem)) (by rw [← Hq5.out, ← Hq9.out])).mono ?_); rintro e w' ⟨rfl, h1⟩; clear hS; have hS := Lib.hid h1; clear h1)
    | (go_at_call 16; (with_reducible refine (fshow_any _ (hS.out.frt (r := q6) (k := 1026) (A := A17) (n := n17) (c := c17) (A' := A18) (m := n18) (d := c18) (by repeat (first | exact List.mem_cons_self | apply List.mem_cons_of_mem)) (by repeat (first | exact List.mem_cons_self | apply List.mem_cons_of_mem))) (by decide) (by decide) (Z := [49, 47, 56]) (shR_lit (by decide +kernel) (by rw [← Hq6.out]; decide +kernel))).mono ?_); rintro e w' ⟨rfl, hb⟩; have h1 := hS.out.below hb; clear hb; clear hS; have hS := Lib.hid h1; clear h1)
    | (go_at_call 16; (with_reducible refine (fshow_any _ (hS.out.frt (r := q8) (k := 16385) (A := A21) (n := n21) (c := c21) (A' := A22) (m := n22) (d := c22) (by repeat (first | exact List.mem_cons_self | apply List.mem_cons_of_mem)) (by repeat (first | exact List.mem_cons_self | apply List.mem_cons_of_mem))) (by decide) (by decide) (Z := [45, 49, 47, 56]) (shR_lit (by decide +kernel) (by rw [← Hq8.out, ← Hq7.out]; decide +kernel))).mono ?_); rintro e w' ⟨rfl, hb⟩; have h1 := hS.out.below hb; clear hb; clear hS; have hS := Lib.hid h1; clear h1)
    | (go_at_call 13; (with_reducible refine (fof_any _ 3 (by decide) (by decide)).mono ?_); rintro e w' ho; rw [Hq13.out] at ho; obtain ⟨A31, n31, c31, A32, n32, c32, rfl, h1⟩ := hS.out.rR (Nat.le_refl _) ho; clear hS; have hS := Lib.hid h1; clear h1)
    | (go_at_call 16; (with_reducible refine (fshow_any _ (hS.out.frt (r := q13) (k := 1) (A := A31) (n := n31) (c := c31) (A' := A32) (m := n32) (d := c32) (by repeat (first | exact List.mem_cons_self | apply List.mem_cons_of_mem)) (by repeat (first | exact List.mem_cons_self | apply List.mem_cons_of_mem))) (by decide) (by decide) (Z := [51]) (shR_lit (by decide +kernel) (by rw [← Hq13.out]; decide +kernel))).mono ?_); rintro e w' ⟨rfl, hb⟩; have h1 := hS.out.below hb; clear hb; clear hS; have hS := Lib.hid h1; clear h1))
  go_wp2
  go_ret
  exact ⟨rfl, hS.out.bl⟩
end Go.Proofs.YtpokcocfdchfeaaGreatDoor
