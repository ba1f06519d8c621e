/- The document of layer 6: Is, Count, May. -/
import Derived.Test.YtpokcocfdchfeaaGreatDoorRefRatL0
import Derived.Test.YtpokcocfdchfeaaGreatDoorRatB
import Derived.Test.YtpokcocfdchfeaaGreatDoorRatG
import Derived.Deep.RegionHeld3
namespace Go.Proofs.YtpokcocfdchfeaaGreatDoor
open Go.RowKit
set_option linter.unusedVariables false
set_option linter.unusedSimpArgs false
set_option maxRecDepth 20000
open N
open Go.Lib (decDigits nDigits decDigits_length nDigits_pos)
section
variable {w0 v0 w : World} {S O : List Ent} {T : List Blk} {A A' : Option Addr} {n c m d k k' M : Nat} {xs ys : List Int} {v u : Int} {b : Bool}
theorem r6count_p (w : World) (b : Bool) (h : Sl w A n c xs) (h' : Sl w A' m d ys) (hn : n ≤ M) (hm : m ≤ M) (hM1 : 1 ≤ M) (hM : M ≤ 1000) (hv : 0 < val B ys) {r : Rat} (hr : rv b (val B xs) (val B ys) = r) :
    Calls Tryz.prog 18 #[.agg #[.bool b, .slice A n c, .slice A' m d]] w (OutR w M r) := by
  have hRB : RB M r := by rw [← hr]; exact RB.rv h.nn0 hv (Int.lt_of_lt_of_le h.lt (QB_le hn)) (Int.lt_of_lt_of_le h'.lt (QB_le hm))
  have hS := Lib.hid (((SC.start w).old (k := M) h' hm rfl).old (k := M) h hn rfl)
  clear h h'
  go_enter Tryz.func18, Tryz.ntmps18
  have h1 := ((hS.out.boxed (vs := [.bool b, .slice A n c, .slice A' m d]) (ty := 27) rfl rfl).boxed (vs := [.bool false, .slice none 0 0, .slice none 0 0]) (ty := 27) rfl rfl)
  try simp only [World.size_alloc] at h1
  obtain ⟨p0_0, p1_0, p2_0⟩ := h1.cs3 0 rfl
  obtain ⟨p0_1, p1_1, p2_1⟩ := h1.cs3 1 rfl
  clear h1
  go_wp2_with fail
  clear p0_0 p1_0 p2_0 p0_1 p1_1 p2_1
  generalize hwa : World.alloc (World.alloc w _) _ = v1
  have h1 := ((hS.out.boxed (vs := [.bool b, .slice A n c, .slice A' m d]) (ty := 27) rfl rfl).boxed (vs := [.bool false, .slice none 0 0, .slice none 0 0]) (ty := 27) rfl hwa)
  simp only [World.size_alloc] at h1
  have hsz : v1.heap.size = w.heap.size + 1 + 1 := by rw [← hwa]; simp only [World.size_alloc]
  try rw [← hsz]
  clear hwa hsz
  clear hS; have hS := Lib.hid h1; clear h1
  obtain ⟨x0_0, x1_0, x2_0⟩ := hS.out.cs3 0 rfl
  obtain ⟨x0_1, x1_1, x2_1⟩ := hS.out.cs3 1 rfl
  go_wp2_with fail
  go_at_call 44
  with_reducible refine (r6mk_c (M := M) hS.out (by repeat (first | exact ms | apply mo)) (by repeat (first | exact ms | apply mo)) (Nat.le_refl _) (Nat.le_refl _) hM1 hM hv hr).mono ?_
  rintro e v2 ⟨A3, n3, c3, A4, n4, c4, rfl, h1⟩
  clear x0_0 x1_0 x2_0 x0_1 x1_1 x2_1
  clear hS; have hS := Lib.hid h1; clear h1
  obtain ⟨x0_0, x1_0, x2_0⟩ := hS.out.cs3 0 rfl
  obtain ⟨x0_1, x1_1, x2_1⟩ := hS.out.cs3 1 rfl
  have hm0 := hS.out.boxed (vs := [.bool (sg (r).num), .slice A3 n3 c3, .slice A4 n4 c4]) (ty := 27) rfl rfl
  try simp only [World.size_alloc] at hm0
  obtain ⟨m00_0, m01_0, m02_0⟩ := hm0.cs3 0 rfl
  obtain ⟨m00_1, m01_1, m02_1⟩ := hm0.cs3 1 rfl
  obtain ⟨m00_2, m01_2, m02_2⟩ := hm0.cs3 2 rfl
  have hp0 := hm0.put3 1 rfl (hm0.ge_ 1 rfl) (.bool (sg (r).num)) (.slice A3 n3 c3) (.slice A4 n4 c4)
  simp only [List.set_cons_zero, List.set_cons_succ] at hp0
  have fz0_0 := hm0.frs 1 rfl 0
  have fz0_1 := hm0.frs 1 rfl 1
  have fz0_2 := hm0.frs 1 rfl 2
  have HPUT := Lib.hid hp0
  clear hp0
  clear hm0
  go_wp2_with fail
  refine bodyPost_ret (results_B rfl rfl (loadR (HPUT.out.box _ (List.mem_of_getElem? (i := 1) rfl)))) rfl ?_
  exact HPUT.out.toR (r := r) (by repeat (first | exact ms | apply mo)) (by repeat (first | exact ms | apply mo)) rfl rfl rfl hRB
theorem isg_ft {A0 A0' A1 A1' : Option Addr} {n0 c0 n0' c0' n1 c1 n1' c1' : Nat} {x0 y0 x1 y1 : List Int} (w : World) (h1 : Sl w A0 n0 c0 x0) (h2 : Sl w A0' n0' c0' y0) (g1 : Sl w A1 n1 c1 x1) (g2 : Sl w A1' n1' c1' y1)  :
    Calls Tryz.prog 8 #[.agg #[.bool false, .slice A0 n0 c0, .slice A0' n0' c0'], .agg #[.bool true, .slice A1 n1 c1, .slice A1' n1' c1']] w fun e w' => e = .returned (.bool false) ∧ Below w.heap.size w w' := by
  have hS := Lib.hid (((((SC.start w).old (k := n1') g2 (Nat.le_refl _) rfl).old (k := n1) g1 (Nat.le_refl _) rfl).old (k := n0') h2 (Nat.le_refl _) rfl).old (k := n0) h1 (Nat.le_refl _) rfl)
  clear h1 h2 g1 g2
  go_enter Tryz.func8, Tryz.ntmps8
  have h1 := ((hS.out.boxed (vs := [.bool false, .slice A0 n0 c0, .slice A0' n0' c0']) (ty := 27) rfl rfl).boxed (vs := [.bool true, .slice A1 n1 c1, .slice A1' n1' c1']) (ty := 27) rfl rfl)
  try simp only [World.size_alloc] at h1
  obtain ⟨p0_0, p1_0, p2_0⟩ := h1.cs3 0 rfl
  obtain ⟨p0_1, p1_1, p2_1⟩ := h1.cs3 1 rfl
  clear h1
  go_wp2_with fail
  clear p0_0 p1_0 p2_0 p0_1 p1_1 p2_1
  generalize hwa : World.alloc (World.alloc w _) _ = v1
  have h1 := ((hS.out.boxed (vs := [.bool false, .slice A0 n0 c0, .slice A0' n0' c0']) (ty := 27) rfl rfl).boxed (vs := [.bool true, .slice A1 n1 c1, .slice A1' n1' c1']) (ty := 27) rfl hwa)
  simp only [World.size_alloc] at h1
  have hsz : v1.heap.size = w.heap.size + 1 + 1 := by rw [← hwa]; simp only [World.size_alloc]
  try rw [← hsz]
  clear hwa hsz
  clear hS; have hS := Lib.hid h1; clear h1
  obtain ⟨x0_0, x1_0, x2_0⟩ := hS.out.cs3 0 rfl
  obtain ⟨x0_1, x1_1, x2_1⟩ := hS.out.cs3 1 rfl
  go_wp2
  go_ret
  exact ⟨rfl, hS.out.bl⟩
theorem isg_tf {A0 A0' A1 A1' : Option Addr} {n0 c0 n0' c0' n1 c1 n1' c1' : Nat} {x0 y0 x1 y1 : List Int} (w : World) (h1 : Sl w A0 n0 c0 x0) (h2 : Sl w A0' n0' c0' y0) (g1 : Sl w A1 n1 c1 x1) (g2 : Sl w A1' n1' c1' y1)  :
    Calls Tryz.prog 8 #[.agg #[.bool true, .slice A0 n0 c0, .slice A0' n0' c0'], .agg #[.bool false, .slice A1 n1 c1, .slice A1' n1' c1']] w fun e w' => e = .returned (.bool false) ∧ Below w.heap.size w w' := by
  have hS := Lib.hid (((((SC.start w).old (k := n1') g2 (Nat.le_refl _) rfl).old (k := n1) g1 (Nat.le_refl _) rfl).old (k := n0') h2 (Nat.le_refl _) rfl).old (k := n0) h1 (Nat.le_refl _) rfl)
  clear h1 h2 g1 g2
  go_enter Tryz.func8, Tryz.ntmps8
  have h1 := ((hS.out.boxed (vs := [.bool true, .slice A0 n0 c0, .slice A0' n0' c0']) (ty := 27) rfl rfl).boxed (vs := [.bool false, .slice A1 n1 c1, .slice A1' n1' c1']) (ty := 27) rfl rfl)
  try simp only [World.size_alloc] at h1
  obtain ⟨p0_0, p1_0, p2_0⟩ := h1.cs3 0 rfl
  obtain ⟨p0_1, p1_1, p2_1⟩ := h1.cs3 1 rfl
  clear h1
  go_wp2_with fail
  clear p0_0 p1_0 p2_0 p0_1 p1_1 p2_1
  generalize hwa : World.alloc (World.alloc w _) _ = v1
  have h1 := ((hS.out.boxed (vs := [.bool true, .slice A0 n0 c0, .slice A0' n0' c0']) (ty := 27) rfl rfl).boxed (vs := [.bool false, .slice A1 n1 c1, .slice A1' n1' c1']) (ty := 27) rfl hwa)
  simp only [World.size_alloc] at h1
  have hsz : v1.heap.size = w.heap.size + 1 + 1 := by rw [← hwa]; simp only [World.size_alloc]
  try rw [← hsz]
  clear hwa hsz
  clear hS; have hS := Lib.hid h1; clear h1
  obtain ⟨x0_0, x1_0, x2_0⟩ := hS.out.cs3 0 rfl
  obtain ⟨x0_1, x1_1, x2_1⟩ := hS.out.cs3 1 rfl
  go_wp2
  go_ret
  exact ⟨rfl, hS.out.bl⟩
theorem isg_fx {A0 A0' A1 A1' : Option Addr} {n0 c0 n0' c0' n1 c1 n1' c1' : Nat} {x0 y0 x1 y1 : List Int} (w : World) (h1 : Sl w A0 n0 c0 x0) (h2 : Sl w A0' n0' c0' y0) (g1 : Sl w A1 n1 c1 x1) (g2 : Sl w A1' n1' c1' y1) (hx : decide (x0 = x1) = false) :
    Calls Tryz.prog 8 #[.agg #[.bool false, .slice A0 n0 c0, .slice A0' n0' c0'], .agg #[.bool false, .slice A1 n1 c1, .slice A1' n1' c1']] w fun e w' => e = .returned (.bool false) ∧ Below w.heap.size w w' := by
  have hS := Lib.hid (((((SC.start w).old (k := n1') g2 (Nat.le_refl _) rfl).old (k := n1) g1 (Nat.le_refl _) rfl).old (k := n0') h2 (Nat.le_refl _) rfl).old (k := n0) h1 (Nat.le_refl _) rfl)
  clear h1 h2 g1 g2
  go_enter Tryz.func8, Tryz.ntmps8
  have h1 := ((hS.out.boxed (vs := [.bool false, .slice A0 n0 c0, .slice A0' n0' c0']) (ty := 27) rfl rfl).boxed (vs := [.bool false, .slice A1 n1 c1, .slice A1' n1' c1']) (ty := 27) rfl rfl)
  try simp only [World.size_alloc] at h1
  obtain ⟨p0_0, p1_0, p2_0⟩ := h1.cs3 0 rfl
  obtain ⟨p0_1, p1_1, p2_1⟩ := h1.cs3 1 rfl
  clear h1
  go_wp2_with fail
  clear p0_0 p1_0 p2_0 p0_1 p1_1 p2_1
  generalize hwa : World.alloc (World.alloc w _) _ = v1
  have h1 := ((hS.out.boxed (vs := [.bool false, .slice A0 n0 c0, .slice A0' n0' c0']) (ty := 27) rfl rfl).boxed (vs := [.bool false, .slice A1 n1 c1, .slice A1' n1' c1']) (ty := 27) rfl hwa)
  simp only [World.size_alloc] at h1
  have hsz : v1.heap.size = w.heap.size + 1 + 1 := by rw [← hwa]; simp only [World.size_alloc]
  try rw [← hsz]
  clear hwa hsz
  clear hS; have hS := Lib.hid h1; clear h1
  obtain ⟨x0_0, x1_0, x2_0⟩ := hS.out.cs3 0 rfl
  obtain ⟨x0_1, x1_1, x2_1⟩ := hS.out.cs3 1 rfl
  go_wp2_with fail
  go_at_call 20
  with_reducible refine (rsame_c (q := false) hS.out (by repeat (first | exact ms | apply mo)) (by repeat (first | exact ms | apply mo)) hx).mono ?_
  rintro e v2 ⟨rfl, h1⟩
  clear x0_0 x1_0 x2_0 x0_1 x1_1 x2_1
  clear hS; have hS := Lib.hid h1; clear h1
  obtain ⟨x0_0, x1_0, x2_0⟩ := hS.out.cs3 0 rfl
  obtain ⟨x0_1, x1_1, x2_1⟩ := hS.out.cs3 1 rfl
  go_wp2
  go_ret
  exact ⟨rfl, hS.out.bl⟩
theorem isg_fy {A0 A0' A1 A1' : Option Addr} {n0 c0 n0' c0' n1 c1 n1' c1' : Nat} {x0 y0 x1 y1 : List Int} (w : World) (h1 : Sl w A0 n0 c0 x0) (h2 : Sl w A0' n0' c0' y0) (g1 : Sl w A1 n1 c1 x1) (g2 : Sl w A1' n1' c1' y1) (hx : decide (x0 = x1) = true) {q : Bool} (hy : decide (y0 = y1) = q) :
    Calls Tryz.prog 8 #[.agg #[.bool false, .slice A0 n0 c0, .slice A0' n0' c0'], .agg #[.bool false, .slice A1 n1 c1, .slice A1' n1' c1']] w fun e w' => e = .returned (.bool q) ∧ Below w.heap.size w w' := by
  have hS := Lib.hid (((((SC.start w).old (k := n1') g2 (Nat.le_refl _) rfl).old (k := n1) g1 (Nat.le_refl _) rfl).old (k := n0') h2 (Nat.le_refl _) rfl).old (k := n0) h1 (Nat.le_refl _) rfl)
  clear h1 h2 g1 g2
  go_enter Tryz.func8, Tryz.ntmps8
  have h1 := ((hS.out.boxed (vs := [.bool false, .slice A0 n0 c0, .slice A0' n0' c0']) (ty := 27) rfl rfl).boxed (vs := [.bool false, .slice A1 n1 c1, .slice A1' n1' c1']) (ty := 27) rfl rfl)
  try simp only [World.size_alloc] at h1
  obtain ⟨p0_0, p1_0, p2_0⟩ := h1.cs3 0 rfl
  obtain ⟨p0_1, p1_1, p2_1⟩ := h1.cs3 1 rfl
  clear h1
  go_wp2_with fail
  clear p0_0 p1_0 p2_0 p0_1 p1_1 p2_1
  generalize hwa : World.alloc (World.alloc w _) _ = v1
  have h1 := ((hS.out.boxed (vs := [.bool false, .slice A0 n0 c0, .slice A0' n0' c0']) (ty := 27) rfl rfl).boxed (vs := [.bool false, .slice A1 n1 c1, .slice A1' n1' c1']) (ty := 27) rfl hwa)
  simp only [World.size_alloc] at h1
  have hsz : v1.heap.size = w.heap.size + 1 + 1 := by rw [← hwa]; simp only [World.size_alloc]
  try rw [← hsz]
  clear hwa hsz
  clear hS; have hS := Lib.hid h1; clear h1
  obtain ⟨x0_0, x1_0, x2_0⟩ := hS.out.cs3 0 rfl
  obtain ⟨x0_1, x1_1, x2_1⟩ := hS.out.cs3 1 rfl
  go_wp2_with fail
  go_at_call 20
  with_reducible refine (rsame_c (q := true) hS.out (by repeat (first | exact ms | apply mo)) (by repeat (first | exact ms | apply mo)) hx).mono ?_
  rintro e v2 ⟨rfl, h1⟩
  clear x0_0 x1_0 x2_0 x0_1 x1_1 x2_1
  clear hS; have hS := Lib.hid h1; clear h1
  obtain ⟨x0_0, x1_0, x2_0⟩ := hS.out.cs3 0 rfl
  obtain ⟨x0_1, x1_1, x2_1⟩ := hS.out.cs3 1 rfl
  go_wp2_with fail
  go_at_call 20
  with_reducible refine (rsame_c (q := q) hS.out (by repeat (first | exact ms | apply mo)) (by repeat (first | exact ms | apply mo)) hy).mono ?_
  rintro e v3 ⟨rfl, h1⟩
  clear x0_0 x1_0 x2_0 x0_1 x1_1 x2_1
  clear hS; have hS := Lib.hid h1; clear h1
  obtain ⟨x0_0, x1_0, x2_0⟩ := hS.out.cs3 0 rfl
  obtain ⟨x0_1, x1_1, x2_1⟩ := hS.out.cs3 1 rfl
  go_wp2
  go_ret
  exact ⟨rfl, hS.out.bl⟩
theorem isg_tx {A0 A0' A1 A1' : Option Addr} {n0 c0 n0' c0' n1 c1 n1' c1' : Nat} {x0 y0 x1 y1 : List Int} (w : World) (h1 : Sl w A0 n0 c0 x0) (h2 : Sl w A0' n0' c0' y0) (g1 : Sl w A1 n1 c1 x1) (g2 : Sl w A1' n1' c1' y1) (hx : decide (x0 = x1) = false) :
    Calls Tryz.prog 8 #[.agg #[.bool true, .slice A0 n0 c0, .slice A0' n0' c0'], .agg #[.bool true, .slice A1 n1 c1, .slice A1' n1' c1']] w fun e w' => e = .returned (.bool false) ∧ Below w.heap.size w w' := by
  have hS := Lib.hid (((((SC.start w).old (k := n1') g2 (Nat.le_refl _) rfl).old (k := n1) g1 (Nat.le_refl _) rfl).old (k := n0') h2 (Nat.le_refl _) rfl).old (k := n0) h1 (Nat.le_refl _) rfl)
  clear h1 h2 g1 g2
  go_enter Tryz.func8, Tryz.ntmps8
  have h1 := ((hS.out.boxed (vs := [.bool true, .slice A0 n0 c0, .slice A0' n0' c0']) (ty := 27) rfl rfl).boxed (vs := [.bool true, .slice A1 n1 c1, .slice A1' n1' c1']) (ty := 27) rfl rfl)
  try simp only [World.size_alloc] at h1
  obtain ⟨p0_0, p1_0, p2_0⟩ := h1.cs3 0 rfl
  obtain ⟨p0_1, p1_1, p2_1⟩ := h1.cs3 1 rfl
  clear h1
  go_wp2_with fail
  clear p0_0 p1_0 p2_0 p0_1 p1_1 p2_1
  generalize hwa : World.alloc (World.alloc w _) _ = v1
  have h1 := ((hS.out.boxed (vs := [.bool true, .slice A0 n0 c0, .slice A0' n0' c0']) (ty := 27) rfl rfl).boxed (vs := [.bool true, .slice A1 n1 c1, .slice A1' n1' c1']) (ty := 27) rfl hwa)
  simp only [World.size_alloc] at h1
  have hsz : v1.heap.size = w.heap.size + 1 + 1 := by rw [← hwa]; simp only [World.size_alloc]
  try rw [← hsz]
  clear hwa hsz
  clear hS; have hS := Lib.hid h1; clear h1
  obtain ⟨x0_0, x1_0, x2_0⟩ := hS.out.cs3 0 rfl
  obtain ⟨x0_1, x1_1, x2_1⟩ := hS.out.cs3 1 rfl
  go_wp2_with fail
  go_at_call 20
  with_reducible refine (rsame_c (q := false) hS.out (by repeat (first | exact ms | apply mo)) (by repeat (first | exact ms | apply mo)) hx).mono ?_
  rintro e v2 ⟨rfl, h1⟩
  clear x0_0 x1_0 x2_0 x0_1 x1_1 x2_1
  clear hS; have hS := Lib.hid h1; clear h1
  obtain ⟨x0_0, x1_0, x2_0⟩ := hS.out.cs3 0 rfl
  obtain ⟨x0_1, x1_1, x2_1⟩ := hS.out.cs3 1 rfl
  go_wp2
  go_ret
  exact ⟨rfl, hS.out.bl⟩
theorem isg_ty {A0 A0' A1 A1' : Option Addr} {n0 c0 n0' c0' n1 c1 n1' c1' : Nat} {x0 y0 x1 y1 : List Int} (w : World) (h1 : Sl w A0 n0 c0 x0) (h2 : Sl w A0' n0' c0' y0) (g1 : Sl w A1 n1 c1 x1) (g2 : Sl w A1' n1' c1' y1) (hx : decide (x0 = x1) = true) {q : Bool} (hy : decide (y0 = y1) = q) :
    Calls Tryz.prog 8 #[.agg #[.bool true, .slice A0 n0 c0, .slice A0' n0' c0'], .agg #[.bool true, .slice A1 n1 c1, .slice A1' n1' c1']] w fun e w' => e = .returned (.bool q) ∧ Below w.heap.size w w' := by
  have hS := Lib.hid (((((SC.start w).old (k := n1') g2 (Nat.le_refl _) rfl).old (k := n1) g1 (Nat.le_refl _) rfl).old (k := n0') h2 (Nat.le_refl _) rfl).old (k := n0) h1 (Nat.le_refl _) rfl)
  clear h1 h2 g1 g2
  go_enter Tryz.func8, Tryz.ntmps8
  have h1 := ((hS.out.boxed (vs := [.bool true, .slice A0 n0 c0, .slice A0' n0' c0']) (ty := 27) rfl rfl).boxed (vs := [.bool true, .slice A1 n1 c1, .slice A1' n1' c1']) (ty := 27) rfl rfl)
  try simp only [World.size_alloc] at h1
  obtain ⟨p0_0, p1_0, p2_0⟩ := h1.cs3 0 rfl
  obtain ⟨p0_1, p1_1, p2_1⟩ := h1.cs3 1 rfl
  clear h1
  go_wp2_with fail
  clear p0_0 p1_0 p2_0 p0_1 p1_1 p2_1
  generalize hwa : World.alloc (World.alloc w _) _ = v1
  have h1 := ((hS.out.boxed (vs := [.bool true, .slice A0 n0 c0, .slice A0' n0' c0']) (ty := 27) rfl rfl).boxed (vs := [.bool true, .slice A1 n1 c1, .slice A1' n1' c1']) (ty := 27) rfl hwa)
  simp only [World.size_alloc] at h1
  have hsz : v1.heap.size = w.heap.size + 1 + 1 := by rw [← hwa]; simp only [World.size_alloc]
  try rw [← hsz]
  clear hwa hsz
  clear hS; have hS := Lib.hid h1; clear h1
  obtain ⟨x0_0, x1_0, x2_0⟩ := hS.out.cs3 0 rfl
  obtain ⟨x0_1, x1_1, x2_1⟩ := hS.out.cs3 1 rfl
  go_wp2_with fail
  go_at_call 20
  with_reducible refine (rsame_c (q := true) hS.out (by repeat (first | exact ms | apply mo)) (by repeat (first | exact ms | apply mo)) hx).mono ?_
  rintro e v2 ⟨rfl, h1⟩
  clear x0_0 x1_0 x2_0 x0_1 x1_1 x2_1
  clear hS; have hS := Lib.hid h1; clear h1
  obtain ⟨x0_0, x1_0, x2_0⟩ := hS.out.cs3 0 rfl
  obtain ⟨x0_1, x1_1, x2_1⟩ := hS.out.cs3 1 rfl
  go_wp2_with fail
  go_at_call 20
  with_reducible refine (rsame_c (q := q) hS.out (by repeat (first | exact ms | apply mo)) (by repeat (first | exact ms | apply mo)) hy).mono ?_
  rintro e v3 ⟨rfl, h1⟩
  clear x0_0 x1_0 x2_0 x0_1 x1_1 x2_1
  clear hS; have hS := Lib.hid h1; clear h1
  obtain ⟨x0_0, x1_0, x2_0⟩ := hS.out.cs3 0 rfl
  obtain ⟨x0_1, x1_1, x2_1⟩ := hS.out.cs3 1 rfl
  go_wp2
  go_ret
  exact ⟨rfl, hS.out.bl⟩
theorem isg_any {A0 A0' A1 A1' : Option Addr} {n0 c0 n0' c0' n1 c1 n1' c1' : Nat} {x0 y0 x1 y1 : List Int} {b0 b1 : Bool} (w : World) (h1 : Sl w A0 n0 c0 x0) (h2 : Sl w A0' n0' c0' y0) (g1 : Sl w A1 n1 c1 x1) (g2 : Sl w A1' n1' c1' y1) {q : Bool} (hq : (decide (b0 = b1) && decide (x0 = x1) && decide (y0 = y1)) = q) :
    Calls Tryz.prog 8 #[.agg #[.bool b0, .slice A0 n0 c0, .slice A0' n0' c0'], .agg #[.bool b1, .slice A1 n1 c1, .slice A1' n1' c1']] w fun e w' => e = .returned (.bool q) ∧ Below w.heap.size w w' := by
  cases b0 <;> cases b1
  · cases hx : decide (x0 = x1)
    · rw [hx] at hq; subst hq; exact isg_fx w h1 h2 g1 g2 hx
    · rw [hx] at hq; exact isg_fy w h1 h2 g1 g2 hx (by simpa using hq)
  · subst hq; exact isg_ft w h1 h2 g1 g2
  · subst hq; exact isg_tf w h1 h2 g1 g2
  · cases hx : decide (x0 = x1)
    · rw [hx] at hq; subst hq; exact isg_tx w h1 h2 g1 g2 hx
    · rw [hx] at hq; exact isg_ty w h1 h2 g1 g2 hx (by simpa using hq)
theorem isg_c (h : SC w0 v0 w S T O) {A0 A0' A1 A1' : Option Addr} {n0 c0 n0' c0' n1 c1 n1' c1' : Nat} {x0 y0 x1 y1 : List Int} {k0 k0' k1 k1' : Nat} {v0' u0 v1 u1 : Int} {b0 b1 : Bool} (h1 : (⟨A0, n0, c0, k0, x0, v0'⟩ : Ent) ∈ S) (h2 : (⟨A0', n0', c0', k0', y0, u0⟩ : Ent) ∈ S) (g1 : (⟨A1, n1, c1, k1, x1, v1⟩ : Ent) ∈ S) (g2 : (⟨A1', n1', c1', k1', y1, u1⟩ : Ent) ∈ S) {q : Bool} (hq : (decide (b0 = b1) && decide (x0 = x1) && decide (y0 = y1)) = q) :
    Calls Tryz.prog 8 #[.agg #[.bool b0, .slice A0 n0 c0, .slice A0' n0' c0'], .agg #[.bool b1, .slice A1 n1 c1, .slice A1' n1' c1']] w fun e w' => e = .returned (.bool q) ∧ SC w0 v0 w' S T O :=
  (isg_any w (h.get h1).1 (h.get h2).1 (h.get g1).1 (h.get g2).1 hq).mono fun e w' ⟨he, hb⟩ => ⟨he, h.below hb⟩
end
end Go.Proofs.YtpokcocfdchfeaaGreatDoor
