/- The document of layer 6: Is, Count, May. -/
import Derived.Test.YtbpambamaoonfaaGreatDoorRefRatL0
import Derived.Test.YtbpambamaoonfaaGreatDoorRatB
import Derived.Test.YtbpambamaoonfaaGreatDoorRatG
import Derived.Deep.RegionHeld3
namespace Go.Proofs.YtbpambamaoonfaaGreatDoor
open Go.RowKit
set_option linter.unusedVariables false
set_option linter.unusedSimpArgs false
set_option maxRecDepth 20000
open N
open Go.Lib (decDigits nDigits decDigits_length nDigits_pos)
section
variable {w0 v0 w : World} {S O : List Ent} {T : List Blk} {A A' : Option Addr} {n c m d k k' M : Nat} {xs ys : List Int} {v u : Int} {b : Bool}
theorem r6count_p (w : World) (b : Bool) (h : Sl w A n c xs) (h' : Sl w A' m d ys) (hn : n ≤ M) (hm : m ≤ M) (hM1 : 1 ≤ M) (hM : M ≤ 1000) (hv : 0 < val B ys) {r : Rat} (hr : rv b (val B xs) (val B ys) = r) :
    Calls Tryz.prog 44 #[.agg #[.bool b, .slice A n c, .slice A' m d]] w (OutR w M r) := by
  have hRB : RB M r := by rw [← hr]; exact RB.rv h.nn0 hv (Int.lt_of_lt_of_le h.lt (QB_le hn)) (Int.lt_of_lt_of_le h'.lt (QB_le hm))
  have hS := Lib.hid (((SC.start w).old (k := M) h' hm rfl).old (k := M) h hn rfl)
  clear h h'
  go_enter Tryz.func44, Tryz.ntmps44
  have h1 := ((hS.out.boxed (vs := [.bool b, .slice A n c, .slice A' m d]) (ty := 27) rfl rfl).boxed (vs := [.bool false, .slice none 0 0, .slice none 0 0]) (ty := 27) rfl rfl)
  try simp only [World.size_alloc] at h1
  obtain ⟨p0_0, p1_0, p2_0⟩ := h1.cs3 0 rfl
  obtain ⟨p0_1, p1_1, p2_1⟩ := h1.cs3 1 rfl
  clear h1
  go_wp2_with fail
  clear p0_0 p1_0 p2_0 p0_1 p1_1 p2_1
  generalize hwa : World.alloc (World.alloc w _) _ = v1
  have h1 := ((hS.out.boxed (vs := [.bool b, .slice A n c, .slice A' m d]) (ty := 27) rfl rfl).boxed (vs := [.bool false, .slice none 0 0, .slice none 0 0]) (ty := 27) rfl hwa)
  simp only [World.size_alloc] at h1
  have hsz : v1.heap.size = w.heap.size + 1 + 1 := by rw [← hwa]; simp only [World.size_alloc]
  try rw [← hsz]
  clear hwa hsz
  clear hS; have hS := Lib.hid h1; clear h1
  obtain ⟨x0_0, x1_0, x2_0⟩ := hS.out.cs3 0 rfl
  obtain ⟨x0_1, x1_1, x2_1⟩ := hS.out.cs3 1 rfl
  go_wp2_with fail
  go_at_call 7
  with_reducible refine (r6mk_c (M := M) hS.out (by repeat (first | exact ms | apply mo)) (by repeat (first | exact ms | apply mo)) (Nat.le_refl _) (Nat.le_refl _) hM1 hM hv hr).mono ?_
  rintro e v2 ⟨A3, n3, c3, A4, n4, c4, rfl, h1⟩
  clear x0_0 x1_0 x2_0 x0_1 x1_1 x2_1
  clear hS; have hS := Lib.hid h1; clear h1
  obtain ⟨x0_0, x1_0, x2_0⟩ := hS.out.cs3 0 rfl
  obtain ⟨x0_1, x1_1, x2_1⟩ := hS.out.cs3 1 rfl
  have hm0 := hS.out.boxed (vs := [.bool (sg (r).num), .slice A3 n3 c3, .slice A4 n4 c4]) (ty := 27) rfl rfl
  try simp only [World.size_alloc] at hm0
  obtain ⟨m00_0, m01_0, m02_0⟩ := hm0.cs3 0 rfl
  obtain ⟨m00_1, m01_1, m02_1⟩ := hm0.cs3 1 rfl
  obtain ⟨m00_2, m01_2, m02_2⟩ := hm0.cs3 2 rfl
  have hp0 := hm0.put3 1 rfl (hm0.ge_ 1 rfl) (.bool (sg (r).num)) (.slice A3 n3 c3) (.slice A4 n4 c4)
  simp only [List.set_cons_zero, List.set_cons_succ] at hp0
  have fz0_0 := hm0.frs 1 rfl 0
  have fz0_1 := hm0.frs 1 rfl 1
  have fz0_2 := hm0.frs 1 rfl 2
  have HPUT := Lib.hid hp0
  clear hp0
  clear hm0
  go_wp2_with fail
  refine bodyPost_ret (results_B rfl rfl (loadR (HPUT.out.box _ (List.mem_of_getElem? (i := 1) rfl)))) rfl ?_
  exact HPUT.out.toR (r := r) (by repeat (first | exact ms | apply mo)) (by repeat (first | exact ms | apply mo)) rfl rfl rfl hRB
theorem isg_ft {A0 A0' A1 A1' : Option Addr} {n0 c0 n0' c0' n1 c1 n1' c1' : Nat} {x0 y0 x1 y1 : List Int} (w : World) (h1 : Sl w A0 n0 c0 x0) (h2 : Sl w A0' n0' c0' y0) (g1 : Sl w A1 n1 c1 x1) (g2 : Sl w A1' n1' c1' y1)  :
    Calls Tryz.prog 14 #[.agg #[.bool false, .slice A0 n0 c0, .slice A0' n0' c0'], .agg #[.bool true, .slice A1 n1 c1, .slice A1' n1' c1']] w fun e w' => e = .returned (.bool false) ∧ Below w.heap.size w w' := by
  have hS := Lib.hid (((((SC.start w).old (k := n1') g2 (Nat.le_refl _) rfl).old (k := n1) g1 (Nat.le_refl _) rfl).old (k := n0') h2 (Nat.le_refl _) rfl).old (k := n0) h1 (Nat.le_refl _) rfl)
  clear h1 h2 g1 g2
  go_enter Tryz.func14, Tryz.ntmps14
  have h1 := ((hS.out.boxed (vs := [.bool false, .slice A0 n0 c0, .slice A0' n0' c0']) (ty := 27) rfl rfl).boxed (vs := [.bool true, .slice A1 n1 c1, .slice A1' n1' c1']) (ty := 27) rfl rfl)
  try simp only [World.size_alloc] at h1
  obtain ⟨p0_0, p1_0, p2_0⟩ := h1.cs3 0 rfl
  obtain ⟨p0_1, p1_1, p2_1⟩ := h1.cs3 1 rfl
  clear h1
  go_wp2_with fail
  clear p0_0 p1_0 p2_0 p0_1 p1_1 p2_1
  generalize hwa : World.alloc (World.alloc w _) _ = v1
  have h1 := ((hS.out.boxed (vs := [.bool false, .slice A0 n0 c0, .slice A0' n0' c0']) (ty := 27) rfl rfl).boxed (vs := [.bool true, .slice A1 n1 c1, .slice A1' n1' c1']) (ty := 27) rfl hwa)
  simp only [World.size_alloc] at h1
  have hsz : v1.heap.size = w.heap.size + 1 + 1 := by rw [← hwa]; simp only [World.size_alloc]
  try rw [← hsz]
  clear hwa hsz
  clear hS; have hS := Lib.hid h1; clear h1
  obtain ⟨x0_0, x1_0, x2_0⟩ := hS.out.cs3 0 rfl
  obtain ⟨x0_1, x1_1, x2_1⟩ := hS.out.cs3 1 rfl
  go_wp2
  go_ret
  exact ⟨rfl, hS.out.bl⟩
theorem isg_tf {A0 A0' A1 A1' : Option Addr} {n0 c0 n0' c0' n1 c1 n1' c1' : Nat} {x0 y0 x1 y1 : List Int} (w : World) (h1 : Sl w A0 n0 c0 x0) (h2 : Sl w A0' n0' c0' y0) (g1 : Sl w A1 n1 c1 x1) (g2 : Sl w A1' n1' c1' y1)  :
    Calls Tryz.prog 14 #[.agg #[.bool true, .slice A0 n0 c0, .slice A0' n0' c0'], .agg #[.bool false, .slice A1 n1 c1, .slice A1' n1' c1']] w fun e w' => e = .returned (.bool false) ∧ Below w.heap.size w w' := by
  have hS := Lib.hid (((((SC.start w).old (k := n1') g2 (Nat.le_refl _) rfl).old (k := n1) g1 (Nat.le_refl _) rfl).old (k := n0') h2 (Nat.le_refl _) rfl).old (k := n0) h1 (Nat.le_refl _) rfl)
  clear h1 h2 g1 g2
  go_enter Tryz.func14, Tryz.ntmps14
  have h1 := ((hS.out.boxed (vs := [.bool true, .slice A0 n0 c0, .slice A0' n0' c0']) (ty := 27) rfl rfl).boxed (vs := [.bool false, .slice A1 n1 c1, .slice A1' n1' c1']) (ty := 27) rfl rfl)
  try simp only [World.size_alloc] at h1
  obtain ⟨p0_0, p1_0, p2_0⟩ := h1.cs3 0 rfl
  obtain ⟨p0_1, p1_1, p2_1⟩ := h1.cs3 1 rfl
  clear h1
  go_wp2_with fail
  clear p0_0 p1_0 p2_0 p0_1 p1_1 p2_1
  generalize hwa : World.alloc (World.alloc w _) _ = v1
  have h1 := ((hS.out.boxed (vs := [.bool true, .slice A0 n0 c0, .slice A0' n0' c0']) (ty := 27) rfl rfl).boxed (vs := [.bool false, .slice A1 n1 c1, .slice A1' n1' c1']) (ty := 27) rfl hwa)
  simp only [World.size_alloc] at h1
  have hsz : v1.heap.size = w.heap.size + 1 + 1 := by rw [← hwa]; simp only [World.size_alloc]
  try rw [← hsz]
  clear hwa hsz
  clear hS; have hS := Lib.hid h1; clear h1
  obtain ⟨x0_0, x1_0, x2_0⟩ := hS.out.cs3 0 rfl
  obtain ⟨x0_1, x1_1, x2_1⟩ := hS.out.cs3 1 rfl
  go_wp2
  go_ret
  exact ⟨rfl, hS.out.bl⟩
theorem isg_fx {A0 A0' A1 A1' : Option Addr} {n0 c0 n0' c0' n1 c1 n1' c1' : Nat} {x0 y0 x1 y1 : List Int} (w : World) (h1 : Sl w A0 n0 c0 x0) (h2 : Sl w A0' n0' c0' y0) (g1 : Sl w A1 n1 c1 x1) (g2 : Sl w A1' n1' c1' y1) (hx : decide (x0 = x1) = false) :
    Calls Tryz.prog 14 #[.agg #[.bool false, .slice A0 n0 c0, .slice A0' n0' c0'], .agg #[.bool false, .slice A1 n1 c1, .slice A1' n1' c1']] w fun e w' => e = .returned (.bool false) ∧ Below w.heap.size w w' := by
  have hS := Lib.hid (((((SC.start w).old (k := n1') g2 (Nat.le_refl _) rfl).old (k := n1) g1 (Nat.le_refl _) rfl).old (k := n0') h2 (Nat.le_refl _) rfl).old (k := n0) h1 (Nat.le_refl _) rfl)
  clear h1 h2 g1 g2
  go_enter Tryz.func14, Tryz.ntmps14
  have h1 := ((hS.out.boxed (vs := [.bool false, .slice A0 n0 c0, .slice A0' n0' c0']) (ty := 27) rfl rfl).boxed (vs := [.bool false, .slice A1 n1 c1, .slice A1' n1' c1']) (ty := 27) rfl rfl)
  try simp only [World.size_alloc] at h1
  obtain ⟨p0_0, p1_0, p2_0⟩ := h1.cs3 0 rfl
  obtain ⟨p0_1, p1_1, p2_1⟩ := h1.cs3 1 rfl
  clear h1
  go_wp2_with fail
  clear p0_0 p1_0 p2_0 p0_1 p1_1 p2_1
  generalize hwa : World.alloc (World.alloc w _) _ = v1
  have h1 := ((hS.out.boxed (vs := [.bool false, .slice A0 n0 c0, .slice A0' n0' c0']) (ty := 27) rfl rfl).boxed (vs := [.bool false, .slice A1 n1 c1, .slice A1' n1' c1']) (ty := 27) rfl hwa)
  simp only [World.size_alloc] at h1
  have hsz : v1.heap.size = w.heap.size + 1 + 1 := by rw [← hwa]; simp only [World.size_alloc]
  try rw [← hsz]
  clear hwa hsz
  clear hS; have hS := Lib.hid h1; clear h1
  obtain ⟨x0_0, x1_0, x2_0⟩ := hS.out.cs3 0 rfl
  obtain ⟨x0_1, x1_1, x2_1⟩ := hS.out.cs3 1 rfl
  go_wp2_with fail
  go_at_call 41
  with_reducible refine (rsame_c (q := false) hS.out (by repeat (first | exact ms | apply mo)) (by repeat (first | exact ms | apply mo)) hx).mono ?_
  rintro e v2 ⟨rfl, h1⟩
  clear x0_0 x1_0 x2_0 x0_1 x1_1 x2_1
  clear hS; have hS := Lib.hid h1; clear h1
  obtain ⟨x0_0, x1_0, x2_0⟩ := hS.out.cs3 0 rfl
  obtain ⟨x0_1, x1_1, x2_1⟩ := hS.out.cs3 1 rfl
  go_wp2
  go_ret
  exact ⟨rfl, hS.out.bl⟩
theorem isg_fy {A0 A0' A1 A1' : Option Addr} {n0 c0 n0' c0' n1 c1 n1' c1' : Nat} {x0 y0 x1 y1 : List Int} (w : World) (h1 : Sl w A0 n0 c0 x0) (h2 : Sl w A0' n0' c0' y0) (g1 : Sl w A1 n1 c1 x1) (g2 : Sl w A1' n1' c1' y1) (hx : decide (x0 = x1) = true) {q : Bool} (hy : decide (y0 = y1) = q) :
    Calls Tryz.prog 14 #[.agg #[.bool false, .slice A0 n0 c0, .slice A0' n0' c0'], .agg #[.bool false, .slice A1 n1 c1, .slice A1' n1' c1']] w fun e w' => e = .returned (.bool q) ∧ Below w.heap.size w w' := by
  have hS := Lib.hid (((((SC.start w).old (k := n1') g2 (Nat.le_refl _) rfl).old (k := n1) g1 (Nat.le_refl _) rfl).old (k := n0') h2 (Nat.le_refl _) rfl).old (k := n0) h1 (Nat.le_refl _) rfl)
  clear h1 h2 g1 g2
  go_enter Tryz.func14, Tryz.ntmps14
  have h1 := ((hS.out.boxed (vs := [.bool false, .slice A0 n0 c0, .slice A0' n0' c0']) (ty := 27) rfl rfl).boxed (vs := [.bool false, .slice A1 n1 c1, .slice A1' n1' c1']) (ty := 27) rfl rfl)
  try simp only [World.size_alloc] at h1
  obtain ⟨p0_0, p1_0, p2_0⟩ := h1.cs3 0 rfl
  obtain ⟨p0_1, p1_1, p2_1⟩ := h1.cs3 1 rfl
  clear h1
  go_wp2_with fail
  clear p0_0 p1_0 p2_0 p0_1 p1_1 p2_1
  generalize hwa : World.alloc (World.alloc w _) _ = v1
  have h1 := ((hS.out.boxed (vs := [.bool false, .slice A0 n0 c0, .slice A0' n0' c0']) (ty := 27) rfl rfl).boxed (vs := [.bool false, .slice A1 n1 c1, .slice A1' n1' c1']) (ty := 27) rfl hwa)
  simp only [World.size_alloc] at h1
  have hsz : v1.heap.size = w.heap.size + 1 + 1 := by rw [← hwa]; simp only [World.size_alloc]
  try rw [← hsz]
  clear hwa hsz
  clear hS; have hS := Lib.hid h1; clear h1
  obtain ⟨x0_0, x1_0, x2_0⟩ := hS.out.cs3 0 rfl
  obtain ⟨x0_1, x1_1, x2_1⟩ := hS.out.cs3 1 rfl
  go_wp2_with fail
  go_at_call 41
  with_reducible refine (rsame_c (q := true) hS.out (by repeat (first | exact ms | apply mo)) (by repeat (first | exact ms | apply mo)) hx).mono ?_
  rintro e v2 ⟨rfl, h1⟩
  clear x0_0 x1_0 x2_0 x0_1 x1_1 x2_1
  clear hS; have hS := Lib.hid h1; clear h1
  obtain ⟨x0_0, x1_0, x2_0⟩ := hS.out.cs3 0 rfl
  obtain ⟨x0_1, x1_1, x2_1⟩ := hS.out.cs3 1 rfl
  go_wp2_with fail
  go_at_call 41
  with_reducible refine (rsame_c (q := q) hS.out (by repeat (first | exact ms | apply mo)) (by repeat (first | exact ms | apply mo)) hy).mono ?_
  rintro e v3 ⟨rfl, h1⟩
  clear x0_0 x1_0 x2_0 x0_1 x1_1 x2_1
  clear hS; have hS := Lib.hid h1; clear h1
  obtain ⟨x0_0, x1_0, x2_0⟩ := hS.out.cs3 0 rfl
  obtain ⟨x0_1, x1_1, x2_1⟩ := hS.out.cs3 1 rfl
  go_wp2
  go_ret
  exact ⟨rfl, hS.out.bl⟩
theorem isg_tx {A0 A0' A1 A1' : Option Addr} {n0 c0 n0' c0' n1 c1 n1' c1' : Nat} {x0 y0 x1 y1 : List Int} (w : World) (h1 : Sl w A0 n0 c0 x0) (h2 : Sl w A0' n0' c0' y0) (g1 : Sl w A1 n1 c1 x1) (g2 : Sl w A1' n1' c1' y1) (hx : decide (x0 = x1) = false) :
    Calls Tryz.prog 14 #[.agg #[.bool true, .slice A0 n0 c0, .slice A0' n0' c0'], .agg #[.bool true, .slice A1 n1 c1, .slice A1' n1' c1']] w fun e w' => e = .returned (.bool false) ∧ Below w.heap.size w w' := by
  have hS := Lib.hid (((((SC.start w).old (k := n1') g2 (Nat.le_refl _) rfl).old (k := n1) g1 (Nat.le_refl _) rfl).old (k := n0') h2 (Nat.le_refl _) rfl).old (k := n0) h1 (Nat.le_refl _) rfl)
  clear h1 h2 g1 g2
  go_enter Tryz.func14, Tryz.ntmps14
  have h1 := ((hS.out.boxed (vs := [.bool true, .slice A0 n0 c0, .slice A0' n0' c0']) (ty := 27) rfl rfl).boxed (vs := [.bool true, .slice A1 n1 c1, .slice A1' n1' c1']) (ty := 27) rfl rfl)
  try simp only [World.size_alloc] at h1
  obtain ⟨p0_0, p1_0, p2_0⟩ := h1.cs3 0 rfl
  obtain ⟨p0_1, p1_1, p2_1⟩ := h1.cs3 1 rfl
  clear h1
  go_wp2_with fail
  clear p0_0 p1_0 p2_0 p0_1 p1_1 p2_1
  generalize hwa : World.alloc (World.alloc w _) _ = v1
  have h1 := ((hS.out.boxed (vs := [.bool true, .slice A0 n0 c0, .slice A0' n0' c0']) (ty := 27) rfl rfl).boxed (vs := [.bool true, .slice A1 n1 c1, .slice A1' n1' c1']) (ty := 27) rfl hwa)
  simp only [World.size_alloc] at h1
  have hsz : v1.heap.size = w.heap.size + 1 + 1 := by rw [← hwa]; simp only [World.size_alloc]
  try rw [← hsz]
  clear hwa hsz
  clear hS; have hS := Lib.hid h1; clear h1
  obtain ⟨x0_0, x1_0, x2_0⟩ := hS.out.cs3 0 rfl
  obtain ⟨x0_1, x1_1, x2_1⟩ := hS.out.cs3 1 rfl
  go_wp2_with fail
  go_at_call 41
  with_reducible refine (rsame_c (q := false) hS.out (by repeat (first | exact ms | apply mo)) (by repeat (first | exact ms | apply mo)) hx).mono ?_
  rintro e v2 ⟨rfl, h1⟩
  clear x0_0 x1_0 x2_0 x0_1 x1_1 x2_1
  clear hS; have hS := Lib.hid h1; clear h1
  obtain ⟨x0_0, x1_0, x2_0⟩ := hS.out.cs3 0 rfl
  obtain ⟨x0_1, x1_1, x2_1⟩ := hS.out.cs3 1 rfl
  go_wp2
  go_ret
  exact ⟨rfl, hS.out.bl⟩
theorem isg_ty {A0 A0' A1 A1' : Option Addr} {n0 c0 n0' c0' n1 c1 n1' c1' : Nat} {x0 y0 x1 y1 : List Int} (w : World) (h1 : Sl w A0 n0 c0 x0) (h2 : Sl w A0' n0' c0' y0) (g1 : Sl w A1 n1 c1 x1) (g2 : Sl w A1' n1' c1' y1) (hx : decide (x0 = x1) = true) {q : Bool} (hy : decide (y0 = y1) = q) :
    Calls Tryz.prog 14 #[.agg #[.bool true, .slice A0 n0 c0, .slice A0' n0' c0'], .agg #[.bool true, .slice A1 n1 c1, .slice A1' n1' c1']] w fun e w' => e = .returned (.bool q) ∧ Below w.heap.size w w' := by
  have hS := Lib.hid (((((SC.start w).old (k := n1') g2 (Nat.le_refl _) rfl).old (k := n1) g1 (Nat.le_refl _) rfl).old (k := n0') h2 (Nat.le_refl _) rfl).old (k := n0) h1 (Nat.le_refl _) rfl)
  clear h1 h2 g1 g2
  go_enter Tryz.func14, Tryz.ntmps14
  have h1 := ((hS.out.boxed (vs := [.bool true, .slice A0 n0 c0, .slice A0' n0' c0']) (ty := 27) rfl rfl).boxed (vs := [.bool true, .slice A1 n1 c1, .slice A1' n1' c1']) (ty := 27) rfl rfl)
  try simp only [World.size_alloc] at h1
  obtain ⟨p0_0, p1_0, p2_0⟩ := h1.cs3 0 rfl
  obtain ⟨p0_1, p1_1, p2_1⟩ := h1.cs3 1 rfl
  clear h1
  go_wp2_with fail
  clear p0_0 p1_0 p2_0 p0_1 p1_1 p2_1
  generalize hwa : World.alloc (World.alloc w _) _ = v1
  have h1 := ((hS.out.boxed (vs := [.bool true, .slice A0 n0 c0, .slice A0' n0' c0']) (ty := 27) rfl rfl).boxed (vs := [.bool true, .slice A1 n1 c1, .slice A1' n1' c1']) (ty := 27) rfl hwa)
  simp only [World.size_alloc] at h1
  have hsz : v1.heap.size = w.heap.size + 1 + 1 := by rw [← hwa]; simp only [World.size_alloc]
  try rw [← hsz]
  clear hwa hsz
  clear hS; have hS := Lib.hid h1; clear h1
  obtain ⟨x0_0, x1_0, x2_0⟩ := hS.out.cs3 0 rfl
  obtain ⟨x0_1, x1_1, x2_1⟩ := hS.out.cs3 1 rfl
  go_wp2_with fail
  go_at_call 41
  with_reducible refine (rsame_c (q := true) hS.out (by repeat (first | exact ms | apply mo)) (by repeat (first | exact ms | apply mo)) hx).mono ?_
  rintro e v2 ⟨rfl, h1⟩
  clear x0_0 x1_0 x2_0 x0_1 x1_1 x2_1
  clear hS; have hS := Lib.hid h1; clear h1
  obtain ⟨x0_0, x1_0, x2_0⟩ := hS.out.cs3 0 rfl
  obtain ⟨x0_1, x1_1, x2_1⟩ := hS.out.cs3 1 rfl
  go_wp2_with fail
  go_at_call 41
  with_reducible refine (rsame_c (q := q) hS.out (by repeat (first | exact ms | apply mo)) (by repeat (first | exact ms | apply mo)) hy).mono ?_
  rintro e v3 ⟨rfl, h1⟩
  clear x0_0 x1_0 x2_0 x0_1 x1_1 x2_1
  clear hS; have hS := Lib.hid h1; clear h1
  obtain ⟨x0_0, x1_0, x2_0⟩ := hS.out.cs3 0 rfl
  obtain ⟨x0_1, x1_1, x2_1⟩ := hS.out.cs3 1 rfl
  go_wp2
  go_ret
  exact ⟨rfl, hS.out.bl⟩
theorem isg_any {A0 A0' A1 A1' : Option Addr} {n0 c0 n0' c0' n1 c1 n1' c1' : Nat} {x0 y0 x1 y1 : List Int} {b0 b1 : Bool} (w : World) (h1 : Sl w A0 n0 c0 x0) (h2 : Sl w A0' n0' c0' y0) (g1 : Sl w A1 n1 c1 x1) (g2 : Sl w A1' n1' c1' y1) {q : Bool} (hq : (decide (b0 = b1) && decide (x0 = x1) && decide (y0 = y1)) = q) :
    Calls Tryz.prog 14 #[.agg #[.bool b0, .slice A0 n0 c0, .slice A0' n0' c0'], .agg #[.bool b1, .slice A1 n1 c1, .slice A1' n1' c1']] w fun e w' => e = .returned (.bool q) ∧ Below w.heap.size w w' := by
  cases b0 <;> cases b1
  · cases hx : decide (x0 = x1)
    · rw [hx] at hq; subst hq; exact isg_fx w h1 h2 g1 g2 hx
    · rw [hx] at hq; exact isg_fy w h1 h2 g1 g2 hx (by simpa using hq)
  · subst hq; exact isg_ft w h1 h2 g1 g2
  · subst hq; exact isg_tf w h1 h2 g1 g2
  · cases hx : decide (x0 = x1)
    · rw [hx] at hq; subst hq; exact isg_tx w h1 h2 g1 g2 hx
    · rw [hx] at hq; exact isg_ty w h1 h2 g1 g2 hx (by simpa using hq)
theorem isg_c (h : SC w0 v0 w S T O) {A0 A0' A1 A1' : Option Addr} {n0 c0 n0' c0' n1 c1 n1' c1' : Nat} {x0 y0 x1 y1 : List Int} {k0 k0' k1 k1' : Nat} {v0' u0 v1 u1 : Int} {b0 b1 : Bool} (h1 : (⟨A0, n0, c0, k0, x0, v0'⟩ : Ent) ∈ S) (h2 : (⟨A0', n0', c0', k0', y0, u0⟩ : Ent) ∈ S) (g1 : (⟨A1, n1, c1, k1, x1, v1⟩ : Ent) ∈ S) (g2 : (⟨A1', n1', c1', k1', y1, u1⟩ : Ent) ∈ S) {q : Bool} (hq : (decide (b0 = b1) && decide (x0 = x1) && decide (y0 = y1)) = q) :
    Calls Tryz.prog 14 #[.agg #[.bool b0, .slice A0 n0 c0, .slice A0' n0' c0'], .agg #[.bool b1, .slice A1 n1 c1, .slice A1' n1' c1']] w fun e w' => e = .returned (.bool q) ∧ SC w0 v0 w' S T O :=
  (isg_any w (h.get h1).1 (h.get h2).1 (h.get g1).1 (h.get g2).1 hq).mono fun e w' ⟨he, hb⟩ => ⟨he, h.below hb⟩
set_option maxHeartbeats 1000000 in
theorem r6may_z (w : World) (b : Bool) (h : Sl w A n c xs) (h' : Sl w A' m d ys) (hn : n ≤ M) (hm : m ≤ M) (hM1 : 1 ≤ M) (hM : M ≤ 1000) (hv : val B ys = 0) :
    Calls Tryz.prog 18 #[.agg #[.bool b, .slice A n c, .slice A' m d]] w fun e w' => e = .returned (.bool false) ∧ Below w.heap.size w w' := by
  have hS := Lib.hid (((SC.start w).old (k := M) h' hm rfl).old (k := M) h hn rfl)
  clear h h'
  go_enter Tryz.func18, Tryz.ntmps18
  have h1 := (hS.out.boxed (vs := [.bool b, .slice A n c, .slice A' m d]) (ty := 27) rfl rfl)
  try simp only [World.size_alloc] at h1
  obtain ⟨p0_0, p1_0, p2_0⟩ := h1.cs3 0 rfl
  clear h1
  go_wp2_with fail
  clear p0_0 p1_0 p2_0
  generalize hwa : World.alloc w _ = v1
  have h1 := (hS.out.boxed (vs := [.bool b, .slice A n c, .slice A' m d]) (ty := 27) rfl hwa)
  have hsz : v1.heap.size = w.heap.size + 1 := by rw [← hwa]; simp only [World.size_alloc]
  try rw [← hsz]
  clear hwa hsz
  clear hS; have hS := Lib.hid h1; clear h1
  obtain ⟨x0_0, x1_0, x2_0⟩ := hS.out.cs3 0 rfl
  go_wp2_with fail
  go_at_call 7
  with_reducible refine (r6mk_z hS.out (by repeat (first | exact ms | apply mo)) (by repeat (first | exact ms | apply mo)) (by omega) (by omega) hv).mono ?_
  rintro e v2 ⟨rfl, h1⟩
  clear x0_0 x1_0 x2_0
  clear hS; have hS := Lib.hid h1; clear h1
  obtain ⟨x0_0, x1_0, x2_0⟩ := hS.out.cs3 0 rfl
  have h1 := (hS.out.boxed (vs := [.bool false, .slice none 0 0, .slice none 0 0]) (ty := 27) rfl rfl)
  try simp only [World.size_alloc] at h1
  obtain ⟨p0_0, p1_0, p2_0⟩ := h1.cs3 0 rfl
  obtain ⟨p0_1, p1_1, p2_1⟩ := h1.cs3 1 rfl
  clear h1
  go_wp2_with fail
  clear x0_0 x1_0 x2_0
  clear p0_0 p1_0 p2_0 p0_1 p1_1 p2_1
  generalize hwa : World.alloc v2 _ = v3
  have h1 := (hS.out.boxed (vs := [.bool false, .slice none 0 0, .slice none 0 0]) (ty := 27) rfl hwa)
  have hsz : v3.heap.size = v2.heap.size + 1 := by rw [← hwa]; simp only [World.size_alloc]
  try rw [← hsz]
  clear hwa hsz
  clear hS; have hS := Lib.hid h1; clear h1
  obtain ⟨x0_0, x1_0, x2_0⟩ := hS.out.cs3 0 rfl
  obtain ⟨x0_1, x1_1, x2_1⟩ := hS.out.cs3 1 rfl
  go_wp2_with fail
  clear x0_0 x1_0 x2_0 x0_1 x1_1 x2_1
  have h1 := hS.out.drew
  clear hS; have hS := Lib.hid h1; clear h1
  refine wp_region_held_drew (S := (fun W => (W.cell? ⟨v2.heap.size, 0, none⟩ = some (.bool false) ∧ W.cell? ⟨v2.heap.size, 1, none⟩ = some (.slice none 0 0) ∧ W.cell? ⟨v2.heap.size, 2, none⟩ = some (.slice none 0 0)) ∧ (W.cell? ⟨w.heap.size, 0, none⟩ = some (.bool b) ∧ W.cell? ⟨w.heap.size, 1, none⟩ = some (.slice A n c) ∧ W.cell? ⟨w.heap.size, 2, none⟩ = some (.slice A' m d)))) (by kernel_rfl) ?_ (fun hHeld => ?_)
  · (first | with_reducible exact ⟨hS.out.cs3 0 rfl, hS.out.cs3 1 rfl⟩ | with_reducible exact ⟨hS.out.drew.cs3 0 rfl, hS.out.drew.cs3 1 rfl⟩ | with_reducible exact ⟨(hS.out.alloc _).cs3 0 rfl, (hS.out.alloc _).cs3 1 rfl⟩ | with_reducible exact ⟨((hS.out.alloc _).alloc _).cs3 0 rfl, ((hS.out.alloc _).alloc _).cs3 1 rfl⟩)
  refine wpAnyH_take (i := 0) (oi := { dst := some 13, op := Op.move (Operand.tmp 4), type := 30, pos := "ref.go:109", after := #[], guard := none }) (v := ?_) rfl (by kernel_rfl) (by kernel_rfl) (by kernel_rfl) (fun _ _ _ h => h) (Or.inl ⟨by rfl, ?_⟩) (by assumption) ?_
  rotate_left
  · intro w hSw
    try dsimp only at hSw
    go_simp
    try with_reducible rfl
  try simp only [Act.put, List.setIfInBounds_toArray, List.set_cons_zero, List.set_cons_succ]
  refine wpAnyH_take (i := 1) (oi := { dst := some 14, op := Op.binOp BinOp.eql 30 (Operand.tmp 13) (Operand.const (Value.int IntKind.i64 0)) 30, type := 4, pos := "ref.go:109", after := #[{ on := 0, ground := Ground.data }], guard := none }) (v := ?_) rfl (by kernel_rfl) (by kernel_rfl) (by kernel_rfl) (fun _ _ _ h => h) (Or.inl ⟨by rfl, ?_⟩) (by assumption) ?_
  rotate_left
  · intro w hSw
    try dsimp only at hSw
    go_simp
    try with_reducible rfl
  try simp only [Act.put, List.setIfInBounds_toArray, List.set_cons_zero, List.set_cons_succ]
  refine wpAnyH_take (i := 2) (oi := { dst := some 15, op := Op.move (Operand.tmp 14), type := 4, pos := "ref.go:109", after := #[{ on := 1, ground := Ground.data }], guard := none }) (v := ?_) rfl (by kernel_rfl) (by kernel_rfl) (by kernel_rfl) (fun _ _ _ h => h) (Or.inl ⟨by rfl, ?_⟩) (by assumption) ?_
  rotate_left
  · intro w hSw
    try dsimp only at hSw
    go_simp
    try with_reducible rfl
  try simp only [Act.put, List.setIfInBounds_toArray, List.set_cons_zero, List.set_cons_succ]
  refine wpAnyH_take (i := 3) (oi := { dst := some 16, op := Op.load 27 (Operand.tmp 1), type := 27, pos := "ref.go:109", after := #[{ on := 2, ground := Ground.guard }], guard := some (2, true) }) (v := undef) rfl (by kernel_rfl) (by kernel_rfl) (by kernel_rfl) (fun _ _ _ h => h) (Or.inr ⟨by rfl, rfl⟩) (by assumption) ?_
  try simp only [Act.put, List.setIfInBounds_toArray, List.set_cons_zero, List.set_cons_succ]
  refine wpAnyH_take (i := 4) (oi := { dst := some 17, op := Op.load 27 (Operand.tmp 1), type := 27, pos := "ref.go:109", after := #[{ on := 2, ground := Ground.guard }], guard := some (2, true) }) (v := undef) rfl (by kernel_rfl) (by kernel_rfl) (by kernel_rfl) (fun _ _ _ h => h) (Or.inr ⟨by rfl, rfl⟩) (by assumption) ?_
  try simp only [Act.put, List.setIfInBounds_toArray, List.set_cons_zero, List.set_cons_succ]
  refine wpAnyH_ready (rs := [5]) (by kernel_rfl) (by simp) ?_
  refine AllReadyH.cons (o := { dst := some 18, op := Op.call { callee := Callee.value (Operand.func 44), args := #[Operand.tmp 17], argTypes := #[27] }, type := 27, pos := "ref.go:109", after := #[{ on := 4, ground := Ground.data }, { on := 2, ground := Ground.chain }, { on := 2, ground := Ground.guard }], guard := some (2, true) }) rfl (fun K hK => ?_) AllReadyH.nil
  go_simp
  refine hK.out _ _ ?_ (fun hHeld => ?_)
  · try dsimp only
    (first | with_reducible exact ⟨hS.out.cs3 0 rfl, hS.out.cs3 1 rfl⟩ | with_reducible exact ⟨hS.out.drew.cs3 0 rfl, hS.out.drew.cs3 1 rfl⟩ | with_reducible exact ⟨(hS.out.alloc _).cs3 0 rfl, (hS.out.alloc _).cs3 1 rfl⟩ | with_reducible exact ⟨((hS.out.alloc _).alloc _).cs3 0 rfl, ((hS.out.alloc _).alloc _).cs3 1 rfl⟩)
  clear hK K
  try simp only [Act.put, List.setIfInBounds_toArray, List.set_cons_zero, List.set_cons_succ]
  refine wpAnyH_ready (rs := [6]) (by kernel_rfl) (by simp) ?_
  refine AllReadyH.cons (o := { dst := some 19, op := Op.call { callee := Callee.value (Operand.func 14), args := #[Operand.tmp 16, Operand.tmp 18], argTypes := #[27, 27] }, type := 4, pos := "ref.go:109", after := #[{ on := 3, ground := Ground.data }, { on := 5, ground := Ground.data }, { on := 5, ground := Ground.chain }, { on := 2, ground := Ground.guard }], guard := some (2, true) }) rfl (fun K hK => ?_) AllReadyH.nil
  go_simp
  refine hK.out _ _ ?_ (fun hHeld => ?_)
  · try dsimp only
    (first | with_reducible exact ⟨hS.out.cs3 0 rfl, hS.out.cs3 1 rfl⟩ | with_reducible exact ⟨hS.out.drew.cs3 0 rfl, hS.out.drew.cs3 1 rfl⟩ | with_reducible exact ⟨(hS.out.alloc _).cs3 0 rfl, (hS.out.alloc _).cs3 1 rfl⟩ | with_reducible exact ⟨((hS.out.alloc _).alloc _).cs3 0 rfl, ((hS.out.alloc _).alloc _).cs3 1 rfl⟩)
  clear hK K
  try simp only [Act.put, List.setIfInBounds_toArray, List.set_cons_zero, List.set_cons_succ]
  refine wpAnyH_take (i := 7) (oi := { dst := some 20, op := Op.pick (Operand.tmp 15) (Operand.tmp 19) (Operand.const (Value.bool false)), type := 4, pos := "ref.go:109", after := #[{ on := 2, ground := Ground.data }, { on := 6, ground := Ground.data }], guard := none }) (v := ?_) rfl (by kernel_rfl) (by kernel_rfl) (by kernel_rfl) (fun _ _ _ h => h) (Or.inl ⟨by rfl, ?_⟩) (by assumption) ?_
  rotate_left
  · intro w hSw
    try dsimp only at hSw
    go_simp
    try with_reducible rfl
  try simp only [Act.put, List.setIfInBounds_toArray, List.set_cons_zero, List.set_cons_succ]
  refine wpAnyH_take (i := 8) (oi := { dst := some 2, op := Op.assign (Operand.tmp 20), type := 4, pos := "ref.go:109", after := #[{ on := 7, ground := Ground.data }, { on := 6, ground := Ground.chain }, { on := 0, ground := Ground.phase }, { on := 1, ground := Ground.phase }, { on := 2, ground := Ground.phase }, { on := 3, ground := Ground.phase }, { on := 4, ground := Ground.phase }, { on := 5, ground := Ground.phase }, { on := 6, ground := Ground.phase }, { on := 7, ground := Ground.phase }], guard := none }) (v := ?_) rfl (by kernel_rfl) (by kernel_rfl) (by kernel_rfl) (fun _ _ _ h => h) (Or.inl ⟨by rfl, ?_⟩) (by assumption) ?_
  rotate_left
  · intro w hSw
    try dsimp only at hSw
    go_simp
    try with_reducible rfl
  try simp only [Act.put, List.setIfInBounds_toArray, List.set_cons_zero, List.set_cons_succ]
  refine wpAnyH_done (by kernel_rfl) ?_ _
  obtain ⟨x0_0, x1_0, x2_0⟩ := hS.out.cs3 0 rfl
  obtain ⟨x0_1, x1_1, x2_1⟩ := hS.out.cs3 1 rfl
  go_wp2
  go_ret
  exact ⟨rfl, hS.out.bl⟩
set_option maxHeartbeats 1000000 in
theorem r6may_p (w : World) (b : Bool) (h : Sl w A n c xs) (h' : Sl w A' m d ys) (hn : n ≤ M) (hm : m ≤ M) (hM1 : 1 ≤ M) (hM : M ≤ 1000) (hv : 0 < val B ys) {r : Rat} (hr : rv b (val B xs) (val B ys) = r) {q : Bool} (hq : (decide (b = sg r.num) && decide (xs = limbs (mg r.num)) && decide (ys = limbs r.den)) = q) :
    Calls Tryz.prog 18 #[.agg #[.bool b, .slice A n c, .slice A' m d]] w fun e w' => e = .returned (.bool q) ∧ Below w.heap.size w w' := by
  have HC := Lib.hid (fun (W : World) (a1 : Sl W A n c xs) (a2 : Sl W A' m d ys) => r6count_p (M := M) W b a1 a2 hn hm hM1 hM hv hr)
  have hS := Lib.hid (((SC.start w).old (k := M) h' hm rfl).old (k := M) h hn rfl)
  clear h h'
  go_enter Tryz.func18, Tryz.ntmps18
  have h1 := (hS.out.boxed (vs := [.bool b, .slice A n c, .slice A' m d]) (ty := 27) rfl rfl)
  try simp only [World.size_alloc] at h1
  obtain ⟨p0_0, p1_0, p2_0⟩ := h1.cs3 0 rfl
  clear h1
  go_wp2_with fail
  clear p0_0 p1_0 p2_0
  generalize hwa : World.alloc w _ = v1
  have h1 := (hS.out.boxed (vs := [.bool b, .slice A n c, .slice A' m d]) (ty := 27) rfl hwa)
  have hsz : v1.heap.size = w.heap.size + 1 := by rw [← hwa]; simp only [World.size_alloc]
  try rw [← hsz]
  clear hwa hsz
  clear hS; have hS := Lib.hid h1; clear h1
  obtain ⟨x0_0, x1_0, x2_0⟩ := hS.out.cs3 0 rfl
  go_wp2_with fail
  go_at_call 7
  with_reducible refine (r6mk_c (M := M) hS.out (by repeat (first | exact ms | apply mo)) (by repeat (first | exact ms | apply mo)) (Nat.le_refl _) (Nat.le_refl _) hM1 hM hv hr).mono ?_
  rintro e v2 ⟨A3, n3, c3, A4, n4, c4, rfl, h1⟩
  clear x0_0 x1_0 x2_0
  clear hS; have hS := Lib.hid h1; clear h1
  obtain ⟨x0_0, x1_0, x2_0⟩ := hS.out.cs3 0 rfl
  have h1 := (hS.out.boxed (vs := [.bool (sg (r).num), .slice A3 n3 c3, .slice A4 n4 c4]) (ty := 27) rfl rfl)
  try simp only [World.size_alloc] at h1
  obtain ⟨p0_0, p1_0, p2_0⟩ := h1.cs3 0 rfl
  obtain ⟨p0_1, p1_1, p2_1⟩ := h1.cs3 1 rfl
  clear h1
  go_wp2_with fail
  clear x0_0 x1_0 x2_0
  clear p0_0 p1_0 p2_0 p0_1 p1_1 p2_1
  generalize hwa : World.alloc v2 _ = v3
  have h1 := (hS.out.boxed (vs := [.bool (sg (r).num), .slice A3 n3 c3, .slice A4 n4 c4]) (ty := 27) rfl hwa)
  have hsz : v3.heap.size = v2.heap.size + 1 := by rw [← hwa]; simp only [World.size_alloc]
  try rw [← hsz]
  clear hwa hsz
  clear hS; have hS := Lib.hid h1; clear h1
  obtain ⟨x0_0, x1_0, x2_0⟩ := hS.out.cs3 0 rfl
  obtain ⟨x0_1, x1_1, x2_1⟩ := hS.out.cs3 1 rfl
  go_wp2_with fail
  clear x0_0 x1_0 x2_0 x0_1 x1_1 x2_1
  have h1 := hS.out.drew
  clear hS; have hS := Lib.hid h1; clear h1
  try simp only [List.append_eq, List.cons_append, List.nil_append]
  go_region_held3 (fun W => (W.cell? ⟨v2.heap.size, 0, none⟩ = some (.bool (sg (r).num)) ∧ W.cell? ⟨v2.heap.size, 1, none⟩ = some (.slice A3 n3 c3) ∧ W.cell? ⟨v2.heap.size, 2, none⟩ = some (.slice A4 n4 c4)) ∧ (W.cell? ⟨w.heap.size, 0, none⟩ = some (.bool b) ∧ W.cell? ⟨w.heap.size, 1, none⟩ = some (.slice A n c) ∧ W.cell? ⟨w.heap.size, 2, none⟩ = some (.slice A' m d))) (first | with_reducible exact ⟨hS.out.cs3 0 rfl, hS.out.cs3 1 rfl⟩ | with_reducible exact ⟨hS.out.drew.cs3 0 rfl, hS.out.drew.cs3 1 rfl⟩ | with_reducible exact ⟨(hS.out.alloc _).cs3 0 rfl, (hS.out.alloc _).cs3 1 rfl⟩ | with_reducible exact ⟨((hS.out.alloc _).alloc _).cs3 0 rfl, ((hS.out.alloc _).alloc _).cs3 1 rfl⟩) (first
    | (go_at_call 44; (with_reducible refine (HC.out _ (by first | exact (hS.out.get (A := A) (n := n) (c := c) (k := M) (xs := xs) (v := val B xs) (by repeat (first | exact ms | apply mo))).1) (hS.out.get (A := A') (n := m) (c := d) (k := M) (xs := ys) (v := val B ys) (by repeat (first | exact ms | apply mo))).1).mono ?_); rintro e w' ho; obtain ⟨A5, n5, c5, A6, n6, c6, rfl, h1⟩ := hS.out.rR (Nat.le_refl _) ho; clear hS; have hS := Lib.hid h1; clear h1)
    | (go_at_call 14; (with_reducible refine (isg_c (q := q) hS.out (by repeat (first | exact ms | apply mo)) (by repeat (first | exact ms | apply mo)) (by repeat (first | exact ms | apply mo)) (by repeat (first | exact ms | apply mo)) hq).mono ?_); rintro e w' ⟨rfl, h1⟩; clear hS; have hS := Lib.hid h1; clear h1))
  obtain ⟨x0_0, x1_0, x2_0⟩ := hS.out.cs3 0 rfl
  obtain ⟨x0_1, x1_1, x2_1⟩ := hS.out.cs3 1 rfl
  go_wp2
  go_ret
  exact ⟨rfl, hS.out.bl⟩
theorem r6may_c (h : SC w0 v0 w S T O) (h1 : (⟨A, n, c, k, xs, v⟩ : Ent) ∈ S) (h2 : (⟨A', m, d, k', ys, u⟩ : Ent) ∈ S) (hk : k ≤ 1000) (hk' : k' ≤ 1000) {q : Bool} (hq : mayR b xs ys = q) :
    Calls Tryz.prog 18 #[.agg #[.bool b, .slice A n c, .slice A' m d]] w fun e w' => e = .returned (.bool q) ∧ SC w0 v0 w' S T O := by
  obtain ⟨a1, a2, rfl⟩ := h.get h1
  obtain ⟨b1, b2, rfl⟩ := h.get h2
  obtain ⟨r, hr⟩ : ∃ r, rv b (val B xs) (val B ys) = r := ⟨_, rfl⟩
  have hi := mayR_iff (b := b) a1.dg b1.dg hr
  have h0 := b1.nn0
  by_cases hv : val B ys = 0
  · have hf : q = false := by
      rw [← hq]
      cases e : mayR b xs ys with
      | false => rfl
      | true => have := (hi.1 e).1; omega
    subst hf
    exact (r6may_z (M := 1000) w b a1 b1 (by omega) (by omega) (by omega) (by omega) hv).mono fun e w' ⟨he, hb⟩ => ⟨he, h.below hb⟩
  · refine (r6may_p (M := 1000) w b a1 b1 (by omega) (by omega) (by omega) (by omega) (by omega) hr (q := q) ?_).mono fun e w' ⟨he, hb⟩ => ⟨he, h.below hb⟩
    rw [← hq, Bool.eq_iff_iff, hi]
    simp only [Bool.and_eq_true, decide_eq_true_eq]
    constructor
    · rintro ⟨⟨e1, e2⟩, e3⟩; exact ⟨by omega, e1, e2, e3⟩
    · rintro ⟨_, e1, e2, e3⟩; exact ⟨⟨e1, e2⟩, e3⟩
end
end Go.Proofs.YtbpambamaoonfaaGreatDoor
