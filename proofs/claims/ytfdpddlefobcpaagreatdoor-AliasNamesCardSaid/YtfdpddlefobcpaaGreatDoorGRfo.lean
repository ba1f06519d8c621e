/- Gathered: RefRatK, RefRatL0, RefRatO, RefRatCp. -/
import Derived.Test.YtfdpddlefobcpaaGreatDoorRefRatJ
import Derived.Test.YtfdpddlefobcpaaGreatDoorRatIs
import Derived.Test.YtfdpddlefobcpaaGreatDoorRatC
import Derived.Deep.RegionHeld3
/- The document of layer 6: sign, Make, Count, Is, May. -/
namespace Go.Proofs.YtfdpddlefobcpaaGreatDoor
open Go.RowKit
set_option linter.unusedVariables false
set_option linter.unusedSimpArgs false
set_option maxRecDepth 20000
open N
open Go.Lib (decDigits nDigits decDigits_length nDigits_pos)
section
variable {w0 v0 w : World} {S O : List Ent} {T : List Blk} {A A' : Option Addr} {n c m d k k' M : Nat} {xs ys : List Int} {v u : Int} {b : Bool}
theorem rgcd_k (h : SC w0 v0 w S T O) (h1 : (⟨A, n, c, k, xs, v⟩ : Ent) ∈ S) (h2 : (⟨A', m, d, k', ys, u⟩ : Ent) ∈ S) (hk : k ≤ M) (hk' : k' ≤ M) (hM : M ≤ 1000) {g : Int} (hg : gI v u = g) (hK : g < Q B M) :
    Calls Tryz.prog 62 #[.slice A n c, .slice A' m d] w fun e w' => ∃ A n c, e = .returned (.slice A n c) ∧ SC w0 v0 w' (⟨A, n, c, M, limbs g, g⟩ :: S) T (⟨A, n, c, M, limbs g, g⟩ :: O) := by
  obtain ⟨a1, a2, rfl⟩ := h.get h1
  obtain ⟨b1, b2, rfl⟩ := h.get h2
  subst hg
  have h0 := a1.nn0
  have h0' := b1.nn0
  have hg0 : 0 ≤ gI (val B xs) (val B ys) := by unfold gI; exact Int.natCast_nonneg _
  have key : Calls Tryz.prog 62 #[.slice A n c, .slice A' m d] w (Out w M (gI (val B xs) (val B ys))) := by
    by_cases e1 : val B xs = 0
    · exact rgcd_z1 w a1 b1 (by omega) (by omega) hM e1
    · by_cases e2 : val B ys = 0
      · exact rgcd_z2 w a1 b1 (by omega) (by omega) hM e1 e2
      · exact rgcd_pos w a1 b1 (by omega) (by omega) hM (by omega) (by omega)
  exact key.mono fun e w' ho => h.rNK hg0 hK ho
theorem rdiv_k (h : SC w0 v0 w S T O) (h1 : (⟨A, n, c, k, xs, v⟩ : Ent) ∈ S) (h2 : (⟨A', m, d, k', ys, u⟩ : Ent) ∈ S) (hk : k ≤ M) (hk' : k' ≤ M) (hM1 : 1 ≤ M) (hM : M ≤ 1000) (hu : 0 < u) {q : Int} (hq : v / u = q) :
    Calls Tryz.prog 63 #[.slice A n c, .slice A' m d] w fun e w' => ∃ A n c x, e = .returned (.tuple #[.slice A n c, x]) ∧ SC w0 v0 w' (⟨A, n, c, M, limbs q, q⟩ :: S) T (⟨A, n, c, M, limbs q, q⟩ :: O) := by
  obtain ⟨a1, a2, rfl⟩ := h.get h1
  obtain ⟨b1, b2, rfl⟩ := h.get h2
  subst hq
  refine (rdiv_all a1 b1 (by omega) (by omega) hM1 hM hu).mono ?_
  rintro e w' ⟨A1, n1, c1, x, rfl, hn1, ho, hb⟩
  exact ⟨A1, n1, c1, x, rfl, h.new hb ho hn1 (limbs_val (Int.ediv_nonneg a1.nn0 (Int.le_of_lt hu)))⟩
theorem rsign_fp (w : World) (h : Sl w A n c xs) (hn : n ≤ M) (hM : M ≤ 200000) (hv : ¬ val B xs = 0) :
    Calls Tryz.prog 64 #[.bool false, .slice A n c] w fun e w' => ∃ A n c, e = .returned (.agg #[.bool (sg (iv false (val B xs))), .slice A n c]) ∧ n ≤ M ∧ N.Own w' w.heap.size A n c (limbs (mg (iv false (val B xs)))) ∧ Below w.heap.size w w' := by
  have hS := Lib.hid ((SC.start w).old (k := M) h hn rfl)
  have hv0 := h.nn0
  have hvK : val B xs < Q B M := Int.lt_of_lt_of_le h.lt (QB_le hn)
  clear h
  go_enter Tryz.func64, Tryz.ntmps64
  have h1 := (hS.out.boxed (vs := [.bool false, .slice none 0 0]) (ty := 60) rfl rfl)
  try simp only [World.size_alloc] at h1
  obtain ⟨p0_0, p1_0⟩ := h1.cs2 0 rfl
  clear h1
  go_wp2_with fail
  clear p0_0 p1_0
  generalize hwa : World.alloc w _ = v1
  have h1 := (hS.out.boxed (vs := [.bool false, .slice none 0 0]) (ty := 60) rfl hwa)
  have hsz : v1.heap.size = w.heap.size + 1 := by rw [← hwa]; simp only [World.size_alloc]
  try rw [← hsz]
  clear hwa hsz
  clear hS; have hS := Lib.hid h1; clear h1
  obtain ⟨x0_0, x1_0⟩ := hS.out.cs2 0 rfl
  go_wp2_with fail
  go_at_call 61
  with_reducible refine (rtrim_k (K := M) hS.out (by repeat (first | exact ms | apply mo)) (by omega) rfl hvK).mono ?_
  rintro e v2 ⟨A1, n1, c1, rfl, h1⟩
  clear x0_0 x1_0
  clear hS; have hS := Lib.hid h1; clear h1
  obtain ⟨x0_0, x1_0⟩ := hS.out.cs2 0 rfl
  have e1 := len_z (hS.out.get (A := A1) (n := n1) (c := c1) (by repeat (first | exact ms | apply mo))).1 hv0
  have hn1 : 0 < n1 := by have : ¬ n1 = 0 := fun e => hv (e1.1 e); omega
  clear e1
  have hp0 := hS.out.put2 0 rfl (hS.out.ge_ 0 rfl) (.bool false) (.slice A1 n1 c1)
  simp only [List.set_cons_zero, List.set_cons_succ] at hp0
  have fz0_0 := hS.out.frs 0 rfl 0
  have fz0_1 := hS.out.frs 0 rfl 1
  have HPUT := Lib.hid hp0
  clear hp0
  go_wp2_with fail
  refine bodyPost_ret (results_B rfl rfl (loadZ (HPUT.out.box _ (List.mem_of_getElem? (i := 0) rfl)))) rfl ?_
  have hsg : sg (iv false (val B xs)) = false := by rw [sg_iv hv0]; simp
  refine ⟨A1, n1, c1, by rw [hsg], ?_, ?_, HPUT.out.bl⟩
  · have ho := HPUT.out.own _ (show (⟨A1, n1, c1, M, limbs (val B xs), val B xs⟩ : Ent) ∈ _ from (by repeat (first | exact ms | apply mo)))
    exact own_len ho rfl hv0 hvK
  · rw [mg_iv hv0]; exact HPUT.out.own _ (show (⟨A1, n1, c1, M, limbs (val B xs), val B xs⟩ : Ent) ∈ _ from (by repeat (first | exact ms | apply mo)))
theorem rsign_fz (w : World) (h : Sl w A n c xs) (hn : n ≤ M) (hM : M ≤ 200000) (hv : val B xs = 0) :
    Calls Tryz.prog 64 #[.bool false, .slice A n c] w fun e w' => ∃ A n c, e = .returned (.agg #[.bool (sg (iv false (val B xs))), .slice A n c]) ∧ n ≤ M ∧ N.Own w' w.heap.size A n c (limbs (mg (iv false (val B xs)))) ∧ Below w.heap.size w w' := by
  have hS := Lib.hid ((SC.start w).old (k := M) h hn rfl)
  have hv0 := h.nn0
  have hvK : val B xs < Q B M := Int.lt_of_lt_of_le h.lt (QB_le hn)
  clear h
  go_enter Tryz.func64, Tryz.ntmps64
  have h1 := (hS.out.boxed (vs := [.bool false, .slice none 0 0]) (ty := 60) rfl rfl)
  try simp only [World.size_alloc] at h1
  obtain ⟨p0_0, p1_0⟩ := h1.cs2 0 rfl
  clear h1
  go_wp2_with fail
  clear p0_0 p1_0
  generalize hwa : World.alloc w _ = v1
  have h1 := (hS.out.boxed (vs := [.bool false, .slice none 0 0]) (ty := 60) rfl hwa)
  have hsz : v1.heap.size = w.heap.size + 1 := by rw [← hwa]; simp only [World.size_alloc]
  try rw [← hsz]
  clear hwa hsz
  clear hS; have hS := Lib.hid h1; clear h1
  obtain ⟨x0_0, x1_0⟩ := hS.out.cs2 0 rfl
  go_wp2_with fail
  go_at_call 61
  with_reducible refine (rtrim_k (K := M) hS.out (by repeat (first | exact ms | apply mo)) (by omega) rfl hvK).mono ?_
  rintro e v2 ⟨A1, n1, c1, rfl, h1⟩
  clear x0_0 x1_0
  clear hS; have hS := Lib.hid h1; clear h1
  obtain ⟨x0_0, x1_0⟩ := hS.out.cs2 0 rfl
  have e1 := len_z (hS.out.get (A := A1) (n := n1) (c := c1) (by repeat (first | exact ms | apply mo))).1 hv0
  obtain rfl : n1 = 0 := e1.2 hv
  clear e1
  have hp0 := hS.out.put2 0 rfl (hS.out.ge_ 0 rfl) (.bool false) (.slice A1 0 c1)
  simp only [List.set_cons_zero, List.set_cons_succ] at hp0
  have fz0_0 := hS.out.frs 0 rfl 0
  have fz0_1 := hS.out.frs 0 rfl 1
  have HPUT := Lib.hid hp0
  clear hp0
  go_wp2_with fail
  refine bodyPost_ret (results_B rfl rfl (loadZ (HPUT.out.box _ (List.mem_of_getElem? (i := 0) rfl)))) rfl ?_
  have hsg : sg (iv false (val B xs)) = false := by rw [sg_iv hv0]; simp
  refine ⟨A1, 0, c1, by rw [hsg], ?_, ?_, HPUT.out.bl⟩
  · have ho := HPUT.out.own _ (show (⟨A1, 0, c1, M, limbs (val B xs), val B xs⟩ : Ent) ∈ _ from (by repeat (first | exact ms | apply mo)))
    exact own_len ho rfl hv0 hvK
  · rw [mg_iv hv0]; exact HPUT.out.own _ (show (⟨A1, 0, c1, M, limbs (val B xs), val B xs⟩ : Ent) ∈ _ from (by repeat (first | exact ms | apply mo)))
theorem rsign_tp (w : World) (h : Sl w A n c xs) (hn : n ≤ M) (hM : M ≤ 200000) (hv : ¬ val B xs = 0) :
    Calls Tryz.prog 64 #[.bool true, .slice A n c] w fun e w' => ∃ A n c, e = .returned (.agg #[.bool (sg (iv true (val B xs))), .slice A n c]) ∧ n ≤ M ∧ N.Own w' w.heap.size A n c (limbs (mg (iv true (val B xs)))) ∧ Below w.heap.size w w' := by
  have hS := Lib.hid ((SC.start w).old (k := M) h hn rfl)
  have hv0 := h.nn0
  have hvK : val B xs < Q B M := Int.lt_of_lt_of_le h.lt (QB_le hn)
  clear h
  go_enter Tryz.func64, Tryz.ntmps64
  have h1 := (hS.out.boxed (vs := [.bool false, .slice none 0 0]) (ty := 60) rfl rfl)
  try simp only [World.size_alloc] at h1
  obtain ⟨p0_0, p1_0⟩ := h1.cs2 0 rfl
  clear h1
  go_wp2_with fail
  clear p0_0 p1_0
  generalize hwa : World.alloc w _ = v1
  have h1 := (hS.out.boxed (vs := [.bool false, .slice none 0 0]) (ty := 60) rfl hwa)
  have hsz : v1.heap.size = w.heap.size + 1 := by rw [← hwa]; simp only [World.size_alloc]
  try rw [← hsz]
  clear hwa hsz
  clear hS; have hS := Lib.hid h1; clear h1
  obtain ⟨x0_0, x1_0⟩ := hS.out.cs2 0 rfl
  go_wp2_with fail
  go_at_call 61
  with_reducible refine (rtrim_k (K := M) hS.out (by repeat (first | exact ms | apply mo)) (by omega) rfl hvK).mono ?_
  rintro e v2 ⟨A1, n1, c1, rfl, h1⟩
  clear x0_0 x1_0
  clear hS; have hS := Lib.hid h1; clear h1
  obtain ⟨x0_0, x1_0⟩ := hS.out.cs2 0 rfl
  have e1 := len_z (hS.out.get (A := A1) (n := n1) (c := c1) (by repeat (first | exact ms | apply mo))).1 hv0
  have hn1 : 0 < n1 := by have : ¬ n1 = 0 := fun e => hv (e1.1 e); omega
  clear e1
  have hp0 := hS.out.put2 0 rfl (hS.out.ge_ 0 rfl) (.bool true) (.slice A1 n1 c1)
  simp only [List.set_cons_zero, List.set_cons_succ] at hp0
  have fz0_0 := hS.out.frs 0 rfl 0
  have fz0_1 := hS.out.frs 0 rfl 1
  have HPUT := Lib.hid hp0
  clear hp0
  go_wp2_with fail
  refine bodyPost_ret (results_B rfl rfl (loadZ (HPUT.out.box _ (List.mem_of_getElem? (i := 0) rfl)))) rfl ?_
  have hsg : sg (iv true (val B xs)) = true := by rw [sg_iv hv0]; simp; omega
  refine ⟨A1, n1, c1, by rw [hsg], ?_, ?_, HPUT.out.bl⟩
  · have ho := HPUT.out.own _ (show (⟨A1, n1, c1, M, limbs (val B xs), val B xs⟩ : Ent) ∈ _ from (by repeat (first | exact ms | apply mo)))
    exact own_len ho rfl hv0 hvK
  · rw [mg_iv hv0]; exact HPUT.out.own _ (show (⟨A1, n1, c1, M, limbs (val B xs), val B xs⟩ : Ent) ∈ _ from (by repeat (first | exact ms | apply mo)))
theorem rsign_tz (w : World) (h : Sl w A n c xs) (hn : n ≤ M) (hM : M ≤ 200000) (hv : val B xs = 0) :
    Calls Tryz.prog 64 #[.bool true, .slice A n c] w fun e w' => ∃ A n c, e = .returned (.agg #[.bool (sg (iv true (val B xs))), .slice A n c]) ∧ n ≤ M ∧ N.Own w' w.heap.size A n c (limbs (mg (iv true (val B xs)))) ∧ Below w.heap.size w w' := by
  have hS := Lib.hid ((SC.start w).old (k := M) h hn rfl)
  have hv0 := h.nn0
  have hvK : val B xs < Q B M := Int.lt_of_lt_of_le h.lt (QB_le hn)
  clear h
  go_enter Tryz.func64, Tryz.ntmps64
  have h1 := (hS.out.boxed (vs := [.bool false, .slice none 0 0]) (ty := 60) rfl rfl)
  try simp only [World.size_alloc] at h1
  obtain ⟨p0_0, p1_0⟩ := h1.cs2 0 rfl
  clear h1
  go_wp2_with fail
  clear p0_0 p1_0
  generalize hwa : World.alloc w _ = v1
  have h1 := (hS.out.boxed (vs := [.bool false, .slice none 0 0]) (ty := 60) rfl hwa)
  have hsz : v1.heap.size = w.heap.size + 1 := by rw [← hwa]; simp only [World.size_alloc]
  try rw [← hsz]
  clear hwa hsz
  clear hS; have hS := Lib.hid h1; clear h1
  obtain ⟨x0_0, x1_0⟩ := hS.out.cs2 0 rfl
  go_wp2_with fail
  go_at_call 61
  with_reducible refine (rtrim_k (K := M) hS.out (by repeat (first | exact ms | apply mo)) (by omega) rfl hvK).mono ?_
  rintro e v2 ⟨A1, n1, c1, rfl, h1⟩
  clear x0_0 x1_0
  clear hS; have hS := Lib.hid h1; clear h1
  obtain ⟨x0_0, x1_0⟩ := hS.out.cs2 0 rfl
  have e1 := len_z (hS.out.get (A := A1) (n := n1) (c := c1) (by repeat (first | exact ms | apply mo))).1 hv0
  obtain rfl : n1 = 0 := e1.2 hv
  clear e1
  have hp0 := hS.out.put2 0 rfl (hS.out.ge_ 0 rfl) (.bool false) (.slice A1 0 c1)
  simp only [List.set_cons_zero, List.set_cons_succ] at hp0
  have fz0_0 := hS.out.frs 0 rfl 0
  have fz0_1 := hS.out.frs 0 rfl 1
  have HPUT := Lib.hid hp0
  clear hp0
  go_wp2_with fail
  refine bodyPost_ret (results_B rfl rfl (loadZ (HPUT.out.box _ (List.mem_of_getElem? (i := 0) rfl)))) rfl ?_
  have hsg : sg (iv true (val B xs)) = false := by rw [sg_iv hv0]; simp [hv]
  refine ⟨A1, 0, c1, by rw [hsg], ?_, ?_, HPUT.out.bl⟩
  · have ho := HPUT.out.own _ (show (⟨A1, 0, c1, M, limbs (val B xs), val B xs⟩ : Ent) ∈ _ from (by repeat (first | exact ms | apply mo)))
    exact own_len ho rfl hv0 hvK
  · rw [mg_iv hv0]; exact HPUT.out.own _ (show (⟨A1, 0, c1, M, limbs (val B xs), val B xs⟩ : Ent) ∈ _ from (by repeat (first | exact ms | apply mo)))
theorem rsign_c (h : SC w0 v0 w S T O) (h1 : (⟨A, n, c, k, xs, v⟩ : Ent) ∈ S) (hk : k ≤ M) (hM : M ≤ 200000) {z : Int} (hz : iv b v = z) :
    Calls Tryz.prog 64 #[.bool b, .slice A n c] w fun e w' => ∃ A n c, e = .returned (.agg #[.bool (sg z), .slice A n c]) ∧ SC w0 v0 w' (⟨A, n, c, M, limbs (mg z), mg z⟩ :: S) T (⟨A, n, c, M, limbs (mg z), mg z⟩ :: O) := by
  obtain ⟨a1, a2, rfl⟩ := h.get h1
  subst hz
  have key : Calls Tryz.prog 64 #[.bool b, .slice A n c] w (fun e w' => ∃ A n c, e = .returned (.agg #[.bool (sg (iv b (val B xs))), .slice A n c]) ∧ n ≤ M ∧ N.Own w' w.heap.size A n c (limbs (mg (iv b (val B xs)))) ∧ Below w.heap.size w w') := by
    by_cases hv : val B xs = 0
    · cases b
      · exact rsign_fz w a1 (by omega) hM hv
      · exact rsign_tz w a1 (by omega) hM hv
    · cases b
      · exact rsign_fp w a1 (by omega) hM hv
      · exact rsign_tp w a1 (by omega) hM hv
  refine key.mono ?_
  rintro e w' ⟨A1, n1, c1, rfl, hn1, ho, hb⟩
  exact ⟨A1, n1, c1, rfl, h.new hb ho hn1 (limbs_val (mg_nn _))⟩
theorem r6make_zero (w : World) (b : Bool) (h : Sl w A n c xs) (h' : Sl w A' m d ys) (hn : n ≤ M) (hm : m ≤ M) (hM : M ≤ 1000) (hv : val B ys = 0) :
    Calls Tryz.prog 44 #[.agg #[.bool b, .slice A n c], .slice A' m d] w (OutRZ w 7) := by
  have hv0 := h.nn0
  have hu0 := h'.nn0
  have huK : val B ys < Q B M := Int.lt_of_lt_of_le h'.lt (QB_le hm)
  have hS := Lib.hid (((SC.start w).old (k := M) h' hm rfl).old (k := M) h hn rfl)
  clear h h'
  go_enter Tryz.func44, Tryz.ntmps44
  have h1 := ((hS.out.boxed (vs := [.bool (b), .slice A n c]) (ty := 60) rfl rfl).boxed (vs := [Value.bool false, Value.slice none 0 0, Value.slice none 0 0]) (ty := 62) rfl rfl)
  try simp only [World.size_alloc] at h1
  obtain ⟨p0_0, p1_0, p2_0⟩ := h1.cs3 0 rfl
  obtain ⟨p0_1, p1_1⟩ := h1.cs2 1 rfl
  clear h1
  go_wp2_with fail
  clear p0_0 p1_0 p2_0 p0_1 p1_1
  generalize hwa : World.alloc (World.alloc w _) _ = v1
  have h1 := ((hS.out.boxed (vs := [.bool (b), .slice A n c]) (ty := 60) rfl rfl).boxed (vs := [Value.bool false, Value.slice none 0 0, Value.slice none 0 0]) (ty := 62) rfl hwa)
  simp only [World.size_alloc] at h1
  have hsz : v1.heap.size = w.heap.size + 1 + 1 := by rw [← hwa]; simp only [World.size_alloc]
  try rw [← hsz]
  clear hwa hsz
  clear hS; have hS := Lib.hid h1; clear h1
  obtain ⟨x0_0, x1_0, x2_0⟩ := hS.out.cs3 0 rfl
  obtain ⟨x0_1, x1_1⟩ := hS.out.cs2 1 rfl
  go_wp2_with fail
  go_at_call 61
  with_reducible refine (rtrim_k (K := M) hS.out (by repeat (first | exact ms | apply mo)) (by omega) rfl huK).mono ?_
  rintro e v2 ⟨A5, n5, c5, rfl, h1⟩
  clear x0_0 x1_0 x2_0 x0_1 x1_1
  clear hS; have hS := Lib.hid h1; clear h1
  obtain ⟨x0_0, x1_0, x2_0⟩ := hS.out.cs3 0 rfl
  obtain ⟨x0_1, x1_1⟩ := hS.out.cs2 1 rfl
  have e1 := len_z (hS.out.get (A := A5) (n := n5) (c := c5) (by repeat (first | exact ms | apply mo))).1 hu0
  obtain rfl : n5 = 0 := e1.2 hv
  clear e1
  have hp0 := hS.out.put3 0 rfl (hS.out.ge_ 0 rfl) (.bool false) (.slice none 0 0) (.slice none 0 0)
  simp only [List.set_cons_zero, List.set_cons_succ] at hp0
  have fz0_0 := hS.out.frs 0 rfl 0
  have fz0_1 := hS.out.frs 0 rfl 1
  have fz0_2 := hS.out.frs 0 rfl 2
  have HPUT := Lib.hid hp0
  clear hp0
  go_wp2_with fail
  refine bodyPost_ret (results_B2 rfl rfl rfl (loadR (HPUT.out.box _ (List.mem_of_getElem? (i := 0) rfl)))) rfl ?_
  exact ⟨rfl, HPUT.out.bl⟩
theorem r6make_any (w : World) (b : Bool) (h : Sl w A n c xs) (h' : Sl w A' m d ys) (hn : n ≤ M) (hm : m ≤ M) (hM1 : 1 ≤ M) (hM : M ≤ 1000) (hv : 0 < val B ys) :
    Calls Tryz.prog 44 #[.agg #[.bool b, .slice A n c], .slice A' m d] w (OutRE w M (rv b (val B xs) (val B ys)) 0) := by
  have hv0 := h.nn0
  have hu0 := h'.nn0
  have huK : val B ys < Q B M := Int.lt_of_lt_of_le h'.lt (QB_le hm)
  obtain ⟨hnum, hden⟩ := rv_nd (b := b) hv0 hv
  have hRB : RB M (rv b (val B xs) (val B ys)) := RB.rv hv0 hv (Int.lt_of_lt_of_le h.lt (QB_le hn)) (Int.lt_of_lt_of_le h'.lt (QB_le hm))
  have hgp := gI_pos (v := val B xs) hv
  have hgK : gI (val B xs) (val B ys) < Q B M := by
    have h3 : gI (val B xs) (val B ys) ≤ val B ys := by rw [gI_comm']; exact gI_le_l hv
    omega
  obtain ⟨g, hg⟩ : ∃ x, gI (val B xs) (val B ys) = x := ⟨_, rfl⟩
  rw [hg] at hnum hden hgp hgK
  obtain ⟨q1, hq1⟩ : ∃ x, val B xs / g = x := ⟨_, rfl⟩
  obtain ⟨q2, hq2⟩ : ∃ x, val B ys / g = x := ⟨_, rfl⟩
  rw [hq1] at hnum
  rw [hq2] at hden
  obtain ⟨z, hz⟩ : ∃ x, iv b q1 = x := ⟨_, rfl⟩
  rw [hz] at hnum
  have hS := Lib.hid (((SC.start w).old (k := M) h' hm rfl).old (k := M) h hn rfl)
  clear h h'
  go_enter Tryz.func44, Tryz.ntmps44
  have h1 := ((hS.out.boxed (vs := [.bool (b), .slice A n c]) (ty := 60) rfl rfl).boxed (vs := [Value.bool false, Value.slice none 0 0, Value.slice none 0 0]) (ty := 62) rfl rfl)
  try simp only [World.size_alloc] at h1
  obtain ⟨p0_0, p1_0, p2_0⟩ := h1.cs3 0 rfl
  obtain ⟨p0_1, p1_1⟩ := h1.cs2 1 rfl
  clear h1
  go_wp2_with fail
  clear p0_0 p1_0 p2_0 p0_1 p1_1
  generalize hwa : World.alloc (World.alloc w _) _ = v1
  have h1 := ((hS.out.boxed (vs := [.bool (b), .slice A n c]) (ty := 60) rfl rfl).boxed (vs := [Value.bool false, Value.slice none 0 0, Value.slice none 0 0]) (ty := 62) rfl hwa)
  simp only [World.size_alloc] at h1
  have hsz : v1.heap.size = w.heap.size + 1 + 1 := by rw [← hwa]; simp only [World.size_alloc]
  try rw [← hsz]
  clear hwa hsz
  clear hS; have hS := Lib.hid h1; clear h1
  obtain ⟨x0_0, x1_0, x2_0⟩ := hS.out.cs3 0 rfl
  obtain ⟨x0_1, x1_1⟩ := hS.out.cs2 1 rfl
  go_wp2_with fail
  go_at_call 61
  with_reducible refine (rtrim_k (K := M) hS.out (by repeat (first | exact ms | apply mo)) (by omega) rfl huK).mono ?_
  rintro e v2 ⟨A5, n5, c5, rfl, h1⟩
  clear x0_0 x1_0 x2_0 x0_1 x1_1
  clear hS; have hS := Lib.hid h1; clear h1
  obtain ⟨x0_0, x1_0, x2_0⟩ := hS.out.cs3 0 rfl
  obtain ⟨x0_1, x1_1⟩ := hS.out.cs2 1 rfl
  have e1 := len_z (hS.out.get (A := A5) (n := n5) (c := c5) (by repeat (first | exact ms | apply mo))).1 hu0
  have hn5n : ¬ n5 = 0 := fun e => by have := e1.1 e; omega
  have hn5 : ((n5 : Int) == 0) = false := by simp; omega
  clear e1 hn5n
  go_wp2_with fail
  go_at_call 62
  with_reducible refine (rgcd_k (M := M) hS.out (by repeat (first | exact ms | apply mo)) (by repeat (first | exact ms | apply mo)) (by omega) (by omega) hM hg hgK).mono ?_
  rintro e v3 ⟨A1, n1, c1, rfl, h1⟩
  clear x0_0 x1_0 x2_0 x0_1 x1_1
  clear hS; have hS := Lib.hid h1; clear h1
  obtain ⟨x0_0, x1_0, x2_0⟩ := hS.out.cs3 0 rfl
  obtain ⟨x0_1, x1_1⟩ := hS.out.cs2 1 rfl
  go_wp2_with fail
  go_at_call 63
  with_reducible refine (rdiv_k (M := M) hS.out (by repeat (first | exact ms | apply mo)) (by repeat (first | exact ms | apply mo)) (by omega) (by omega) hM1 hM hgp hq1).mono ?_
  rintro e v4 ⟨A2, n2, c2, y2, rfl, h1⟩
  clear x0_0 x1_0 x2_0 x0_1 x1_1
  clear hS; have hS := Lib.hid h1; clear h1
  obtain ⟨x0_0, x1_0, x2_0⟩ := hS.out.cs3 0 rfl
  obtain ⟨x0_1, x1_1⟩ := hS.out.cs2 1 rfl
  go_wp2_with fail
  go_at_call 63
  with_reducible refine (rdiv_k (M := M) hS.out (by repeat (first | exact ms | apply mo)) (by repeat (first | exact ms | apply mo)) (by omega) (by omega) hM1 hM hgp hq2).mono ?_
  rintro e v5 ⟨A4, n4, c4, y4, rfl, h1⟩
  clear x0_0 x1_0 x2_0 x0_1 x1_1
  clear hS; have hS := Lib.hid h1; clear h1
  obtain ⟨x0_0, x1_0, x2_0⟩ := hS.out.cs3 0 rfl
  obtain ⟨x0_1, x1_1⟩ := hS.out.cs2 1 rfl
  go_wp2_with fail
  go_at_call 64
  with_reducible refine (rsign_c (M := M) hS.out (by repeat (first | exact ms | apply mo)) (by omega) (by omega) hz).mono ?_
  rintro e v6 ⟨A3, n3, c3, rfl, h1⟩
  clear x0_0 x1_0 x2_0 x0_1 x1_1
  clear hS; have hS := Lib.hid h1; clear h1
  obtain ⟨x0_0, x1_0, x2_0⟩ := hS.out.cs3 0 rfl
  obtain ⟨x0_1, x1_1⟩ := hS.out.cs2 1 rfl
  have hp0 := hS.out.put3 0 rfl (hS.out.ge_ 0 rfl) (.bool (sg z)) (.slice A3 n3 c3) (.slice A4 n4 c4)
  simp only [List.set_cons_zero, List.set_cons_succ] at hp0
  have fz0_0 := hS.out.frs 0 rfl 0
  have fz0_1 := hS.out.frs 0 rfl 1
  have fz0_2 := hS.out.frs 0 rfl 2
  have HPUT := Lib.hid hp0
  clear hp0
  go_wp2_with fail
  refine bodyPost_ret (results_B2 rfl rfl rfl (loadR (HPUT.out.box _ (List.mem_of_getElem? (i := 0) rfl)))) rfl ?_
  exact HPUT.out.toRE (r := rv b (val B xs) (val B ys)) (by repeat (first | exact ms | apply mo)) (by repeat (first | exact ms | apply mo)) (by rw [hnum]) (by rw [hnum]) (by rw [hden]) hRB
end
end Go.Proofs.YtfdpddlefobcpaaGreatDoor
/- The document of layer 6: Make over a state; a literal of one limb that is the call's own. -/
namespace Go.Proofs.YtfdpddlefobcpaaGreatDoor
open Go.RowKit
set_option linter.unusedVariables false
set_option linter.unusedSimpArgs false
set_option maxRecDepth 20000
open N
theorem SC.lit1O {w0 v0 w : World} {S O : List Ent} {T : List Blk} (h : SC w0 v0 w S T O) (x : Int) (hx : 0 ≤ x ∧ x < 18446744073709551616) : SC w0 v0 (w.alloc (.cells #[.int .u64 x] 72)) (⟨some ⟨w.heap.size, 0, none⟩, 1, 1, 1, [x], x⟩ :: S) T (⟨some ⟨w.heap.size, 0, none⟩, 1, 1, 1, [x], x⟩ :: O) := by
  have h1 := h.lit1 x hx
  refine ⟨h1.st, h1.bl, h1.box, h1.from_, h1.nd, h1.apart, fun t ht => ?_, fun t ht q hq => ?_⟩
  · rcases List.mem_cons.1 ht with e | e
    · subst e
      exact ⟨(Arr.lit w [x] #[.int .u64 x] rfl).own h.bl.size rfl (by unfold maxLen; simp) (Nat.le_refl _), Dg.one hx.1 hx.2⟩
    · exact h1.own t e
  · rcases List.mem_cons.1 ht with e | e
    · subst e
      intro e
      have := (h.box q hq).lt
      have e : some w.heap.size = some q.g := e
      injection e with e
      omega
    · exact h1.apo t e q hq
section
variable {w0 v0 w : World} {S O : List Ent} {T : List Blk} {A A' : Option Addr} {n c m d k k' M : Nat} {xs ys : List Int} {v u : Int} {b : Bool}
theorem r6mk_c (h : SC w0 v0 w S T O) (h1 : (⟨A, n, c, k, xs, v⟩ : Ent) ∈ S) (h2 : (⟨A', m, d, k', ys, u⟩ : Ent) ∈ S) (hk : k ≤ M) (hk' : k' ≤ M) (hM1 : 1 ≤ M) (hM : M ≤ 1000) (hu : 0 < u) {r : Rat} (hr : rv b v u = r) :
    Calls Tryz.prog 44 #[.agg #[.bool b, .slice A n c], .slice A' m d] w fun e w' => ∃ A n c A' n' c', e = .returned (.tuple #[.agg #[.bool (sg r.num), .slice A n c, .slice A' n' c'], .int .i64 0]) ∧
      SC w0 v0 w' (⟨A, n, c, M, limbs (mg r.num), mg r.num⟩ :: ⟨A', n', c', M, limbs r.den, r.den⟩ :: S) T (⟨A, n, c, M, limbs (mg r.num), mg r.num⟩ :: ⟨A', n', c', M, limbs r.den, r.den⟩ :: O) := by
  obtain ⟨a1, a2, rfl⟩ := h.get h1
  obtain ⟨b1, b2, rfl⟩ := h.get h2
  subst hr
  exact (r6make_any w b a1 b1 (by omega) (by omega) hM1 hM hu).mono fun e w' ho => h.rRE (Nat.le_refl _) ho
theorem r6mk_z (h : SC w0 v0 w S T O) (h1 : (⟨A, n, c, k, xs, v⟩ : Ent) ∈ S) (h2 : (⟨A', m, d, k', ys, u⟩ : Ent) ∈ S) (hk : k ≤ 1000) (hk' : k' ≤ 1000) (hu : u = 0) :
    Calls Tryz.prog 44 #[.agg #[.bool b, .slice A n c], .slice A' m d] w fun e w' => e = .returned (.tuple #[.agg #[.bool false, .slice none 0 0, .slice none 0 0], .int .i64 7]) ∧ SC w0 v0 w' S T O := by
  obtain ⟨a1, a2, rfl⟩ := h.get h1
  obtain ⟨b1, b2, rfl⟩ := h.get h2
  exact (r6make_zero (M := 1000) w b a1 b1 (by omega) (by omega) (by omega) hu).mono fun e w' ho => h.tRZ ho
end
end Go.Proofs.YtfdpddlefobcpaaGreatDoor
/- The document of layer 6: size, Over, Of, Half. -/
namespace Go.Proofs.YtfdpddlefobcpaaGreatDoor
open Go.RowKit
set_option linter.unusedVariables false
set_option linter.unusedSimpArgs false
set_option maxRecDepth 20000
open N
open Go.Lib (decDigits nDigits decDigits_length nDigits_pos)
theorem QB1_ge {z : Int} (h : z < 18446744073709551616) : z < Q B 1 := by rw [QB_two]; exact h
theorem limbs1 : limbs (1 : Int) = [1] := by decide +kernel
section
variable {w0 v0 w : World} {S O : List Ent} {T : List Blk} {A A' : Option Addr} {n c m d k k' M : Nat} {xs ys : List Int} {v u : Int} {b : Bool}
theorem r6size_n (w : World) {x : Int} (hx1 : -9223372036854775808 ≤ x) (hx2 : x ≤ 9223372036854775807) (hx : x < 0) :
    Calls Tryz.prog 67 #[.int .i64 x] w (fun e w' => ∃ A n c, e = .returned (.slice A n c) ∧ SC w w w' [⟨A, n, c, 1, limbs (-x), -x⟩] [] [⟨A, n, c, 1, limbs (-x), -x⟩]) := by
  have e1 : IntKind.i64.wrap (x + 1) = x + 1 := by rw [IntKind.wrap_i64]; omega
  have e2 : IntKind.i64.wrap (-(x + 1)) = -(x + 1) := by rw [IntKind.wrap_i64]; omega
  have e3 : IntKind.u64.wrap (-(x + 1)) = -(x + 1) := by rw [IntKind.wrap_u64]; omega
  have HW := Lib.hid (show W.Wd (-(x + 1)) from ⟨by omega, by omega⟩)
  have HQ := Lib.hid (QB1_ge (z := -(x + 1)) (by omega))
  have HQ2 := Lib.hid (QB1_ge (z := -x) (by omega))
  have HE := Lib.hid (show -(x + 1) + 1 = -x by omega)
  have hS := Lib.hid (SC.start w)
  clear hx1 hx2
  go_enter Tryz.func67, Tryz.ntmps67
  go_wp2_with fail
  go_at_call 88
  with_reducible refine (rof_k (K := 1) hS.out HW.out HQ.out).mono ?_
  rintro e v1 ⟨A1, n1, c1, rfl, h1⟩
  clear hS; have hS := Lib.hid h1; clear h1
  go_wp2_with fail
  go_at_call 92
  with_reducible refine (radd_k (K := 1) (hS.out.lit1 1 (by decide)) (by repeat (first | exact ms | apply mo)) (by decide) (by repeat (first | exact ms | apply mo)) (by decide) HE.out HQ2.out).mono ?_
  rintro e v2 ⟨A2, n2, c2, rfl, h1⟩
  clear hS; have hS := Lib.hid h1; clear h1
  go_wp2
  go_ret
  exact ⟨A2, n2, c2, rfl, hS.out.sub (fun t ht => by obtain rfl : t = _ := List.mem_singleton.1 ht; exact List.mem_cons_self) (List.Sublist.refl _) (fun t ht => by obtain rfl : t = _ := List.mem_singleton.1 ht; exact List.mem_cons_self)⟩
theorem r6size_p (w : World) {x : Int} (hx1 : -9223372036854775808 ≤ x) (hx2 : x ≤ 9223372036854775807) (hx : 0 ≤ x) :
    Calls Tryz.prog 67 #[.int .i64 x] w (fun e w' => ∃ A n c, e = .returned (.slice A n c) ∧ SC w w w' [⟨A, n, c, 1, limbs (x), x⟩] [] [⟨A, n, c, 1, limbs (x), x⟩]) := by
  have e1 : IntKind.u64.wrap x = x := by rw [IntKind.wrap_u64]; omega
  have HW := Lib.hid (show W.Wd x from ⟨by omega, by omega⟩)
  have HQ := Lib.hid (QB1_ge (z := x) (by omega))
  have hS := Lib.hid (SC.start w)
  clear hx1 hx2
  go_enter Tryz.func67, Tryz.ntmps67
  go_wp2_with fail
  go_at_call 88
  with_reducible refine (rof_k (K := 1) hS.out HW.out HQ.out).mono ?_
  rintro e v1 ⟨A1, n1, c1, rfl, h1⟩
  clear hS; have hS := Lib.hid h1; clear h1
  go_wp2
  go_ret
  exact ⟨A1, n1, c1, rfl, hS.out⟩
theorem r6size_c (h : SC w0 v0 w S T O) {x : Int} (hx1 : -9223372036854775808 ≤ x) (hx2 : x ≤ 9223372036854775807) {z : Int} (hz : mg x = z) :
    Calls Tryz.prog 67 #[.int .i64 x] w fun e w' => ∃ A n c, e = .returned (.slice A n c) ∧ SC w0 v0 w' (⟨A, n, c, 1, limbs z, z⟩ :: S) T (⟨A, n, c, 1, limbs z, z⟩ :: O) := by
  have key : Calls Tryz.prog 67 #[.int .i64 x] w (fun e w' => ∃ A n c, e = .returned (.slice A n c) ∧ SC w w w' [⟨A, n, c, 1, limbs (z), z⟩] [] [⟨A, n, c, 1, limbs (z), z⟩]) := by
    by_cases hx : x < 0
    · have e : -x = z := by rw [← hz, mg_t (Int.le_of_lt hx)]
      rw [← e]; exact r6size_n w hx1 hx2 hx
    · have e : x = z := by rw [← hz, mg_f (by omega)]
      rw [← e]; exact r6size_p w hx1 hx2 (by omega)
  refine key.mono ?_
  rintro e w' ⟨A1, n1, c1, rfl, h1⟩
  have ho := h1.own _ List.mem_cons_self
  have h9 := h1.get (A := A1) (n := n1) (c := c1) List.mem_cons_self
  exact ⟨A1, n1, c1, rfl, h.new h1.bl ho h9.2.1 h9.2.2⟩
theorem r6over_nn (w : World) {x y : Int} (hx1 : -9223372036854775808 ≤ x) (hx2 : x ≤ 9223372036854775807) (hy1 : -9223372036854775808 ≤ y) (hy2 : y ≤ 9223372036854775807) (hx : x < 0) (hy : y < 0) (hmy : 0 < mg y) {r : Rat} (hr : rv false (mg x) (mg y) = r) : Calls Tryz.prog 47 #[.int .i64 x, .int .i64 y] w (OutRE w 1 r 0) := by
  have hS := Lib.hid (SC.start w)
  have DX := Lib.hid (show decide (x < 0) = true from decide_eq_true (by omega))
  have DY := Lib.hid (show decide (y < 0) = true from decide_eq_true (by omega))
  have HX1 := Lib.hid hx1
  have HX2 := Lib.hid hx2
  have HY1 := Lib.hid hy1
  have HY2 := Lib.hid hy2
  have HM := Lib.hid hmy
  have HR := Lib.hid hr
  clear hx1 hx2 hy1 hy2 hmy hr
  go_enter Tryz.func47, Tryz.ntmps47
  have h1 := (hS.out.boxed (vs := [.bool false, .slice none 0 0, .slice none 0 0]) (ty := 62) rfl rfl)
  try simp only [World.size_alloc] at h1
  obtain ⟨p0_0, p1_0, p2_0⟩ := h1.cs3 0 rfl
  clear h1
  go_wp2_with fail
  clear p0_0 p1_0 p2_0
  generalize hwa : World.alloc w _ = v1
  have h1 := (hS.out.boxed (vs := [.bool false, .slice none 0 0, .slice none 0 0]) (ty := 62) rfl hwa)
  have hsz : v1.heap.size = w.heap.size + 1 := by rw [← hwa]; simp only [World.size_alloc]
  try rw [← hsz]
  clear hwa hsz
  clear hS; have hS := Lib.hid h1; clear h1
  obtain ⟨x0_0, x1_0, x2_0⟩ := hS.out.cs3 0 rfl
  go_wp2_with fail
  go_at_call 67
  with_reducible refine (r6size_c hS.out HX1.out HX2.out rfl).mono ?_
  rintro e v2 ⟨A1, n1, c1, rfl, h1⟩
  clear x0_0 x1_0 x2_0
  clear hS; have hS := Lib.hid h1; clear h1
  obtain ⟨x0_0, x1_0, x2_0⟩ := hS.out.cs3 0 rfl
  go_wp2_with fail
  go_at_call 67
  with_reducible refine (r6size_c hS.out HY1.out HY2.out rfl).mono ?_
  rintro e v3 ⟨A2, n2, c2, rfl, h1⟩
  clear x0_0 x1_0 x2_0
  clear hS; have hS := Lib.hid h1; clear h1
  obtain ⟨x0_0, x1_0, x2_0⟩ := hS.out.cs3 0 rfl
  go_wp2_with fail
  go_at_call 44
  with_reducible refine (r6mk_c (M := 1) (r := r) hS.out (by repeat (first | exact ms | apply mo)) (by repeat (first | exact ms | apply mo)) (by omega) (by omega) (by omega) (by omega) HM.out (by have hq := HR.out; first | exact hq | (simp only [DX.out, DY.out, Bool.not_true, Bool.not_false]; exact hq) | (simp only [DX.out, DY.out, beq_self_eq_true, Bool.not_true, Bool.not_false]; exact hq) | (simp [DX.out, DY.out]; exact hq))).mono ?_
  rintro e v4 ⟨A4, n4, c4, A5, n5, c5, rfl, h1⟩
  clear x0_0 x1_0 x2_0
  clear hS; have hS := Lib.hid h1; clear h1
  obtain ⟨x0_0, x1_0, x2_0⟩ := hS.out.cs3 0 rfl
  have hp0 := hS.out.put3 0 rfl (hS.out.ge_ 0 rfl) (.bool (sg r.num)) (.slice A4 n4 c4) (.slice A5 n5 c5)
  simp only [List.set_cons_zero, List.set_cons_succ] at hp0
  have fz0_0 := hS.out.frs 0 rfl 0
  have fz0_1 := hS.out.frs 0 rfl 1
  have fz0_2 := hS.out.frs 0 rfl 2
  have HPUT := Lib.hid hp0
  clear hp0
  go_wp2_with fail
  refine bodyPost_ret (results_B2 rfl rfl rfl (loadR (HPUT.out.box _ (List.mem_of_getElem? (i := 0) rfl)))) rfl ?_
  exact HPUT.out.toRE2 (r := r) (by repeat (first | exact ms | apply mo)) (by repeat (first | exact ms | apply mo)) (by repeat (first | exact ms | apply mo)) (by repeat (first | exact ms | apply mo)) (by omega) (by omega) rfl rfl rfl
theorem r6over_np (w : World) {x y : Int} (hx1 : -9223372036854775808 ≤ x) (hx2 : x ≤ 9223372036854775807) (hy1 : -9223372036854775808 ≤ y) (hy2 : y ≤ 9223372036854775807) (hx : x < 0) (hy : 0 ≤ y) (hmy : 0 < mg y) {r : Rat} (hr : rv true (mg x) (mg y) = r) : Calls Tryz.prog 47 #[.int .i64 x, .int .i64 y] w (OutRE w 1 r 0) := by
  have hS := Lib.hid (SC.start w)
  have DX := Lib.hid (show decide (x < 0) = true from decide_eq_true (by omega))
  have DY := Lib.hid (show decide (y < 0) = false from decide_eq_false (by omega))
  have HX1 := Lib.hid hx1
  have HX2 := Lib.hid hx2
  have HY1 := Lib.hid hy1
  have HY2 := Lib.hid hy2
  have HM := Lib.hid hmy
  have HR := Lib.hid hr
  clear hx1 hx2 hy1 hy2 hmy hr
  go_enter Tryz.func47, Tryz.ntmps47
  have h1 := (hS.out.boxed (vs := [.bool false, .slice none 0 0, .slice none 0 0]) (ty := 62) rfl rfl)
  try simp only [World.size_alloc] at h1
  obtain ⟨p0_0, p1_0, p2_0⟩ := h1.cs3 0 rfl
  clear h1
  go_wp2_with fail
  clear p0_0 p1_0 p2_0
  generalize hwa : World.alloc w _ = v1
  have h1 := (hS.out.boxed (vs := [.bool false, .slice none 0 0, .slice none 0 0]) (ty := 62) rfl hwa)
  have hsz : v1.heap.size = w.heap.size + 1 := by rw [← hwa]; simp only [World.size_alloc]
  try rw [← hsz]
  clear hwa hsz
  clear hS; have hS := Lib.hid h1; clear h1
  obtain ⟨x0_0, x1_0, x2_0⟩ := hS.out.cs3 0 rfl
  go_wp2_with fail
  go_at_call 67
  with_reducible refine (r6size_c hS.out HX1.out HX2.out rfl).mono ?_
  rintro e v2 ⟨A1, n1, c1, rfl, h1⟩
  clear x0_0 x1_0 x2_0
  clear hS; have hS := Lib.hid h1; clear h1
  obtain ⟨x0_0, x1_0, x2_0⟩ := hS.out.cs3 0 rfl
  go_wp2_with fail
  go_at_call 67
  with_reducible refine (r6size_c hS.out HY1.out HY2.out rfl).mono ?_
  rintro e v3 ⟨A2, n2, c2, rfl, h1⟩
  clear x0_0 x1_0 x2_0
  clear hS; have hS := Lib.hid h1; clear h1
  obtain ⟨x0_0, x1_0, x2_0⟩ := hS.out.cs3 0 rfl
  go_wp2_with fail
  go_at_call 44
  with_reducible refine (r6mk_c (M := 1) (r := r) hS.out (by repeat (first | exact ms | apply mo)) (by repeat (first | exact ms | apply mo)) (by omega) (by omega) (by omega) (by omega) HM.out (by have hq := HR.out; first | exact hq | (simp only [DX.out, DY.out, Bool.not_true, Bool.not_false]; exact hq) | (simp only [DX.out, DY.out, beq_self_eq_true, Bool.not_true, Bool.not_false]; exact hq) | (simp [DX.out, DY.out]; exact hq))).mono ?_
  rintro e v4 ⟨A4, n4, c4, A5, n5, c5, rfl, h1⟩
  clear x0_0 x1_0 x2_0
  clear hS; have hS := Lib.hid h1; clear h1
  obtain ⟨x0_0, x1_0, x2_0⟩ := hS.out.cs3 0 rfl
  have hp0 := hS.out.put3 0 rfl (hS.out.ge_ 0 rfl) (.bool (sg r.num)) (.slice A4 n4 c4) (.slice A5 n5 c5)
  simp only [List.set_cons_zero, List.set_cons_succ] at hp0
  have fz0_0 := hS.out.frs 0 rfl 0
  have fz0_1 := hS.out.frs 0 rfl 1
  have fz0_2 := hS.out.frs 0 rfl 2
  have HPUT := Lib.hid hp0
  clear hp0
  go_wp2_with fail
  refine bodyPost_ret (results_B2 rfl rfl rfl (loadR (HPUT.out.box _ (List.mem_of_getElem? (i := 0) rfl)))) rfl ?_
  exact HPUT.out.toRE2 (r := r) (by repeat (first | exact ms | apply mo)) (by repeat (first | exact ms | apply mo)) (by repeat (first | exact ms | apply mo)) (by repeat (first | exact ms | apply mo)) (by omega) (by omega) rfl rfl rfl
theorem r6over_nz (w : World) {x y : Int} (hx1 : -9223372036854775808 ≤ x) (hx2 : x ≤ 9223372036854775807) (hy1 : -9223372036854775808 ≤ y) (hy2 : y ≤ 9223372036854775807) (hx : x < 0) (hy : 0 ≤ y) (hmy : mg y = 0) : Calls Tryz.prog 47 #[.int .i64 x, .int .i64 y] w (OutRZ w 7) := by
  have hS := Lib.hid (SC.start w)
  have DX := Lib.hid (show decide (x < 0) = true from decide_eq_true (by omega))
  have DY := Lib.hid (show decide (y < 0) = false from decide_eq_false (by omega))
  have HX1 := Lib.hid hx1
  have HX2 := Lib.hid hx2
  have HY1 := Lib.hid hy1
  have HY2 := Lib.hid hy2
  have HM := Lib.hid hmy
  clear hx1 hx2 hy1 hy2 hmy
  go_enter Tryz.func47, Tryz.ntmps47
  have h1 := (hS.out.boxed (vs := [.bool false, .slice none 0 0, .slice none 0 0]) (ty := 62) rfl rfl)
  try simp only [World.size_alloc] at h1
  obtain ⟨p0_0, p1_0, p2_0⟩ := h1.cs3 0 rfl
  clear h1
  go_wp2_with fail
  clear p0_0 p1_0 p2_0
  generalize hwa : World.alloc w _ = v1
  have h1 := (hS.out.boxed (vs := [.bool false, .slice none 0 0, .slice none 0 0]) (ty := 62) rfl hwa)
  have hsz : v1.heap.size = w.heap.size + 1 := by rw [← hwa]; simp only [World.size_alloc]
  try rw [← hsz]
  clear hwa hsz
  clear hS; have hS := Lib.hid h1; clear h1
  obtain ⟨x0_0, x1_0, x2_0⟩ := hS.out.cs3 0 rfl
  go_wp2_with fail
  go_at_call 67
  with_reducible refine (r6size_c hS.out HX1.out HX2.out rfl).mono ?_
  rintro e v2 ⟨A1, n1, c1, rfl, h1⟩
  clear x0_0 x1_0 x2_0
  clear hS; have hS := Lib.hid h1; clear h1
  obtain ⟨x0_0, x1_0, x2_0⟩ := hS.out.cs3 0 rfl
  go_wp2_with fail
  go_at_call 67
  with_reducible refine (r6size_c hS.out HY1.out HY2.out rfl).mono ?_
  rintro e v3 ⟨A2, n2, c2, rfl, h1⟩
  clear x0_0 x1_0 x2_0
  clear hS; have hS := Lib.hid h1; clear h1
  obtain ⟨x0_0, x1_0, x2_0⟩ := hS.out.cs3 0 rfl
  go_wp2_with fail
  go_at_call 44
  with_reducible refine (r6mk_z hS.out (by repeat (first | exact ms | apply mo)) (by repeat (first | exact ms | apply mo)) (by omega) (by omega) HM.out).mono ?_
  rintro e v4 ⟨rfl, h1⟩
  clear x0_0 x1_0 x2_0
  clear hS; have hS := Lib.hid h1; clear h1
  obtain ⟨x0_0, x1_0, x2_0⟩ := hS.out.cs3 0 rfl
  have hp0 := hS.out.put3 0 rfl (hS.out.ge_ 0 rfl) (.bool false) (.slice none 0 0) (.slice none 0 0)
  simp only [List.set_cons_zero, List.set_cons_succ] at hp0
  have fz0_0 := hS.out.frs 0 rfl 0
  have fz0_1 := hS.out.frs 0 rfl 1
  have fz0_2 := hS.out.frs 0 rfl 2
  have HPUT := Lib.hid hp0
  clear hp0
  go_wp2_with fail
  refine bodyPost_ret (results_B2 rfl rfl rfl (loadR (HPUT.out.box _ (List.mem_of_getElem? (i := 0) rfl)))) rfl ?_
  exact ⟨rfl, HPUT.out.bl⟩
theorem r6over_pn (w : World) {x y : Int} (hx1 : -9223372036854775808 ≤ x) (hx2 : x ≤ 9223372036854775807) (hy1 : -9223372036854775808 ≤ y) (hy2 : y ≤ 9223372036854775807) (hx : 0 ≤ x) (hy : y < 0) (hmy : 0 < mg y) {r : Rat} (hr : rv true (mg x) (mg y) = r) : Calls Tryz.prog 47 #[.int .i64 x, .int .i64 y] w (OutRE w 1 r 0) := by
  have hS := Lib.hid (SC.start w)
  have DX := Lib.hid (show decide (x < 0) = false from decide_eq_false (by omega))
  have DY := Lib.hid (show decide (y < 0) = true from decide_eq_true (by omega))
  have HX1 := Lib.hid hx1
  have HX2 := Lib.hid hx2
  have HY1 := Lib.hid hy1
  have HY2 := Lib.hid hy2
  have HM := Lib.hid hmy
  have HR := Lib.hid hr
  clear hx1 hx2 hy1 hy2 hmy hr
  go_enter Tryz.func47, Tryz.ntmps47
  have h1 := (hS.out.boxed (vs := [.bool false, .slice none 0 0, .slice none 0 0]) (ty := 62) rfl rfl)
  try simp only [World.size_alloc] at h1
  obtain ⟨p0_0, p1_0, p2_0⟩ := h1.cs3 0 rfl
  clear h1
  go_wp2_with fail
  clear p0_0 p1_0 p2_0
  generalize hwa : World.alloc w _ = v1
  have h1 := (hS.out.boxed (vs := [.bool false, .slice none 0 0, .slice none 0 0]) (ty := 62) rfl hwa)
  have hsz : v1.heap.size = w.heap.size + 1 := by rw [← hwa]; simp only [World.size_alloc]
  try rw [← hsz]
  clear hwa hsz
  clear hS; have hS := Lib.hid h1; clear h1
  obtain ⟨x0_0, x1_0, x2_0⟩ := hS.out.cs3 0 rfl
  go_wp2_with fail
  go_at_call 67
  with_reducible refine (r6size_c hS.out HX1.out HX2.out rfl).mono ?_
  rintro e v2 ⟨A1, n1, c1, rfl, h1⟩
  clear x0_0 x1_0 x2_0
  clear hS; have hS := Lib.hid h1; clear h1
  obtain ⟨x0_0, x1_0, x2_0⟩ := hS.out.cs3 0 rfl
  go_wp2_with fail
  go_at_call 67
  with_reducible refine (r6size_c hS.out HY1.out HY2.out rfl).mono ?_
  rintro e v3 ⟨A2, n2, c2, rfl, h1⟩
  clear x0_0 x1_0 x2_0
  clear hS; have hS := Lib.hid h1; clear h1
  obtain ⟨x0_0, x1_0, x2_0⟩ := hS.out.cs3 0 rfl
  go_wp2_with fail
  go_at_call 44
  with_reducible refine (r6mk_c (M := 1) (r := r) hS.out (by repeat (first | exact ms | apply mo)) (by repeat (first | exact ms | apply mo)) (by omega) (by omega) (by omega) (by omega) HM.out (by have hq := HR.out; first | exact hq | (simp only [DX.out, DY.out, Bool.not_true, Bool.not_false]; exact hq) | (simp only [DX.out, DY.out, beq_self_eq_true, Bool.not_true, Bool.not_false]; exact hq) | (simp [DX.out, DY.out]; exact hq))).mono ?_
  rintro e v4 ⟨A4, n4, c4, A5, n5, c5, rfl, h1⟩
  clear x0_0 x1_0 x2_0
  clear hS; have hS := Lib.hid h1; clear h1
  obtain ⟨x0_0, x1_0, x2_0⟩ := hS.out.cs3 0 rfl
  have hp0 := hS.out.put3 0 rfl (hS.out.ge_ 0 rfl) (.bool (sg r.num)) (.slice A4 n4 c4) (.slice A5 n5 c5)
  simp only [List.set_cons_zero, List.set_cons_succ] at hp0
  have fz0_0 := hS.out.frs 0 rfl 0
  have fz0_1 := hS.out.frs 0 rfl 1
  have fz0_2 := hS.out.frs 0 rfl 2
  have HPUT := Lib.hid hp0
  clear hp0
  go_wp2_with fail
  refine bodyPost_ret (results_B2 rfl rfl rfl (loadR (HPUT.out.box _ (List.mem_of_getElem? (i := 0) rfl)))) rfl ?_
  exact HPUT.out.toRE2 (r := r) (by repeat (first | exact ms | apply mo)) (by repeat (first | exact ms | apply mo)) (by repeat (first | exact ms | apply mo)) (by repeat (first | exact ms | apply mo)) (by omega) (by omega) rfl rfl rfl
theorem r6over_pp (w : World) {x y : Int} (hx1 : -9223372036854775808 ≤ x) (hx2 : x ≤ 9223372036854775807) (hy1 : -9223372036854775808 ≤ y) (hy2 : y ≤ 9223372036854775807) (hx : 0 ≤ x) (hy : 0 ≤ y) (hmy : 0 < mg y) {r : Rat} (hr : rv false (mg x) (mg y) = r) : Calls Tryz.prog 47 #[.int .i64 x, .int .i64 y] w (OutRE w 1 r 0) := by
  have hS := Lib.hid (SC.start w)
  have DX := Lib.hid (show decide (x < 0) = false from decide_eq_false (by omega))
  have DY := Lib.hid (show decide (y < 0) = false from decide_eq_false (by omega))
  have HX1 := Lib.hid hx1
  have HX2 := Lib.hid hx2
  have HY1 := Lib.hid hy1
  have HY2 := Lib.hid hy2
  have HM := Lib.hid hmy
  have HR := Lib.hid hr
  clear hx1 hx2 hy1 hy2 hmy hr
  go_enter Tryz.func47, Tryz.ntmps47
  have h1 := (hS.out.boxed (vs := [.bool false, .slice none 0 0, .slice none 0 0]) (ty := 62) rfl rfl)
  try simp only [World.size_alloc] at h1
  obtain ⟨p0_0, p1_0, p2_0⟩ := h1.cs3 0 rfl
  clear h1
  go_wp2_with fail
  clear p0_0 p1_0 p2_0
  generalize hwa : World.alloc w _ = v1
  have h1 := (hS.out.boxed (vs := [.bool false, .slice none 0 0, .slice none 0 0]) (ty := 62) rfl hwa)
  have hsz : v1.heap.size = w.heap.size + 1 := by rw [← hwa]; simp only [World.size_alloc]
  try rw [← hsz]
  clear hwa hsz
  clear hS; have hS := Lib.hid h1; clear h1
  obtain ⟨x0_0, x1_0, x2_0⟩ := hS.out.cs3 0 rfl
  go_wp2_with fail
  go_at_call 67
  with_reducible refine (r6size_c hS.out HX1.out HX2.out rfl).mono ?_
  rintro e v2 ⟨A1, n1, c1, rfl, h1⟩
  clear x0_0 x1_0 x2_0
  clear hS; have hS := Lib.hid h1; clear h1
  obtain ⟨x0_0, x1_0, x2_0⟩ := hS.out.cs3 0 rfl
  go_wp2_with fail
  go_at_call 67
  with_reducible refine (r6size_c hS.out HY1.out HY2.out rfl).mono ?_
  rintro e v3 ⟨A2, n2, c2, rfl, h1⟩
  clear x0_0 x1_0 x2_0
  clear hS; have hS := Lib.hid h1; clear h1
  obtain ⟨x0_0, x1_0, x2_0⟩ := hS.out.cs3 0 rfl
  go_wp2_with fail
  go_at_call 44
  with_reducible refine (r6mk_c (M := 1) (r := r) hS.out (by repeat (first | exact ms | apply mo)) (by repeat (first | exact ms | apply mo)) (by omega) (by omega) (by omega) (by omega) HM.out (by have hq := HR.out; first | exact hq | (simp only [DX.out, DY.out, Bool.not_true, Bool.not_false]; exact hq) | (simp only [DX.out, DY.out, beq_self_eq_true, Bool.not_true, Bool.not_false]; exact hq) | (simp [DX.out, DY.out]; exact hq))).mono ?_
  rintro e v4 ⟨A4, n4, c4, A5, n5, c5, rfl, h1⟩
  clear x0_0 x1_0 x2_0
  clear hS; have hS := Lib.hid h1; clear h1
  obtain ⟨x0_0, x1_0, x2_0⟩ := hS.out.cs3 0 rfl
  have hp0 := hS.out.put3 0 rfl (hS.out.ge_ 0 rfl) (.bool (sg r.num)) (.slice A4 n4 c4) (.slice A5 n5 c5)
  simp only [List.set_cons_zero, List.set_cons_succ] at hp0
  have fz0_0 := hS.out.frs 0 rfl 0
  have fz0_1 := hS.out.frs 0 rfl 1
  have fz0_2 := hS.out.frs 0 rfl 2
  have HPUT := Lib.hid hp0
  clear hp0
  go_wp2_with fail
  refine bodyPost_ret (results_B2 rfl rfl rfl (loadR (HPUT.out.box _ (List.mem_of_getElem? (i := 0) rfl)))) rfl ?_
  exact HPUT.out.toRE2 (r := r) (by repeat (first | exact ms | apply mo)) (by repeat (first | exact ms | apply mo)) (by repeat (first | exact ms | apply mo)) (by repeat (first | exact ms | apply mo)) (by omega) (by omega) rfl rfl rfl
theorem r6over_pz (w : World) {x y : Int} (hx1 : -9223372036854775808 ≤ x) (hx2 : x ≤ 9223372036854775807) (hy1 : -9223372036854775808 ≤ y) (hy2 : y ≤ 9223372036854775807) (hx : 0 ≤ x) (hy : 0 ≤ y) (hmy : mg y = 0) : Calls Tryz.prog 47 #[.int .i64 x, .int .i64 y] w (OutRZ w 7) := by
  have hS := Lib.hid (SC.start w)
  have DX := Lib.hid (show decide (x < 0) = false from decide_eq_false (by omega))
  have DY := Lib.hid (show decide (y < 0) = false from decide_eq_false (by omega))
  have HX1 := Lib.hid hx1
  have HX2 := Lib.hid hx2
  have HY1 := Lib.hid hy1
  have HY2 := Lib.hid hy2
  have HM := Lib.hid hmy
  clear hx1 hx2 hy1 hy2 hmy
  go_enter Tryz.func47, Tryz.ntmps47
  have h1 := (hS.out.boxed (vs := [.bool false, .slice none 0 0, .slice none 0 0]) (ty := 62) rfl rfl)
  try simp only [World.size_alloc] at h1
  obtain ⟨p0_0, p1_0, p2_0⟩ := h1.cs3 0 rfl
  clear h1
  go_wp2_with fail
  clear p0_0 p1_0 p2_0
  generalize hwa : World.alloc w _ = v1
  have h1 := (hS.out.boxed (vs := [.bool false, .slice none 0 0, .slice none 0 0]) (ty := 62) rfl hwa)
  have hsz : v1.heap.size = w.heap.size + 1 := by rw [← hwa]; simp only [World.size_alloc]
  try rw [← hsz]
  clear hwa hsz
  clear hS; have hS := Lib.hid h1; clear h1
  obtain ⟨x0_0, x1_0, x2_0⟩ := hS.out.cs3 0 rfl
  go_wp2_with fail
  go_at_call 67
  with_reducible refine (r6size_c hS.out HX1.out HX2.out rfl).mono ?_
  rintro e v2 ⟨A1, n1, c1, rfl, h1⟩
  clear x0_0 x1_0 x2_0
  clear hS; have hS := Lib.hid h1; clear h1
  obtain ⟨x0_0, x1_0, x2_0⟩ := hS.out.cs3 0 rfl
  go_wp2_with fail
  go_at_call 67
  with_reducible refine (r6size_c hS.out HY1.out HY2.out rfl).mono ?_
  rintro e v3 ⟨A2, n2, c2, rfl, h1⟩
  clear x0_0 x1_0 x2_0
  clear hS; have hS := Lib.hid h1; clear h1
  obtain ⟨x0_0, x1_0, x2_0⟩ := hS.out.cs3 0 rfl
  go_wp2_with fail
  go_at_call 44
  with_reducible refine (r6mk_z hS.out (by repeat (first | exact ms | apply mo)) (by repeat (first | exact ms | apply mo)) (by omega) (by omega) HM.out).mono ?_
  rintro e v4 ⟨rfl, h1⟩
  clear x0_0 x1_0 x2_0
  clear hS; have hS := Lib.hid h1; clear h1
  obtain ⟨x0_0, x1_0, x2_0⟩ := hS.out.cs3 0 rfl
  have hp0 := hS.out.put3 0 rfl (hS.out.ge_ 0 rfl) (.bool false) (.slice none 0 0) (.slice none 0 0)
  simp only [List.set_cons_zero, List.set_cons_succ] at hp0
  have fz0_0 := hS.out.frs 0 rfl 0
  have fz0_1 := hS.out.frs 0 rfl 1
  have fz0_2 := hS.out.frs 0 rfl 2
  have HPUT := Lib.hid hp0
  clear hp0
  go_wp2_with fail
  refine bodyPost_ret (results_B2 rfl rfl rfl (loadR (HPUT.out.box _ (List.mem_of_getElem? (i := 0) rfl)))) rfl ?_
  exact ⟨rfl, HPUT.out.bl⟩
theorem r6over_z (w : World) {x : Int} (hx1 : -9223372036854775808 ≤ x) (hx2 : x ≤ 9223372036854775807) : Calls Tryz.prog 47 #[.int .i64 x, .int .i64 0] w (OutRZ w 7) := by
  by_cases hx : x < 0
  · exact r6over_nz w hx1 hx2 (by decide) (by decide) hx (by decide) mg_0
  · exact r6over_pz w hx1 hx2 (by decide) (by decide) (by omega) (by decide) mg_0
theorem r6over_pos (w : World) {x y : Int} (hx1 : -9223372036854775808 ≤ x) (hx2 : x ≤ 9223372036854775807) (hy1 : -9223372036854775808 ≤ y) (hy2 : y ≤ 9223372036854775807) (hy : 0 < y) {r : Rat} (hr : mkRat x y.toNat = r) : Calls Tryz.prog 47 #[.int .i64 x, .int .i64 y] w (OutRE w 1 r 0) := by
  have hmy : 0 < mg y := by rw [mg_f (Int.le_of_lt hy)]; exact hy
  by_cases hx : x < 0
  · refine r6over_np w hx1 hx2 hy1 hy2 hx (Int.le_of_lt hy) hmy ?_
    rw [← hr, mg_f (Int.le_of_lt hy), mg_t (Int.le_of_lt hx)]; unfold rv; rw [iv_t, Int.neg_neg]
  · refine r6over_pp w hx1 hx2 hy1 hy2 (by omega) (Int.le_of_lt hy) hmy ?_
    rw [← hr, mg_f (Int.le_of_lt hy), mg_f (by omega)]; unfold rv; rw [iv_f]
theorem r6over_neg (w : World) {x y : Int} (hx1 : -9223372036854775808 ≤ x) (hx2 : x ≤ 9223372036854775807) (hy1 : -9223372036854775808 ≤ y) (hy2 : y ≤ 9223372036854775807) (hy : y < 0) {r : Rat} (hr : mkRat (-x) (-y).toNat = r) : Calls Tryz.prog 47 #[.int .i64 x, .int .i64 y] w (OutRE w 1 r 0) := by
  have hmy : 0 < mg y := by rw [mg_t (Int.le_of_lt hy)]; omega
  by_cases hx : x < 0
  · refine r6over_nn w hx1 hx2 hy1 hy2 hx hy hmy ?_
    rw [← hr, mg_t (Int.le_of_lt hy), mg_t (Int.le_of_lt hx)]; unfold rv; rw [iv_f]
  · refine r6over_pn w hx1 hx2 hy1 hy2 (by omega) hy hmy ?_
    rw [← hr, mg_t (Int.le_of_lt hy), mg_f (by omega)]; unfold rv; rw [iv_t]
theorem r6of_any (w : World) {x : Int} (hx1 : -9223372036854775808 ≤ x) (hx2 : x ≤ 9223372036854775807) {r : Rat} (hr : mkRat x (1 : Int).toNat = r) :
    Calls Tryz.prog 25 #[.int .i64 x] w (OutR w 1 r) := by
  have HH := Lib.hid (fun W => r6over_pos W hx1 hx2 (y := 1) (by decide) (by decide) (by decide) hr)
  have hS := Lib.hid (SC.start w)
  clear hx1 hx2 hr
  go_enter Tryz.func25, Tryz.ntmps25
  have h1 := (hS.out.boxed (vs := [.bool false, .slice none 0 0, .slice none 0 0]) (ty := 62) rfl rfl)
  try simp only [World.size_alloc] at h1
  obtain ⟨p0_0, p1_0, p2_0⟩ := h1.cs3 0 rfl
  clear h1
  go_wp2_with fail
  clear p0_0 p1_0 p2_0
  generalize hwa : World.alloc w _ = v1
  have h1 := (hS.out.boxed (vs := [.bool false, .slice none 0 0, .slice none 0 0]) (ty := 62) rfl hwa)
  have hsz : v1.heap.size = w.heap.size + 1 := by rw [← hwa]; simp only [World.size_alloc]
  try rw [← hsz]
  clear hwa hsz
  clear hS; have hS := Lib.hid h1; clear h1
  obtain ⟨x0_0, x1_0, x2_0⟩ := hS.out.cs3 0 rfl
  go_wp2_with fail
  go_at_call 47
  with_reducible refine (HH.out _).mono ?_
  rintro e v2 ho
  clear x0_0 x1_0 x2_0
  obtain ⟨A3, n3, c3, A4, n4, c4, rfl, h1⟩ := hS.out.rRE (Nat.le_refl _) ho
  clear hS; have hS := Lib.hid h1; clear h1
  obtain ⟨x0_0, x1_0, x2_0⟩ := hS.out.cs3 0 rfl
  have hm0 := hS.out.boxed (vs := [.bool (sg r.num), .slice A3 n3 c3, .slice A4 n4 c4]) (ty := 62) rfl rfl
  try simp only [World.size_alloc] at hm0
  obtain ⟨m00_0, m01_0, m02_0⟩ := hm0.cs3 0 rfl
  obtain ⟨m00_1, m01_1, m02_1⟩ := hm0.cs3 1 rfl
  have hp0 := hm0.put3 1 rfl (hm0.ge_ 1 rfl) (.bool (sg r.num)) (.slice A3 n3 c3) (.slice A4 n4 c4)
  simp only [List.set_cons_zero, List.set_cons_succ] at hp0
  have fz0_0 := hm0.frs 1 rfl 0
  have fz0_1 := hm0.frs 1 rfl 1
  have fz0_2 := hm0.frs 1 rfl 2
  have HPUT := Lib.hid hp0
  clear hp0
  clear hm0
  go_wp2_with fail
  refine bodyPost_ret (results_B rfl rfl (loadR (HPUT.out.box _ (List.mem_of_getElem? (i := 1) rfl)))) rfl ?_
  exact HPUT.out.toR2 (k := 1) (k' := 1) (r := r) (by repeat (first | exact ms | apply mo)) (by repeat (first | exact ms | apply mo)) (by repeat (first | exact ms | apply mo)) (by repeat (first | exact ms | apply mo)) (Nat.le_refl _) (Nat.le_refl _) rfl rfl rfl
theorem rshl_x (h : SC w0 v0 w S T O) {q : Int} (hq : q < 0 ∨ 65536 < q) :
    Calls Tryz.prog 91 #[.slice A n c, .int .i64 q] w fun e w' => e = .returned (.tuple #[.slice none 0 0, .int .i64 1]) ∧ SC w0 v0 w' S T O := by
  exact (rshl_no w A n c q hq).mono fun e w' ⟨he, hb⟩ => ⟨he, by rw [hb]; exact h⟩
end
end Go.Proofs.YtfdpddlefobcpaaGreatDoor
/- The document of layer 6: Count of a fraction that may be one. -/
namespace Go.Proofs.YtfdpddlefobcpaaGreatDoor
open Go.RowKit
set_option linter.unusedVariables false
set_option linter.unusedSimpArgs false
set_option maxRecDepth 20000
open N
open Go.Lib (decDigits nDigits decDigits_length nDigits_pos)
section
variable {w0 v0 w : World} {S O : List Ent} {T : List Blk} {A A' : Option Addr} {n c m d k k' M : Nat} {xs ys : List Int} {v u : Int} {b : Bool}
theorem r6count_p (w : World) (b : Bool) (h : Sl w A n c xs) (h' : Sl w A' m d ys) (hn : n ≤ M) (hm : m ≤ M) (hM1 : 1 ≤ M) (hM : M ≤ 1000) (hv : 0 < val B ys) {r : Rat} (hr : rv b (val B xs) (val B ys) = r) :
    Calls Tryz.prog 23 #[.agg #[.bool b, .slice A n c, .slice A' m d]] w (OutR w M r) := by
  have hRB : RB M r := by rw [← hr]; exact RB.rv h.nn0 hv (Int.lt_of_lt_of_le h.lt (QB_le hn)) (Int.lt_of_lt_of_le h'.lt (QB_le hm))
  have hS := Lib.hid (((SC.start w).old (k := M) h' hm rfl).old (k := M) h hn rfl)
  clear h h'
  go_enter Tryz.func23, Tryz.ntmps23
  have h1 := ((hS.out.boxed (vs := [.bool b, .slice A n c, .slice A' m d]) (ty := 62) rfl rfl).boxed (vs := [.bool false, .slice none 0 0, .slice none 0 0]) (ty := 62) rfl rfl)
  try simp only [World.size_alloc] at h1
  obtain ⟨p0_0, p1_0, p2_0⟩ := h1.cs3 0 rfl
  obtain ⟨p0_1, p1_1, p2_1⟩ := h1.cs3 1 rfl
  clear h1
  go_wp2_with fail
  clear p0_0 p1_0 p2_0 p0_1 p1_1 p2_1
  generalize hwa : World.alloc (World.alloc w _) _ = v1
  have h1 := ((hS.out.boxed (vs := [.bool b, .slice A n c, .slice A' m d]) (ty := 62) rfl rfl).boxed (vs := [.bool false, .slice none 0 0, .slice none 0 0]) (ty := 62) rfl hwa)
  simp only [World.size_alloc] at h1
  have hsz : v1.heap.size = w.heap.size + 1 + 1 := by rw [← hwa]; simp only [World.size_alloc]
  try rw [← hsz]
  clear hwa hsz
  clear hS; have hS := Lib.hid h1; clear h1
  obtain ⟨x0_0, x1_0, x2_0⟩ := hS.out.cs3 0 rfl
  obtain ⟨x0_1, x1_1, x2_1⟩ := hS.out.cs3 1 rfl
  go_wp2_with fail
  go_at_call 44
  with_reducible refine (r6mk_c (M := M) hS.out (by repeat (first | exact ms | apply mo)) (by repeat (first | exact ms | apply mo)) (Nat.le_refl _) (Nat.le_refl _) hM1 hM hv hr).mono ?_
  rintro e v2 ⟨A3, n3, c3, A4, n4, c4, rfl, h1⟩
  clear x0_0 x1_0 x2_0 x0_1 x1_1 x2_1
  clear hS; have hS := Lib.hid h1; clear h1
  obtain ⟨x0_0, x1_0, x2_0⟩ := hS.out.cs3 0 rfl
  obtain ⟨x0_1, x1_1, x2_1⟩ := hS.out.cs3 1 rfl
  have hm0 := hS.out.boxed (vs := [.bool (sg (r).num), .slice A3 n3 c3, .slice A4 n4 c4]) (ty := 62) rfl rfl
  try simp only [World.size_alloc] at hm0
  obtain ⟨m00_0, m01_0, m02_0⟩ := hm0.cs3 0 rfl
  obtain ⟨m00_1, m01_1, m02_1⟩ := hm0.cs3 1 rfl
  obtain ⟨m00_2, m01_2, m02_2⟩ := hm0.cs3 2 rfl
  have hp0 := hm0.put3 1 rfl (hm0.ge_ 1 rfl) (.bool (sg (r).num)) (.slice A3 n3 c3) (.slice A4 n4 c4)
  simp only [List.set_cons_zero, List.set_cons_succ] at hp0
  have fz0_0 := hm0.frs 1 rfl 0
  have fz0_1 := hm0.frs 1 rfl 1
  have fz0_2 := hm0.frs 1 rfl 2
  have HPUT := Lib.hid hp0
  clear hp0
  clear hm0
  go_wp2_with fail
  refine bodyPost_ret (results_B rfl rfl (loadR (HPUT.out.box _ (List.mem_of_getElem? (i := 1) rfl)))) rfl ?_
  exact HPUT.out.toR (r := r) (by repeat (first | exact ms | apply mo)) (by repeat (first | exact ms | apply mo)) rfl rfl rfl hRB
end
end Go.Proofs.YtfdpddlefobcpaaGreatDoor
