/- The document of layer 6: sign, Make, Count, Is, May. -/
import Derived.Test.YtpokcocfdchfeaaGreatDoorRefRatJ
namespace Go.Proofs.YtpokcocfdchfeaaGreatDoor
open Go.RowKit
set_option linter.unusedVariables false
set_option linter.unusedSimpArgs false
set_option maxRecDepth 20000
open N
open Go.Lib (decDigits nDigits decDigits_length nDigits_pos)
section
variable {w0 v0 w : World} {S O : List Ent} {T : List Blk} {A A' : Option Addr} {n c m d k k' M : Nat} {xs ys : List Int} {v u : Int} {b : Bool}
theorem rgcd_k (h : SC w0 v0 w S T O) (h1 : (⟨A, n, c, k, xs, v⟩ : Ent) ∈ S) (h2 : (⟨A', m, d, k', ys, u⟩ : Ent) ∈ S) (hk : k ≤ M) (hk' : k' ≤ M) (hM : M ≤ 1000) {g : Int} (hg : gI v u = g) (hK : g < Q B M) :
    Calls Tryz.prog 80 #[.slice A n c, .slice A' m d] w fun e w' => ∃ A n c, e = .returned (.slice A n c) ∧ SC w0 v0 w' (⟨A, n, c, M, limbs g, g⟩ :: S) T (⟨A, n, c, M, limbs g, g⟩ :: O) := by
  obtain ⟨a1, a2, rfl⟩ := h.get h1
  obtain ⟨b1, b2, rfl⟩ := h.get h2
  subst hg
  have h0 := a1.nn0
  have h0' := b1.nn0
  have hg0 : 0 ≤ gI (val B xs) (val B ys) := by unfold gI; exact Int.natCast_nonneg _
  have key : Calls Tryz.prog 80 #[.slice A n c, .slice A' m d] w (Out w M (gI (val B xs) (val B ys))) := by
    by_cases e1 : val B xs = 0
    · exact rgcd_z1 w a1 b1 (by omega) (by omega) hM e1
    · by_cases e2 : val B ys = 0
      · exact rgcd_z2 w a1 b1 (by omega) (by omega) hM e1 e2
      · exact rgcd_pos w a1 b1 (by omega) (by omega) hM (by omega) (by omega)
  exact key.mono fun e w' ho => h.rNK hg0 hK ho
theorem rdiv_k (h : SC w0 v0 w S T O) (h1 : (⟨A, n, c, k, xs, v⟩ : Ent) ∈ S) (h2 : (⟨A', m, d, k', ys, u⟩ : Ent) ∈ S) (hk : k ≤ M) (hk' : k' ≤ M) (hM1 : 1 ≤ M) (hM : M ≤ 1000) (hu : 0 < u) {q : Int} (hq : v / u = q) :
    Calls Tryz.prog 81 #[.slice A n c, .slice A' m d] w fun e w' => ∃ A n c x, e = .returned (.tuple #[.slice A n c, x]) ∧ SC w0 v0 w' (⟨A, n, c, M, limbs q, q⟩ :: S) T (⟨A, n, c, M, limbs q, q⟩ :: O) := by
  obtain ⟨a1, a2, rfl⟩ := h.get h1
  obtain ⟨b1, b2, rfl⟩ := h.get h2
  subst hq
  refine (rdiv_all a1 b1 (by omega) (by omega) hM1 hM hu).mono ?_
  rintro e w' ⟨A1, n1, c1, x, rfl, hn1, ho, hb⟩
  exact ⟨A1, n1, c1, x, rfl, h.new hb ho hn1 (limbs_val (Int.ediv_nonneg a1.nn0 (Int.le_of_lt hu)))⟩
theorem rsign_fp (w : World) (h : Sl w A n c xs) (hn : n ≤ M) (hM : M ≤ 200000) (hv : ¬ val B xs = 0) :
    Calls Tryz.prog 82 #[.bool false, .slice A n c] w fun e w' => ∃ A n c, e = .returned (.agg #[.bool (sg (iv false (val B xs))), .slice A n c]) ∧ n ≤ M ∧ N.Own w' w.heap.size A n c (limbs (mg (iv false (val B xs)))) ∧ Below w.heap.size w w' := by
  have hS := Lib.hid ((SC.start w).old (k := M) h hn rfl)
  have hv0 := h.nn0
  have hvK : val B xs < Q B M := Int.lt_of_lt_of_le h.lt (QB_le hn)
  clear h
  go_enter Tryz.func82, Tryz.ntmps82
  have h1 := (hS.out.boxed (vs := [.bool false, .slice none 0 0]) (ty := 25) rfl rfl)
  try simp only [World.size_alloc] at h1
  obtain ⟨p0_0, p1_0⟩ := h1.cs2 0 rfl
  clear h1
  go_wp2_with fail
  clear p0_0 p1_0
  generalize hwa : World.alloc w _ = v1
  have h1 := (hS.out.boxed (vs := [.bool false, .slice none 0 0]) (ty := 25) rfl hwa)
  have hsz : v1.heap.size = w.heap.size + 1 := by rw [← hwa]; simp only [World.size_alloc]
  try rw [← hsz]
  clear hwa hsz
  clear hS; have hS := Lib.hid h1; clear h1
  obtain ⟨x0_0, x1_0⟩ := hS.out.cs2 0 rfl
  go_wp2_with fail
  go_at_call 79
  with_reducible refine (rtrim_k (K := M) hS.out (by repeat (first | exact ms | apply mo)) (by omega) rfl hvK).mono ?_
  rintro e v2 ⟨A1, n1, c1, rfl, h1⟩
  clear x0_0 x1_0
  clear hS; have hS := Lib.hid h1; clear h1
  obtain ⟨x0_0, x1_0⟩ := hS.out.cs2 0 rfl
  have e1 := len_z (hS.out.get (A := A1) (n := n1) (c := c1) (by repeat (first | exact ms | apply mo))).1 hv0
  have hn1 : 0 < n1 := by have : ¬ n1 = 0 := fun e => hv (e1.1 e); omega
  clear e1
  have hp0 := hS.out.put2 0 rfl (hS.out.ge_ 0 rfl) (.bool false) (.slice A1 n1 c1)
  simp only [List.set_cons_zero, List.set_cons_succ] at hp0
  have fz0_0 := hS.out.frs 0 rfl 0
  have fz0_1 := hS.out.frs 0 rfl 1
  have HPUT := Lib.hid hp0
  clear hp0
  go_wp2_with fail
  refine bodyPost_ret (results_B rfl rfl (loadZ (HPUT.out.box _ (List.mem_of_getElem? (i := 0) rfl)))) rfl ?_
  have hsg : sg (iv false (val B xs)) = false := by rw [sg_iv hv0]; simp
  refine ⟨A1, n1, c1, by rw [hsg], ?_, ?_, HPUT.out.bl⟩
  · have ho := HPUT.out.own _ (show (⟨A1, n1, c1, M, limbs (val B xs), val B xs⟩ : Ent) ∈ _ from (by repeat (first | exact ms | apply mo)))
    exact own_len ho rfl hv0 hvK
  · rw [mg_iv hv0]; exact HPUT.out.own _ (show (⟨A1, n1, c1, M, limbs (val B xs), val B xs⟩ : Ent) ∈ _ from (by repeat (first | exact ms | apply mo)))
theorem rsign_fz (w : World) (h : Sl w A n c xs) (hn : n ≤ M) (hM : M ≤ 200000) (hv : val B xs = 0) :
    Calls Tryz.prog 82 #[.bool false, .slice A n c] w fun e w' => ∃ A n c, e = .returned (.agg #[.bool (sg (iv false (val B xs))), .slice A n c]) ∧ n ≤ M ∧ N.Own w' w.heap.size A n c (limbs (mg (iv false (val B xs)))) ∧ Below w.heap.size w w' := by
  have hS := Lib.hid ((SC.start w).old (k := M) h hn rfl)
  have hv0 := h.nn0
  have hvK : val B xs < Q B M := Int.lt_of_lt_of_le h.lt (QB_le hn)
  clear h
  go_enter Tryz.func82, Tryz.ntmps82
  have h1 := (hS.out.boxed (vs := [.bool false, .slice none 0 0]) (ty := 25) rfl rfl)
  try simp only [World.size_alloc] at h1
  obtain ⟨p0_0, p1_0⟩ := h1.cs2 0 rfl
  clear h1
  go_wp2_with fail
  clear p0_0 p1_0
  generalize hwa : World.alloc w _ = v1
  have h1 := (hS.out.boxed (vs := [.bool false, .slice none 0 0]) (ty := 25) rfl hwa)
  have hsz : v1.heap.size = w.heap.size + 1 := by rw [← hwa]; simp only [World.size_alloc]
  try rw [← hsz]
  clear hwa hsz
  clear hS; have hS := Lib.hid h1; clear h1
  obtain ⟨x0_0, x1_0⟩ := hS.out.cs2 0 rfl
  go_wp2_with fail
  go_at_call 79
  with_reducible refine (rtrim_k (K := M) hS.out (by repeat (first | exact ms | apply mo)) (by omega) rfl hvK).mono ?_
  rintro e v2 ⟨A1, n1, c1, rfl, h1⟩
  clear x0_0 x1_0
  clear hS; have hS := Lib.hid h1; clear h1
  obtain ⟨x0_0, x1_0⟩ := hS.out.cs2 0 rfl
  have e1 := len_z (hS.out.get (A := A1) (n := n1) (c := c1) (by repeat (first | exact ms | apply mo))).1 hv0
  obtain rfl : n1 = 0 := e1.2 hv
  clear e1
  have hp0 := hS.out.put2 0 rfl (hS.out.ge_ 0 rfl) (.bool false) (.slice A1 0 c1)
  simp only [List.set_cons_zero, List.set_cons_succ] at hp0
  have fz0_0 := hS.out.frs 0 rfl 0
  have fz0_1 := hS.out.frs 0 rfl 1
  have HPUT := Lib.hid hp0
  clear hp0
  go_wp2_with fail
  refine bodyPost_ret (results_B rfl rfl (loadZ (HPUT.out.box _ (List.mem_of_getElem? (i := 0) rfl)))) rfl ?_
  have hsg : sg (iv false (val B xs)) = false := by rw [sg_iv hv0]; simp
  refine ⟨A1, 0, c1, by rw [hsg], ?_, ?_, HPUT.out.bl⟩
  · have ho := HPUT.out.own _ (show (⟨A1, 0, c1, M, limbs (val B xs), val B xs⟩ : Ent) ∈ _ from (by repeat (first | exact ms | apply mo)))
    exact own_len ho rfl hv0 hvK
  · rw [mg_iv hv0]; exact HPUT.out.own _ (show (⟨A1, 0, c1, M, limbs (val B xs), val B xs⟩ : Ent) ∈ _ from (by repeat (first | exact ms | apply mo)))
theorem rsign_tp (w : World) (h : Sl w A n c xs) (hn : n ≤ M) (hM : M ≤ 200000) (hv : ¬ val B xs = 0) :
    Calls Tryz.prog 82 #[.bool true, .slice A n c] w fun e w' => ∃ A n c, e = .returned (.agg #[.bool (sg (iv true (val B xs))), .slice A n c]) ∧ n ≤ M ∧ N.Own w' w.heap.size A n c (limbs (mg (iv true (val B xs)))) ∧ Below w.heap.size w w' := by
  have hS := Lib.hid ((SC.start w).old (k := M) h hn rfl)
  have hv0 := h.nn0
  have hvK : val B xs < Q B M := Int.lt_of_lt_of_le h.lt (QB_le hn)
  clear h
  go_enter Tryz.func82, Tryz.ntmps82
  have h1 := (hS.out.boxed (vs := [.bool false, .slice none 0 0]) (ty := 25) rfl rfl)
  try simp only [World.size_alloc] at h1
  obtain ⟨p0_0, p1_0⟩ := h1.cs2 0 rfl
  clear h1
  go_wp2_with fail
  clear p0_0 p1_0
  generalize hwa : World.alloc w _ = v1
  have h1 := (hS.out.boxed (vs := [.bool false, .slice none 0 0]) (ty := 25) rfl hwa)
  have hsz : v1.heap.size = w.heap.size + 1 := by rw [← hwa]; simp only [World.size_alloc]
  try rw [← hsz]
  clear hwa hsz
  clear hS; have hS := Lib.hid h1; clear h1
  obtain ⟨x0_0, x1_0⟩ := hS.out.cs2 0 rfl
  go_wp2_with fail
  go_at_call 79
  with_reducible refine (rtrim_k (K := M) hS.out (by repeat (first | exact ms | apply mo)) (by omega) rfl hvK).mono ?_
  rintro e v2 ⟨A1, n1, c1, rfl, h1⟩
  clear x0_0 x1_0
  clear hS; have hS := Lib.hid h1; clear h1
  obtain ⟨x0_0, x1_0⟩ := hS.out.cs2 0 rfl
  have e1 := len_z (hS.out.get (A := A1) (n := n1) (c := c1) (by repeat (first | exact ms | apply mo))).1 hv0
  have hn1 : 0 < n1 := by have : ¬ n1 = 0 := fun e => hv (e1.1 e); omega
  clear e1
  have hp0 := hS.out.put2 0 rfl (hS.out.ge_ 0 rfl) (.bool true) (.slice A1 n1 c1)
  simp only [List.set_cons_zero, List.set_cons_succ] at hp0
  have fz0_0 := hS.out.frs 0 rfl 0
  have fz0_1 := hS.out.frs 0 rfl 1
  have HPUT := Lib.hid hp0
  clear hp0
  go_wp2_with fail
  refine bodyPost_ret (results_B rfl rfl (loadZ (HPUT.out.box _ (List.mem_of_getElem? (i := 0) rfl)))) rfl ?_
  have hsg : sg (iv true (val B xs)) = true := by rw [sg_iv hv0]; simp; omega
  refine ⟨A1, n1, c1, by rw [hsg], ?_, ?_, HPUT.out.bl⟩
  · have ho := HPUT.out.own _ (show (⟨A1, n1, c1, M, limbs (val B xs), val B xs⟩ : Ent) ∈ _ from (by repeat (first | exact ms | apply mo)))
    exact own_len ho rfl hv0 hvK
  · rw [mg_iv hv0]; exact HPUT.out.own _ (show (⟨A1, n1, c1, M, limbs (val B xs), val B xs⟩ : Ent) ∈ _ from (by repeat (first | exact ms | apply mo)))
theorem rsign_tz (w : World) (h : Sl w A n c xs) (hn : n ≤ M) (hM : M ≤ 200000) (hv : val B xs = 0) :
    Calls Tryz.prog 82 #[.bool true, .slice A n c] w fun e w' => ∃ A n c, e = .returned (.agg #[.bool (sg (iv true (val B xs))), .slice A n c]) ∧ n ≤ M ∧ N.Own w' w.heap.size A n c (limbs (mg (iv true (val B xs)))) ∧ Below w.heap.size w w' := by
  have hS := Lib.hid ((SC.start w).old (k := M) h hn rfl)
  have hv0 := h.nn0
  have hvK : val B xs < Q B M := Int.lt_of_lt_of_le h.lt (QB_le hn)
  clear h
  go_enter Tryz.func82, Tryz.ntmps82
  have h1 := (hS.out.boxed (vs := [.bool false, .slice none 0 0]) (ty := 25) rfl rfl)
  try simp only [World.size_alloc] at h1
  obtain ⟨p0_0, p1_0⟩ := h1.cs2 0 rfl
  clear h1
  go_wp2_with fail
  clear p0_0 p1_0
  generalize hwa : World.alloc w _ = v1
  have h1 := (hS.out.boxed (vs := [.bool false, .slice none 0 0]) (ty := 25) rfl hwa)
  have hsz : v1.heap.size = w.heap.size + 1 := by rw [← hwa]; simp only [World.size_alloc]
  try rw [← hsz]
  clear hwa hsz
  clear hS; have hS := Lib.hid h1; clear h1
  obtain ⟨x0_0, x1_0⟩ := hS.out.cs2 0 rfl
  go_wp2_with fail
  go_at_call 79
  with_reducible refine (rtrim_k (K := M) hS.out (by repeat (first | exact ms | apply mo)) (by omega) rfl hvK).mono ?_
  rintro e v2 ⟨A1, n1, c1, rfl, h1⟩
  clear x0_0 x1_0
  clear hS; have hS := Lib.hid h1; clear h1
  obtain ⟨x0_0, x1_0⟩ := hS.out.cs2 0 rfl
  have e1 := len_z (hS.out.get (A := A1) (n := n1) (c := c1) (by repeat (first | exact ms | apply mo))).1 hv0
  obtain rfl : n1 = 0 := e1.2 hv
  clear e1
  have hp0 := hS.out.put2 0 rfl (hS.out.ge_ 0 rfl) (.bool false) (.slice A1 0 c1)
  simp only [List.set_cons_zero, List.set_cons_succ] at hp0
  have fz0_0 := hS.out.frs 0 rfl 0
  have fz0_1 := hS.out.frs 0 rfl 1
  have HPUT := Lib.hid hp0
  clear hp0
  go_wp2_with fail
  refine bodyPost_ret (results_B rfl rfl (loadZ (HPUT.out.box _ (List.mem_of_getElem? (i := 0) rfl)))) rfl ?_
  have hsg : sg (iv true (val B xs)) = false := by rw [sg_iv hv0]; simp [hv]
  refine ⟨A1, 0, c1, by rw [hsg], ?_, ?_, HPUT.out.bl⟩
  · have ho := HPUT.out.own _ (show (⟨A1, 0, c1, M, limbs (val B xs), val B xs⟩ : Ent) ∈ _ from (by repeat (first | exact ms | apply mo)))
    exact own_len ho rfl hv0 hvK
  · rw [mg_iv hv0]; exact HPUT.out.own _ (show (⟨A1, 0, c1, M, limbs (val B xs), val B xs⟩ : Ent) ∈ _ from (by repeat (first | exact ms | apply mo)))
theorem rsign_c (h : SC w0 v0 w S T O) (h1 : (⟨A, n, c, k, xs, v⟩ : Ent) ∈ S) (hk : k ≤ M) (hM : M ≤ 200000) {z : Int} (hz : iv b v = z) :
    Calls Tryz.prog 82 #[.bool b, .slice A n c] w fun e w' => ∃ A n c, e = .returned (.agg #[.bool (sg z), .slice A n c]) ∧ SC w0 v0 w' (⟨A, n, c, M, limbs (mg z), mg z⟩ :: S) T (⟨A, n, c, M, limbs (mg z), mg z⟩ :: O) := by
  obtain ⟨a1, a2, rfl⟩ := h.get h1
  subst hz
  have key : Calls Tryz.prog 82 #[.bool b, .slice A n c] w (fun e w' => ∃ A n c, e = .returned (.agg #[.bool (sg (iv b (val B xs))), .slice A n c]) ∧ n ≤ M ∧ N.Own w' w.heap.size A n c (limbs (mg (iv b (val B xs)))) ∧ Below w.heap.size w w') := by
    by_cases hv : val B xs = 0
    · cases b
      · exact rsign_fz w a1 (by omega) hM hv
      · exact rsign_tz w a1 (by omega) hM hv
    · cases b
      · exact rsign_fp w a1 (by omega) hM hv
      · exact rsign_tp w a1 (by omega) hM hv
  refine key.mono ?_
  rintro e w' ⟨A1, n1, c1, rfl, hn1, ho, hb⟩
  exact ⟨A1, n1, c1, rfl, h.new hb ho hn1 (limbs_val (mg_nn _))⟩
theorem r6make_zero (w : World) (b : Bool) (h : Sl w A n c xs) (h' : Sl w A' m d ys) (hn : n ≤ M) (hm : m ≤ M) (hM : M ≤ 1000) (hv : val B ys = 0) :
    Calls Tryz.prog 44 #[.agg #[.bool b, .slice A n c], .slice A' m d] w (OutRZ w 7) := by
  have hv0 := h.nn0
  have hu0 := h'.nn0
  have huK : val B ys < Q B M := Int.lt_of_lt_of_le h'.lt (QB_le hm)
  have hS := Lib.hid (((SC.start w).old (k := M) h' hm rfl).old (k := M) h hn rfl)
  clear h h'
  go_enter Tryz.func44, Tryz.ntmps44
  have h1 := ((hS.out.boxed (vs := [.bool (b), .slice A n c]) (ty := 25) rfl rfl).boxed (vs := [Value.bool false, Value.slice none 0 0, Value.slice none 0 0]) (ty := 27) rfl rfl)
  try simp only [World.size_alloc] at h1
  obtain ⟨p0_0, p1_0, p2_0⟩ := h1.cs3 0 rfl
  obtain ⟨p0_1, p1_1⟩ := h1.cs2 1 rfl
  clear h1
  go_wp2_with fail
  clear p0_0 p1_0 p2_0 p0_1 p1_1
  generalize hwa : World.alloc (World.alloc w _) _ = v1
  have h1 := ((hS.out.boxed (vs := [.bool (b), .slice A n c]) (ty := 25) rfl rfl).boxed (vs := [Value.bool false, Value.slice none 0 0, Value.slice none 0 0]) (ty := 27) rfl hwa)
  simp only [World.size_alloc] at h1
  have hsz : v1.heap.size = w.heap.size + 1 + 1 := by rw [← hwa]; simp only [World.size_alloc]
  try rw [← hsz]
  clear hwa hsz
  clear hS; have hS := Lib.hid h1; clear h1
  obtain ⟨x0_0, x1_0, x2_0⟩ := hS.out.cs3 0 rfl
  obtain ⟨x0_1, x1_1⟩ := hS.out.cs2 1 rfl
  go_wp2_with fail
  go_at_call 79
  with_reducible refine (rtrim_k (K := M) hS.out (by repeat (first | exact ms | apply mo)) (by omega) rfl huK).mono ?_
  rintro e v2 ⟨A5, n5, c5, rfl, h1⟩
  clear x0_0 x1_0 x2_0 x0_1 x1_1
  clear hS; have hS := Lib.hid h1; clear h1
  obtain ⟨x0_0, x1_0, x2_0⟩ := hS.out.cs3 0 rfl
  obtain ⟨x0_1, x1_1⟩ := hS.out.cs2 1 rfl
  have e1 := len_z (hS.out.get (A := A5) (n := n5) (c := c5) (by repeat (first | exact ms | apply mo))).1 hu0
  obtain rfl : n5 = 0 := e1.2 hv
  clear e1
  have hp0 := hS.out.put3 0 rfl (hS.out.ge_ 0 rfl) (.bool false) (.slice none 0 0) (.slice none 0 0)
  simp only [List.set_cons_zero, List.set_cons_succ] at hp0
  have fz0_0 := hS.out.frs 0 rfl 0
  have fz0_1 := hS.out.frs 0 rfl 1
  have fz0_2 := hS.out.frs 0 rfl 2
  have HPUT := Lib.hid hp0
  clear hp0
  go_wp2_with fail
  refine bodyPost_ret (results_B2 rfl rfl rfl (loadR (HPUT.out.box _ (List.mem_of_getElem? (i := 0) rfl)))) rfl ?_
  exact ⟨rfl, HPUT.out.bl⟩
theorem r6make_any (w : World) (b : Bool) (h : Sl w A n c xs) (h' : Sl w A' m d ys) (hn : n ≤ M) (hm : m ≤ M) (hM1 : 1 ≤ M) (hM : M ≤ 1000) (hv : 0 < val B ys) :
    Calls Tryz.prog 44 #[.agg #[.bool b, .slice A n c], .slice A' m d] w (OutRE w M (rv b (val B xs) (val B ys)) 0) := by
  have hv0 := h.nn0
  have hu0 := h'.nn0
  have huK : val B ys < Q B M := Int.lt_of_lt_of_le h'.lt (QB_le hm)
  obtain ⟨hnum, hden⟩ := rv_nd (b := b) hv0 hv
  have hRB : RB M (rv b (val B xs) (val B ys)) := RB.rv hv0 hv (Int.lt_of_lt_of_le h.lt (QB_le hn)) (Int.lt_of_lt_of_le h'.lt (QB_le hm))
  have hgp := gI_pos (v := val B xs) hv
  have hgK : gI (val B xs) (val B ys) < Q B M := by
    have h3 : gI (val B xs) (val B ys) ≤ val B ys := by rw [gI_comm']; exact gI_le_l hv
    omega
  obtain ⟨g, hg⟩ : ∃ x, gI (val B xs) (val B ys) = x := ⟨_, rfl⟩
  rw [hg] at hnum hden hgp hgK
  obtain ⟨q1, hq1⟩ : ∃ x, val B xs / g = x := ⟨_, rfl⟩
  obtain ⟨q2, hq2⟩ : ∃ x, val B ys / g = x := ⟨_, rfl⟩
  rw [hq1] at hnum
  rw [hq2] at hden
  obtain ⟨z, hz⟩ : ∃ x, iv b q1 = x := ⟨_, rfl⟩
  rw [hz] at hnum
  have hS := Lib.hid (((SC.start w).old (k := M) h' hm rfl).old (k := M) h hn rfl)
  clear h h'
  go_enter Tryz.func44, Tryz.ntmps44
  have h1 := ((hS.out.boxed (vs := [.bool (b), .slice A n c]) (ty := 25) rfl rfl).boxed (vs := [Value.bool false, Value.slice none 0 0, Value.slice none 0 0]) (ty := 27) rfl rfl)
  try simp only [World.size_alloc] at h1
  obtain ⟨p0_0, p1_0, p2_0⟩ := h1.cs3 0 rfl
  obtain ⟨p0_1, p1_1⟩ := h1.cs2 1 rfl
  clear h1
  go_wp2_with fail
  clear p0_0 p1_0 p2_0 p0_1 p1_1
  generalize hwa : World.alloc (World.alloc w _) _ = v1
  have h1 := ((hS.out.boxed (vs := [.bool (b), .slice A n c]) (ty := 25) rfl rfl).boxed (vs := [Value.bool false, Value.slice none 0 0, Value.slice none 0 0]) (ty := 27) rfl hwa)
  simp only [World.size_alloc] at h1
  have hsz : v1.heap.size = w.heap.size + 1 + 1 := by rw [← hwa]; simp only [World.size_alloc]
  try rw [← hsz]
  clear hwa hsz
  clear hS; have hS := Lib.hid h1; clear h1
  obtain ⟨x0_0, x1_0, x2_0⟩ := hS.out.cs3 0 rfl
  obtain ⟨x0_1, x1_1⟩ := hS.out.cs2 1 rfl
  go_wp2_with fail
  go_at_call 79
  with_reducible refine (rtrim_k (K := M) hS.out (by repeat (first | exact ms | apply mo)) (by omega) rfl huK).mono ?_
  rintro e v2 ⟨A5, n5, c5, rfl, h1⟩
  clear x0_0 x1_0 x2_0 x0_1 x1_1
  clear hS; have hS := Lib.hid h1; clear h1
  obtain ⟨x0_0, x1_0, x2_0⟩ := hS.out.cs3 0 rfl
  obtain ⟨x0_1, x1_1⟩ := hS.out.cs2 1 rfl
  have e1 := len_z (hS.out.get (A := A5) (n := n5) (c := c5) (by repeat (first | exact ms | apply mo))).1 hu0
  have hn5n : ¬ n5 = 0 := fun e => by have := e1.1 e; omega
  have hn5 : ((n5 : Int) == 0) = false := by simp; omega
  clear e1 hn5n
  go_wp2_with fail
  go_at_call 80
  with_reducible refine (rgcd_k (M := M) hS.out (by repeat (first | exact ms | apply mo)) (by repeat (first | exact ms | apply mo)) (by omega) (by omega) hM hg hgK).mono ?_
  rintro e v3 ⟨A1, n1, c1, rfl, h1⟩
  clear x0_0 x1_0 x2_0 x0_1 x1_1
  clear hS; have hS := Lib.hid h1; clear h1
  obtain ⟨x0_0, x1_0, x2_0⟩ := hS.out.cs3 0 rfl
  obtain ⟨x0_1, x1_1⟩ := hS.out.cs2 1 rfl
  go_wp2_with fail
  go_at_call 81
  with_reducible refine (rdiv_k (M := M) hS.out (by repeat (first | exact ms | apply mo)) (by repeat (first | exact ms | apply mo)) (by omega) (by omega) hM1 hM hgp hq1).mono ?_
  rintro e v4 ⟨A2, n2, c2, y2, rfl, h1⟩
  clear x0_0 x1_0 x2_0 x0_1 x1_1
  clear hS; have hS := Lib.hid h1; clear h1
  obtain ⟨x0_0, x1_0, x2_0⟩ := hS.out.cs3 0 rfl
  obtain ⟨x0_1, x1_1⟩ := hS.out.cs2 1 rfl
  go_wp2_with fail
  go_at_call 81
  with_reducible refine (rdiv_k (M := M) hS.out (by repeat (first | exact ms | apply mo)) (by repeat (first | exact ms | apply mo)) (by omega) (by omega) hM1 hM hgp hq2).mono ?_
  rintro e v5 ⟨A4, n4, c4, y4, rfl, h1⟩
  clear x0_0 x1_0 x2_0 x0_1 x1_1
  clear hS; have hS := Lib.hid h1; clear h1
  obtain ⟨x0_0, x1_0, x2_0⟩ := hS.out.cs3 0 rfl
  obtain ⟨x0_1, x1_1⟩ := hS.out.cs2 1 rfl
  go_wp2_with fail
  go_at_call 82
  with_reducible refine (rsign_c (M := M) hS.out (by repeat (first | exact ms | apply mo)) (by omega) (by omega) hz).mono ?_
  rintro e v6 ⟨A3, n3, c3, rfl, h1⟩
  clear x0_0 x1_0 x2_0 x0_1 x1_1
  clear hS; have hS := Lib.hid h1; clear h1
  obtain ⟨x0_0, x1_0, x2_0⟩ := hS.out.cs3 0 rfl
  obtain ⟨x0_1, x1_1⟩ := hS.out.cs2 1 rfl
  have hp0 := hS.out.put3 0 rfl (hS.out.ge_ 0 rfl) (.bool (sg z)) (.slice A3 n3 c3) (.slice A4 n4 c4)
  simp only [List.set_cons_zero, List.set_cons_succ] at hp0
  have fz0_0 := hS.out.frs 0 rfl 0
  have fz0_1 := hS.out.frs 0 rfl 1
  have fz0_2 := hS.out.frs 0 rfl 2
  have HPUT := Lib.hid hp0
  clear hp0
  go_wp2_with fail
  refine bodyPost_ret (results_B2 rfl rfl rfl (loadR (HPUT.out.box _ (List.mem_of_getElem? (i := 0) rfl)))) rfl ?_
  exact HPUT.out.toRE (r := rv b (val B xs) (val B ys)) (by repeat (first | exact ms | apply mo)) (by repeat (first | exact ms | apply mo)) (by rw [hnum]) (by rw [hnum]) (by rw [hden]) hRB
end
end Go.Proofs.YtpokcocfdchfeaaGreatDoor
