/- Package rat: Make, sound, value, times, Neg, Over, Half, May. -/
import Derived.Test.YtfdpddlefobcpaaGreatDoorRatA
import Derived.Test.YtfdpddlefobcpaaGreatDoorRatText
namespace Go.Proofs.YtfdpddlefobcpaaGreatDoor
open Go.RowKit
set_option linter.unusedVariables false
set_option linter.unusedSimpArgs false
set_option maxRecDepth 20000
open N
open Go.Lib (decDigits nDigits decDigits_length nDigits_pos)
section
variable {w0 v0 w : World} {S O : List Ent} {T : List Blk} {A A' : Option Addr} {n c m d k k' M : Nat} {xs ys : List Int} {v u : Int} {b : Bool}
theorem fmake_zero (w : World) (b : Bool) (h : Sl w A n c xs) (h' : Sl w A' m d ys) (hn : n ≤ M) (hm : m ≤ M) (hM : M ≤ 500000) (hv : val B ys = 0) :
    Calls Tryz.prog 55 #[.agg #[.bool b, .slice A n c], .slice A' m d] w (OutRZ w 7) := by
  have hS := Lib.hid (((SC.start w).old (k := M) h' hm rfl).old (k := M) h hn rfl)
  clear h h'
  go_enter Tryz.func55, Tryz.ntmps55
  have h1 := ((hS.out.boxed (vs := [.bool (b), .slice A n c]) (ty := 60) rfl rfl).boxed (vs := [Value.bool false, Value.slice none 0 0, Value.slice none 0 0]) (ty := 62) rfl rfl)
  try simp only [World.size_alloc] at h1
  obtain ⟨p0_0, p1_0, p2_0⟩ := h1.cs3 0 rfl
  obtain ⟨p0_1, p1_1⟩ := h1.cs2 1 rfl
  clear h1
  go_wp2_with fail
  clear p0_0 p1_0 p2_0 p0_1 p1_1
  generalize hwa : World.alloc (World.alloc w _) _ = v1
  have h1 := ((hS.out.boxed (vs := [.bool (b), .slice A n c]) (ty := 60) rfl rfl).boxed (vs := [Value.bool false, Value.slice none 0 0, Value.slice none 0 0]) (ty := 62) rfl hwa)
  simp only [World.size_alloc] at h1
  clear hwa
  clear hS; have hS := Lib.hid h1; clear h1
  obtain ⟨x0_0, x1_0, x2_0⟩ := hS.out.cs3 0 rfl
  obtain ⟨x0_1, x1_1⟩ := hS.out.cs2 1 rfl
  go_wp2_with fail
  go_at_call 79
  with_reducible refine (zero_c (q := true) hS.out (by repeat (first | exact List.mem_cons_self | apply List.mem_cons_of_mem)) (by omega) (decide_eq_true hv)).mono ?_
  rintro e v2 ⟨rfl, h1⟩
  clear x0_0 x1_0 x2_0 x0_1 x1_1
  clear hS; have hS := Lib.hid h1; clear h1
  obtain ⟨x0_0, x1_0, x2_0⟩ := hS.out.cs3 0 rfl
  obtain ⟨x0_1, x1_1⟩ := hS.out.cs2 1 rfl
  have hp0 := hS.out.put3 0 rfl (hS.out.ge_ 0 rfl) (.bool false) (.slice none 0 0) (.slice none 0 0)
  simp only [List.set_cons_zero, List.set_cons_succ] at hp0
  have fz0_0 := hS.out.frs 0 rfl 0
  have fz0_1 := hS.out.frs 0 rfl 1
  have fz0_2 := hS.out.frs 0 rfl 2
  have HPUT := Lib.hid hp0
  clear hp0
  go_wp2_with fail
  refine bodyPost_ret (results_B2 rfl rfl rfl (loadR (HPUT.out.box _ (List.mem_of_getElem? (i := 0) rfl)))) rfl ?_
  exact ⟨rfl, HPUT.out.bl⟩
theorem fmake_any (w : World) (b : Bool) (h : Sl w A n c xs) (h' : Sl w A' m d ys) (hn : n ≤ M) (hm : m ≤ M) (hM : M ≤ 500000) (hv : 0 < val B ys) :
    Calls Tryz.prog 55 #[.agg #[.bool b, .slice A n c], .slice A' m d] w (OutRE w M (rv b (val B xs) (val B ys)) 0) := by
  have hv0 := h.nn0
  obtain ⟨hnum, hden⟩ := rv_nd (b := b) hv0 hv
  have hRB : RB M (rv b (val B xs) (val B ys)) := RB.rv hv0 hv (Int.lt_of_lt_of_le h.lt (QB_le hn)) (Int.lt_of_lt_of_le h'.lt (QB_le hm))
  have hgp := gI_pos (v := val B xs) hv
  obtain ⟨g, hg⟩ : ∃ x, gI (val B xs) (val B ys) = x := ⟨_, rfl⟩
  rw [hg] at hnum hden hgp
  obtain ⟨q1, hq1⟩ : ∃ x, val B xs / g = x := ⟨_, rfl⟩
  obtain ⟨q2, hq2⟩ : ∃ x, val B ys / g = x := ⟨_, rfl⟩
  rw [hq1] at hnum
  rw [hq2] at hden
  obtain ⟨z, hz⟩ : ∃ x, iv b q1 = x := ⟨_, rfl⟩
  rw [hz] at hnum
  have hS := Lib.hid (((SC.start w).old (k := M) h' hm rfl).old (k := M) h hn rfl)
  clear h h'
  go_enter Tryz.func55, Tryz.ntmps55
  have h1 := ((hS.out.boxed (vs := [.bool (b), .slice A n c]) (ty := 60) rfl rfl).boxed (vs := [Value.bool false, Value.slice none 0 0, Value.slice none 0 0]) (ty := 62) rfl rfl)
  try simp only [World.size_alloc] at h1
  obtain ⟨p0_0, p1_0, p2_0⟩ := h1.cs3 0 rfl
  obtain ⟨p0_1, p1_1⟩ := h1.cs2 1 rfl
  clear h1
  go_wp2_with fail
  clear p0_0 p1_0 p2_0 p0_1 p1_1
  generalize hwa : World.alloc (World.alloc w _) _ = v1
  have h1 := ((hS.out.boxed (vs := [.bool (b), .slice A n c]) (ty := 60) rfl rfl).boxed (vs := [Value.bool false, Value.slice none 0 0, Value.slice none 0 0]) (ty := 62) rfl hwa)
  simp only [World.size_alloc] at h1
  clear hwa
  clear hS; have hS := Lib.hid h1; clear h1
  obtain ⟨x0_0, x1_0, x2_0⟩ := hS.out.cs3 0 rfl
  obtain ⟨x0_1, x1_1⟩ := hS.out.cs2 1 rfl
  go_wp2_with fail
  go_at_call 79
  with_reducible refine (zero_c (q := false) hS.out (by repeat (first | exact List.mem_cons_self | apply List.mem_cons_of_mem)) (by omega) (decide_eq_false (by omega))).mono ?_
  rintro e v2 ⟨rfl, h1⟩
  clear x0_0 x1_0 x2_0 x0_1 x1_1
  clear hS; have hS := Lib.hid h1; clear h1
  obtain ⟨x0_0, x1_0, x2_0⟩ := hS.out.cs3 0 rfl
  obtain ⟨x0_1, x1_1⟩ := hS.out.cs2 1 rfl
  go_wp2_with fail
  go_at_call 80
  with_reducible refine (gcd_c hS.out (by repeat (first | exact List.mem_cons_self | apply List.mem_cons_of_mem)) (by omega) (by repeat (first | exact List.mem_cons_self | apply List.mem_cons_of_mem)) (by omega) hg).mono ?_
  rintro e v3 ⟨A1, n1, c1, rfl, h1⟩
  clear x0_0 x1_0 x2_0 x0_1 x1_1
  clear hS; have hS := Lib.hid h1; clear h1
  obtain ⟨x0_0, x1_0, x2_0⟩ := hS.out.cs3 0 rfl
  obtain ⟨x0_1, x1_1⟩ := hS.out.cs2 1 rfl
  go_wp2_with fail
  go_at_call 81
  with_reducible refine (quotient_c hS.out (by repeat (first | exact List.mem_cons_self | apply List.mem_cons_of_mem)) (by omega) (by repeat (first | exact List.mem_cons_self | apply List.mem_cons_of_mem)) (by omega) hgp hq1).mono ?_
  rintro e v4 ⟨A2, n2, c2, rfl, h1⟩
  clear x0_0 x1_0 x2_0 x0_1 x1_1
  clear hS; have hS := Lib.hid h1; clear h1
  obtain ⟨x0_0, x1_0, x2_0⟩ := hS.out.cs3 0 rfl
  obtain ⟨x0_1, x1_1⟩ := hS.out.cs2 1 rfl
  go_wp2_with fail
  go_at_call 78
  with_reducible refine (make_c hS.out (by repeat (first | exact List.mem_cons_self | apply List.mem_cons_of_mem)) (by omega) hz).mono ?_
  rintro e v5 ⟨A3, n3, c3, rfl, h1⟩
  clear x0_0 x1_0 x2_0 x0_1 x1_1
  clear hS; have hS := Lib.hid h1; clear h1
  obtain ⟨x0_0, x1_0, x2_0⟩ := hS.out.cs3 0 rfl
  obtain ⟨x0_1, x1_1⟩ := hS.out.cs2 1 rfl
  go_wp2_with fail
  go_at_call 81
  with_reducible refine (quotient_c hS.out (by repeat (first | exact List.mem_cons_self | apply List.mem_cons_of_mem)) (by omega) (by repeat (first | exact List.mem_cons_self | apply List.mem_cons_of_mem)) (by omega) hgp hq2).mono ?_
  rintro e v6 ⟨A4, n4, c4, rfl, h1⟩
  clear x0_0 x1_0 x2_0 x0_1 x1_1
  clear hS; have hS := Lib.hid h1; clear h1
  obtain ⟨x0_0, x1_0, x2_0⟩ := hS.out.cs3 0 rfl
  obtain ⟨x0_1, x1_1⟩ := hS.out.cs2 1 rfl
  have hp0 := hS.out.put3 0 rfl (hS.out.ge_ 0 rfl) (.bool (sg z)) (.slice A3 n3 c3) (.slice A4 n4 c4)
  simp only [List.set_cons_zero, List.set_cons_succ] at hp0
  have fz0_0 := hS.out.frs 0 rfl 0
  have fz0_1 := hS.out.frs 0 rfl 1
  have fz0_2 := hS.out.frs 0 rfl 2
  have HPUT := Lib.hid hp0
  clear hp0
  go_wp2_with fail
  refine bodyPost_ret (results_B2 rfl rfl rfl (loadR (HPUT.out.box _ (List.mem_of_getElem? (i := 0) rfl)))) rfl ?_
  exact HPUT.out.toRE (r := rv b (val B xs) (val B ys)) (by repeat (first | exact List.mem_cons_self | apply List.mem_cons_of_mem)) (by repeat (first | exact List.mem_cons_self | apply List.mem_cons_of_mem)) (by rw [hnum]) (by rw [hnum]) (by rw [hden]) hRB
theorem RB_0 : RB 1 (mkRat 0 1) := by
  obtain ⟨hnum, hden⟩ := rof_num 0
  unfold RB
  rw [hnum, hden, QB_one]
  exact ⟨by decide, by decide⟩
theorem sound_zero (w : World) (b : Bool) (h : Sl w A n c xs) (h' : Sl w A' m d ys) (hn : n ≤ M) (hm : m ≤ M) (hM : M ≤ 500000) (hv : val B ys = 0) :
    Calls Tryz.prog 100 #[.agg #[.bool b, .slice A n c, .slice A' m d]] w (OutR w 1 (mkRat 0 1)) := by
  have hRB := RB_0
  have hS := Lib.hid (((SC.start w).old (k := M) h' hm rfl).old (k := M) h hn rfl)
  go_enter Tryz.func100, Tryz.ntmps100
  have h1 := ((hS.out.boxed (vs := [.bool b, .slice A n c, .slice A' m d]) (ty := 62) rfl rfl).boxed (vs := [.bool false, .slice none 0 0, .slice none 0 0]) (ty := 62) rfl rfl)
  try simp only [World.size_alloc] at h1
  obtain ⟨p0_0, p1_0, p2_0⟩ := h1.cs3 0 rfl
  obtain ⟨p0_1, p1_1, p2_1⟩ := h1.cs3 1 rfl
  clear h1
  go_wp2_with fail
  clear p0_0 p1_0 p2_0 p0_1 p1_1 p2_1
  generalize hwa : World.alloc (World.alloc w _) _ = v1
  have h1 := ((hS.out.boxed (vs := [.bool b, .slice A n c, .slice A' m d]) (ty := 62) rfl rfl).boxed (vs := [.bool false, .slice none 0 0, .slice none 0 0]) (ty := 62) rfl hwa)
  simp only [World.size_alloc] at h1
  clear hwa
  clear hS; have hS := Lib.hid h1; clear h1
  obtain ⟨x0_0, x1_0, x2_0⟩ := hS.out.cs3 0 rfl
  obtain ⟨x0_1, x1_1, x2_1⟩ := hS.out.cs3 1 rfl
  go_wp2_with fail
  go_at_call 79
  with_reducible refine (zero_c (q := true) hS.out (by repeat (first | exact List.mem_cons_self | apply List.mem_cons_of_mem)) (by omega) (decide_eq_true hv)).mono ?_
  rintro e v2 ⟨rfl, h1⟩
  clear x0_0 x1_0 x2_0 x0_1 x1_1 x2_1
  clear hS; have hS := Lib.hid h1; clear h1
  obtain ⟨x0_0, x1_0, x2_0⟩ := hS.out.cs3 0 rfl
  obtain ⟨x0_1, x1_1, x2_1⟩ := hS.out.cs3 1 rfl
  go_wp2_with fail
  go_at_call 31
  with_reducible refine ((fof_any v2 0 (by omega) (by omega))).mono ?_
  rintro e v3 ho
  clear x0_0 x1_0 x2_0 x0_1 x1_1 x2_1
  obtain ⟨A1, n1, c1, A2, n2, c2, rfl, h1⟩ := hS.out.rR (Nat.le_refl 1) ho
  clear hS; have hS := Lib.hid h1; clear h1
  obtain ⟨x0_0, x1_0, x2_0⟩ := hS.out.cs3 0 rfl
  obtain ⟨x0_1, x1_1, x2_1⟩ := hS.out.cs3 1 rfl
  have hp0 := hS.out.put3 0 rfl (hS.out.ge_ 0 rfl) (.bool (sg (mkRat 0 1).num)) (.slice A1 n1 c1) (.slice A2 n2 c2)
  simp only [List.set_cons_zero, List.set_cons_succ] at hp0
  have fz0_0 := hS.out.frs 0 rfl 0
  have fz0_1 := hS.out.frs 0 rfl 1
  have fz0_2 := hS.out.frs 0 rfl 2
  have HPUT := Lib.hid hp0
  clear hp0
  go_wp2_with fail
  refine bodyPost_ret (results_B rfl rfl (loadR (HPUT.out.box _ (List.mem_of_getElem? (i := 0) rfl)))) rfl ?_
  exact HPUT.out.toR (r := mkRat 0 1) (by repeat (first | exact List.mem_cons_self | apply List.mem_cons_of_mem)) (by repeat (first | exact List.mem_cons_self | apply List.mem_cons_of_mem)) rfl rfl rfl hRB
theorem sound_pos (w : World) (b : Bool) (h : Sl w A n c xs) (h' : Sl w A' m d ys) (hn : n ≤ M) (hm : m ≤ M) (hM : M ≤ 500000) (hv : 0 < val B ys) :
    Calls Tryz.prog 100 #[.agg #[.bool b, .slice A n c, .slice A' m d]] w fun e w' => e = .returned (.agg #[.bool b, .slice A n c, .slice A' m d]) ∧ Below w.heap.size w w' := by
  have hS := Lib.hid (((SC.start w).old (k := M) h' hm rfl).old (k := M) h hn rfl)
  go_enter Tryz.func100, Tryz.ntmps100
  have h1 := ((hS.out.boxed (vs := [.bool b, .slice A n c, .slice A' m d]) (ty := 62) rfl rfl).boxed (vs := [.bool false, .slice none 0 0, .slice none 0 0]) (ty := 62) rfl rfl)
  try simp only [World.size_alloc] at h1
  obtain ⟨p0_0, p1_0, p2_0⟩ := h1.cs3 0 rfl
  obtain ⟨p0_1, p1_1, p2_1⟩ := h1.cs3 1 rfl
  clear h1
  go_wp2_with fail
  clear p0_0 p1_0 p2_0 p0_1 p1_1 p2_1
  generalize hwa : World.alloc (World.alloc w _) _ = v1
  have h1 := ((hS.out.boxed (vs := [.bool b, .slice A n c, .slice A' m d]) (ty := 62) rfl rfl).boxed (vs := [.bool false, .slice none 0 0, .slice none 0 0]) (ty := 62) rfl hwa)
  simp only [World.size_alloc] at h1
  clear hwa
  clear hS; have hS := Lib.hid h1; clear h1
  obtain ⟨x0_0, x1_0, x2_0⟩ := hS.out.cs3 0 rfl
  obtain ⟨x0_1, x1_1, x2_1⟩ := hS.out.cs3 1 rfl
  go_wp2_with fail
  go_at_call 79
  with_reducible refine (zero_c (q := false) hS.out (by repeat (first | exact List.mem_cons_self | apply List.mem_cons_of_mem)) (by omega) (decide_eq_false (by omega))).mono ?_
  rintro e v2 ⟨rfl, h1⟩
  clear x0_0 x1_0 x2_0 x0_1 x1_1 x2_1
  clear hS; have hS := Lib.hid h1; clear h1
  obtain ⟨x0_0, x1_0, x2_0⟩ := hS.out.cs3 0 rfl
  obtain ⟨x0_1, x1_1, x2_1⟩ := hS.out.cs3 1 rfl
  have hp0 := hS.out.put3 0 rfl (hS.out.ge_ 0 rfl) (.bool b) (.slice A n c) (.slice A' m d)
  simp only [List.set_cons_zero, List.set_cons_succ] at hp0
  have fz0_0 := hS.out.frs 0 rfl 0
  have fz0_1 := hS.out.frs 0 rfl 1
  have fz0_2 := hS.out.frs 0 rfl 2
  have HPUT := Lib.hid hp0
  clear hp0
  go_wp2_with fail
  refine bodyPost_ret (results_B rfl rfl (loadR (HPUT.out.box _ (List.mem_of_getElem? (i := 0) rfl)))) rfl ?_
  exact ⟨rfl, HPUT.out.bl⟩
/-- a fraction of the same value whose denominator is not 0 -/
theorem sound_c (h : SC w0 v0 w S T O) (h1 : (⟨A, n, c, k, xs, v⟩ : Ent) ∈ S) (h2 : (⟨A', m, d, k, ys, u⟩ : Ent) ∈ S) (hk : k ≤ 500000) (h1k : 1 ≤ k) {r : Rat} (hr : rv b v u = r) :
    Calls Tryz.prog 100 #[.agg #[.bool b, .slice A n c, .slice A' m d]] w fun e w' => ∃ b A n c xs v A' n' c' ys u, e = .returned (.agg #[.bool b, .slice A n c, .slice A' n' c']) ∧ 0 < u ∧ rv b v u = r ∧
      SC w0 v0 w' (⟨A, n, c, k, xs, v⟩ :: ⟨A', n', c', k, ys, u⟩ :: S) T O := by
  obtain ⟨a1, a2, a3⟩ := h.get h1
  obtain ⟨b1, b2, b3⟩ := h.get h2
  by_cases hv : val B ys = 0
  · refine (sound_zero w b a1 b1 a2 b2 hk hv).mono fun e w' ho => ?_
    obtain ⟨A1, n1, c1, A2, n2, c2, rfl, h3⟩ := h.rR h1k ho
    refine ⟨_, A1, n1, c1, _, _, A2, n2, c2, _, _, rfl, rden_pos _, ?_, h3.sub (fun t ht => ht) (List.Sublist.refl _) (fun t ht => List.mem_cons_of_mem _ (List.mem_cons_of_mem _ ht))⟩
    rw [rv_self, ← hr, ← b3, hv, rv_0]; decide
  · have hp : 0 < val B ys := by have := b1.nn0; omega
    refine (sound_pos w b a1 b1 a2 b2 hk hp).mono fun e w' ⟨he, hb⟩ => ?_
    refine ⟨b, A, n, c, xs, v, A', m, d, ys, u, he, by omega, hr, (h.below hb).sub (fun t ht => ?_) (List.Sublist.refl _) (fun t ht => ht)⟩
    rcases List.mem_cons.1 ht with e | e
    · rw [e]; exact h1
    · rcases List.mem_cons.1 e with e | e
      · rw [e]; exact h2
      · exact e
theorem fmk_c (h : SC w0 v0 w S T O) (h1 : (⟨A, n, c, k, xs, v⟩ : Ent) ∈ S) (h2 : (⟨A', m, d, k', ys, u⟩ : Ent) ∈ S) (hk : k ≤ M) (hk' : k' ≤ M) (hM : M ≤ 500000) (hu : 0 < u) {r : Rat} (hr : rv b v u = r) :
    Calls Tryz.prog 55 #[.agg #[.bool b, .slice A n c], .slice A' m d] w fun e w' => ∃ A n c A' n' c', e = .returned (.tuple #[.agg #[.bool (sg r.num), .slice A n c, .slice A' n' c'], .int .i64 0]) ∧
      SC w0 v0 w' (⟨A, n, c, M, limbs (mg r.num), mg r.num⟩ :: ⟨A', n', c', M, limbs r.den, r.den⟩ :: S) T (⟨A, n, c, M, limbs (mg r.num), mg r.num⟩ :: ⟨A', n', c', M, limbs r.den, r.den⟩ :: O) := by
  obtain ⟨a1, a2, rfl⟩ := h.get h1
  obtain ⟨b1, b2, rfl⟩ := h.get h2
  subst hr
  exact (fmake_any w b a1 b1 (by omega) (by omega) hM hu).mono fun e w' ho => h.rRE (Nat.le_refl _) ho
theorem RBs {b : Bool} (h : Sl w A n c xs) (h' : Sl w A' m d ys) (hn : n ≤ M) (hm : m ≤ M) (h1M : 1 ≤ M) : RB M (rv b (val B xs) (val B ys)) := by
  by_cases hv : val B ys = 0
  · rw [hv, rv_0]
    have h1 := RB_0.le h1M
    have h2 : mkRat 0 1 = 0 := by decide
    rwa [h2] at h1
  · exact RB.rv h.nn0 (by have := h'.nn0; omega) (Int.lt_of_lt_of_le h.lt (QB_le hn)) (Int.lt_of_lt_of_le h'.lt (QB_le hm))
theorem times_c (h : SC w0 v0 w S T O) (h1 : (⟨A, n, c, k, xs, v⟩ : Ent) ∈ S) (hk : k ≤ 500000) (h2 : (⟨A', m, d, k', ys, u⟩ : Ent) ∈ S) (hk' : k' ≤ 500000) {r : Int} (hr : iv b v * u = r) :
    Calls Tryz.prog 102 #[.agg #[.bool b, .slice A n c], .slice A' m d] w fun e w' => ∃ A n c, e = .returned (.agg #[.bool (sg r), .slice A n c]) ∧ SC w0 v0 w' (⟨A, n, c, k + k', limbs (mg r), mg r⟩ :: S) T (⟨A, n, c, k + k', limbs (mg r), mg r⟩ :: O) := by
  rw [← iv_f u] at hr
  have HS := Lib.hid h
  have hS := Lib.hid (((SC.start w).old (k := k') (h.get h2).1 (h.get h2).2.1 (h.get h2).2.2).old (k := k) (h.get h1).1 (h.get h1).2.1 (h.get h1).2.2)
  clear h h1 h2
  go_enter Tryz.func102, Tryz.ntmps102
  have h1 := ((hS.out.boxed (vs := [.bool b, .slice A n c]) (ty := 60) rfl rfl).boxed (vs := [.bool false, .slice none 0 0]) (ty := 60) rfl rfl)
  try simp only [World.size_alloc] at h1
  obtain ⟨p0_0, p1_0⟩ := h1.cs2 0 rfl
  obtain ⟨p0_1, p1_1⟩ := h1.cs2 1 rfl
  clear h1
  go_wp2_with fail
  clear p0_0 p1_0 p0_1 p1_1
  generalize hwa : World.alloc (World.alloc w _) _ = v1
  have h1 := ((hS.out.boxed (vs := [.bool b, .slice A n c]) (ty := 60) rfl rfl).boxed (vs := [.bool false, .slice none 0 0]) (ty := 60) rfl hwa)
  simp only [World.size_alloc] at h1
  clear hwa
  clear hS; have hS := Lib.hid h1; clear h1
  obtain ⟨x0_0, x1_0⟩ := hS.out.cs2 0 rfl
  obtain ⟨x0_1, x1_1⟩ := hS.out.cs2 1 rfl
  go_wp2_with fail
  go_at_call 120
  with_reducible refine (wmul_c (b' := false) hS.out (by repeat (first | exact List.mem_cons_self | apply List.mem_cons_of_mem)) (by omega) (by repeat (first | exact List.mem_cons_self | apply List.mem_cons_of_mem)) (by omega) hr).mono ?_
  rintro e v2 ⟨A3, n3, c3, rfl, h1⟩
  clear x0_0 x1_0 x0_1 x1_1
  clear hS; have hS := Lib.hid h1; clear h1
  obtain ⟨x0_0, x1_0⟩ := hS.out.cs2 0 rfl
  obtain ⟨x0_1, x1_1⟩ := hS.out.cs2 1 rfl
  have hp0 := hS.out.put2 0 rfl (hS.out.ge_ 0 rfl) (.bool (sg r)) (.slice A3 n3 c3)
  simp only [List.set_cons_zero, List.set_cons_succ] at hp0
  have fz0_0 := hS.out.frs 0 rfl 0
  have fz0_1 := hS.out.frs 0 rfl 1
  have HPUT := Lib.hid hp0
  clear hp0
  go_wp2_with fail
  refine bodyPost_ret (results_B rfl rfl (loadZ (HPUT.out.box _ (List.mem_of_getElem? (i := 0) rfl)))) rfl ?_
  have ho := HPUT.out.own _ (List.mem_cons_self)
  have h9 := (HPUT.out.get (A := A3) (n := n3) (c := c3) (by repeat (first | exact List.mem_cons_self | apply List.mem_cons_of_mem)))
  exact ⟨A3, n3, c3, rfl, HS.out.new HPUT.out.bl ho h9.2.1 h9.2.2⟩
theorem mg_neg (z : Int) : mg (-z) = mg z := by unfold mg; omega
theorem fmk_z (h : SC w0 v0 w S T O) (h1 : (⟨A, n, c, k, xs, v⟩ : Ent) ∈ S) (h2 : (⟨A', m, d, k', ys, u⟩ : Ent) ∈ S) (hk : k ≤ 500000) (hk' : k' ≤ 500000) (hu : u = 0) :
    Calls Tryz.prog 55 #[.agg #[.bool b, .slice A n c], .slice A' m d] w fun e w' => e = .returned (.tuple #[.agg #[.bool false, .slice none 0 0, .slice none 0 0], .int .i64 7]) ∧ SC w0 v0 w' S T O := by
  obtain ⟨a1, a2, rfl⟩ := h.get h1
  obtain ⟨b1, b2, rfl⟩ := h.get h2
  exact (fmake_zero (M := max k k') w b a1 b1 (by omega) (by omega) (by omega) hu).mono fun e w' ho => ⟨ho.1, h.below ho.2⟩
theorem wof_cb (h : SC w0 v0 w S T O) {r : Int} (h1 : -9223372036854775808 ≤ r) (h2 : r ≤ 9223372036854775807) (hb : sg r = b) :
    Calls Tryz.prog 53 #[.int .i64 r] w fun e w' => ∃ A n c, e = .returned (.agg #[.bool b, .slice A n c]) ∧ SC w0 v0 w' (⟨A, n, c, 1, limbs (mg r), mg r⟩ :: S) T (⟨A, n, c, 1, limbs (mg r), mg r⟩ :: O) := by
  subst hb
  exact wof_c h h1 h2
theorem SC.toRE2 {w0 w : World} {S O : List Ent} {T : List Blk} (h : SC w0 w0 w S T O) {M : Nat} {r : Rat} {j : Int} (h1 : (⟨A, n, c, k, xs, v⟩ : Ent) ∈ O) (h2 : (⟨A', m, d, k', ys, u⟩ : Ent) ∈ O) (s1 : (⟨A, n, c, k, xs, v⟩ : Ent) ∈ S) (s2 : (⟨A', m, d, k', ys, u⟩ : Ent) ∈ S) (hk : k ≤ M) (hk' : k' ≤ M) (hb : b = sg r.num) (hx : xs = limbs (mg r.num)) (hy : ys = limbs r.den) :
    OutRE w0 M r j (.returned (.tuple #[.agg #[.bool b, .slice A n c, .slice A' m d], .int .i64 j])) w := by
  have o1 := h.own _ h1
  have o2 := h.own _ h2
  have b1 := (h.get s1).2.1
  have b2 := (h.get s2).2.1
  simp only at o1 o2
  refine ⟨A, n, c, A', m, d, by rw [hb], by omega, by omega, ?_, ?_, h.bl⟩
  · rw [← hx]; exact o1
  · rw [← hy]; exact o2
theorem fover_pos (w : World) {x y : Int} (hx1 : -9223372036854775808 ≤ x) (hx2 : x ≤ 9223372036854775807) (hy1 : -9223372036854775808 ≤ y) (hy2 : y ≤ 9223372036854775807) (hy : 0 < y) {r : Rat} (hr0 : mkRat x y.toNat = r) : Calls Tryz.prog 30 #[.int .i64 x, .int .i64 y] w (OutRE w 1 r 0) := by
  have hsy := sg_f (Int.le_of_lt hy)
  have hmy : 0 < mg y := by rw [mg_f (Int.le_of_lt hy)]; exact hy
  have hr : rv (sg x) (mg x) (mg y) = r := by unfold rv; rw [iv_sm, mg_f (Int.le_of_lt hy)]; exact hr0
  have hS := Lib.hid (SC.start w)
  go_enter Tryz.func30, Tryz.ntmps30
  have h1 := (hS.out.boxed (vs := [.bool false, .slice none 0 0, .slice none 0 0]) (ty := 62) rfl rfl)
  try simp only [World.size_alloc] at h1
  obtain ⟨p0_0, p1_0, p2_0⟩ := h1.cs3 0 rfl
  clear h1
  go_wp2_with fail
  clear p0_0 p1_0 p2_0
  generalize hwa : World.alloc w _ = v1
  have h1 := (hS.out.boxed (vs := [.bool false, .slice none 0 0, .slice none 0 0]) (ty := 62) rfl hwa)
  clear hwa
  clear hS; have hS := Lib.hid h1; clear h1
  obtain ⟨x0_0, x1_0, x2_0⟩ := hS.out.cs3 0 rfl
  go_wp2_with fail
  go_at_call 53
  with_reducible refine (wof_c (r := x) hS.out hx1 hx2).mono ?_
  rintro e v2 ⟨A1, n1, c1, rfl, h1⟩
  clear x0_0 x1_0 x2_0
  clear hS; have hS := Lib.hid h1; clear h1
  obtain ⟨x0_0, x1_0, x2_0⟩ := hS.out.cs3 0 rfl
  go_wp2_with fail
  go_at_call 53
  with_reducible refine (wof_cb (r := y) (b := false) hS.out hy1 hy2 hsy).mono ?_
  rintro e v3 ⟨A2, n2, c2, rfl, h1⟩
  clear x0_0 x1_0 x2_0
  clear hS; have hS := Lib.hid h1; clear h1
  obtain ⟨x0_0, x1_0, x2_0⟩ := hS.out.cs3 0 rfl
  have h1 := ((hS.out.boxed (vs := [.bool (sg x), .slice A1 n1 c1]) (ty := 60) rfl rfl).boxed (vs := [.bool (false), .slice A2 n2 c2]) (ty := 60) rfl rfl)
  try simp only [World.size_alloc] at h1
  obtain ⟨p0_0, p1_0⟩ := h1.cs2 0 rfl
  obtain ⟨p0_1, p1_1⟩ := h1.cs2 1 rfl
  obtain ⟨p0_2, p1_2, p2_2⟩ := h1.cs3 2 rfl
  clear h1
  go_wp2_with fail
  clear x0_0 x1_0 x2_0
  clear p0_0 p1_0 p0_1 p1_1 p0_2 p1_2 p2_2
  generalize hwa : World.alloc (World.alloc v3 _) _ = v4
  have h1 := ((hS.out.boxed (vs := [.bool (sg x), .slice A1 n1 c1]) (ty := 60) rfl rfl).boxed (vs := [.bool (false), .slice A2 n2 c2]) (ty := 60) rfl hwa)
  simp only [World.size_alloc] at h1
  clear hwa
  clear hS; have hS := Lib.hid h1; clear h1
  obtain ⟨x0_0, x1_0⟩ := hS.out.cs2 0 rfl
  obtain ⟨x0_1, x1_1⟩ := hS.out.cs2 1 rfl
  obtain ⟨x0_2, x1_2, x2_2⟩ := hS.out.cs3 2 rfl
  go_wp2_with fail
  go_at_call 55
  with_reducible refine (fmk_c (M := 1) hS.out (by repeat (first | exact List.mem_cons_self | apply List.mem_cons_of_mem)) (by repeat (first | exact List.mem_cons_self | apply List.mem_cons_of_mem)) (by omega) (by omega) (by omega) hmy hr).mono ?_
  rintro e v5 ⟨A4, n4, c4, A5, n5, c5, rfl, h1⟩
  clear x0_0 x1_0 x0_1 x1_1 x0_2 x1_2 x2_2
  clear hS; have hS := Lib.hid h1; clear h1
  obtain ⟨x0_0, x1_0⟩ := hS.out.cs2 0 rfl
  obtain ⟨x0_1, x1_1⟩ := hS.out.cs2 1 rfl
  obtain ⟨x0_2, x1_2, x2_2⟩ := hS.out.cs3 2 rfl
  have hp0 := hS.out.put3 2 rfl (hS.out.ge_ 2 rfl) (.bool (sg r.num)) (.slice A4 n4 c4) (.slice A5 n5 c5)
  simp only [List.set_cons_zero, List.set_cons_succ] at hp0
  have fz0_0 := hS.out.frs 2 rfl 0
  have fz0_1 := hS.out.frs 2 rfl 1
  have fz0_2 := hS.out.frs 2 rfl 2
  have HPUT := Lib.hid hp0
  clear hp0
  go_wp2_with fail
  refine bodyPost_ret (results_B2 rfl rfl rfl (loadR (HPUT.out.box _ (List.mem_of_getElem? (i := 2) rfl)))) rfl ?_
  exact HPUT.out.toRE2 (r := r) (by repeat (first | exact List.mem_cons_self | apply List.mem_cons_of_mem)) (by repeat (first | exact List.mem_cons_self | apply List.mem_cons_of_mem)) (by repeat (first | exact List.mem_cons_self | apply List.mem_cons_of_mem)) (by repeat (first | exact List.mem_cons_self | apply List.mem_cons_of_mem)) (by omega) (by omega) rfl rfl rfl
theorem fover_neg (w : World) {x y : Int} (hx1 : -9223372036854775808 ≤ x) (hx2 : x ≤ 9223372036854775807) (hy1 : -9223372036854775808 ≤ y) (hy2 : y ≤ 9223372036854775807) (hy : y < 0) {r : Rat} (hr0 : mkRat (-x) (-y).toNat = r) : Calls Tryz.prog 30 #[.int .i64 x, .int .i64 y] w (OutRE w 1 r 0) := by
  have hsy := sg_t hy
  have hmy : 0 < mg y := by rw [mg_t (Int.le_of_lt hy)]; omega
  obtain ⟨z, hz0⟩ : ∃ z, -x = z := ⟨_, rfl⟩
  have hz : -(iv (sg x) (mg x)) = z := by rw [iv_sm]; exact hz0
  have hr : rv (sg z) (mg z) (mg y) = r := by unfold rv; rw [iv_sm, mg_t (Int.le_of_lt hy), ← hz0]; exact hr0
  have hS := Lib.hid (SC.start w)
  go_enter Tryz.func30, Tryz.ntmps30
  have h1 := (hS.out.boxed (vs := [.bool false, .slice none 0 0, .slice none 0 0]) (ty := 62) rfl rfl)
  try simp only [World.size_alloc] at h1
  obtain ⟨p0_0, p1_0, p2_0⟩ := h1.cs3 0 rfl
  clear h1
  go_wp2_with fail
  clear p0_0 p1_0 p2_0
  generalize hwa : World.alloc w _ = v1
  have h1 := (hS.out.boxed (vs := [.bool false, .slice none 0 0, .slice none 0 0]) (ty := 62) rfl hwa)
  clear hwa
  clear hS; have hS := Lib.hid h1; clear h1
  obtain ⟨x0_0, x1_0, x2_0⟩ := hS.out.cs3 0 rfl
  go_wp2_with fail
  go_at_call 53
  with_reducible refine (wof_c (r := x) hS.out hx1 hx2).mono ?_
  rintro e v2 ⟨A1, n1, c1, rfl, h1⟩
  clear x0_0 x1_0 x2_0
  clear hS; have hS := Lib.hid h1; clear h1
  obtain ⟨x0_0, x1_0, x2_0⟩ := hS.out.cs3 0 rfl
  go_wp2_with fail
  go_at_call 53
  with_reducible refine (wof_cb (r := y) (b := true) hS.out hy1 hy2 hsy).mono ?_
  rintro e v3 ⟨A2, n2, c2, rfl, h1⟩
  clear x0_0 x1_0 x2_0
  clear hS; have hS := Lib.hid h1; clear h1
  obtain ⟨x0_0, x1_0, x2_0⟩ := hS.out.cs3 0 rfl
  have h1 := ((hS.out.boxed (vs := [.bool (sg x), .slice A1 n1 c1]) (ty := 60) rfl rfl).boxed (vs := [.bool (true), .slice A2 n2 c2]) (ty := 60) rfl rfl)
  try simp only [World.size_alloc] at h1
  obtain ⟨p0_0, p1_0⟩ := h1.cs2 0 rfl
  obtain ⟨p0_1, p1_1⟩ := h1.cs2 1 rfl
  obtain ⟨p0_2, p1_2, p2_2⟩ := h1.cs3 2 rfl
  clear h1
  go_wp2_with fail
  clear x0_0 x1_0 x2_0
  clear p0_0 p1_0 p0_1 p1_1 p0_2 p1_2 p2_2
  generalize hwa : World.alloc (World.alloc v3 _) _ = v4
  have h1 := ((hS.out.boxed (vs := [.bool (sg x), .slice A1 n1 c1]) (ty := 60) rfl rfl).boxed (vs := [.bool (true), .slice A2 n2 c2]) (ty := 60) rfl hwa)
  simp only [World.size_alloc] at h1
  clear hwa
  clear hS; have hS := Lib.hid h1; clear h1
  obtain ⟨x0_0, x1_0⟩ := hS.out.cs2 0 rfl
  obtain ⟨x0_1, x1_1⟩ := hS.out.cs2 1 rfl
  obtain ⟨x0_2, x1_2, x2_2⟩ := hS.out.cs3 2 rfl
  go_wp2_with fail
  go_at_call 54
  with_reducible refine (neg_c hS.out (by repeat (first | exact List.mem_cons_self | apply List.mem_cons_of_mem)) (by omega) hz).mono ?_
  rintro e v5 ⟨A3, n3, c3, rfl, h1⟩
  clear x0_0 x1_0 x0_1 x1_1 x0_2 x1_2 x2_2
  clear hS; have hS := Lib.hid h1; clear h1
  obtain ⟨x0_0, x1_0⟩ := hS.out.cs2 0 rfl
  obtain ⟨x0_1, x1_1⟩ := hS.out.cs2 1 rfl
  obtain ⟨x0_2, x1_2, x2_2⟩ := hS.out.cs3 2 rfl
  have hp0 := hS.out.put2 1 rfl (hS.out.ge_ 1 rfl) (.bool (sg z)) (.slice A3 n3 c3)
  simp only [List.set_cons_zero, List.set_cons_succ] at hp0
  have fz0_0 := hS.out.frs 1 rfl 0
  have fz0_1 := hS.out.frs 1 rfl 1
  obtain ⟨p00_0, p01_0⟩ := hp0.cs2 0 rfl
  obtain ⟨p00_1, p01_1⟩ := hp0.cs2 1 rfl
  obtain ⟨p00_2, p01_2, p02_2⟩ := hp0.cs3 2 rfl
  have HPUT := Lib.hid hp0
  clear hp0
  go_wp2_with fail
  clear fz0_0 fz0_1
  clear p00_0 p01_0 p00_1 p01_1 p00_2 p01_2 p02_2
  clear x0_0 x1_0 x0_1 x1_1 x0_2 x1_2 x2_2
  have h1 := HPUT.out
  clear HPUT
  generalize hwa : World.setCell (World.setCell v5 _ _) _ _ = v6 at *
  clear hwa
  clear hS; have hS := Lib.hid h1; clear h1
  obtain ⟨x0_0, x1_0⟩ := hS.out.cs2 0 rfl
  obtain ⟨x0_1, x1_1⟩ := hS.out.cs2 1 rfl
  obtain ⟨x0_2, x1_2, x2_2⟩ := hS.out.cs3 2 rfl
  go_wp2_with fail
  go_at_call 55
  with_reducible refine (fmk_c (M := 1) hS.out (by repeat (first | exact List.mem_cons_self | apply List.mem_cons_of_mem)) (by repeat (first | exact List.mem_cons_self | apply List.mem_cons_of_mem)) (by omega) (by omega) (by omega) hmy hr).mono ?_
  rintro e v7 ⟨A4, n4, c4, A5, n5, c5, rfl, h1⟩
  clear x0_0 x1_0 x0_1 x1_1 x0_2 x1_2 x2_2
  clear hS; have hS := Lib.hid h1; clear h1
  obtain ⟨x0_0, x1_0⟩ := hS.out.cs2 0 rfl
  obtain ⟨x0_1, x1_1⟩ := hS.out.cs2 1 rfl
  obtain ⟨x0_2, x1_2, x2_2⟩ := hS.out.cs3 2 rfl
  have hp0 := hS.out.put3 2 rfl (hS.out.ge_ 2 rfl) (.bool (sg r.num)) (.slice A4 n4 c4) (.slice A5 n5 c5)
  simp only [List.set_cons_zero, List.set_cons_succ] at hp0
  have fz0_0 := hS.out.frs 2 rfl 0
  have fz0_1 := hS.out.frs 2 rfl 1
  have fz0_2 := hS.out.frs 2 rfl 2
  have HPUT := Lib.hid hp0
  clear hp0
  go_wp2_with fail
  refine bodyPost_ret (results_B2 rfl rfl rfl (loadR (HPUT.out.box _ (List.mem_of_getElem? (i := 2) rfl)))) rfl ?_
  exact HPUT.out.toRE2 (r := r) (by repeat (first | exact List.mem_cons_self | apply List.mem_cons_of_mem)) (by repeat (first | exact List.mem_cons_self | apply List.mem_cons_of_mem)) (by repeat (first | exact List.mem_cons_self | apply List.mem_cons_of_mem)) (by repeat (first | exact List.mem_cons_self | apply List.mem_cons_of_mem)) (by omega) (by omega) rfl rfl rfl
theorem fover_zero (w : World) {x : Int} (hx1 : -9223372036854775808 ≤ x) (hx2 : x ≤ 9223372036854775807) : Calls Tryz.prog 30 #[.int .i64 x, .int .i64 0] w (OutRZ w 7) := by
  have hS := Lib.hid (SC.start w)
  go_enter Tryz.func30, Tryz.ntmps30
  have h1 := (hS.out.boxed (vs := [.bool false, .slice none 0 0, .slice none 0 0]) (ty := 62) rfl rfl)
  try simp only [World.size_alloc] at h1
  obtain ⟨p0_0, p1_0, p2_0⟩ := h1.cs3 0 rfl
  clear h1
  go_wp2_with fail
  clear p0_0 p1_0 p2_0
  generalize hwa : World.alloc w _ = v1
  have h1 := (hS.out.boxed (vs := [.bool false, .slice none 0 0, .slice none 0 0]) (ty := 62) rfl hwa)
  clear hwa
  clear hS; have hS := Lib.hid h1; clear h1
  obtain ⟨x0_0, x1_0, x2_0⟩ := hS.out.cs3 0 rfl
  go_wp2_with fail
  go_at_call 53
  with_reducible refine (wof_c (r := x) hS.out hx1 hx2).mono ?_
  rintro e v2 ⟨A1, n1, c1, rfl, h1⟩
  clear x0_0 x1_0 x2_0
  clear hS; have hS := Lib.hid h1; clear h1
  obtain ⟨x0_0, x1_0, x2_0⟩ := hS.out.cs3 0 rfl
  go_wp2_with fail
  go_at_call 53
  with_reducible refine (wof_cb (r := 0) (b := false) hS.out (by decide) (by decide) sg_0).mono ?_
  rintro e v3 ⟨A2, n2, c2, rfl, h1⟩
  clear x0_0 x1_0 x2_0
  clear hS; have hS := Lib.hid h1; clear h1
  obtain ⟨x0_0, x1_0, x2_0⟩ := hS.out.cs3 0 rfl
  have h1 := ((hS.out.boxed (vs := [.bool (sg x), .slice A1 n1 c1]) (ty := 60) rfl rfl).boxed (vs := [.bool (false), .slice A2 n2 c2]) (ty := 60) rfl rfl)
  try simp only [World.size_alloc] at h1
  obtain ⟨p0_0, p1_0⟩ := h1.cs2 0 rfl
  obtain ⟨p0_1, p1_1⟩ := h1.cs2 1 rfl
  obtain ⟨p0_2, p1_2, p2_2⟩ := h1.cs3 2 rfl
  clear h1
  go_wp2_with fail
  clear x0_0 x1_0 x2_0
  clear p0_0 p1_0 p0_1 p1_1 p0_2 p1_2 p2_2
  generalize hwa : World.alloc (World.alloc v3 _) _ = v4
  have h1 := ((hS.out.boxed (vs := [.bool (sg x), .slice A1 n1 c1]) (ty := 60) rfl rfl).boxed (vs := [.bool (false), .slice A2 n2 c2]) (ty := 60) rfl hwa)
  simp only [World.size_alloc] at h1
  clear hwa
  clear hS; have hS := Lib.hid h1; clear h1
  obtain ⟨x0_0, x1_0⟩ := hS.out.cs2 0 rfl
  obtain ⟨x0_1, x1_1⟩ := hS.out.cs2 1 rfl
  obtain ⟨x0_2, x1_2, x2_2⟩ := hS.out.cs3 2 rfl
  go_wp2_with fail
  go_at_call 55
  with_reducible refine (fmk_z hS.out (by repeat (first | exact List.mem_cons_self | apply List.mem_cons_of_mem)) (by repeat (first | exact List.mem_cons_self | apply List.mem_cons_of_mem)) (by omega) (by omega) mg_0).mono ?_
  rintro e v5 ⟨rfl, h1⟩
  clear x0_0 x1_0 x0_1 x1_1 x0_2 x1_2 x2_2
  clear hS; have hS := Lib.hid h1; clear h1
  obtain ⟨x0_0, x1_0⟩ := hS.out.cs2 0 rfl
  obtain ⟨x0_1, x1_1⟩ := hS.out.cs2 1 rfl
  obtain ⟨x0_2, x1_2, x2_2⟩ := hS.out.cs3 2 rfl
  have hp0 := hS.out.put3 2 rfl (hS.out.ge_ 2 rfl) (.bool false) (.slice none 0 0) (.slice none 0 0)
  simp only [List.set_cons_zero, List.set_cons_succ] at hp0
  have fz0_0 := hS.out.frs 2 rfl 0
  have fz0_1 := hS.out.frs 2 rfl 1
  have fz0_2 := hS.out.frs 2 rfl 2
  have HPUT := Lib.hid hp0
  clear hp0
  go_wp2_with fail
  refine bodyPost_ret (results_B2 rfl rfl rfl (loadR (HPUT.out.box _ (List.mem_of_getElem? (i := 2) rfl)))) rfl ?_
  exact ⟨rfl, HPUT.out.bl⟩
end
end Go.Proofs.YtfdpddlefobcpaaGreatDoor
