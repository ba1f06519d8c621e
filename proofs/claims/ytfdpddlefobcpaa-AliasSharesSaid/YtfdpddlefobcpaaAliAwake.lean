/- The examples of layer 11 as a call (mk_aliawake.py). -/
import Derived.Test.YtfdpddlefobcpaaAliTa
import Derived.Test.YtfdpddlefobcpaaRatIs
namespace Go.Proofs.Ytfdpddlefobcpaa
open Go.RowKit
set_option linter.unusedVariables false
set_option linter.unusedSimpArgs false
set_option maxRecDepth 20000
open N
set_option maxHeartbeats 4000000 in
theorem awake11 (w : World) : Calls Try.prog 6 #[] w fun e w' => e = .returned (.bool true) ∧ Below w.heap.size w w' := by
  obtain ⟨ws, hws⟩ : ∃ ws : List Int, [1, 3] = ws := ⟨_, rfl⟩
  have HW := Lib.hid (show Wt ws by rw [← hws]; exact ⟨by decide, by decide, by decide, by decide⟩)
  have HM := Lib.hid (show pre ws ws.length = ((4 : Nat) : Int) by rw [← hws]; decide)
  have HM4 := Lib.hid (show pre ws ws.length = (4 : Int) by rw [← hws]; decide)
  have HLN := Lib.hid (show ws.length = 2 by rw [← hws]; rfl)
  have HC0 := Lib.hid (show cutA ws 0 = 2 by rw [← hws]; decide)
  have HC1 := Lib.hid (show cutA ws 1 = 4 by rw [← hws]; decide)
  have HO0 := Lib.hid (show ((othA ws 0 : Nat) : Int) = 1 by rw [← hws]; decide)
  have HO1 := Lib.hid (show ((othA ws 1 : Nat) : Int) = 1 by rw [← hws]; decide)
  have HP0 := Lib.hid (show ((pkA (cutA ws) (othA ws) 0 1 : Nat) : Int) = 0 by rw [← hws]; decide)
  have HP1 := Lib.hid (show ((pkA (cutA ws) (othA ws) 0 2 : Nat) : Int) = 1 by rw [← hws]; decide)
  have HX := Lib.hid (show ws[1]? = some 3 by rw [← hws]; rfl)
  have HI := Lib.hid (show Il (w.alloc (.cells #[.int .i64 1, .int .i64 3] 2)) (some ⟨w.heap.size, 0, none⟩) 2 2 ws by rw [← hws]; exact il_two (by decide) (by decide))
  have HB0 := Lib.hid ((Below.refl _ w).alloc (Nat.le_refl _) (.cells #[.int .i64 1, .int .i64 3] 2))
  clear hws
  go_enter Try.func6, Try.ntmps6
  go_wp2_with fail
  generalize hwa : World.alloc w _ = v0
  rw [hwa] at HI HB0
  clear hwa
  go_at_call 7
  refine (anew_ok HI.out (mayW_zero.2 HW.out)).mono ?_
  rintro e v1 ⟨t, g1, g2, rfl, hT, _, _, _, hb⟩
  have HT0 := Lib.hid hT
  have HB1 := Lib.hid (HB0.out.trans (hb.mono HB0.out.size))
  clear hT hb
  go_wp2_with fail
  go_at_call 7
  refine (anew_no (ws := []) (z := 4) Il.none (by decide) (by decide)).mono ?_
  rintro e v2 ⟨rfl, hb⟩
  have HT1 := Lib.hid (HT0.out.on hb)
  have HB2 := Lib.hid (HB1.out.trans (hb.mono HB1.out.size))
  have HI2 := Lib.hid (show Il (v2.alloc (.cells #[.int .i64 0, .int .i64 0] 2)) (some ⟨v2.heap.size, 0, none⟩) 2 2 [0, 0] from il_two (by decide) (by decide))
  have hb3 := (Below.refl _ v2).alloc (Nat.le_refl _) (.cells #[.int .i64 0, .int .i64 0] 2)
  have HT2 := Lib.hid (HT1.out.on hb3)
  have HB3 := Lib.hid (HB2.out.trans (hb3.mono HB2.out.size))
  clear hb hb3
  go_wp2_with fail
  generalize hwa : World.alloc v2 _ = v3
  rw [hwa] at HI2 HT2 HB3
  clear hwa
  go_at_call 7
  refine (anew_no HI2.out (z := 7) (by decide) (by decide)).mono ?_
  rintro e v4 ⟨rfl, hb⟩
  have HT := Lib.hid (HT2.out.on hb)
  have HB4 := Lib.hid (HB3.out.trans (hb.mono HB3.out.size))
  clear hb HT0 HT1 HT2 HB0 HB1 HB2 HB3
  have hS := Lib.hid (SC.fresh11 HB4.out)
  go_wp2_with fail
  go_at_call 11
  with_reducible refine (ta_cut (i := 0) (z := 0) (HT.out.on hS.out.bl) (by rw [HLN.out]; decide) HC0.out rfl).mono ?_
  rintro e v5 ⟨rfl, rfl⟩
  have h1 := hS.out
  clear hS; have hS := Lib.hid h1; clear h1
  go_wp2_with fail
  go_at_call 12
  with_reducible refine (ta_oth (i := 0) (z := 0) (HT.out.on hS.out.bl) (by rw [HLN.out]; decide) HO0.out rfl).mono ?_
  rintro e v6 ⟨rfl, rfl⟩
  have h1 := hS.out
  clear hS; have hS := Lib.hid h1; clear h1
  go_wp2_with fail
  go_at_call 11
  with_reducible refine (ta_cut (i := 1) (z := 1) (HT.out.on hS.out.bl) (by rw [HLN.out]; decide) HC1.out rfl).mono ?_
  rintro e v7 ⟨rfl, rfl⟩
  have h1 := hS.out
  clear hS; have hS := Lib.hid h1; clear h1
  go_wp2_with fail
  go_at_call 12
  with_reducible refine (ta_oth (i := 1) (z := 1) (HT.out.on hS.out.bl) (by rw [HLN.out]; decide) HO1.out rfl).mono ?_
  rintro e v8 ⟨rfl, rfl⟩
  have h1 := hS.out
  clear hS; have hS := Lib.hid h1; clear h1
  go_wp2_with fail
  go_at_call 16
  with_reducible refine (ta_pick (i := 0) (z := 0) (r := 1) (HT.out.on hS.out.bl) (by rw [HLN.out]; decide) (by rw [HM4.out]; decide) HP0.out rfl).mono ?_
  rintro e v9 ⟨rfl, rfl⟩
  have h1 := hS.out
  clear hS; have hS := Lib.hid h1; clear h1
  go_wp2_with fail
  go_at_call 16
  with_reducible refine (ta_pick (i := 0) (z := 0) (r := 2) (HT.out.on hS.out.bl) (by rw [HLN.out]; decide) (by rw [HM4.out]; decide) HP1.out rfl).mono ?_
  rintro e v10 ⟨rfl, rfl⟩
  have h1 := hS.out
  clear hS; have hS := Lib.hid h1; clear h1
  obtain ⟨q1, hq1⟩ : ∃ q : Rat, mkRat 3 4 = q := ⟨_, rfl⟩
  have Hq1 := Lib.hid hq1
  clear hq1
  go_wp2_with fail
  go_at_call 13
  with_reducible refine (ta_share (i := 1) (z := 1) (x := 3) (s := 4) (q := q1) (HT.out.on hS.out.bl) HW.out HX.out HM4.out (by rw [← Hq1.out]; decide +kernel) rfl).mono ?_
  rintro e v11 ho
  obtain ⟨A11, n11, c11, A12, n12, c12, rfl, h1⟩ := hS.out.rRE (Nat.le_refl _) ho
  clear hS; have hS := Lib.hid h1; clear h1
  have h1 := (hS.out.boxed (vs := [.bool (sg (q1).num), .slice A11 n11 c11, .slice A12 n12 c12]) (ty := 42) rfl rfl)
  try simp only [World.size_alloc] at h1
  obtain ⟨p0_0, p1_0, p2_0⟩ := h1.cs3 0 rfl
  clear h1
  go_wp2_with fail
  clear p0_0 p1_0 p2_0
  generalize hwa : World.alloc v11 _ = v12
  have h1 := (hS.out.boxed (vs := [.bool (sg (q1).num), .slice A11 n11 c11, .slice A12 n12 c12]) (ty := 42) rfl hwa)
  have hsz : v12.heap.size = v11.heap.size + 1 := by rw [← hwa]; simp only [World.size_alloc]
  try rw [← hsz]
  clear hwa hsz
  clear hS; have hS := Lib.hid h1; clear h1
  obtain ⟨x0_0, x1_0, x2_0⟩ := hS.out.cs3 0 rfl
  go_wp2_with fail
  go_at_call 17
  with_reducible refine (fover_pos (x := 3) (y := 4) (r := q1) _ (by decide) (by decide) (by decide) (by decide) (by decide) (by rw [← Hq1.out]; decide +kernel)).mono ?_
  rintro e v13 ho
  clear x0_0 x1_0 x2_0
  obtain ⟨A13, n13, c13, A14, n14, c14, rfl, h1⟩ := hS.out.rRE (Nat.le_refl _) ho
  clear hS; have hS := Lib.hid h1; clear h1
  obtain ⟨x0_0, x1_0, x2_0⟩ := hS.out.cs3 0 rfl
  have h1 := (hS.out.boxed (vs := [.bool (sg (q1).num), .slice A13 n13 c13, .slice A14 n14 c14]) (ty := 42) rfl rfl)
  try simp only [World.size_alloc] at h1
  obtain ⟨p0_0, p1_0, p2_0⟩ := h1.cs3 0 rfl
  obtain ⟨p0_1, p1_1, p2_1⟩ := h1.cs3 1 rfl
  clear h1
  go_wp2_with fail
  clear x0_0 x1_0 x2_0
  clear p0_0 p1_0 p2_0 p0_1 p1_1 p2_1
  generalize hwa : World.alloc v13 _ = v14
  have h1 := (hS.out.boxed (vs := [.bool (sg (q1).num), .slice A13 n13 c13, .slice A14 n14 c14]) (ty := 42) rfl hwa)
  have hsz : v14.heap.size = v13.heap.size + 1 := by rw [← hwa]; simp only [World.size_alloc]
  try rw [← hsz]
  clear hwa hsz
  clear hS; have hS := Lib.hid h1; clear h1
  obtain ⟨x0_0, x1_0, x2_0⟩ := hS.out.cs3 0 rfl
  obtain ⟨x0_1, x1_1, x2_1⟩ := hS.out.cs3 1 rfl
  obtain ⟨q2, hq2⟩ : ∃ q : Rat, mkRat 3 1 = q := ⟨_, rfl⟩
  have Hq2 := Lib.hid hq2
  clear hq2
  obtain ⟨q3, hq3⟩ : ∃ q : Rat, cR 2 = q := ⟨_, rfl⟩
  have Hq3 := Lib.hid hq3
  clear hq3
  obtain ⟨q4, hq4⟩ : ∃ q : Rat, cR 4 = q := ⟨_, rfl⟩
  have Hq4 := Lib.hid hq4
  clear hq4
  have HQ := Lib.hid (show q3 + q4 = q2 by rw [← Hq2.out, ← Hq3.out, ← Hq4.out]; decide +kernel)
  go_wp2_with (first
    | (go_at_call 15; (with_reducible refine (is9_told (r := q1) (r' := q1) (k := 1) (k' := 1) hS.out (by repeat (first | exact List.mem_cons_self | apply List.mem_cons_of_mem)) (by repeat (first | exact List.mem_cons_self | apply List.mem_cons_of_mem)) (by repeat (first | exact List.mem_cons_self | apply List.mem_cons_of_mem)) (by repeat (first | exact List.mem_cons_self | apply List.mem_cons_of_mem)) rfl).mono ?_); rintro e w' ⟨rfl, h1⟩; clear x0_0 x1_0 x2_0 x0_1 x1_1 x2_1; clear hS; have hS := Lib.hid h1; clear h1; obtain ⟨x0_0, x1_0, x2_0⟩ := hS.out.cs3 0 rfl; obtain ⟨x0_1, x1_1, x2_1⟩ := hS.out.cs3 1 rfl)
    | (go_at_call 15; (with_reducible refine (is9_told (r := q2) (r' := q2) (k := 61800) (k' := 1) hS.out (by repeat (first | exact List.mem_cons_self | apply List.mem_cons_of_mem)) (by repeat (first | exact List.mem_cons_self | apply List.mem_cons_of_mem)) (by repeat (first | exact List.mem_cons_self | apply List.mem_cons_of_mem)) (by repeat (first | exact List.mem_cons_self | apply List.mem_cons_of_mem)) rfl).mono ?_); rintro e w' ⟨rfl, h1⟩; clear x0_0 x1_0 x2_0 x0_1 x1_1 x2_1; clear hS; have hS := Lib.hid h1; clear h1; obtain ⟨x0_0, x1_0, x2_0⟩ := hS.out.cs3 0 rfl; obtain ⟨x0_1, x1_1, x2_1⟩ := hS.out.cs3 1 rfl)
    | (go_at_call 18; (with_reducible refine (ta_cost (m := 4) (r := q2) (r0 := q3) (r1 := q4) (HT.out.on hS.out.bl) HW.out HM.out (by rw [HLN.out]; exact Hq3.out) Hq4.out HQ.out).mono ?_); rintro e w' ho; obtain ⟨A15, n15, c15, A16, n16, c16, rfl, h1⟩ := hS.out.rR (Nat.le_refl _) ho; clear x0_0 x1_0 x2_0 x0_1 x1_1 x2_1; clear hS; have hS := Lib.hid h1; clear h1; obtain ⟨x0_0, x1_0, x2_0⟩ := hS.out.cs3 0 rfl; obtain ⟨x0_1, x1_1, x2_1⟩ := hS.out.cs3 1 rfl)
    | (go_at_call 19; (with_reducible refine ((show Calls Try.prog 19 #[.int .i64 3] _ (OutR _ 1 q2) by rw [← Hq2.out]; exact fof_any _ 3 (by decide) (by decide))).mono ?_); rintro e w' ho; obtain ⟨A17, n17, c17, A18, n18, c18, rfl, h1⟩ := hS.out.rR (Nat.le_refl _) ho; clear x0_0 x1_0 x2_0 x0_1 x1_1 x2_1; clear hS; have hS := Lib.hid h1; clear h1; obtain ⟨x0_0, x1_0, x2_0⟩ := hS.out.cs3 0 rfl; obtain ⟨x0_1, x1_1, x2_1⟩ := hS.out.cs3 1 rfl)
    | (go_at_call 10; (with_reducible refine (ta_len (HT.out.on hS.out.bl) HLN.out).mono ?_); rintro e w' ⟨rfl, rfl⟩; have h1 := hS.out; clear x0_0 x1_0 x2_0 x0_1 x1_1 x2_1; clear hS; have hS := Lib.hid h1; clear h1; obtain ⟨x0_0, x1_0, x2_0⟩ := hS.out.cs3 0 rfl; obtain ⟨x0_1, x1_1, x2_1⟩ := hS.out.cs3 1 rfl)
    | (go_at_call 9; (with_reducible refine (ta_sum (HT.out.on hS.out.bl) HM4.out).mono ?_); rintro e w' ⟨rfl, rfl⟩; have h1 := hS.out; clear x0_0 x1_0 x2_0 x0_1 x1_1 x2_1; clear hS; have hS := Lib.hid h1; clear h1; obtain ⟨x0_0, x1_0, x2_0⟩ := hS.out.cs3 0 rfl; obtain ⟨x0_1, x1_1, x2_1⟩ := hS.out.cs3 1 rfl))
  go_wp2
  go_ret
  exact ⟨rfl, hS.out.st.1⟩
end Go.Proofs.Ytfdpddlefobcpaa
