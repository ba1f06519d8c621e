/- The law's own call 'by', and the examples of layer 9 as a call (mk_belawake.py). -/
import Derived.Test.YtfmhghemlcbapaaGreatDoorBelCost
import Derived.Test.YtfmhghemlcbapaaGreatDoorRatIs
import Derived.Deep.RegionHeld3
namespace Go.Proofs.YtfmhghemlcbapaaGreatDoor
open Go.RowKit
set_option linter.unusedVariables false
set_option linter.unusedSimpArgs false
set_option maxRecDepth 20000
open N
theorem grown_below {w w1 w2 : World} {g : Nat} (hb : Below w.heap.size w w1) (hg : w.heap.size ≤ g) (h : w1.grownBy w2 (some g)) : Below w.heap.size w w2 :=
  hb.grown h hb.size (fun k e => by injection e with e; rw [← e]; exact hg)
/-- what is drawn below m by a string of bits, and how many are read -/
theorem by_yes (w : World) {l : List UInt8} {m v a : Nat} {gd o : Bool} (hB : isB l = true) (hm : m < 18446744073709551616) (hd : dr l 0 false m = (v, gd, a, o)) :
    Calls Tryz.prog 28 #[.string ⟨l.toArray⟩, .int .u64 (m : Nat)] w fun e w' => e = .returned (.tuple #[.int .u64 (v : Nat), .int .i64 (a : Nat), .bool gd]) ∧ Below w.heap.size w w' := by
  have HN := Lib.hid (new_yes w l hB)
  have HD := Lib.hid (fun (W : World) (g : Nat) (hc : CuOk W g l 0 false) => draw_any hc hB (Nat.zero_le _) hm hd)
  clear hm hd
  cases gd with
  | true =>
    go_enter Tryz.func28, Tryz.ntmps28
    go_wp2_with (first
      | (go_at_call 14; refine HN.out.mono ?_; rintro e w1 ⟨g, rfl, hg1, hc1, hb1⟩; have HC1 := Lib.hid hc1; clear hc1)
      | (go_at_call 15; refine (HD.out _ _ HC1.out).mono ?_; rintro e w2 ⟨rfl, hg2, hc2⟩; have HC2 := Lib.hid hc2; have HB2 := Lib.hid (grown_below hb1 hg1 hg2); clear hc2 hb1 hg1 hg2)
      | (go_at_call 16; refine (at_any HC2.out).mono ?_; rintro e w3 ⟨rfl, hb3⟩; have HB3 := Lib.hid (HB2.out.trans (hb3.mono HB2.out.size)); clear hb3))
    go_ret3
    exact ⟨rfl, HB3.out⟩
  | false =>
    go_enter Tryz.func28, Tryz.ntmps28
    go_wp2_with (first
      | (go_at_call 14; refine HN.out.mono ?_; rintro e w1 ⟨g, rfl, hg1, hc1, hb1⟩; have HC1 := Lib.hid hc1; clear hc1)
      | (go_at_call 15; refine (HD.out _ _ HC1.out).mono ?_; rintro e w2 ⟨rfl, hg2, hc2⟩; have HC2 := Lib.hid hc2; have HB2 := Lib.hid (grown_below hb1 hg1 hg2); clear hc2 hb1 hg1 hg2)
      | (go_at_call 16; refine (at_any HC2.out).mono ?_; rintro e w3 ⟨rfl, hb3⟩; have HB3 := Lib.hid (HB2.out.trans (hb3.mono HB2.out.size)); clear hb3))
    go_ret3
    exact ⟨rfl, HB3.out⟩
theorem by_no (w : World) {l : List UInt8} {m : Nat} (hl : l.length ≤ maxLen) (hB : isB l = false) (hm : m < 18446744073709551616) :
    Calls Tryz.prog 28 #[.string ⟨l.toArray⟩, .int .u64 (m : Nat)] w fun e w' => e = .returned (.tuple #[.int .u64 0, .int .i64 0, .bool false]) ∧ Below w.heap.size w w' := by
  have HN := Lib.hid (new_no w l hl hB)
  have HD := Lib.hid (fun W : World => draw_nil W m hm)
  clear hm hB hl
  go_enter Tryz.func28, Tryz.ntmps28
  go_wp2_with (first
    | (go_at_call 14; refine HN.out.mono ?_; rintro e w1 ⟨rfl, hb1⟩)
    | (go_at_call 15; refine (HD.out _).mono ?_; rintro e w2 ⟨rfl, hb2⟩)
    | (go_at_call 16; refine (at_nil _).mono ?_; rintro e w3 ⟨rfl, hb3⟩))
  go_ret3
  exact ⟨rfl, hb1.trans ((hb2.trans (hb3.mono hb2.size)).mono hb1.size)⟩
theorem by_lit (w : World) {l : List UInt8} {m v a : Nat} {gd o : Bool} {x y z : Int} (hB : isB l = true) (hm : m < 18446744073709551616) (hx : (m : Int) = x) (hy : (v : Int) = y) (hz : (a : Int) = z) (hd : dr l 0 false m = (v, gd, a, o)) :
    Calls Tryz.prog 28 #[.string ⟨l.toArray⟩, .int .u64 x] w fun e w' => e = .returned (.tuple #[.int .u64 y, .int .i64 z, .bool gd]) ∧ Below w.heap.size w w' := by
  subst hx hy hz
  exact by_yes w hB hm hd
theorem cost_lit (w : World) {m : Nat} {x : Int} {r : Rat} (hx : (m : Int) = x) (hm : m < 18446744073709551616) (h0 : 0 < m) (hr : cR m = r) : Calls Tryz.prog 7 #[.int .u64 x] w (OutRE w 1030 r 0) := by
  subst hx hr
  exact cost_any w m hm h0
theorem width_lit (w : World) {m : Nat} {x y : Int} (hx : (m : Int) = x) (hm : m < 18446744073709551616) (hy : (wd m : Int) = y) : Calls Tryz.prog 9 #[.int .u64 x] w fun e w' => e = .returned (.int .i64 y) ∧ Below w.heap.size w w' := by
  subst hx hy
  exact width_any w m hm
theorem fof9 (w : World) {r : Rat} (hr : mkRat 4 1 = r) : Calls Tryz.prog 22 #[.int .i64 4] w (OutR w 1 r) := by
  subst hr
  exact fof_any w 4 (by decide) (by decide)
set_option maxHeartbeats 4000000 in
theorem awake9 (w : World) : Calls Tryz.prog 12 #[] w fun e w' => e = .returned (.bool true) ∧ Below w.heap.size w w' := by
  have hS := Lib.hid (SC.start w)
  go_enter Tryz.func12, Tryz.ntmps12
  go_wp2_with fail
  go_at_call 28
  with_reducible refine (by_lit _ (l := [49, 48, 49]) (m := 6) (v := 5) (a := 3) (gd := true) (o := false) (x := 6) (y := 5) (z := 3) (by decide) (by decide) rfl rfl rfl (by decide +kernel)).mono ?_
  rintro e v1 ⟨rfl, hb⟩
  have h1 := hS.out.below hb
  clear hb
  clear hS; have hS := Lib.hid h1; clear h1
  go_wp2_with fail
  go_at_call 28
  with_reducible refine (by_lit _ (l := [49, 49, 48, 49, 49, 49, 48, 49]) (m := 6) (v := 0) (a := 6) (gd := false) (o := true) (x := 6) (y := 0) (z := 6) (by decide) (by decide) rfl rfl rfl (by decide +kernel)).mono ?_
  rintro e v2 ⟨rfl, hb⟩
  have h1 := hS.out.below hb
  clear hb
  clear hS; have hS := Lib.hid h1; clear h1
  go_wp2_with fail
  go_at_call 28
  with_reducible refine (by_lit _ (l := [49, 49, 48, 48, 48, 49]) (m := 6) (v := 1) (a := 6) (gd := true) (o := false) (x := 6) (y := 1) (z := 6) (by decide) (by decide) rfl rfl rfl (by decide +kernel)).mono ?_
  rintro e v3 ⟨rfl, hb⟩
  have h1 := hS.out.below hb
  clear hb
  clear hS; have hS := Lib.hid h1; clear h1
  go_wp2_with fail
  go_at_call 28
  with_reducible refine (by_lit _ (l := []) (m := 1) (v := 0) (a := 0) (gd := true) (o := false) (x := 1) (y := 0) (z := 0) (by decide) (by decide) rfl rfl rfl (by decide +kernel)).mono ?_
  rintro e v4 ⟨rfl, hb⟩
  have h1 := hS.out.below hb
  clear hb
  clear hS; have hS := Lib.hid h1; clear h1
  obtain ⟨q1, hq1⟩ : ∃ q : Rat, cR 6 = q := ⟨_, rfl⟩
  have Hq1 := Lib.hid hq1
  clear hq1
  go_wp2_with fail
  go_at_call 7
  with_reducible refine (cost_lit _ (m := 6) (x := 6) (r := q1) rfl (by decide) (by decide) Hq1.out).mono ?_
  rintro e v5 ho
  obtain ⟨A11, n11, c11, A12, n12, c12, rfl, h1⟩ := hS.out.rRE (Nat.le_refl _) ho
  clear hS; have hS := Lib.hid h1; clear h1
  have h1 := (hS.out.boxed (vs := [.bool (sg (q1).num), .slice A11 n11 c11, .slice A12 n12 c12]) (ty := 28) rfl rfl)
  try simp only [World.size_alloc] at h1
  obtain ⟨p0_0, p1_0, p2_0⟩ := h1.cs3 0 rfl
  clear h1
  go_wp2_with fail
  clear p0_0 p1_0 p2_0
  generalize hwa : World.alloc v5 _ = v6
  have h1 := (hS.out.boxed (vs := [.bool (sg (q1).num), .slice A11 n11 c11, .slice A12 n12 c12]) (ty := 28) rfl hwa)
  have hsz : v6.heap.size = v5.heap.size + 1 := by rw [← hwa]; simp only [World.size_alloc]
  try rw [← hsz]
  clear hwa hsz
  clear hS; have hS := Lib.hid h1; clear h1
  obtain ⟨x0_0, x1_0, x2_0⟩ := hS.out.cs3 0 rfl
  obtain ⟨q2, hq2⟩ : ∃ q : Rat, cR 3 = q := ⟨_, rfl⟩
  have Hq2 := Lib.hid hq2
  clear hq2
  go_wp2_with fail
  go_at_call 7
  with_reducible refine (cost_lit _ (m := 3) (x := 3) (r := q2) rfl (by decide) (by decide) Hq2.out).mono ?_
  rintro e v7 ho
  clear x0_0 x1_0 x2_0
  obtain ⟨A13, n13, c13, A14, n14, c14, rfl, h1⟩ := hS.out.rRE (Nat.le_refl _) ho
  clear hS; have hS := Lib.hid h1; clear h1
  obtain ⟨x0_0, x1_0, x2_0⟩ := hS.out.cs3 0 rfl
  have h1 := (hS.out.boxed (vs := [.bool (sg (q2).num), .slice A13 n13 c13, .slice A14 n14 c14]) (ty := 28) rfl rfl)
  try simp only [World.size_alloc] at h1
  obtain ⟨p0_0, p1_0, p2_0⟩ := h1.cs3 0 rfl
  obtain ⟨p0_1, p1_1, p2_1⟩ := h1.cs3 1 rfl
  clear h1
  go_wp2_with fail
  clear x0_0 x1_0 x2_0
  clear p0_0 p1_0 p2_0 p0_1 p1_1 p2_1
  generalize hwa : World.alloc v7 _ = v8
  have h1 := (hS.out.boxed (vs := [.bool (sg (q2).num), .slice A13 n13 c13, .slice A14 n14 c14]) (ty := 28) rfl hwa)
  have hsz : v8.heap.size = v7.heap.size + 1 := by rw [← hwa]; simp only [World.size_alloc]
  try rw [← hsz]
  clear hwa hsz
  clear hS; have hS := Lib.hid h1; clear h1
  obtain ⟨x0_0, x1_0, x2_0⟩ := hS.out.cs3 0 rfl
  obtain ⟨x0_1, x1_1, x2_1⟩ := hS.out.cs3 1 rfl
  go_wp2_with fail
  go_at_call 7
  with_reducible refine (cost_zero _).mono ?_
  rintro e v9 ho
  clear x0_0 x1_0 x2_0 x0_1 x1_1 x2_1
  obtain ⟨rfl, h1⟩ := hS.out.tRZ ho
  clear hS; have hS := Lib.hid h1; clear h1
  obtain ⟨x0_0, x1_0, x2_0⟩ := hS.out.cs3 0 rfl
  obtain ⟨x0_1, x1_1, x2_1⟩ := hS.out.cs3 1 rfl
  have h1 := (hS.out.boxed (vs := [.bool false, .slice none 0 0, .slice none 0 0]) (ty := 28) rfl rfl)
  try simp only [World.size_alloc] at h1
  obtain ⟨p0_0, p1_0, p2_0⟩ := h1.cs3 0 rfl
  obtain ⟨p0_1, p1_1, p2_1⟩ := h1.cs3 1 rfl
  obtain ⟨p0_2, p1_2, p2_2⟩ := h1.cs3 2 rfl
  clear h1
  go_wp2_with fail
  clear x0_0 x1_0 x2_0 x0_1 x1_1 x2_1
  clear p0_0 p1_0 p2_0 p0_1 p1_1 p2_1 p0_2 p1_2 p2_2
  generalize hwa : World.alloc v9 _ = v10
  have h1 := (hS.out.boxed (vs := [.bool false, .slice none 0 0, .slice none 0 0]) (ty := 28) rfl hwa)
  have hsz : v10.heap.size = v9.heap.size + 1 := by rw [← hwa]; simp only [World.size_alloc]
  try rw [← hsz]
  clear hwa hsz
  clear hS; have hS := Lib.hid h1; clear h1
  obtain ⟨x0_0, x1_0, x2_0⟩ := hS.out.cs3 0 rfl
  obtain ⟨x0_1, x1_1, x2_1⟩ := hS.out.cs3 1 rfl
  obtain ⟨x0_2, x1_2, x2_2⟩ := hS.out.cs3 2 rfl
  obtain ⟨q3, hq3⟩ : ∃ q : Rat, mkRat 8 3 = q := ⟨_, rfl⟩
  have Hq3 := Lib.hid hq3
  clear hq3
  go_wp2_with fail
  go_at_call 29
  with_reducible refine (fover_pos _ (x := 8) (y := 3) (r := q3) (by decide) (by decide) (by decide) (by decide) (by decide) (by rw [← Hq3.out]; decide +kernel)).mono ?_
  rintro e v11 ho
  clear x0_0 x1_0 x2_0 x0_1 x1_1 x2_1 x0_2 x1_2 x2_2
  obtain ⟨A15, n15, c15, A16, n16, c16, rfl, h1⟩ := hS.out.rRE (Nat.le_refl _) ho
  clear hS; have hS := Lib.hid h1; clear h1
  obtain ⟨x0_0, x1_0, x2_0⟩ := hS.out.cs3 0 rfl
  obtain ⟨x0_1, x1_1, x2_1⟩ := hS.out.cs3 1 rfl
  obtain ⟨x0_2, x1_2, x2_2⟩ := hS.out.cs3 2 rfl
  have h1 := (hS.out.boxed (vs := [.bool (sg (q3).num), .slice A15 n15 c15, .slice A16 n16 c16]) (ty := 28) rfl rfl)
  try simp only [World.size_alloc] at h1
  obtain ⟨p0_0, p1_0, p2_0⟩ := h1.cs3 0 rfl
  obtain ⟨p0_1, p1_1, p2_1⟩ := h1.cs3 1 rfl
  obtain ⟨p0_2, p1_2, p2_2⟩ := h1.cs3 2 rfl
  obtain ⟨p0_3, p1_3, p2_3⟩ := h1.cs3 3 rfl
  clear h1
  go_wp2_with fail
  clear x0_0 x1_0 x2_0 x0_1 x1_1 x2_1 x0_2 x1_2 x2_2
  clear p0_0 p1_0 p2_0 p0_1 p1_1 p2_1 p0_2 p1_2 p2_2 p0_3 p1_3 p2_3
  generalize hwa : World.alloc v11 _ = v12
  have h1 := (hS.out.boxed (vs := [.bool (sg (q3).num), .slice A15 n15 c15, .slice A16 n16 c16]) (ty := 28) rfl hwa)
  have hsz : v12.heap.size = v11.heap.size + 1 := by rw [← hwa]; simp only [World.size_alloc]
  try rw [← hsz]
  clear hwa hsz
  clear hS; have hS := Lib.hid h1; clear h1
  obtain ⟨x0_0, x1_0, x2_0⟩ := hS.out.cs3 0 rfl
  obtain ⟨x0_1, x1_1, x2_1⟩ := hS.out.cs3 1 rfl
  obtain ⟨x0_2, x1_2, x2_2⟩ := hS.out.cs3 2 rfl
  obtain ⟨x0_3, x1_3, x2_3⟩ := hS.out.cs3 3 rfl
  obtain ⟨q4, hq4⟩ : ∃ q : Rat, mkRat 4 1 = q := ⟨_, rfl⟩
  have Hq4 := Lib.hid hq4
  clear hq4
  go_wp2_with fail
  clear x0_0 x1_0 x2_0 x0_1 x1_1 x2_1 x0_2 x1_2 x2_2 x0_3 x1_3 x2_3
  have h1 := hS.out.drew
  clear hS; have hS := Lib.hid h1; clear h1
  try simp only [List.append_eq, List.cons_append, List.nil_append]
  go_region_held3 (fun W => (W.cell? ⟨v11.heap.size, 0, none⟩ = some (.bool (sg (q3).num)) ∧ W.cell? ⟨v11.heap.size, 1, none⟩ = some (.slice A15 n15 c15) ∧ W.cell? ⟨v11.heap.size, 2, none⟩ = some (.slice A16 n16 c16)) ∧ (W.cell? ⟨v9.heap.size, 0, none⟩ = some (.bool false) ∧ W.cell? ⟨v9.heap.size, 1, none⟩ = some (.slice none 0 0) ∧ W.cell? ⟨v9.heap.size, 2, none⟩ = some (.slice none 0 0)) ∧ (W.cell? ⟨v7.heap.size, 0, none⟩ = some (.bool (sg (q2).num)) ∧ W.cell? ⟨v7.heap.size, 1, none⟩ = some (.slice A13 n13 c13) ∧ W.cell? ⟨v7.heap.size, 2, none⟩ = some (.slice A14 n14 c14)) ∧ (W.cell? ⟨v5.heap.size, 0, none⟩ = some (.bool (sg (q1).num)) ∧ W.cell? ⟨v5.heap.size, 1, none⟩ = some (.slice A11 n11 c11) ∧ W.cell? ⟨v5.heap.size, 2, none⟩ = some (.slice A12 n12 c12))) (first | with_reducible exact ⟨hS.out.cs3 0 rfl, hS.out.cs3 1 rfl, hS.out.cs3 2 rfl, hS.out.cs3 3 rfl⟩ | with_reducible exact ⟨hS.out.drew.cs3 0 rfl, hS.out.drew.cs3 1 rfl, hS.out.drew.cs3 2 rfl, hS.out.drew.cs3 3 rfl⟩ | with_reducible exact ⟨(hS.out.alloc _).cs3 0 rfl, (hS.out.alloc _).cs3 1 rfl, (hS.out.alloc _).cs3 2 rfl, (hS.out.alloc _).cs3 3 rfl⟩ | with_reducible exact ⟨((hS.out.alloc _).alloc _).cs3 0 rfl, ((hS.out.alloc _).alloc _).cs3 1 rfl, ((hS.out.alloc _).alloc _).cs3 2 rfl, ((hS.out.alloc _).alloc _).cs3 3 rfl⟩) (first
    | (go_at_call 22; (with_reducible refine (fof9 _ Hq4.out).mono ?_); rintro e w' ho; obtain ⟨A17, n17, c17, A18, n18, c18, rfl, h1⟩ := hS.out.rR (Nat.le_refl _) ho; clear hS; have hS := Lib.hid h1; clear h1)
    | (go_at_call 11; (with_reducible refine (is9_told (r := q1) (r' := q4) (k := 1030) (k' := 1) hS.out (by repeat (first | exact List.mem_cons_self | apply List.mem_cons_of_mem)) (by repeat (first | exact List.mem_cons_self | apply List.mem_cons_of_mem)) (by repeat (first | exact List.mem_cons_self | apply List.mem_cons_of_mem)) (by repeat (first | exact List.mem_cons_self | apply List.mem_cons_of_mem)) (by rw [← Hq1.out, ← Hq4.out]; decide +kernel)).mono ?_); rintro e w' ⟨rfl, h1⟩; clear hS; have hS := Lib.hid h1; clear h1)
    | (go_at_call 11; (with_reducible refine (is9_told (r := q2) (r' := q3) (k := 1030) (k' := 1) hS.out (by repeat (first | exact List.mem_cons_self | apply List.mem_cons_of_mem)) (by repeat (first | exact List.mem_cons_self | apply List.mem_cons_of_mem)) (by repeat (first | exact List.mem_cons_self | apply List.mem_cons_of_mem)) (by repeat (first | exact List.mem_cons_self | apply List.mem_cons_of_mem)) (by rw [← Hq2.out, ← Hq3.out]; decide +kernel)).mono ?_); rintro e w' ⟨rfl, h1⟩; clear hS; have hS := Lib.hid h1; clear h1)
    | (go_at_call 9; (with_reducible refine (width_lit _ (m := 6) (x := 6) (y := 3) rfl (by decide) (by decide +kernel)).mono ?_); rintro e w' ⟨rfl, hb⟩; have h1 := hS.out.below hb; clear hb; clear hS; have hS := Lib.hid h1; clear h1)
    | (go_at_call 9; (with_reducible refine (width_lit _ (m := 9) (x := 9) (y := 4) rfl (by decide) (by decide +kernel)).mono ?_); rintro e w' ⟨rfl, hb⟩; have h1 := hS.out.below hb; clear hb; clear hS; have hS := Lib.hid h1; clear h1))
  obtain ⟨x0_0, x1_0, x2_0⟩ := hS.out.cs3 0 rfl
  obtain ⟨x0_1, x1_1, x2_1⟩ := hS.out.cs3 1 rfl
  obtain ⟨x0_2, x1_2, x2_2⟩ := hS.out.cs3 2 rfl
  obtain ⟨x0_3, x1_3, x2_3⟩ := hS.out.cs3 3 rfl
  go_wp2
  go_ret
  exact ⟨rfl, hS.out.bl⟩
end Go.Proofs.YtfmhghemlcbapaaGreatDoor
