/- The law's own call 'drawn', and the examples of layer 10 as a call (mk_freawake.py). -/
import Derived.Test.YtolfjhfmcgibbaaGreatDoorFreDraw
import Derived.Test.YtolfjhfmcgibbaaGreatDoorFreRat
import Derived.Test.YtolfjhfmcgibbaaGreatDoorRatShow
import Derived.Deep.RegionHeld3
namespace Go.Proofs.YtolfjhfmcgibbaaGreatDoor
open Go.RowKit
set_option linter.unusedVariables false
set_option linter.unusedSimpArgs false
set_option maxRecDepth 20000
open N
theorem grown_below10 {w w1 w2 : World} {g : Nat} (hb : Below w.heap.size w w1) (hg : w.heap.size ≤ g) (h : w1.grownBy w2 (some g)) : Below w.heap.size w w2 :=
  hb.grown h hb.size (fun k e => by injection e with e; rw [← e]; exact hg)
theorem SC.fresh {w0 w : World} (hb : Below w0.heap.size w0 w) : SC w0 w w [] [] [] :=
  ⟨⟨hb, fun t ht => by cases ht⟩, Below.refl _ _, (fun q hq => by cases hq), (fun q hq => by cases hq), List.nodup_nil, (fun t ht => by cases ht), (fun t ht => by cases ht), (fun t ht => by cases ht)⟩
theorem shR_lit10 {bs : List UInt8} {r : Rat} (h : rdK bs = 0) (h2 : rdR bs = r) : shR r = bs := by rw [← h2]; exact sh_rdR h
/-- a slice's block, read as numbers -/
theorem Il.of_blk {w : World} {g : Nat} {vs : List Value} {ty : TypeId} {n c : Nat} {xs : List Int} (h : BlkOk w ⟨g, vs, ty⟩) (hl : xs.length = n) (hc : n ≤ c) (hm : c ≤ maxLen) (hx : ∀ x ∈ xs, -9223372036854775808 ≤ x ∧ x ≤ 9223372036854775807) (hv : ∀ j, j < n → vs[j]? = some (.int .i64 (xs.getD j 0))) : Il w (some ⟨g, 0, none⟩) n c xs :=
  ⟨hl, hc, hm, fun x hx' => (by have h1 : IntKind.i64.min ≤ x := (hx x hx').1; have h2 : x ≤ IntKind.i64.max := (hx x hx').2; simp [Lit.wf, h1, h2, (hx x hx').1, (hx x hx').2]), (fun e => by cases e), fun k hk => ⟨⟨g, 0, none⟩, rfl, BlkOk.lt h, fun j hj => by rw [add_plain, Nat.zero_add]; exact BlkOk.cell h (hv j hj)⟩⟩
theorem drawn_ok {w : World} {A : Option Addr} {n c q v a m : Nat} {gd o : Bool} {l : List UInt8} {ws : List Int} {z y : Int} (h : Il w A n c ws) (hw : Wt ws) (hB : isB l = true) (hm : pre ws ws.length = (m : Int)) (hd : dr l 0 false m = (v, gd, a, o)) (hq : (gd = true ∧ Pk ws (v : Int) q) ∨ (gd = false ∧ q = 0)) (hz : (q : Int) = z) (hy : (a : Int) = y) :
    Calls Tryz.prog 37 #[.slice A n c, .string ⟨l.toArray⟩, .int .i64 z, .bool gd, .int .i64 y] w fun e w' => e = .returned (.bool true) ∧ Below w.heap.size w w' := by
  have HN := Lib.hid (show Calls Tryz.prog 11 #[.slice A n c] w (NewOk w ws) by
    refine (fnew_any h).mono ?_
    rintro e w' (⟨_, h1⟩ | ⟨h1, _⟩)
    · exact h1
    · exact absurd (mayW_zero.2 hw) h1)
  have HC := Lib.hid (fun W : World => new_yes W l hB)
  have HD := Lib.hid (fun (W : World) (t g gc : Nat) (hT : TbOk W t g ws) (hc : CuOk W gc l 0 false) (h1 : t ≠ gc) (h2 : g ≠ gc) => tdraw_any hT hw hc hB (Nat.zero_le _) hm hd h1 h2 hq)
  rw [hz] at HD
  clear h hw hB hm hd hq hz
  have hgg : (gd == gd) = true := by cases gd <;> rfl
  go_enter Tryz.func37, Tryz.ntmps37
  go_wp2_with (first
    | (go_at_call 11; refine HN.out.mono ?_; rintro e w1 ⟨t, g, rfl, hT, ht, hg, htg, hb1⟩; have HT := Lib.hid hT; have HB1 := Lib.hid hb1; clear hT hb1)
    | (go_at_call 21; refine (HC.out _).mono ?_; rintro e w2 ⟨gc, rfl, hgc, hc, hb2⟩; have HT2 := Lib.hid (HT.out.on hb2); have HCC := Lib.hid hc; have HB2 := Lib.hid (HB1.out.trans (hb2.mono HB1.out.size)); have HNE := Lib.hid (show t ≠ gc ∧ g ≠ gc ∧ w.heap.size ≤ gc by (have h1 := HB1.out.size; have h2 := BlkOk.lt HT.out.tb; have h3 := BlkOk.lt HT.out.en; simp only [TB, EN] at h2 h3; omega)); clear hb2 hc hgc ht hg htg)
    | (go_at_call 23; refine (HD.out _ _ _ _ HT2.out HCC.out HNE.out.1 HNE.out.2.1).mono ?_; rintro e w3 ⟨rfl, hg3, hc3⟩; have HC3 := Lib.hid hc3; have HB3 := Lib.hid (grown_below10 HB2.out HNE.out.2.2 hg3); clear hg3 hc3)
    | (go_at_call 25; refine (at_any HC3.out).mono ?_; rintro e w4 ⟨rfl, hb4⟩; have HB4 := Lib.hid (HB3.out.trans (hb4.mono HB3.out.size)); clear hb4))
  go_ret
  refine ⟨?_, HB4.out⟩
  simp
theorem tshare_lit {w : World} {t g i : Nat} {ws : List Int} {r : Rat} {x s z : Int} (hz : (i : Int) = z) (h : TbOk w t g ws) (hw : Wt ws) (hx : ws[i]? = some x) (hs : pre ws ws.length = s) (hr : mkRat x s.toNat = r) :
    Calls Tryz.prog 15 #[.pointer (some ⟨t, 0, none⟩), .int .i64 z] w (OutRE w 1 r 0) := by
  subst hz
  exact tshare_ok h hw hx hs hr
set_option maxHeartbeats 4000000 in
theorem awake10 (w : World) : Calls Tryz.prog 10 #[] w fun e w' => e = .returned (.bool true) ∧ Below w.heap.size w w' := by
  obtain ⟨ws, hws⟩ : ∃ ws : List Int, [1, 0, 3] = ws := ⟨_, rfl⟩
  have HWS := Lib.hid hws
  have HW := Lib.hid (show Wt ws by rw [← hws]; exact ⟨by decide, by decide, by decide, by decide⟩)
  have HM := Lib.hid (show pre ws ws.length = ((4 : Nat) : Int) by rw [← hws]; decide)
  have HM4 := Lib.hid (show pre ws ws.length = (4 : Int) by rw [← hws]; decide)
  have HP0 := Lib.hid (show Pk ws 0 0 by rw [← hws]; exact ⟨by decide, by decide, by decide⟩)
  have HP1 := Lib.hid (show Pk ws 1 2 by rw [← hws]; exact ⟨by decide, by decide, by decide⟩)
  have HP3 := Lib.hid (show Pk ws 3 2 by rw [← hws]; exact ⟨by decide, by decide, by decide⟩)
  have HQ0 := Lib.hid (show Pk ws ((0 : Nat) : Int) 0 from HP0.out)
  have HQ1 := Lib.hid (show Pk ws ((1 : Nat) : Int) 2 from HP1.out)
  have HP4 := Lib.hid (show ¬ (0 ≤ (4 : Int) ∧ 4 < pre ws ws.length) by rw [← hws]; decide)
  have HX := Lib.hid (show ws[0]? = some 1 ∧ ws[1]? = some 0 ∧ ws[2]? = some 3 by rw [← hws]; exact ⟨rfl, rfl, rfl⟩)
  have HI := Lib.hid (show Il (w.alloc (.cells #[.int .i64 1, .int .i64 0, .int .i64 3] 2)) (some ⟨w.heap.size, 0, none⟩) 3 3 ws by
    rw [← hws]
    refine Il.of_blk (vs := [.int .i64 1, .int .i64 0, .int .i64 3]) (ty := 2) (heap_alloc_new w _) rfl (by decide) (by decide) (by decide) ?_
    intro j hj
    match j, hj with
    | 0, _ => rfl
    | 1, _ => rfl
    | 2, _ => rfl)
  have HB0 := Lib.hid ((Below.refl _ w).alloc (Nat.le_refl _) (.cells #[.int .i64 1, .int .i64 0, .int .i64 3] 2))
  clear hws
  go_enter Tryz.func10, Tryz.ntmps10
  go_wp2_with fail
  generalize hwa : World.alloc w _ = v0
  rw [hwa] at HI HB0
  clear hwa
  go_at_call 11
  refine (show Calls Tryz.prog 11 #[.slice (some ⟨w.heap.size, 0, none⟩) 3 3] v0 (NewOk v0 ws) by
      refine (fnew_any HI.out).mono ?_
      rintro e w' (⟨_, h1⟩ | ⟨h1, _⟩)
      · exact h1
      · exact absurd (mayW_zero.2 HW.out) h1).mono ?_
  rintro e v1 ⟨t, g, rfl, hT, _, _, _, hb⟩
  have HT := Lib.hid hT
  have HI1 := Lib.hid (HI.out.below hb)
  have HB1 := Lib.hid (HB0.out.trans (hb.mono HB0.out.size))
  clear hT hb
  have hS := Lib.hid (SC.fresh HB1.out)
  go_wp2_with fail
  go_at_call 13
  with_reducible refine (tpick_no (r := 4) (HT.out.on hS.out.bl) HW.out HP4.out).mono ?_
  rintro e v2 ⟨rfl, hb⟩
  have h1 := hS.out.below hb
  clear hb
  clear hS; have hS := Lib.hid h1; clear h1
  obtain ⟨q1, hq1⟩ : ∃ q : Rat, mkRat 1 4 = q := ⟨_, rfl⟩
  have Hq1 := Lib.hid hq1
  clear hq1
  go_wp2_with fail
  go_at_call 15
  with_reducible refine (tshare_lit (i := 0) (z := 0) (x := 1) (s := 4) (r := q1) rfl (HT.out.on hS.out.bl) HW.out HX.out.1 HM4.out (by rw [← Hq1.out]; decide +kernel)).mono ?_
  rintro e v3 ho
  obtain ⟨A11, n11, c11, A12, n12, c12, rfl, h1⟩ := hS.out.rRE (Nat.le_refl _) ho
  clear hS; have hS := Lib.hid h1; clear h1
  have h1 := (hS.out.boxed (vs := [.bool (sg (q1).num), .slice A11 n11 c11, .slice A12 n12 c12]) (ty := 37) rfl rfl)
  try simp only [World.size_alloc] at h1
  obtain ⟨p0_0, p1_0, p2_0⟩ := h1.cs3 0 rfl
  clear h1
  go_wp2_with fail
  clear p0_0 p1_0 p2_0
  generalize hwa : World.alloc v3 _ = v4
  have h1 := (hS.out.boxed (vs := [.bool (sg (q1).num), .slice A11 n11 c11, .slice A12 n12 c12]) (ty := 37) rfl hwa)
  have hsz : v4.heap.size = v3.heap.size + 1 := by rw [← hwa]; simp only [World.size_alloc]
  try rw [← hsz]
  clear hwa hsz
  clear hS; have hS := Lib.hid h1; clear h1
  obtain ⟨x0_0, x1_0, x2_0⟩ := hS.out.cs3 0 rfl
  obtain ⟨q2, hq2⟩ : ∃ q : Rat, mkRat 0 4 = q := ⟨_, rfl⟩
  have Hq2 := Lib.hid hq2
  clear hq2
  go_wp2_with fail
  go_at_call 15
  with_reducible refine (tshare_lit (i := 1) (z := 1) (x := 0) (s := 4) (r := q2) rfl (HT.out.on hS.out.bl) HW.out HX.out.2.1 HM4.out (by rw [← Hq2.out]; decide +kernel)).mono ?_
  rintro e v5 ho
  clear x0_0 x1_0 x2_0
  obtain ⟨A13, n13, c13, A14, n14, c14, rfl, h1⟩ := hS.out.rRE (Nat.le_refl _) ho
  clear hS; have hS := Lib.hid h1; clear h1
  obtain ⟨x0_0, x1_0, x2_0⟩ := hS.out.cs3 0 rfl
  have h1 := (hS.out.boxed (vs := [.bool (sg (q2).num), .slice A13 n13 c13, .slice A14 n14 c14]) (ty := 37) rfl rfl)
  try simp only [World.size_alloc] at h1
  obtain ⟨p0_0, p1_0, p2_0⟩ := h1.cs3 0 rfl
  obtain ⟨p0_1, p1_1, p2_1⟩ := h1.cs3 1 rfl
  clear h1
  go_wp2_with fail
  clear x0_0 x1_0 x2_0
  clear p0_0 p1_0 p2_0 p0_1 p1_1 p2_1
  generalize hwa : World.alloc v5 _ = v6
  have h1 := (hS.out.boxed (vs := [.bool (sg (q2).num), .slice A13 n13 c13, .slice A14 n14 c14]) (ty := 37) rfl hwa)
  have hsz : v6.heap.size = v5.heap.size + 1 := by rw [← hwa]; simp only [World.size_alloc]
  try rw [← hsz]
  clear hwa hsz
  clear hS; have hS := Lib.hid h1; clear h1
  obtain ⟨x0_0, x1_0, x2_0⟩ := hS.out.cs3 0 rfl
  obtain ⟨x0_1, x1_1, x2_1⟩ := hS.out.cs3 1 rfl
  obtain ⟨q3, hq3⟩ : ∃ q : Rat, mkRat 3 4 = q := ⟨_, rfl⟩
  have Hq3 := Lib.hid hq3
  clear hq3
  go_wp2_with fail
  go_at_call 15
  with_reducible refine (tshare_lit (i := 2) (z := 2) (x := 3) (s := 4) (r := q3) rfl (HT.out.on hS.out.bl) HW.out HX.out.2.2 HM4.out (by rw [← Hq3.out]; decide +kernel)).mono ?_
  rintro e v7 ho
  clear x0_0 x1_0 x2_0 x0_1 x1_1 x2_1
  obtain ⟨A15, n15, c15, A16, n16, c16, rfl, h1⟩ := hS.out.rRE (Nat.le_refl _) ho
  clear hS; have hS := Lib.hid h1; clear h1
  obtain ⟨x0_0, x1_0, x2_0⟩ := hS.out.cs3 0 rfl
  obtain ⟨x0_1, x1_1, x2_1⟩ := hS.out.cs3 1 rfl
  have h1 := (hS.out.boxed (vs := [.bool (sg (q3).num), .slice A15 n15 c15, .slice A16 n16 c16]) (ty := 37) rfl rfl)
  try simp only [World.size_alloc] at h1
  obtain ⟨p0_0, p1_0, p2_0⟩ := h1.cs3 0 rfl
  obtain ⟨p0_1, p1_1, p2_1⟩ := h1.cs3 1 rfl
  obtain ⟨p0_2, p1_2, p2_2⟩ := h1.cs3 2 rfl
  clear h1
  go_wp2_with fail
  clear x0_0 x1_0 x2_0 x0_1 x1_1 x2_1
  clear p0_0 p1_0 p2_0 p0_1 p1_1 p2_1 p0_2 p1_2 p2_2
  generalize hwa : World.alloc v7 _ = v8
  have h1 := (hS.out.boxed (vs := [.bool (sg (q3).num), .slice A15 n15 c15, .slice A16 n16 c16]) (ty := 37) rfl hwa)
  have hsz : v8.heap.size = v7.heap.size + 1 := by rw [← hwa]; simp only [World.size_alloc]
  try rw [← hsz]
  clear hwa hsz
  clear hS; have hS := Lib.hid h1; clear h1
  obtain ⟨x0_0, x1_0, x2_0⟩ := hS.out.cs3 0 rfl
  obtain ⟨x0_1, x1_1, x2_1⟩ := hS.out.cs3 1 rfl
  obtain ⟨x0_2, x1_2, x2_2⟩ := hS.out.cs3 2 rfl
  obtain ⟨q4, hq4⟩ : ∃ q : Rat, cR 4 = q := ⟨_, rfl⟩
  have Hq4 := Lib.hid hq4
  clear hq4
  go_wp2_with (first
    | (go_at_call 19; (with_reducible refine (tsum_any (HT.out.on hS.out.bl) HW.out.l1 (v := 4) HM4.out).mono ?_); rintro e w' ⟨rfl, rfl⟩; have h1 := hS.out; clear x0_0 x1_0 x2_0 x0_1 x1_1 x2_1 x0_2 x1_2 x2_2; clear hS; have hS := Lib.hid h1; clear h1; obtain ⟨x0_0, x1_0, x2_0⟩ := hS.out.cs3 0 rfl; obtain ⟨x0_1, x1_1, x2_1⟩ := hS.out.cs3 1 rfl; obtain ⟨x0_2, x1_2, x2_2⟩ := hS.out.cs3 2 rfl)
    | (go_at_call 29; (with_reducible refine (picked_ok (r := 0) (p := 0) (z := 0) (HT.out.on hS.out.bl) HW.out HP0.out rfl).mono ?_); rintro e w' ⟨rfl, hb⟩; have h1 := hS.out.below hb; clear hb; clear x0_0 x1_0 x2_0 x0_1 x1_1 x2_1 x0_2 x1_2 x2_2; clear hS; have hS := Lib.hid h1; clear h1; obtain ⟨x0_0, x1_0, x2_0⟩ := hS.out.cs3 0 rfl; obtain ⟨x0_1, x1_1, x2_1⟩ := hS.out.cs3 1 rfl; obtain ⟨x0_2, x1_2, x2_2⟩ := hS.out.cs3 2 rfl)
    | (go_at_call 29; (with_reducible refine (picked_ok (r := 1) (p := 2) (z := 2) (HT.out.on hS.out.bl) HW.out HP1.out rfl).mono ?_); rintro e w' ⟨rfl, hb⟩; have h1 := hS.out.below hb; clear hb; clear x0_0 x1_0 x2_0 x0_1 x1_1 x2_1 x0_2 x1_2 x2_2; clear hS; have hS := Lib.hid h1; clear h1; obtain ⟨x0_0, x1_0, x2_0⟩ := hS.out.cs3 0 rfl; obtain ⟨x0_1, x1_1, x2_1⟩ := hS.out.cs3 1 rfl; obtain ⟨x0_2, x1_2, x2_2⟩ := hS.out.cs3 2 rfl)
    | (go_at_call 29; (with_reducible refine (picked_ok (r := 3) (p := 2) (z := 2) (HT.out.on hS.out.bl) HW.out HP3.out rfl).mono ?_); rintro e w' ⟨rfl, hb⟩; have h1 := hS.out.below hb; clear hb; clear x0_0 x1_0 x2_0 x0_1 x1_1 x2_1 x0_2 x1_2 x2_2; clear hS; have hS := Lib.hid h1; clear h1; obtain ⟨x0_0, x1_0, x2_0⟩ := hS.out.cs3 0 rfl; obtain ⟨x0_1, x1_1, x2_1⟩ := hS.out.cs3 1 rfl; obtain ⟨x0_2, x1_2, x2_2⟩ := hS.out.cs3 2 rfl)
    | (go_at_call 30; (with_reducible refine (fshow_any _ (hS.out.frm0 (r := q1) (M := 1) (A := A11) (n := n11) (c := c11) (A' := A12) (m := n12) (d := c12) (by repeat (first | exact List.mem_cons_self | apply List.mem_cons_of_mem)) (by repeat (first | exact List.mem_cons_self | apply List.mem_cons_of_mem)) (Nat.le_refl _) (Nat.le_refl _) (rv_self _)) (by decide) (by decide) (Z := [49, 47, 52]) (shR_lit10 (by decide +kernel) (by rw [← Hq1.out]; decide +kernel))).mono ?_); rintro e w' ⟨rfl, hb⟩; have h1 := hS.out.below hb; clear hb; clear x0_0 x1_0 x2_0 x0_1 x1_1 x2_1 x0_2 x1_2 x2_2; clear hS; have hS := Lib.hid h1; clear h1; obtain ⟨x0_0, x1_0, x2_0⟩ := hS.out.cs3 0 rfl; obtain ⟨x0_1, x1_1, x2_1⟩ := hS.out.cs3 1 rfl; obtain ⟨x0_2, x1_2, x2_2⟩ := hS.out.cs3 2 rfl)
    | (go_at_call 30; (with_reducible refine (fshow_any _ (hS.out.frm0 (r := q2) (M := 1) (A := A13) (n := n13) (c := c13) (A' := A14) (m := n14) (d := c14) (by repeat (first | exact List.mem_cons_self | apply List.mem_cons_of_mem)) (by repeat (first | exact List.mem_cons_self | apply List.mem_cons_of_mem)) (Nat.le_refl _) (Nat.le_refl _) (rv_self _)) (by decide) (by decide) (Z := [48]) (shR_lit10 (by decide +kernel) (by rw [← Hq2.out]; decide +kernel))).mono ?_); rintro e w' ⟨rfl, hb⟩; have h1 := hS.out.below hb; clear hb; clear x0_0 x1_0 x2_0 x0_1 x1_1 x2_1 x0_2 x1_2 x2_2; clear hS; have hS := Lib.hid h1; clear h1; obtain ⟨x0_0, x1_0, x2_0⟩ := hS.out.cs3 0 rfl; obtain ⟨x0_1, x1_1, x2_1⟩ := hS.out.cs3 1 rfl; obtain ⟨x0_2, x1_2, x2_2⟩ := hS.out.cs3 2 rfl)
    | (go_at_call 30; (with_reducible refine (fshow_any _ (hS.out.frm0 (r := q3) (M := 1) (A := A15) (n := n15) (c := c15) (A' := A16) (m := n16) (d := c16) (by repeat (first | exact List.mem_cons_self | apply List.mem_cons_of_mem)) (by repeat (first | exact List.mem_cons_self | apply List.mem_cons_of_mem)) (Nat.le_refl _) (Nat.le_refl _) (rv_self _)) (by decide) (by decide) (Z := [51, 47, 52]) (shR_lit10 (by decide +kernel) (by rw [← Hq3.out]; decide +kernel))).mono ?_); rintro e w' ⟨rfl, hb⟩; have h1 := hS.out.below hb; clear hb; clear x0_0 x1_0 x2_0 x0_1 x1_1 x2_1 x0_2 x1_2 x2_2; clear hS; have hS := Lib.hid h1; clear h1; obtain ⟨x0_0, x1_0, x2_0⟩ := hS.out.cs3 0 rfl; obtain ⟨x0_1, x1_1, x2_1⟩ := hS.out.cs3 1 rfl; obtain ⟨x0_2, x1_2, x2_2⟩ := hS.out.cs3 2 rfl)
    | (go_at_call 27; (with_reducible refine (tcost_any (m := 4) (r := q4) (HT.out.on hS.out.bl) HW.out HM.out Hq4.out).mono ?_); rintro e w' ho; obtain ⟨A17, n17, c17, A18, n18, c18, rfl, h1⟩ := hS.out.rR (Nat.le_refl _) ho; clear x0_0 x1_0 x2_0 x0_1 x1_1 x2_1 x0_2 x1_2 x2_2; clear hS; have hS := Lib.hid h1; clear h1; obtain ⟨x0_0, x1_0, x2_0⟩ := hS.out.cs3 0 rfl; obtain ⟨x0_1, x1_1, x2_1⟩ := hS.out.cs3 1 rfl; obtain ⟨x0_2, x1_2, x2_2⟩ := hS.out.cs3 2 rfl)
    | (go_at_call 30; (with_reducible refine (fshow_any _ (hS.out.frm0 (r := q4) (M := 1030) (A := A17) (n := n17) (c := c17) (A' := A18) (m := n18) (d := c18) (by repeat (first | exact List.mem_cons_self | apply List.mem_cons_of_mem)) (by repeat (first | exact List.mem_cons_self | apply List.mem_cons_of_mem)) (Nat.le_refl _) (Nat.le_refl _) (rv_self _)) (by decide) (by decide) (Z := [50]) (shR_lit10 (by decide +kernel) (by rw [← Hq4.out]; decide +kernel))).mono ?_); rintro e w' ⟨rfl, hb⟩; have h1 := hS.out.below hb; clear hb; clear x0_0 x1_0 x2_0 x0_1 x1_1 x2_1 x0_2 x1_2 x2_2; clear hS; have hS := Lib.hid h1; clear h1; obtain ⟨x0_0, x1_0, x2_0⟩ := hS.out.cs3 0 rfl; obtain ⟨x0_1, x1_1, x2_1⟩ := hS.out.cs3 1 rfl; obtain ⟨x0_2, x1_2, x2_2⟩ := hS.out.cs3 2 rfl)
    | (go_at_call 37; (with_reducible refine (drawn_ok (l := [48, 48]) (q := 0) (v := 0) (a := 2) (gd := true) (o := false) (m := 4) (z := 0) (y := 2) (HI1.out.below hS.out.bl) HW.out (by decide) HM.out (by decide +kernel) (.inl ⟨rfl, HQ0.out⟩) rfl rfl).mono ?_); rintro e w' ⟨rfl, hb⟩; have h1 := hS.out.below hb; clear hb; clear x0_0 x1_0 x2_0 x0_1 x1_1 x2_1 x0_2 x1_2 x2_2; clear hS; have hS := Lib.hid h1; clear h1; obtain ⟨x0_0, x1_0, x2_0⟩ := hS.out.cs3 0 rfl; obtain ⟨x0_1, x1_1, x2_1⟩ := hS.out.cs3 1 rfl; obtain ⟨x0_2, x1_2, x2_2⟩ := hS.out.cs3 2 rfl)
    | (go_at_call 37; (with_reducible refine (drawn_ok (l := [48, 49]) (q := 2) (v := 1) (a := 2) (gd := true) (o := false) (m := 4) (z := 2) (y := 2) (HI1.out.below hS.out.bl) HW.out (by decide) HM.out (by decide +kernel) (.inl ⟨rfl, HQ1.out⟩) rfl rfl).mono ?_); rintro e w' ⟨rfl, hb⟩; have h1 := hS.out.below hb; clear hb; clear x0_0 x1_0 x2_0 x0_1 x1_1 x2_1 x0_2 x1_2 x2_2; clear hS; have hS := Lib.hid h1; clear h1; obtain ⟨x0_0, x1_0, x2_0⟩ := hS.out.cs3 0 rfl; obtain ⟨x0_1, x1_1, x2_1⟩ := hS.out.cs3 1 rfl; obtain ⟨x0_2, x1_2, x2_2⟩ := hS.out.cs3 2 rfl)
    | (go_at_call 37; (with_reducible refine (drawn_ok (l := [49]) (q := 0) (v := 0) (a := 0) (gd := false) (o := true) (m := 4) (z := 0) (y := 0) (HI1.out.below hS.out.bl) HW.out (by decide) HM.out (by decide +kernel) (.inr ⟨rfl, rfl⟩) rfl rfl).mono ?_); rintro e w' ⟨rfl, hb⟩; have h1 := hS.out.below hb; clear hb; clear x0_0 x1_0 x2_0 x0_1 x1_1 x2_1 x0_2 x1_2 x2_2; clear hS; have hS := Lib.hid h1; clear h1; obtain ⟨x0_0, x1_0, x2_0⟩ := hS.out.cs3 0 rfl; obtain ⟨x0_1, x1_1, x2_1⟩ := hS.out.cs3 1 rfl; obtain ⟨x0_2, x1_2, x2_2⟩ := hS.out.cs3 2 rfl))
  go_wp2
  go_ret
  exact ⟨rfl, hS.out.st.1⟩
end Go.Proofs.YtolfjhfmcgibbaaGreatDoor
