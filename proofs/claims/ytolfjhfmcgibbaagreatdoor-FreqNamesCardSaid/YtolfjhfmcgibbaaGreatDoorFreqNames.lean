/-
  PROVED: the statement FreqNames (tombolalaw10.FreqNames) about the landed commit: for every input the law returns true and leaves its arguments as they were. Conditions: none beyond those that the given row itself prints.
-/
import Derived.Test.YtolfjhfmcgibbaaGreatDoorCards
import Derived.Test.YtolfjhfmcgibbaaGreatDoorTie
import Derived.LaidMore
import Derived.Lay
import Derived.SevenTiedAt
import Derived.Stop.Joined
import Derived.Test.YtolfjhfmcgibbaaGreatDoorRows
import Derived.WalkKit
import Derived.ProofKit
import Derived.OpenShut
import Derived.RowKit3
import Derived.Test.YtolfjhfmcgibbaaGreatDoorGFrame
import Derived.Test.YtolfjhfmcgibbaaGreatDoorFreNm
namespace Go.Proofs.YtolfjhfmcgibbaaGreatDoor.freqNames
open Go.ChangeShapes Go.WideShapes Go.ChangeAt Go.RowKit
set_option linter.unusedVariables false
set_option linter.unusedSimpArgs false
set_option maxRecDepth 20000
open N
theorem own : ownKnob Tryz.prog.godebug = none := by kernel_rfl

set_option maxRecDepth 100000 in
set_option maxHeartbeats 40000000 in
theorem walk (w : World)  :
    Calls Tryz.prog 5 #[] w fun e w' => e = .returned (.bool true) ∧ Below w.heap.size w w' := by
  have hS := Lib.hid (CS.start w)
  have hmk64 : ∀ W : World, (Instr.makeSlice 22 (.int .i64 64) (.int .i64 64)).run Tryz.prog W = .ok (.slice (some ⟨W.heap.size, 0, none⟩) 64 64) (W.alloc (.cells (row 64 (fun _ => 0)).toArray 2)) := make64_run 64 (by decide)
  have hmk65 : ∀ W : World, (Instr.makeSlice 22 (.int .i64 65) (.int .i64 65)).run Tryz.prog W = .ok (.slice (some ⟨W.heap.size, 0, none⟩) 65 65) (W.alloc (.cells (row 65 (fun _ => 0)).toArray 2)) := make64_run 65 (by decide)
  go_enter Tryz.func5, Tryz.ntmps5
  go_wp2_with fail
  go_at_call 10
  refine (awake10_s hS.out).mono ?_
  rintro e v1 ⟨rfl, h1⟩
  have h2 : CS w v1 [] := h1
  clear hS h1; have hS := Lib.hid h2; clear h2
  have h3 := ((hS.out.blk (row 64 (fun _ => 0)) 2).blk (row 65 (fun _ => 0)) 2).blk [] 2
  simp only [World.size_alloc] at h3
  have HW2 := Lib.hid (show w.heap.size ≤ v1.heap.size + 1 + 1 by have := hS.out.bl.size; omega)
  have HWM := Lib.hid hS.out.bl.size
  have HOE := Lib.hid (OwnI.empty (h3.get 0 rfl) (Nat.le_refl _))
  have HIE := Lib.hid (Il.rep (h3.get 1 rfl) (by decide) (by decide))
  have HSE := Lib.hid (Nat.le_of_lt (BlkOk.lt (h3.get 0 rfl)))
  have HE := Lib.hid (h3.get 1 rfl)
  have HM := Lib.hid (h3.get 2 rfl)
  have HB2 := Lib.hid h3.bl
  clear h3
  go_wp2_with (first
    | (at_builtin; refine wp_app64 rfl _ _ rfl (v1.heap.size + 1 + 1) rfl HO3.out rfl HN3.out (by decide) (by decide) HS3.out ?_; intro A3 c3 W3 ho hb; have HM4 := Lib.hid (show BlkOk W3 ⟨v1.heap.size, (row 64 (fun _ => 0)), 2⟩ from (hb.block (v1.heap.size) (by omega)).trans (HM2.out.on HBL.out)); have HE4 := Lib.hid (show BlkOk W3 ⟨v1.heap.size + 1, (row 65 (fun _ => 0)), 2⟩ from (hb.block (v1.heap.size + 1) (by omega)).trans (HE2.out.on HBL.out)); have HB5 := Lib.hid ((HB3.out.trans (HBL.out.mono HB3.out.size)).trans (hb.mono HW2.out)); have HO4 := Lib.hid (show OwnI W3 (v1.heap.size + 1 + 1) A3 66 c3 (List.replicate 65 0 ++ [-1]) from ho); clear ho hb)
    | (at_builtin; refine wp_app64 rfl _ _ rfl (v1.heap.size + 1 + 1) rfl HOE.out rfl HIE.out (by decide) (by decide) HSE.out ?_; intro A2 c2 W2 ho hb; simp only [Nat.zero_add, List.nil_append] at ho; have HM2 := Lib.hid (show BlkOk W2 ⟨v1.heap.size, (row 64 (fun _ => 0)), 2⟩ from (hb.block (v1.heap.size) (by omega)).trans HM.out); have HE2 := Lib.hid (show BlkOk W2 ⟨v1.heap.size + 1, (row 65 (fun _ => 0)), 2⟩ from (hb.block (v1.heap.size + 1) (by omega)).trans HE.out); have HB3 := Lib.hid (HB2.out.trans (hb.mono HW2.out)); have HSZ2 := Lib.hid (Nat.le_trans HSE.out hb.size); have HBL := Lib.hid ((Below.refl _ W2).alloc (Nat.le_refl _) (.cells #[.int .i64 (-1)] 2)); have HO3 := Lib.hid (ho.below HBL.out); have HN3 := Lib.hid (Il.lit1 (w := W2.alloc (.cells #[.int .i64 (-1)] 2)) (g := W2.heap.size) (ty := 2) (x := -1) (heap_alloc_new W2 _) (by decide)); have HS3 := Lib.hid (Nat.le_trans HSZ2.out HBL.out.size); clear ho hb)
    | fail)
  clear HOE HIE HSE HE HM HB2 HM2 HE2 HB3 HSZ2 HBL HO3 HN3 HS3 hS
  have h5 := (((((CS.of_blk (Below.refl W3.heap.size W3)).blk [.int .i64 0, .int .i64 (-1)] 2).blk [.int .i64 1048577] 2).blk [.int .i64 0] 2).blk [.int .i64 1048576] 2).blk [.int .i64 0, .int .i64 0, .int .i64 1] 2
  simp only [World.size_alloc] at h5
  have H5 := Lib.hid h5
  clear h5
  go_loopw [65] (fun i wr => ∃ k : Nat, k ≤ 9 ∧ i = .int .i64 k ∧ RW (W3.heap.size + 1 + 1 + 1 + 1 + 1) 9 wr ∧ BlkOk wr ⟨v1.heap.size, (row 64 (fun _ => 0)), 2⟩ ∧ Below w.heap.size w wr) (fun i _ => 9 - (intOf i).toNat)
  case atStart =>
    have hb6 := H5.out.bl.alloc H5.out.bl.size
    refine ⟨0, by decide, rfl, ?_, HM4.out.on (H5.out.bl.alloc H5.out.bl.size _), HB5.out.trans ((H5.out.bl.alloc H5.out.bl.size _).mono HB5.out.size)⟩
    refine rw_at _ _ _ 9 _ (by simp only [World.size_alloc]) ?_
    intro k hk
    match k, hk with
    | 0, _ => exact ⟨none, 0, 0, [], 4, rfl, rfl, Il.none, by decide⟩
    | 1, _ => exact ⟨_, 65, 65, List.replicate 65 0, 5, rfl, rfl, (Il.rep HE4.out (by decide) (by decide)).below H5.out.bl, by decide +kernel⟩
    | 2, _ => exact ⟨A3, 66, c3, _, 5, rfl, rfl, HO4.out.il.below H5.out.bl, by decide +kernel⟩
    | 3, _ => exact ⟨_, 2, 2, _, 1, rfl, rfl, Il.lit2 (H5.out.get 4 rfl) (by decide) (by decide), by decide +kernel⟩
    | 4, _ => exact ⟨_, 1, 1, _, 1, rfl, rfl, Il.lit1 (H5.out.get 3 rfl) (by decide), by decide +kernel⟩
    | 5, _ => exact ⟨_, 1, 1, _, 7, rfl, rfl, Il.lit1 (H5.out.get 2 rfl) (by decide), by decide +kernel⟩
    | 6, _ => exact ⟨_, 64, 64, List.replicate 64 0, 7, rfl, rfl, (Il.rep HM4.out (by decide) (by decide)).below H5.out.bl, by decide +kernel⟩
    | 7, _ => exact ⟨_, 1, 1, _, 0, rfl, rfl, Il.lit1 (H5.out.get 1 rfl) (by decide), by decide +kernel⟩
    | 8, _ => exact ⟨_, 3, 3, _, 0, rfl, rfl, Il.lit3 (H5.out.get 0 rfl) (by decide) (by decide) (by decide), by decide +kernel⟩
  case round =>
    obtain ⟨k, hk, rfl, hr, hm, hb⟩ := hrel
    obtain ⟨wo, rfl⟩ : ∃ wo : World, wo = wr := ⟨_, rfl⟩
    clear HM4 HE4 HB5 HO4 H5
    have HR := Lib.hid hr
    have HM := Lib.hid hm
    have HBB := Lib.hid hb
    clear hr hm hb
    by_cases hlt : k < 9
    · obtain ⟨A, m', c, xs, e, c0, c1, hIl, hmay⟩ := HR.out k hlt
      have HIl := Lib.hid hIl
      have HMY := Lib.hid hmay
      clear hIl hmay
      go_wp2_with fail
      clear c0 c1
      generalize hwb : World.alloc wo _ = wb
      obtain ⟨ty, hq⟩ : ∃ ty, BlkOk wb ⟨wo.heap.size, [.slice A m' c, .int .i64 e], ty⟩ := ⟨_, by rw [← hwb]; exact heap_alloc_new wo _⟩
      have hbb : Below wo.heap.size wo wb := by rw [← hwb]; exact (Below.refl _ wo).alloc (Nat.le_refl _) _
      have HQ := Lib.hid hq
      have HBW := Lib.hid hbb
      clear hwb hq hbb
      by_cases he : e = 0
      · subst he
        go_at_call 11
        refine (fnew_ok (HIl.out.below HBW.out) HMY.out).mono ?_
        rintro e w2 ⟨t, g, rfl, _, _, _, _, hb2⟩
        obtain ⟨s0, s1⟩ := (show w2.cell? ⟨wo.heap.size, 0, none⟩ = some (.slice A m' c) ∧ w2.cell? ⟨wo.heap.size, 1, none⟩ = some (.int .i64 0) from ⟨BlkOk.cell (k := 0) (HQ.out.on hb2) rfl, BlkOk.cell (k := 1) (HQ.out.on hb2) rfl⟩)
        have HEE := Lib.hid (HBW.out.trans (hb2.mono HBW.out.size))
        clear hb2
        go_wp2
        go_roundw
        case rel => exact ⟨k + 1, by omega, by go_num, HR.out.on HEE.out, HM.out.on HEE.out, HBB.out.trans (HEE.out.mono HBB.out.size)⟩
        case measure => simp [intOf]; omega
      · have hze : (e != 0) = true := by simpa using he
        go_at_call 11
        refine (fnew_no (HIl.out.below HBW.out) HMY.out he).mono ?_
        rintro e' w2 ⟨rfl, hb2⟩
        obtain ⟨s0, s1⟩ := (show w2.cell? ⟨wo.heap.size, 0, none⟩ = some (.slice A m' c) ∧ w2.cell? ⟨wo.heap.size, 1, none⟩ = some (.int .i64 e) from ⟨BlkOk.cell (k := 0) (HQ.out.on hb2) rfl, BlkOk.cell (k := 1) (HQ.out.on hb2) rfl⟩)
        have HEE := Lib.hid (HBW.out.trans (hb2.mono HBW.out.size))
        clear hb2
        go_wp2
        go_roundw
        case rel => exact ⟨k + 1, by omega, by go_num, HR.out.on HEE.out, HM.out.on HEE.out, HBB.out.trans (HEE.out.mono HBB.out.size)⟩
        case measure => simp [intOf]; omega
    · obtain rfl : k = 9 := by omega
      clear HR
      go_wp2_with fail
      go_loopw [7] (fun i wr => ∃ k : Nat, k ≤ 64 ∧ i = .int .i64 k ∧ BlkOk wr ⟨v1.heap.size, row 64 (fun j => if j < k then 1048576 else 0), 2⟩ ∧ Below w.heap.size w wr) (fun i _ => 64 - (intOf i).toNat)
      case atStart =>
        refine ⟨0, by decide, rfl, ?_, HBB.out⟩
        have e : row 64 (fun j => if j < 0 then (1048576 : Int) else 0) = row 64 (fun _ => 0) := row_congr (fun j _ => by rw [if_neg (Nat.not_lt_zero _)])
        rw [e]
        exact HM.out
      case round =>
        obtain ⟨k, hk, rfl, hm, hb⟩ := hrel
        clear HM HBB
        have HM := Lib.hid hm
        have HBB := Lib.hid hb
        clear hm hb
        by_cases hlt2 : k < 64
        · have hc : wr.cell? ⟨v1.heap.size, k, none⟩ = some (.int .i64 0) := by
            have := BlkOk.cell HM.out (row_get (f := fun j => if j < k then (1048576 : Int) else 0) hlt2)
            rwa [if_neg (Nat.lt_irrefl _)] at this
          have hf := BlkOk.fr HM.out
          simp only at hf
          have HN := Lib.hid (show BlkOk (wr.setCell ⟨v1.heap.size, k, none⟩ (.int .i64 1048576)) ⟨v1.heap.size, row 64 (fun j => if j < k + 1 then 1048576 else 0), 2⟩ by
            have h3 := BlkOk.set HM.out k (.int .i64 1048576)
            simp only at h3
            rw [row_set] at h3
            have e : row 64 (fun j => if j < k + 1 then (1048576 : Int) else 0) = row 64 (fun j => if j = k then 1048576 else if j < k then 1048576 else 0) := row_congr (fun j _ => by
              by_cases e1 : j = k
              · subst e1; simp
              · by_cases e2 : j < k
                · rw [if_pos (by omega), if_neg e1, if_pos e2]
                · rw [if_neg (by omega), if_neg e1, if_neg e2])
            rw [e]
            exact h3)
          go_wp2
          go_roundw
          case rel => exact ⟨k + 1, hlt2, by go_num, HN.out, HBB.out.setCell (p := ⟨v1.heap.size, k, none⟩) HWM.out _⟩
          case measure => simp [intOf]; omega
        · obtain rfl : k = 64 := by omega
          obtain ⟨ws, hws⟩ : ∃ ws : List Int, List.replicate 64 1048576 = ws := ⟨_, rfl⟩
          have HIM := Lib.hid (show Il wr (some ⟨v1.heap.size, 0, none⟩) 64 64 ws by
            rw [← hws]
            have e : row 64 (fun j => if j < 64 then (1048576 : Int) else 0) = row 64 (fun _ => 1048576) := row_congr (fun j hj => by rw [if_pos hj])
            have h3 := HM.out
            rw [e] at h3
            exact Il.rep h3 (by decide) (by decide))
          have HMW := Lib.hid (show mayW ws = 0 by rw [← hws]; decide +kernel)
          have HW := Lib.hid (mayW_zero.1 HMW.out)
          have HS := Lib.hid (show pre ws ws.length = 67108864 by rw [← hws]; decide +kernel)
          have HP0 := Lib.hid (show Pk ws 67108863 63 by rw [← hws]; exact ⟨by decide +kernel, by decide +kernel, by decide +kernel⟩)
          have HP1 := Lib.hid (show Pk ws 1048575 0 by rw [← hws]; exact ⟨by decide +kernel, by decide +kernel, by decide +kernel⟩)
          have HP2 := Lib.hid (show Pk ws 1048576 1 by rw [← hws]; exact ⟨by decide +kernel, by decide +kernel, by decide +kernel⟩)
          have HLW := Lib.hid (show ws.length = 64 by rw [← hws]; decide +kernel)
          obtain ⟨vs, hvs⟩ : ∃ vs : List Int, [0, 7] = vs := ⟨_, rfl⟩
          have HVS := Lib.hid hvs
          have HMV := Lib.hid (show mayW vs = 0 by rw [← hvs]; decide +kernel)
          have HV := Lib.hid (mayW_zero.1 HMV.out)
          have HSV := Lib.hid (show pre vs vs.length = 7 by rw [← hvs]; decide +kernel)
          obtain ⟨q0, hq0⟩ : ∃ q : Rat, mkRat 0 1 = q := ⟨_, rfl⟩
          have HQ0 := Lib.hid hq0
          clear hws hvs hq0
          have hS := Lib.hid (CS.of_blk HBB.out)
          go_wp2_with fail
          go_at_call 11
          refine (new10_s hS.out HIM.out HMW.out).mono ?_
          rintro e v11 ⟨t, g, rfl, h1⟩
          have h2 : CS w v11 [TB t g ws.length, EN g ws] := h1
          clear hS h1; have hS := Lib.hid h2; clear h2
          go_wp2_with fail
          go_at_call 19
          refine (sum10_s hS.out 0 1 rfl rfl HW.out HS.out).mono ?_
          rintro e v12 ⟨rfl, h1⟩
          have h2 : CS w v12 [TB t g ws.length, EN g ws] := h1
          clear hS h1; have hS := Lib.hid h2; clear h2
          go_wp2_with fail
          go_at_call 29
          refine (picked10_s (p := 63) hS.out 0 1 rfl rfl HW.out HP0.out rfl).mono ?_
          rintro e v13 ⟨rfl, h1⟩
          have h2 : CS w v13 [TB t g ws.length, EN g ws] := h1
          clear hS h1; have hS := Lib.hid h2; clear h2
          go_wp2_with fail
          go_at_call 29
          refine (picked10_s (p := 0) hS.out 0 1 rfl rfl HW.out HP1.out rfl).mono ?_
          rintro e v14 ⟨rfl, h1⟩
          have h2 : CS w v14 [TB t g ws.length, EN g ws] := h1
          clear hS h1; have hS := Lib.hid h2; clear h2
          go_wp2_with fail
          go_at_call 29
          refine (picked10_s (p := 1) hS.out 0 1 rfl rfl HW.out HP2.out rfl).mono ?_
          rintro e v15 ⟨rfl, h1⟩
          have h2 : CS w v15 [TB t g ws.length, EN g ws] := h1
          clear hS h1; have hS := Lib.hid h2; clear h2
          go_wp2_with fail
          go_at_call 13
          refine (pick10_no (r := -1) hS.out 0 1 rfl rfl HW.out (by omega)).mono ?_
          rintro e v16 ⟨rfl, h1⟩
          have h2 : CS w v16 [TB t g ws.length, EN g ws] := h1
          clear hS h1; have hS := Lib.hid h2; clear h2
          go_wp2_with fail
          go_at_call 15
          refine (share10_no (r := -1) hS.out 0 1 rfl rfl HW.out (by omega)).mono ?_
          rintro e v17 ⟨rfl, h1⟩
          have h2 : CS w v17 [TB t g ws.length, EN g ws] := h1
          clear hS h1; have hS := Lib.hid h2; clear h2
          go_wp2_with fail
          generalize hwa : World.alloc v17 _ = v18
          have h1 : CS w v18 [TB t g ws.length, EN g ws] := by rw [← hwa]; exact hS.out.al _
          have hsz : v18.heap.size = v17.heap.size + 1 := by rw [← hwa]; simp only [World.size_alloc]
          try rw [← hsz]
          clear hwa hsz hS; have hS := Lib.hid h1; clear h1
          go_wp2_with fail
          go_at_call 15
          refine (share10_no (r := 64) hS.out 0 1 rfl rfl HW.out (by have := HLW.out; omega)).mono ?_
          rintro e v19 ⟨rfl, h1⟩
          have h2 : CS w v19 [TB t g ws.length, EN g ws] := h1
          clear hS h1; have hS := Lib.hid h2; clear h2
          go_wp2_with fail
          generalize hwa : World.alloc v19 _ = v20
          have h1 : CS w v20 [TB t g ws.length, EN g ws] := by rw [← hwa]; exact hS.out.al _
          have hsz : v20.heap.size = v19.heap.size + 1 := by rw [← hwa]; simp only [World.size_alloc]
          try rw [← hsz]
          clear hwa hsz hS; have hS := Lib.hid h1; clear h1
          go_wp2_with fail
          generalize hwa : World.alloc v20 _ = v21
          obtain ⟨lg, hg9⟩ : ∃ g, v20.heap.size = g := ⟨_, rfl⟩
          have h1 : CS w v21 [Blk.mk lg [.int .i64 0, .int .i64 7] 2, TB t g ws.length, EN g ws] := by rw [← hwa, ← hg9]; exact hS.out.blk _ _
          rw [hg9]
          clear hwa hg9 hS; have hS := Lib.hid h1; clear h1
          go_wp2_with fail
          go_at_call 11
          refine (new10_s hS.out (show Il v21 (some ⟨lg, 0, none⟩) 2 2 vs by rw [← HVS.out]; exact Il.lit2 (hS.out.get 0 rfl) (by decide) (by decide)) HMV.out).mono ?_
          rintro e v22 ⟨t2, g2, rfl, h1⟩
          have h2 : CS w v22 [TB t2 g2 vs.length, EN g2 vs, Blk.mk lg [.int .i64 0, .int .i64 7] 2, TB t g ws.length, EN g ws] := h1
          clear hS h1; have hS := Lib.hid h2; clear h2
          go_wp2_with fail
          generalize hwa : World.alloc v22 _ = v23
          obtain ⟨fg, hg9⟩ : ∃ g, v22.heap.size = g := ⟨_, rfl⟩
          have h1 : CS w v23 [Blk.mk fg [.slice none 0 0] 64, TB t2 g2 vs.length, EN g2 vs, Blk.mk lg [.int .i64 0, .int .i64 7] 2, TB t g ws.length, EN g ws] := by rw [← hwa, ← hg9]; exact hS.out.blk _ _
          rw [hg9]
          clear hwa hg9 hS; have hS := Lib.hid h1; clear h1
          go_wp2_with fail
          go_at_call 13
          refine (pick10_nil hS.out).mono ?_
          rintro e v24 ⟨rfl, h1⟩
          have h2 : CS w v24 [Blk.mk fg [.slice none 0 0] 64, TB t2 g2 vs.length, EN g2 vs, Blk.mk lg [.int .i64 0, .int .i64 7] 2, TB t g ws.length, EN g ws] := h1
          clear hS h1; have hS := Lib.hid h2; clear h2
          go_wp2_with fail
          go_at_call 13
          refine (pick10_fresh hS.out 0 rfl).mono ?_
          rintro e v25 ⟨rfl, h1⟩
          have h2 : CS w v25 [Blk.mk fg [.slice none 0 0] 64, TB t2 g2 vs.length, EN g2 vs, Blk.mk lg [.int .i64 0, .int .i64 7] 2, TB t g ws.length, EN g ws] := h1
          clear hS h1; have hS := Lib.hid h2; clear h2
          go_wp2_with fail
          go_at_call 15
          refine (share10_nil hS.out).mono ?_
          rintro e v26 ⟨rfl, h1⟩
          have h2 : CS w v26 [Blk.mk fg [.slice none 0 0] 64, TB t2 g2 vs.length, EN g2 vs, Blk.mk lg [.int .i64 0, .int .i64 7] 2, TB t g ws.length, EN g ws] := h1
          clear hS h1; have hS := Lib.hid h2; clear h2
          go_wp2_with fail
          generalize hwa : World.alloc v26 _ = v27
          have h1 : CS w v27 [Blk.mk fg [.slice none 0 0] 64, TB t2 g2 vs.length, EN g2 vs, Blk.mk lg [.int .i64 0, .int .i64 7] 2, TB t g ws.length, EN g ws] := by rw [← hwa]; exact hS.out.al _
          have hsz : v27.heap.size = v26.heap.size + 1 := by rw [← hwa]; simp only [World.size_alloc]
          try rw [← hsz]
          clear hwa hsz hS; have hS := Lib.hid h1; clear h1
          go_wp2_with fail
          go_at_call 15
          refine (share10_fresh hS.out 0 rfl).mono ?_
          rintro e v28 ⟨rfl, h1⟩
          have h2 : CS w v28 [Blk.mk fg [.slice none 0 0] 64, TB t2 g2 vs.length, EN g2 vs, Blk.mk lg [.int .i64 0, .int .i64 7] 2, TB t g ws.length, EN g ws] := h1
          clear hS h1; have hS := Lib.hid h2; clear h2
          go_wp2_with fail
          generalize hwa : World.alloc v28 _ = v29
          have h1 : CS w v29 [Blk.mk fg [.slice none 0 0] 64, TB t2 g2 vs.length, EN g2 vs, Blk.mk lg [.int .i64 0, .int .i64 7] 2, TB t g ws.length, EN g ws] := by rw [← hwa]; exact hS.out.al _
          have hsz : v29.heap.size = v28.heap.size + 1 := by rw [← hwa]; simp only [World.size_alloc]
          try rw [← hsz]
          clear hwa hsz hS; have hS := Lib.hid h1; clear h1
          go_wp2_with fail
          go_at_call 21
          refine (new_s (l := [48, 49, 48, 49]) hS.out (by decide)).mono ?_
          rintro e v30 ⟨gc, rfl, h1⟩
          have h2 : CS w v30 [K gc [48, 49, 48, 49] 0 false, Blk.mk fg [.slice none 0 0] 64, TB t2 g2 vs.length, EN g2 vs, Blk.mk lg [.int .i64 0, .int .i64 7] 2, TB t g ws.length, EN g ws] := h1
          clear hS h1; have hS := Lib.hid h2; clear h2
          go_wp2_with fail
          go_at_call 23
          refine (draw10_nil hS.out 0 rfl (by decide) (by decide)).mono ?_
          rintro e v31 ⟨rfl, h1⟩
          have h2 : CS w v31 [K gc [48, 49, 48, 49] 0 false, Blk.mk fg [.slice none 0 0] 64, TB t2 g2 vs.length, EN g2 vs, Blk.mk lg [.int .i64 0, .int .i64 7] 2, TB t g ws.length, EN g ws] := h1
          clear hS h1; have hS := Lib.hid h2; clear h2
          go_wp2_with fail
          go_at_call 23
          refine (draw10_fresh hS.out 1 0 rfl rfl (by decide) (by decide)).mono ?_
          rintro e v32 ⟨rfl, h1⟩
          have h2 : CS w v32 [K gc [48, 49, 48, 49] 0 false, Blk.mk fg [.slice none 0 0] 64, TB t2 g2 vs.length, EN g2 vs, Blk.mk lg [.int .i64 0, .int .i64 7] 2, TB t g ws.length, EN g ws] := h1
          clear hS h1; have hS := Lib.hid h2; clear h2
          have HF := Lib.hid (show BlkOk v32 ⟨fg, [.slice none 0 0], 64⟩ from hS.out.get 1 rfl)
          have HO := Lib.hid (show TbOk v32 t2 g2 vs from hS.out.tb 2 rfl 3 rfl)
          have HC := Lib.hid (show CuOk v32 gc [48, 49, 48, 49] 0 false from hS.out.get 0 rfl)
          have HB1 := Lib.hid hS.out.bl
          clear hS; have hS := Lib.hid (SC.fresh HB1.out)
          go_wp2_with (first
            | (go_at_call 19; (with_reducible refine (tsum_any (HO.out.on hS.out.bl) HV.out.l1 HSV.out).mono ?_); rintro e w' ⟨rfl, rfl⟩; have h1 := hS.out; clear hS; have hS := Lib.hid h1; clear h1)
            | (go_at_call 19; (with_reducible refine (tsum_nil _).mono ?_); rintro e w' ⟨rfl, rfl⟩; have h1 := hS.out; clear hS; have hS := Lib.hid h1; clear h1)
            | (go_at_call 19; (with_reducible refine (tsum_fresh (HF.out.on hS.out.bl)).mono ?_); rintro e w' ⟨rfl, rfl⟩; have h1 := hS.out; clear hS; have hS := Lib.hid h1; clear h1)
            | (go_at_call 25; (with_reducible refine (at_any (HC.out.on hS.out.bl)).mono ?_); rintro e w' ⟨rfl, hb⟩; have h1 := hS.out.below hb; clear hb; clear hS; have hS := Lib.hid h1; clear h1)
            | (go_at_call 26; (with_reducible refine (over_any (HC.out.on hS.out.bl)).mono ?_); rintro e w' ⟨rfl, hb⟩; have h1 := hS.out.below hb; clear hb; clear hS; have hS := Lib.hid h1; clear h1)
            | (go_at_call 18; (with_reducible refine (tlen_nil _).mono ?_); rintro e w' ⟨rfl, rfl⟩; have h1 := hS.out; clear hS; have hS := Lib.hid h1; clear h1)
            | (go_at_call 18; (with_reducible refine (tlen_blk (HF.out.on hS.out.bl)).mono ?_); rintro e w' ⟨rfl, rfl⟩; have h1 := hS.out; clear hS; have hS := Lib.hid h1; clear h1)
            | (go_at_call 27; (with_reducible refine (tcost_zero (fun W hb => tsum_nil W) HQ0.out).mono ?_); rintro e w' ho; obtain ⟨A1, n1, c1, A2, n2, c2, rfl, h1⟩ := hS.out.rR (Nat.le_refl _) ho; clear hS; have hS := Lib.hid h1; clear h1)
            | (go_at_call 27; (with_reducible refine (tcost_zero (fun W hb => tsum_fresh ((HF.out.on hS.out.bl).on hb)) HQ0.out).mono ?_); rintro e w' ho; obtain ⟨A3, n3, c3, A4, n4, c4, rfl, h1⟩ := hS.out.rR (Nat.le_refl _) ho; clear hS; have hS := Lib.hid h1; clear h1)
            | (go_at_call 30; (with_reducible refine (fshow_any _ (hS.out.frm0 (r := q0) (M := 1) (A := A3) (n := n3) (c := c3) (A' := A4) (m := n4) (d := c4) (by repeat (first | exact List.mem_cons_self | apply List.mem_cons_of_mem)) (by repeat (first | exact List.mem_cons_self | apply List.mem_cons_of_mem)) (Nat.le_refl _) (Nat.le_refl _) (rv_self _)) (by decide) (by decide) (Z := [48]) (shR_lit10 (by decide +kernel) (by rw [← HQ0.out]; decide +kernel))).mono ?_); rintro e w' ⟨rfl, hb⟩; have h1 := hS.out.below hb; clear hb; clear hS; have hS := Lib.hid h1; clear h1)
            | (go_at_call 30; (with_reducible refine (fshow_any _ (hS.out.frm0 (r := q0) (M := 1) (A := A1) (n := n1) (c := c1) (A' := A2) (m := n2) (d := c2) (by repeat (first | exact List.mem_cons_self | apply List.mem_cons_of_mem)) (by repeat (first | exact List.mem_cons_self | apply List.mem_cons_of_mem)) (Nat.le_refl _) (Nat.le_refl _) (rv_self _)) (by decide) (by decide) (Z := [48]) (shR_lit10 (by decide +kernel) (by rw [← HQ0.out]; decide +kernel))).mono ?_); rintro e w' ⟨rfl, hb⟩; have h1 := hS.out.below hb; clear hb; clear hS; have hS := Lib.hid h1; clear h1))
          go_wp2
          go_ret
          first
            | exact ⟨rfl, hS.out.st.1⟩
            | (refine ⟨?_, hS.out.st.1⟩; simp)
set_option maxRecDepth 100000 in
theorem lifted (os : Os) (started : os.Started) (H : Type) (enc : TypeId × Value → H) :
    ReturnsInHanded {} Tryz.checked os 5 .any (fun w args => (Rows.freqNamesSpec.pre enc Tryz.prog Tryz.f5 Rows.freqNamesRow.domain false w args ∧ laidMetH Tryz.prog Rows.freqNamesRow.laid w) ∧ sizedMet enc Tryz.prog Tryz.f5 (OpenSpec.ofChange Rows.freqNamesSpec) false w args) (Rows.freqNamesSpec.post enc Tryz.prog Tryz.f5 false true false false) := by
  refine returnsInHanded_of_change_and (C := Tryz.checked) (X := fun w _ => laidMetH Tryz.prog Rows.freqNamesRow.laid w) (fun _ _ _ hh h => h.of_heap hh) own started (by kernel_rfl) Tryz.func5
    (ChangeSpec.witness_shaped (enc := enc) (C := Tryz.checked) (os := os) (X := fun w _ => laidMetH Tryz.prog Rows.freqNamesRow.laid w) false (World.laidAll Tryz.prog os Rows.freqNamesRow.laid) #[] 8 (World.laidAll_os _ _ _)
      (World.shaped_of_ZipB (by kernel_rfl) (by kernel_rfl)) (by kernel_rfl) (by kernel_rfl) (by kernel_rfl)
      (by rw [MakeChecks.laidMetH_plain _ _ _ (by kernel_rfl)]; exact laidMet_laidAll _ (by kernel_rfl) (by kernel_rfl))) ?_
  intro W base args ds gs before hval0 hW hcnd _ _ _
  have hval : ∀ (j : Nat) t v, Tryz.f5.params[j]? = some t → args[j]? = some v → Value.okWide Tryz.prog W .any base t v := hval0
  have hW' := hW
  obtain ⟨p, q, hA0, hV, hpq, hfz, hnd⟩ := hW
  have hA : DataW.TrodAll enc Tryz.prog W 0 (fun _ => true) true Tryz.f5.params.toList args.toList ds p := hA0
  rw [Tryz.params5] at hA hval
  obtain ⟨hargs, rfl, rfl⟩ := trodAll_nil hA
  obtain rfl : args = #[] := by cases args; simp_all
  obtain ⟨rfl, rfl⟩ := trodVars_none hV
  refine (walk W ).mono fun e W' ⟨he, hb⟩ => ?_
  subst he
  exact ⟨_, rfl, Frame.close laidOut hW' rfl rfl rfl Tryz.underlying4 (fun t ht => by rw [Tryz.params5] at ht; cases ht) hb⟩
theorem over : Rows.freqNamesRow.holds Tryz.pinned (OpenSpec.ofChange Rows.freqNamesSpec) :=
  OpenClaim.holds_of_wide 5 Tryz.f5 rfl rfl rfl rfl rfl rfl rfl ⟨rfl, rfl, rfl, rfl, rfl⟩ rfl rfl rfl rfl rfl (by kernel_rfl) Tryz.func5 (by kernel_rfl)
    (of_decide_eq_true (by kernel_rfl)) (by unfold Func.isWrapper; first | (rw [if_pos (by decide +kernel)]; kernel_rfl) | (rw [if_neg (by decide +kernel)]; exact ⟨rfl, rfl⟩))
    (fun os started H enc _ => lifted os started H enc)
/-- the statement -/
theorem proved : Rows.FreqNamesCardSaid :=
  Claim7.holds_tied_plain_at .later [] _ _ _ _ over (fun _ h => by cases h) (by kernel_rfl) (fun _ h => by cases h) freqNames_row_tie rfl ⟨rfl, rfl⟩ (by kernel_rfl) rfl
    (fun f fn hf hfn => by
      obtain rfl : f = 5 := Option.some.inj ((show Tryz.prog.funcNamed "tombola/tombolalaw10.FreqNames" = some 5 by kernel_rfl).symm.trans hf) |>.symm
      obtain rfl : fn = Tryz.f5 := (Option.some.inj (Tryz.func5.symm.trans hfn)).symm
      exact ⟨by kernel_rfl, (fun j t ht => by rw [Tryz.params5] at ht; cases ht)⟩)
    (by kernel_rfl)
#print axioms proved
end Go.Proofs.YtolfjhfmcgibbaaGreatDoor.freqNames
