/-
  PROVED: the statement AliasNames (tombolalaw11.AliasNames) about the landed commit: for every input the law returns true and leaves its arguments as they were. Conditions: none beyond those that the given row itself prints.
-/
import Derived.Test.YtfdpddlefobcpaaGreatDoorCards
import Derived.Test.YtfdpddlefobcpaaGreatDoorTie
import Derived.LaidMore
import Derived.Lay
import Derived.SevenTiedAt
import Derived.Stop.Joined
import Derived.Test.YtfdpddlefobcpaaGreatDoorRows
import Derived.WalkKit
import Derived.ProofKit
import Derived.OpenShut
import Derived.RowKit3
import Derived.Test.YtfdpddlefobcpaaGreatDoorGFrame
import Derived.Test.YtfdpddlefobcpaaGreatDoorAliNm
namespace Go.Proofs.YtfdpddlefobcpaaGreatDoor.aliasNames
open Go.ChangeShapes Go.WideShapes Go.ChangeAt Go.RowKit
set_option linter.unusedVariables false
set_option linter.unusedSimpArgs false
set_option maxRecDepth 20000
open N
theorem own : ownKnob Tryz.prog.godebug = none := by kernel_rfl

set_option maxRecDepth 100000 in
set_option maxHeartbeats 40000000 in
theorem walk (w : World)  :
    Calls Tryz.prog 4 #[] w fun e w' => e = .returned (.bool true) ∧ Below w.heap.size w w' := by
  have HB0 := Lib.hid (Below.refl w.heap.size w)
  go_enter Tryz.func4, Tryz.ntmps4
  go_wp2_with fail
  go_at_call 7
  refine (awake11 w).mono ?_
  rintro e v1 ⟨rfl, hb1⟩
  have HB1 := Lib.hid hb1
  clear hb1
  go_wp2_with fail
  refine (names_region (by rfl) ?_)
  intro f g W h55 h56 h57 hr hb
  simp only [RV.putAll, List.map_cons, List.map_nil, List.foldl_cons, List.foldl_nil, Act.put, List.setIfInBounds_toArray, List.set_cons_zero, List.set_cons_succ, h55, h56, h57]
  have HBW := Lib.hid (HB1.out.trans (hb.mono HB1.out.size))
  have HRW := Lib.hid hr
  clear h55 h56 h57 hr hb HB1
  go_wp2_with fail
  go_loopw [57] (fun i wr => ∃ k : Nat, k ≤ 9 ∧ i = .int .i64 k ∧ RW11 g 9 wr ∧ Below w.heap.size w wr) (fun i _ => 9 - (intOf i).toNat)
  case atStart => exact ⟨0, by decide, rfl, HRW.out, HBW.out⟩
  case round =>
    obtain ⟨k, hk, rfl, hr, hb⟩ := hrel
    obtain ⟨wo, rfl⟩ : ∃ wo : World, wo = wr := ⟨_, rfl⟩
    clear HRW HBW
    have HR := Lib.hid hr
    have HBB := Lib.hid hb
    clear hr hb
    by_cases hlt : k < 9
    · obtain ⟨A, m', c, xs, e, c0, c1, hIl, hmay⟩ := HR.out k hlt
      have HIl := Lib.hid hIl
      have HMY := Lib.hid hmay
      clear hIl hmay
      go_wp2_with fail
      clear c0 c1
      generalize hwb : World.alloc wo _ = wb
      obtain ⟨ty, hq⟩ : ∃ ty, BlkOk wb ⟨wo.heap.size, [.slice A m' c, .int .i64 e], ty⟩ := ⟨_, by rw [← hwb]; exact heap_alloc_new wo _⟩
      have hbb : Below wo.heap.size wo wb := by rw [← hwb]; exact (Below.refl _ wo).alloc (Nat.le_refl _) _
      have HQ := Lib.hid hq
      have HBW := Lib.hid hbb
      clear hwb hq hbb
      by_cases he : e = 0
      · subst he
        go_at_call 8
        refine (anew_ok (HIl.out.below HBW.out) HMY.out).mono ?_
        rintro e w2 ⟨t, g1, g2, rfl, _, _, _, _, hb2⟩
        obtain ⟨s0, s1⟩ := (show w2.cell? ⟨wo.heap.size, 0, none⟩ = some (.slice A m' c) ∧ w2.cell? ⟨wo.heap.size, 1, none⟩ = some (.int .i64 0) from ⟨BlkOk.cell (k := 0) (HQ.out.on hb2) rfl, BlkOk.cell (k := 1) (HQ.out.on hb2) rfl⟩)
        have HEE := Lib.hid (HBW.out.trans (hb2.mono HBW.out.size))
        clear hb2
        go_wp2
        go_roundw
        case rel => exact ⟨k + 1, by omega, by go_num, HR.out.on HEE.out, HBB.out.trans (HEE.out.mono HBB.out.size)⟩
        case measure => simp [intOf]; omega
      · have hze : (e != 0) = true := by simpa using he
        go_at_call 8
        refine (anew_no (HIl.out.below HBW.out) HMY.out he).mono ?_
        rintro e' w2 ⟨rfl, hb2⟩
        obtain ⟨s0, s1⟩ := (show w2.cell? ⟨wo.heap.size, 0, none⟩ = some (.slice A m' c) ∧ w2.cell? ⟨wo.heap.size, 1, none⟩ = some (.int .i64 e) from ⟨BlkOk.cell (k := 0) (HQ.out.on hb2) rfl, BlkOk.cell (k := 1) (HQ.out.on hb2) rfl⟩)
        have HEE := Lib.hid (HBW.out.trans (hb2.mono HBW.out.size))
        clear hb2
        go_wp2
        go_roundw
        case rel => exact ⟨k + 1, by omega, by go_num, HR.out.on HEE.out, HBB.out.trans (HEE.out.mono HBB.out.size)⟩
        case measure => simp [intOf]; omega
    · obtain rfl : k = 9 := by omega
      go_wp2_with fail
      have h5 := (((((((((((((((((((CS.of_blk11 (Below.refl wo.heap.size wo)).blk11 [.int .i64 5] 2).blk11 [.int .i64 5] 2).blk11 [.int .i64 0] 3).blk11 [.int .i64 0, .int .i64 0, .int .i64 1] 2).blk11 [.int .i64 0, .int .i64 0, .int .i64 1] 2).blk11 [.int .i64 2, .int .i64 2, .int .i64 2] 3).blk11 [.int .i64 2, .int .i64 2] 2).blk11 [.int .i64 4, .int .i64 4] 2).blk11 [.int .i64 0, .int .i64 1] 3).blk11 [.int .i64 1, .int .i64 2, .int .i64 3] 2).blk11 [.int .i64 3, .int .i64 6, .int .i64 6] 2).blk11 [.int .i64 2, .int .i64 1, .int .i64 2] 3).blk11 [.int .i64 4, .int .i64 1, .int .i64 1] 2).blk11 [.int .i64 6, .int .i64 3, .int .i64 3] 2).blk11 [.int .i64 0, .int .i64 0, .int .i64 0] 3).blk11 [.int .i64 0, .int .i64 3, .int .i64 3, .int .i64 2] 2).blk11 [.int .i64 0, .int .i64 8, .int .i64 4, .int .i64 0] 2).blk11 [.int .i64 3, .int .i64 1, .int .i64 1, .int .i64 2] 3)
      simp only [World.size_alloc] at h5
      have H5 := Lib.hid h5
      clear h5
      go_loopw [105] (fun i wr => ∃ k : Nat, k ≤ 6 ∧ i = .int .i64 k ∧ RC11 (wo.heap.size + 1 + 1 + 1 + 1 + 1 + 1 + 1 + 1 + 1 + 1 + 1 + 1 + 1 + 1 + 1 + 1 + 1 + 1) 6 wr ∧ Below w.heap.size w wr) (fun i _ => 6 - (intOf i).toNat)
      case atStart =>
        refine ⟨0, by decide, rfl, ?_, HBB.out.trans ((H5.out.bl.alloc H5.out.bl.size _).mono HBB.out.size)⟩
        refine rc11_at _ _ _ 6 _ (by simp only [World.size_alloc]) ?_
        intro k hk
        match k, hk with
        | 0, _ => exact ⟨_, 1, 1, [5], _, 1, [5], _, 1, [0], rfl, rfl, rfl, Il.lst11 (xs := [5]) (H5.out.get 17 rfl) (by decide) (by decide), Il.lst11 (xs := [5]) (H5.out.get 16 rfl) (by decide) (by decide), Il.lst11 (xs := [0]) (H5.out.get 15 rfl) (by decide) (by decide), by decide +kernel, by decide +kernel⟩
        | 1, _ => exact ⟨_, 3, 3, [0, 0, 1], _, 3, [0, 0, 1], _, 3, [2, 2, 2], rfl, rfl, rfl, Il.lst11 (xs := [0, 0, 1]) (H5.out.get 14 rfl) (by decide) (by decide), Il.lst11 (xs := [0, 0, 1]) (H5.out.get 13 rfl) (by decide) (by decide), Il.lst11 (xs := [2, 2, 2]) (H5.out.get 12 rfl) (by decide) (by decide), by decide +kernel, by decide +kernel⟩
        | 2, _ => exact ⟨_, 2, 2, [2, 2], _, 2, [4, 4], _, 2, [0, 1], rfl, rfl, rfl, Il.lst11 (xs := [2, 2]) (H5.out.get 11 rfl) (by decide) (by decide), Il.lst11 (xs := [4, 4]) (H5.out.get 10 rfl) (by decide) (by decide), Il.lst11 (xs := [0, 1]) (H5.out.get 9 rfl) (by decide) (by decide), by decide +kernel, by decide +kernel⟩
        | 3, _ => exact ⟨_, 3, 3, [1, 2, 3], _, 3, [3, 6, 6], _, 3, [2, 1, 2], rfl, rfl, rfl, Il.lst11 (xs := [1, 2, 3]) (H5.out.get 8 rfl) (by decide) (by decide), Il.lst11 (xs := [3, 6, 6]) (H5.out.get 7 rfl) (by decide) (by decide), Il.lst11 (xs := [2, 1, 2]) (H5.out.get 6 rfl) (by decide) (by decide), by decide +kernel, by decide +kernel⟩
        | 4, _ => exact ⟨_, 3, 3, [4, 1, 1], _, 3, [6, 3, 3], _, 3, [0, 0, 0], rfl, rfl, rfl, Il.lst11 (xs := [4, 1, 1]) (H5.out.get 5 rfl) (by decide) (by decide), Il.lst11 (xs := [6, 3, 3]) (H5.out.get 4 rfl) (by decide) (by decide), Il.lst11 (xs := [0, 0, 0]) (H5.out.get 3 rfl) (by decide) (by decide), by decide +kernel, by decide +kernel⟩
        | 5, _ => exact ⟨_, 4, 4, [0, 3, 3, 2], _, 4, [0, 8, 4, 0], _, 4, [3, 1, 1, 2], rfl, rfl, rfl, Il.lst11 (xs := [0, 3, 3, 2]) (H5.out.get 2 rfl) (by decide) (by decide), Il.lst11 (xs := [0, 8, 4, 0]) (H5.out.get 1 rfl) (by decide) (by decide), Il.lst11 (xs := [3, 1, 1, 2]) (H5.out.get 0 rfl) (by decide) (by decide), by decide +kernel, by decide +kernel⟩
      case round =>
        obtain ⟨k, hk, rfl, hr, hb⟩ := hrel
        obtain ⟨wq, rfl⟩ : ∃ wq : World, wq = wr := ⟨_, rfl⟩
        clear HR HBB H5
        have HR2 := Lib.hid hr
        have HBB2 := Lib.hid hb
        clear hr hb
        by_cases hlt : k < 6
        · obtain ⟨A, m', c, xs, A1, c1, cs, A2, c2, os, q0, q1, q2, hIl, hI1, hI2, hmay, hrow⟩ := HR2.out k hlt
          have HIl := Lib.hid hIl
          have HI1 := Lib.hid hI1
          have HI2 := Lib.hid hI2
          have HMY := Lib.hid hmay
          have HRO := Lib.hid hrow
          have HLN := Lib.hid hIl.len
          clear hIl hI1 hI2 hmay hrow
          go_wp2_with fail
          clear q0 q1 q2
          generalize hwb : World.alloc wq _ = wb
          obtain ⟨ty, hq⟩ : ∃ ty, BlkOk wb ⟨wq.heap.size, [.slice A m' c, .slice A1 m' c1, .slice A2 m' c2], ty⟩ := ⟨_, by rw [← hwb]; exact heap_alloc_new wq _⟩
          have hbb : Below wq.heap.size wq wb := by rw [← hwb]; exact (Below.refl _ wq).alloc (Nat.le_refl _) _
          have HQ := Lib.hid hq
          have HBW := Lib.hid hbb
          clear hwb hq hbb
          go_at_call 8
          refine (anew_ok (HIl.out.below HBW.out) HMY.out).mono ?_
          rintro e w2 ⟨t, g1, g2, rfl, hT, _, _, _, hb2⟩
          obtain ⟨s0, s1, s2⟩ := (show w2.cell? ⟨wq.heap.size, 0, none⟩ = some (.slice A m' c) ∧ w2.cell? ⟨wq.heap.size, 1, none⟩ = some (.slice A1 m' c1) ∧ w2.cell? ⟨wq.heap.size, 2, none⟩ = some (.slice A2 m' c2) from ⟨BlkOk.cell (k := 0) (HQ.out.on hb2) rfl, BlkOk.cell (k := 1) (HQ.out.on hb2) rfl, BlkOk.cell (k := 2) (HQ.out.on hb2) rfl⟩)
          have HEE := Lib.hid (HBW.out.trans (hb2.mono HBW.out.size))
          have HT := Lib.hid hT
          clear hb2 hT
          go_wp2_with fail
          go_loop [9] (fun i => ∃ j : Nat, j ≤ m' ∧ i = .int .i64 j) (fun i => m' - (intOf i).toNat)
          case atStart => exact ⟨0, Nat.zero_le _, rfl⟩
          case round =>
            obtain ⟨j, hj, rfl⟩ := hrel
            have hm6 : m' ≤ 64 := by have := (mayW_zero.1 HMY.out).l1; have := HLN.out; omega
            by_cases hlj : j < m'
            · obtain ⟨ad1, y1, rfl, hy1, _, _⟩ := HI1.out.one hlj
              obtain ⟨ad2, y2, rfl, hy2, _, _⟩ := HI2.out.one hlj
              have hc1 : w2.cell? (ad1.add j) = some (.int .i64 y1) := (HI1.out.below HEE.out).the hlj hy1
              have hc2 : w2.cell? (ad2.add j) = some (.int .i64 y2) := (HI2.out.below HEE.out).the hlj hy2
              obtain ⟨r1, r2⟩ := HRO.out j hlj
              have HY1 := Lib.hid (show cutA xs j = y1 by rw [hy1] at r1; exact (Option.some.inj r1).symm)
              have HY2 := Lib.hid (show ((othA xs j : Nat) : Int) = y2 by rw [hy2] at r2; exact (Option.some.inj r2).symm)
              have HJ := Lib.hid (show j < xs.length by rw [HLN.out]; exact hlj)
              have j1 : (0 : Int) ≤ (j : Int) := by omega
              have j2 : (j : Int) < (m' : Int) := by omega
              clear hy1 hy2 r1 r2
              go_wp2_with (first
                | (go_at_call 16; (with_reducible refine (ta_cut HT.out HJ.out HY1.out rfl).mono ?_); rintro e wx ⟨rfl, rfl⟩)
                | (go_at_call 17; (with_reducible refine (ta_oth HT.out HJ.out HY2.out rfl).mono ?_); rintro e wx ⟨rfl, rfl⟩))
              go_round
              case rel => exact ⟨j + 1, hlj, by go_num⟩
              case measure => simp [intOf]; omega
            · obtain rfl : j = m' := by omega
              go_wp2
              go_roundw
              case rel =>
                refine ⟨_, _, _, _, _, _, _, _, _, _, ⟨k + 1, by omega, ?_, HR2.out.on HEE.out, HBB2.out.trans (HEE.out.mono HBB2.out.size)⟩, rfl, rfl, rfl, rfl, rfl, rfl, rfl, rfl, rfl, rfl⟩
                go_num
              case measure => simp [intOf]; omega
        · obtain rfl : k = 6 := by omega
          have hS := Lib.hid (CS.of_blk11 HBB2.out)
          obtain ⟨q0, hq0⟩ : ∃ q : Rat, mkRat 0 1 = q := ⟨_, rfl⟩
          have HQ0 := Lib.hid hq0
          clear hq0
          go_wp2_with fail
          generalize hwa : World.alloc wq _ = v2
          obtain ⟨tn, hg9⟩ : ∃ g, wq.heap.size = g := ⟨_, rfl⟩
          have h1 : CS w v2 [Blk.mk tn [.int .i64 0, .slice none 0 0, .slice none 0 0] 54] := by rw [← hwa, ← hg9]; exact hS.out.blk11 _ _
          rw [hg9]
          clear hwa hg9 hS HBB2; have hS := Lib.hid h1; clear h1
          go_at_call 10
          refine (new_s (l := [49, 48, 49, 48]) hS.out (by decide)).mono ?_
          rintro e v3 ⟨gc, rfl, h1⟩
          have h2 : CS w v3 [K gc [49, 48, 49, 48] 0 false, Blk.mk tn [.int .i64 0, .slice none 0 0, .slice none 0 0] 54] := h1
          clear hS h1; have hS := Lib.hid h2; clear h2
          go_wp2_with fail
          generalize hwa : World.alloc v3 _ = v4
          obtain ⟨lb, hg9⟩ : ∃ g, v3.heap.size = g := ⟨_, rfl⟩
          have h1 : CS w v4 [Blk.mk lb [.pointer none, .pointer (some ⟨tn, 0, none⟩)] 24, K gc [49, 48, 49, 48] 0 false, Blk.mk tn [.int .i64 0, .slice none 0 0, .slice none 0 0] 54] := by rw [← hwa, ← hg9]; exact hS.out.blk11 _ _
          rw [hg9]
          clear hwa hg9 hS; have HS0 := Lib.hid h1; clear h1
          go_loopw [171] (fun i wr => ∃ k : Nat, k ≤ 2 ∧ i = .int .i64 k ∧ CS w wr [Blk.mk lb [.pointer none, .pointer (some ⟨tn, 0, none⟩)] 24, K gc [49, 48, 49, 48] 0 false, Blk.mk tn [.int .i64 0, .slice none 0 0, .slice none 0 0] 54]) (fun i _ => 2 - (intOf i).toNat)
          case atStart => exact ⟨0, by decide, rfl, HS0.out⟩
          case round =>
            obtain ⟨k, hk, rfl, h0⟩ := hrel
            obtain ⟨wt, rfl⟩ : ∃ wt : World, wt = wr := ⟨_, rfl⟩
            clear HS0
            have hS := Lib.hid h0
            clear h0
            by_cases hlt : k < 2
            · obtain ⟨p, hcp, hp⟩ : ∃ p : Option Addr, wt.cell? ⟨lb, k, none⟩ = some (.pointer p) ∧ (p = none ∨ p = some ⟨tn, 0, none⟩) := by
                match k, hlt with
                | 0, _ => exact ⟨none, BlkOk.cell (k := 0) (hS.out.get 0 rfl) rfl, .inl rfl⟩
                | 1, _ => exact ⟨_, BlkOk.cell (k := 1) (hS.out.get 0 rfl) rfl, .inr rfl⟩
              have HP := Lib.hid hp
              have j1 : (0 : Int) ≤ (k : Int) := by omega
              have j2 : (k : Int) < 2 := by omega
              clear hp
              go_wp2_with fail
              go_at_call 16
              refine (cut11_s hS.out 2 rfl HP.out).mono ?_
              rintro e u1 ⟨rfl, h1⟩
              have h2 : CS w u1 [Blk.mk lb [.pointer none, .pointer (some ⟨tn, 0, none⟩)] 24, K gc [49, 48, 49, 48] 0 false, Blk.mk tn [.int .i64 0, .slice none 0 0, .slice none 0 0] 54] := h1
              try clear hcp
              clear hS h1; have hS := Lib.hid h2; clear h2
              go_wp2_with fail
              go_at_call 17
              refine (other11_s hS.out 2 rfl HP.out).mono ?_
              rintro e u2 ⟨rfl, h1⟩
              have h2 : CS w u2 [Blk.mk lb [.pointer none, .pointer (some ⟨tn, 0, none⟩)] 24, K gc [49, 48, 49, 48] 0 false, Blk.mk tn [.int .i64 0, .slice none 0 0, .slice none 0 0] 54] := h1
              clear hS h1; have hS := Lib.hid h2; clear h2
              go_wp2_with fail
              go_at_call 18
              refine (pick11_s hS.out 2 rfl HP.out).mono ?_
              rintro e u3 ⟨rfl, h1⟩
              have h2 : CS w u3 [Blk.mk lb [.pointer none, .pointer (some ⟨tn, 0, none⟩)] 24, K gc [49, 48, 49, 48] 0 false, Blk.mk tn [.int .i64 0, .slice none 0 0, .slice none 0 0] 54] := h1
              clear hS h1; have hS := Lib.hid h2; clear h2
              go_wp2_with fail
              go_at_call 19
              refine (share11_s hS.out 2 rfl HP.out).mono ?_
              rintro e u4 ⟨rfl, h1⟩
              have h2 : CS w u4 [Blk.mk lb [.pointer none, .pointer (some ⟨tn, 0, none⟩)] 24, K gc [49, 48, 49, 48] 0 false, Blk.mk tn [.int .i64 0, .slice none 0 0, .slice none 0 0] 54] := h1
              clear hS h1; have hS := Lib.hid h2; clear h2
              go_wp2_with fail
              generalize hwa : World.alloc u4 _ = u5
              have h1 : CS w u5 [Blk.mk lb [.pointer none, .pointer (some ⟨tn, 0, none⟩)] 24, K gc [49, 48, 49, 48] 0 false, Blk.mk tn [.int .i64 0, .slice none 0 0, .slice none 0 0] 54] := by rw [← hwa]; exact hS.out.below ((Below.refl _ u4).alloc (Nat.le_refl _) _)
              have hsz : u5.heap.size = u4.heap.size + 1 := by rw [← hwa]; simp only [World.size_alloc]
              try rw [← hsz]
              clear hwa hsz hS; have hS := Lib.hid h1; clear h1
              go_at_call 12
              refine (draw11_s hS.out 2 1 rfl HP.out rfl (by decide) (by decide)).mono ?_
              rintro e u6 ⟨rfl, h1⟩
              have h2 : CS w u6 [Blk.mk lb [.pointer none, .pointer (some ⟨tn, 0, none⟩)] 24, K gc [49, 48, 49, 48] 0 false, Blk.mk tn [.int .i64 0, .slice none 0 0, .slice none 0 0] 54] := h1
              clear hS h1; have hS := Lib.hid h2; clear h2
              have HCS := Lib.hid hS.out
              have HN := Lib.hid (hS.out.get 2 rfl)
              have HC := Lib.hid (show CuOk u6 gc [49, 48, 49, 48] 0 false from hS.out.get 1 rfl)
              have HB1 := Lib.hid hS.out.bl
              clear hS; have hS := Lib.hid (SC.fresh11 HB1.out)
              go_wp2_with (first
                | (go_at_call 20; (with_reducible refine (nolen11 (HN.out.on hS.out.bl) HP.out).mono ?_); rintro e w' ⟨rfl, rfl⟩; have h1 := hS.out; clear hS; have hS := Lib.hid h1; clear h1)
                | (go_at_call 21; (with_reducible refine (nosum11 (HN.out.on hS.out.bl) HP.out).mono ?_); rintro e w' ⟨rfl, rfl⟩; have h1 := hS.out; clear hS; have hS := Lib.hid h1; clear h1)
                | (go_at_call 14; (with_reducible refine (at_any (HC.out.on hS.out.bl)).mono ?_); rintro e w' ⟨rfl, hb⟩; have h1 := hS.out.below hb; clear hb; clear hS; have hS := Lib.hid h1; clear h1)
                | (go_at_call 15; (with_reducible refine (over_any (HC.out.on hS.out.bl)).mono ?_); rintro e w' ⟨rfl, hb⟩; have h1 := hS.out.below hb; clear hb; clear hS; have hS := Lib.hid h1; clear h1)
                | (go_at_call 24; (with_reducible refine (cost11_c hS.out (HN.out.on hS.out.bl) HP.out HQ0.out).mono ?_); rintro e w' ⟨A1, n1, c1, A2, n2, c2, rfl, h1⟩; clear hS; have hS := Lib.hid h1; clear h1)
                | (go_at_call 23; (with_reducible refine (count11_c (r := q0) hS.out (by repeat (first | exact List.mem_cons_self | apply List.mem_cons_of_mem)) (by repeat (first | exact List.mem_cons_self | apply List.mem_cons_of_mem))).mono ?_); rintro e w' ⟨A3, n3, c3, A4, n4, c4, rfl, h1⟩; clear hS; have hS := Lib.hid h1; clear h1)
                | (go_at_call 25; (with_reducible refine (of11_c hS.out HQ0.out).mono ?_); rintro e w' ⟨A5, n5, c5, A6, n6, c6, rfl, h1⟩; clear hS; have hS := Lib.hid h1; clear h1)
                | (go_at_call 22; (with_reducible refine (is9_told (r := q0) (r' := q0) (k := 1) (k' := 1) hS.out (by repeat (first | exact List.mem_cons_self | apply List.mem_cons_of_mem)) (by repeat (first | exact List.mem_cons_self | apply List.mem_cons_of_mem)) (by repeat (first | exact List.mem_cons_self | apply List.mem_cons_of_mem)) (by repeat (first | exact List.mem_cons_self | apply List.mem_cons_of_mem)) rfl).mono ?_); rintro e w' ⟨rfl, h1⟩; clear hS; have hS := Lib.hid h1; clear h1))
              go_wp2
              go_roundw
              case rel => exact ⟨k + 1, by omega, by go_num, HCS.out.below hS.out.bl⟩
              case measure => simp [intOf]; omega
            · obtain rfl : k = 2 := by omega
              go_wp2
              go_ret
              first
                | exact ⟨rfl, hS.out.bl⟩
                | (refine ⟨?_, hS.out.bl⟩; simp)
set_option maxRecDepth 100000 in
theorem lifted (os : Os) (started : os.Started) (H : Type) (enc : TypeId × Value → H) :
    ReturnsInHanded {} Tryz.checked os 4 .any (fun w args => (Rows.aliasNamesSpec.pre enc Tryz.prog Tryz.f4 Rows.aliasNamesRow.domain false w args ∧ laidMetH Tryz.prog Rows.aliasNamesRow.laid w) ∧ sizedMet enc Tryz.prog Tryz.f4 (OpenSpec.ofChange Rows.aliasNamesSpec) false w args) (Rows.aliasNamesSpec.post enc Tryz.prog Tryz.f4 false true false false) := by
  refine returnsInHanded_of_change_and (C := Tryz.checked) (X := fun w _ => laidMetH Tryz.prog Rows.aliasNamesRow.laid w) (fun _ _ _ hh h => h.of_heap hh) own started (by kernel_rfl) Tryz.func4
    (ChangeSpec.witness_shaped (enc := enc) (C := Tryz.checked) (os := os) (X := fun w _ => laidMetH Tryz.prog Rows.aliasNamesRow.laid w) false (World.laidAll Tryz.prog os Rows.aliasNamesRow.laid) #[] 8 (World.laidAll_os _ _ _)
      (World.shaped_of_ZipB (by kernel_rfl) (by kernel_rfl)) (by kernel_rfl) (by kernel_rfl) (by kernel_rfl)
      (by rw [MakeChecks.laidMetH_plain _ _ _ (by kernel_rfl)]; exact laidMet_laidAll _ (by kernel_rfl) (by kernel_rfl))) ?_
  intro W base args ds gs before hval0 hW hcnd _ _ _
  have hval : ∀ (j : Nat) t v, Tryz.f4.params[j]? = some t → args[j]? = some v → Value.okWide Tryz.prog W .any base t v := hval0
  have hW' := hW
  obtain ⟨p, q, hA0, hV, hpq, hfz, hnd⟩ := hW
  have hA : DataW.TrodAll enc Tryz.prog W 0 (fun _ => true) true Tryz.f4.params.toList args.toList ds p := hA0
  rw [Tryz.params4] at hA hval
  obtain ⟨hargs, rfl, rfl⟩ := trodAll_nil hA
  obtain rfl : args = #[] := by cases args; simp_all
  obtain ⟨rfl, rfl⟩ := trodVars_none hV
  refine (walk W ).mono fun e W' ⟨he, hb⟩ => ?_
  subst he
  exact ⟨_, rfl, Frame.close laidOut hW' rfl rfl rfl Tryz.underlying4 (fun t ht => by rw [Tryz.params4] at ht; cases ht) hb⟩
theorem over : Rows.aliasNamesRow.holds Tryz.pinned (OpenSpec.ofChange Rows.aliasNamesSpec) :=
  OpenClaim.holds_of_wide 4 Tryz.f4 rfl rfl rfl rfl rfl rfl rfl ⟨rfl, rfl, rfl, rfl, rfl⟩ rfl rfl rfl rfl rfl (by kernel_rfl) Tryz.func4 (by kernel_rfl)
    (of_decide_eq_true (by kernel_rfl)) (by unfold Func.isWrapper; first | (rw [if_pos (by decide +kernel)]; kernel_rfl) | (rw [if_neg (by decide +kernel)]; exact ⟨rfl, rfl⟩))
    (fun os started H enc _ => lifted os started H enc)
/-- the statement -/
theorem proved : Rows.AliasNamesCardSaid :=
  Claim7.holds_tied_plain_at .later [] _ _ _ _ over (fun _ h => by cases h) (by kernel_rfl) (fun _ h => by cases h) aliasNames_row_tie rfl ⟨rfl, rfl⟩ (by kernel_rfl) rfl
    (fun f fn hf hfn => by
      obtain rfl : f = 4 := Option.some.inj ((show Tryz.prog.funcNamed "tombola/tombolalaw11.AliasNames" = some 4 by kernel_rfl).symm.trans hf) |>.symm
      obtain rfl : fn = Tryz.f4 := (Option.some.inj (Tryz.func4.symm.trans hfn)).symm
      exact ⟨by kernel_rfl, (fun j t ht => by rw [Tryz.params4] at ht; cases ht)⟩)
    (by kernel_rfl)
#print axioms proved
end Go.Proofs.YtfdpddlefobcpaaGreatDoor.aliasNames
