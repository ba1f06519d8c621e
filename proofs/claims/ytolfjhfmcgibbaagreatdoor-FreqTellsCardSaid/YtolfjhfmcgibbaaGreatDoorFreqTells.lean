/-
  PROVED: the statement FreqTells (tombolalaw10.FreqTells) about the landed commit: for every input the law returns true and leaves its arguments as they were. Conditions: none beyond those that the given row itself prints.
-/
import Derived.Test.YtolfjhfmcgibbaaGreatDoorCards
import Derived.Test.YtolfjhfmcgibbaaGreatDoorTie
import Derived.LaidMore
import Derived.Lay
import Derived.SevenTiedAt
import Derived.Stop.Joined
import Derived.Test.YtolfjhfmcgibbaaGreatDoorRows
import Derived.WalkKit
import Derived.ProofKit
import Derived.OpenShut
import Derived.RowKit3
import Derived.Test.YtolfjhfmcgibbaaGreatDoorGFrame
import Derived.Test.YtolfjhfmcgibbaaGreatDoorGFre
namespace Go.Proofs.YtolfjhfmcgibbaaGreatDoor.freqTells
open Go.ChangeShapes Go.WideShapes Go.ChangeAt Go.RowKit
set_option linter.unusedVariables false
set_option linter.unusedSimpArgs false
set_option maxRecDepth 20000
open N
theorem own : ownKnob Tryz.prog.godebug = none := by kernel_rfl

set_option maxRecDepth 100000 in
set_option maxHeartbeats 40000000 in
theorem walk (w : World) (A0 : Option Addr) (n0 c0 : Nat) (xs0 : List Int) (h0 : Il w A0 n0 c0 xs0) (a1 : Int) (w1 : (Lit.int .i64 a1).wf = true) (a2 : Int) (w2 : (Lit.int .i64 a2).wf = true) :
    Calls Tryz.prog 3 #[.slice A0 n0 c0, .int .i64 a1, .int .i64 a2] w fun e w' => e = .returned (.bool true) ∧ Below w.heap.size w w' := by
  have hS := Lib.hid (CS.start w)
  have HI := Lib.hid h0
  have hlen := h0.len
  have HLN := Lib.hid hlen
  have hcap := h0.cap
  have hmax := h0.max
  unfold maxLen at hmax
  clear h0
  by_cases h8 : 200 < n0
  · have h9 : (200 : Int) < (n0 : Int) := by omega
    go_enter Tryz.func3, Tryz.ntmps3
    go_wp2_with fail
    go_at_call 10
    refine (awake10_s hS.out).mono ?_
    rintro e v1 ⟨rfl, h1⟩
    have h2 : CS w v1 [] := h1
    clear hS h1; have hS := Lib.hid h2; clear h2
    go_wp2
    go_ret
    exact ⟨rfl, hS.out.bl⟩
  · have h9 : ¬ (200 : Int) < (n0 : Int) := by omega
    by_cases hm : mayW xs0 = 0
    · have HM := Lib.hid hm
      have HW := Lib.hid (mayW_zero.1 hm)
      clear hm
      have hn0 : 0 < n0 ∧ n0 ≤ 64 := by have h1 := HW.out.l0; have h2 := HW.out.l1; omega
      obtain ⟨sm, hsm⟩ : ∃ sm, pre xs0 xs0.length = sm := ⟨_, rfl⟩
      have HS := Lib.hid hsm
      have HSN := Lib.hid (show pre xs0 n0 = sm by rw [← hlen]; exact hsm)
      clear hsm hlen
      by_cases hr : 0 ≤ a1 ∧ a1 < sm
      · obtain ⟨p, hp⟩ := pk_some (ws := xs0) (r := a1) hr.1 (by rw [HS.out]; exact hr.2)
        have HP := Lib.hid hp
        clear hr hp
        by_cases hi : 0 ≤ a2 ∧ a2 < (n0 : Int)
        · obtain ⟨ip, rfl⟩ := Int.eq_ofNat_of_zero_le hi.1
          obtain ⟨x, hx, _, _⟩ := HW.out.ok.at (k := ip) (by rw [HLN.out]; omega)
          have HX := Lib.hid hx
          obtain ⟨r, hr⟩ : ∃ r, mkRat x sm.toNat = r := ⟨_, rfl⟩
          have HR := Lib.hid hr
          clear hx hr hi
          go_enter Tryz.func3, Tryz.ntmps3
          have HIA := Lib.hid ((HI.out.below hS.out.bl).below ((Below.refl _ w).alloc (Nat.le_refl _) (.cells #[] 2)))
          go_wp2_with (first | (at_builtin; refine wp_app64 rfl _ _ rfl w.heap.size rfl (OwnI.empty (heap_alloc_new _ _) (Nat.le_refl _)) rfl HIA.out (by omega) (by omega) (by simp) ?_; intro A2 c2 w2 hown2 hb2; simp only [Nat.zero_add, List.nil_append] at hown2; have HO2 := Lib.hid hown2; have HB2 := Lib.hid (((Below.refl _ w).alloc (Nat.le_refl _) (.cells #[] 2)).trans hb2); clear hown2 hb2) | fail)
          obtain ⟨g2, rfl⟩ : ∃ g2, A2 = some ⟨g2, 0, none⟩ := by
            rcases HO2.out.ways with ⟨_, e, _⟩ | ⟨g2, _, e, _⟩
            · omega
            · exact ⟨g2, e⟩
          go_at_call 11
          refine (fnew_ok HO2.out.il HM.out).mono ?_
          rintro e v1 ⟨t, g, rfl, hT, ht, hg, htg, hb⟩
          have HT := Lib.hid hT
          have HO3 := Lib.hid (HO2.out.below hb)
          have HNE := Lib.hid (show t ≠ g2 ∧ g ≠ g2 by have h1 := HO2.out.ge; omega)
          have HB3 := Lib.hid (HB2.out.trans (hb.mono HB2.out.size))
          clear hT ht hg htg hb HO2 HB2
          clear hS; have hS := Lib.hid (SC.fresh HB3.out)
          have HMY := Lib.hid (fun (W : World) (hb : Below w.heap.size w W) => (show Calls Tryz.prog 12 #[.slice A0 n0 c0] W fun e w' => e = .returned (.int .i64 0) ∧ w' = W by rw [← HM.out]; exact rmay_any (HI.out.below hb)))
          go_wp2_with fail
          go_at_call 12
          with_reducible refine (HMY.out _ hS.out.wb).mono ?_
          rintro e v2 ⟨rfl, rfl⟩
          have h1 := hS.out
          clear hS; have hS := Lib.hid h1; clear h1
          go_wp2_with fail
          go_loopw [10] (fun i wr => ∃ (k : Nat) (zs : List Int), k ≤ n0 ∧ i = .int .i64 k ∧ OwnI wr w.heap.size (some ⟨g2, 0, none⟩) n0 c2 zs ∧ TbOk wr t g xs0 ∧ Below w.heap.size w wr) (fun i _ => n0 - (intOf i).toNat)
          case atStart => exact ⟨0, xs0, Nat.zero_le _, rfl, HO3.out.below hS.out.bl, HT.out.on hS.out.bl, hS.out.wb⟩
          case round =>
            obtain ⟨k, zs, hk, rfl, ho, hT, hb⟩ := hrel
            clear hS HT HO3 HB3
            have HO3 := Lib.hid ho
            have HT := Lib.hid hT
            have HB3 := Lib.hid hb
            clear ho hT hb
            by_cases hlt : k < n0
            · have hgl : zs[k]? = some (zs[k]'(by rw [HO3.out.len]; exact hlt)) := List.getElem?_eq_getElem _
              have hc := HO3.out.il.the hlt hgl
              rw [N.add_plain, Nat.zero_add] at hc
              have hf := HO3.out.fr
              clear hgl
              go_wp2
              go_roundw
              case rel => exact ⟨k + 1, zs.set k (-7), hlt, by go_num, HO3.out.set (by decide), ⟨BlkOk.far (p := ⟨g2, k, none⟩) HT.out.tb HNE.out.1 _, BlkOk.far (p := ⟨g2, k, none⟩) HT.out.en HNE.out.2 _⟩, HB3.out.setCell (p := ⟨g2, k, none⟩) HO3.out.ge.1 _⟩
              case measure => simp [intOf]; omega
            · obtain rfl : k = n0 := by omega
              have hS := Lib.hid (SC.fresh HB3.out)
              go_wp2_with fail
              go_at_call 13
              with_reducible refine (tpick_ok (HT.out.on hS.out.bl) HW.out HP.out).mono ?_
              rintro e v3 ⟨rfl, hb⟩
              have h1 := hS.out.below hb
              clear hb
              clear hS; have hS := Lib.hid h1; clear h1
              go_wp2_with fail
              go_at_call 14
              with_reducible refine (rpick_ok (HI.out.below hS.out.wb) HW.out HP.out).mono ?_
              rintro e v4 ⟨rfl, rfl⟩
              have h1 := hS.out
              clear hS; have hS := Lib.hid h1; clear h1
              go_wp2_with fail
              go_at_call 15
              with_reducible refine (tshare_ok (HT.out.on hS.out.bl) HW.out HX.out HS.out HR.out).mono ?_
              rintro e v5 ho
              obtain ⟨A1, n1, c1, A2, n2, c2, rfl, h1⟩ := hS.out.rRE (Nat.le_refl _) ho
              clear hS; have hS := Lib.hid h1; clear h1
              have h1 := (hS.out.boxed (vs := [.bool (sg r.num), .slice A1 n1 c1, .slice A2 n2 c2]) (ty := 37) rfl rfl)
              try simp only [World.size_alloc] at h1
              obtain ⟨p0_0, p1_0, p2_0⟩ := h1.cs3 0 rfl
              clear h1
              go_wp2_with fail
              clear p0_0 p1_0 p2_0
              generalize hwa : World.alloc v5 _ = v6
              have h1 := (hS.out.boxed (vs := [.bool (sg r.num), .slice A1 n1 c1, .slice A2 n2 c2]) (ty := 37) rfl hwa)
              have hsz : v6.heap.size = v5.heap.size + 1 := by rw [← hwa]; simp only [World.size_alloc]
              try rw [← hsz]
              clear hwa hsz
              clear hS; have hS := Lib.hid h1; clear h1
              obtain ⟨x0_0, x1_0, x2_0⟩ := hS.out.cs3 0 rfl
              go_wp2_with fail
              go_at_call 16
              with_reducible refine (rshare_ok (HI.out.below hS.out.wb) HW.out HX.out HS.out HR.out).mono ?_
              rintro e v7 ho
              clear x0_0 x1_0 x2_0
              obtain ⟨A3, n3, c3, A4, n4, c4, rfl, h1⟩ := hS.out.rRE (Nat.le_refl _) ho
              clear hS; have hS := Lib.hid h1; clear h1
              obtain ⟨x0_0, x1_0, x2_0⟩ := hS.out.cs3 0 rfl
              have h1 := (hS.out.boxed (vs := [.bool (sg r.num), .slice A3 n3 c3, .slice A4 n4 c4]) (ty := 37) rfl rfl)
              try simp only [World.size_alloc] at h1
              obtain ⟨p0_0, p1_0, p2_0⟩ := h1.cs3 0 rfl
              obtain ⟨p0_1, p1_1, p2_1⟩ := h1.cs3 1 rfl
              clear h1
              go_wp2_with fail
              clear x0_0 x1_0 x2_0
              clear p0_0 p1_0 p2_0 p0_1 p1_1 p2_1
              generalize hwa : World.alloc v7 _ = v8
              have h1 := (hS.out.boxed (vs := [.bool (sg r.num), .slice A3 n3 c3, .slice A4 n4 c4]) (ty := 37) rfl hwa)
              have hsz : v8.heap.size = v7.heap.size + 1 := by rw [← hwa]; simp only [World.size_alloc]
              try rw [← hsz]
              clear hwa hsz
              clear hS; have hS := Lib.hid h1; clear h1
              obtain ⟨x0_0, x1_0, x2_0⟩ := hS.out.cs3 0 rfl
              obtain ⟨x0_1, x1_1, x2_1⟩ := hS.out.cs3 1 rfl
              go_wp2_with (first
                | (go_at_call 17; (with_reducible refine (is9_told (r := r) (r' := r) (k := 1) (k' := 1) hS.out (by repeat (first | exact List.mem_cons_self | apply List.mem_cons_of_mem)) (by repeat (first | exact List.mem_cons_self | apply List.mem_cons_of_mem)) (by repeat (first | exact List.mem_cons_self | apply List.mem_cons_of_mem)) (by repeat (first | exact List.mem_cons_self | apply List.mem_cons_of_mem)) rfl).mono ?_); rintro e w' ⟨rfl, h1⟩; clear x0_0 x1_0 x2_0 x0_1 x1_1 x2_1; clear hS; have hS := Lib.hid h1; clear h1; obtain ⟨x0_0, x1_0, x2_0⟩ := hS.out.cs3 0 rfl; obtain ⟨x0_1, x1_1, x2_1⟩ := hS.out.cs3 1 rfl)
                | (go_at_call 18; (with_reducible refine (tlen_n (HT.out.on hS.out.bl) HLN.out).mono ?_); rintro e w' ⟨rfl, rfl⟩; have h1 := hS.out; clear x0_0 x1_0 x2_0 x0_1 x1_1 x2_1; clear hS; have hS := Lib.hid h1; clear h1; obtain ⟨x0_0, x1_0, x2_0⟩ := hS.out.cs3 0 rfl; obtain ⟨x0_1, x1_1, x2_1⟩ := hS.out.cs3 1 rfl)
                | (go_at_call 19; (with_reducible refine (tsum_any (HT.out.on hS.out.bl) HW.out.l1 HS.out).mono ?_); rintro e w' ⟨rfl, rfl⟩; have h1 := hS.out; clear x0_0 x1_0 x2_0 x0_1 x1_1 x2_1; clear hS; have hS := Lib.hid h1; clear h1; obtain ⟨x0_0, x1_0, x2_0⟩ := hS.out.cs3 0 rfl; obtain ⟨x0_1, x1_1, x2_1⟩ := hS.out.cs3 1 rfl)
                | (go_at_call 20; (with_reducible refine (rsum_any (HI.out.below hS.out.wb) HW.out.ok (by omega) HSN.out).mono ?_); rintro e w' ⟨rfl, rfl⟩; have h1 := hS.out; clear x0_0 x1_0 x2_0 x0_1 x1_1 x2_1; clear hS; have hS := Lib.hid h1; clear h1; obtain ⟨x0_0, x1_0, x2_0⟩ := hS.out.cs3 0 rfl; obtain ⟨x0_1, x1_1, x2_1⟩ := hS.out.cs3 1 rfl)
                | (go_at_call 10; (with_reducible refine (awake10 _).mono ?_); rintro e w' ⟨rfl, hb⟩; have h1 := hS.out.below hb; clear hb; clear x0_0 x1_0 x2_0 x0_1 x1_1 x2_1; clear hS; have hS := Lib.hid h1; clear h1; obtain ⟨x0_0, x1_0, x2_0⟩ := hS.out.cs3 0 rfl; obtain ⟨x0_1, x1_1, x2_1⟩ := hS.out.cs3 1 rfl))
              go_wp2
              go_ret
              first
                | exact ⟨rfl, hS.out.st.1⟩
                | (refine ⟨?_, hS.out.st.1⟩; simp)
        · have HX2 := Lib.hid hi
          have HX := Lib.hid (show ¬ (0 ≤ a2 ∧ a2 < (xs0.length : Int)) by rw [HLN.out]; exact hi)
          clear hi
          go_enter Tryz.func3, Tryz.ntmps3
          have HIA := Lib.hid ((HI.out.below hS.out.bl).below ((Below.refl _ w).alloc (Nat.le_refl _) (.cells #[] 2)))
          go_wp2_with (first | (at_builtin; refine wp_app64 rfl _ _ rfl w.heap.size rfl (OwnI.empty (heap_alloc_new _ _) (Nat.le_refl _)) rfl HIA.out (by omega) (by omega) (by simp) ?_; intro A2 c2 w2 hown2 hb2; simp only [Nat.zero_add, List.nil_append] at hown2; have HO2 := Lib.hid hown2; have HB2 := Lib.hid (((Below.refl _ w).alloc (Nat.le_refl _) (.cells #[] 2)).trans hb2); clear hown2 hb2) | fail)
          obtain ⟨g2, rfl⟩ : ∃ g2, A2 = some ⟨g2, 0, none⟩ := by
            rcases HO2.out.ways with ⟨_, e, _⟩ | ⟨g2, _, e, _⟩
            · omega
            · exact ⟨g2, e⟩
          go_at_call 11
          refine (fnew_ok HO2.out.il HM.out).mono ?_
          rintro e v1 ⟨t, g, rfl, hT, ht, hg, htg, hb⟩
          have HT := Lib.hid hT
          have HO3 := Lib.hid (HO2.out.below hb)
          have HNE := Lib.hid (show t ≠ g2 ∧ g ≠ g2 by have h1 := HO2.out.ge; omega)
          have HB3 := Lib.hid (HB2.out.trans (hb.mono HB2.out.size))
          clear hT ht hg htg hb HO2 HB2
          clear hS; have hS := Lib.hid (SC.fresh HB3.out)
          have HMY := Lib.hid (fun (W : World) (hb : Below w.heap.size w W) => (show Calls Tryz.prog 12 #[.slice A0 n0 c0] W fun e w' => e = .returned (.int .i64 0) ∧ w' = W by rw [← HM.out]; exact rmay_any (HI.out.below hb)))
          go_wp2_with fail
          go_at_call 12
          with_reducible refine (HMY.out _ hS.out.wb).mono ?_
          rintro e v2 ⟨rfl, rfl⟩
          have h1 := hS.out
          clear hS; have hS := Lib.hid h1; clear h1
          go_wp2_with fail
          go_loopw [10] (fun i wr => ∃ (k : Nat) (zs : List Int), k ≤ n0 ∧ i = .int .i64 k ∧ OwnI wr w.heap.size (some ⟨g2, 0, none⟩) n0 c2 zs ∧ TbOk wr t g xs0 ∧ Below w.heap.size w wr) (fun i _ => n0 - (intOf i).toNat)
          case atStart => exact ⟨0, xs0, Nat.zero_le _, rfl, HO3.out.below hS.out.bl, HT.out.on hS.out.bl, hS.out.wb⟩
          case round =>
            obtain ⟨k, zs, hk, rfl, ho, hT, hb⟩ := hrel
            clear hS HT HO3 HB3
            have HO3 := Lib.hid ho
            have HT := Lib.hid hT
            have HB3 := Lib.hid hb
            clear ho hT hb
            by_cases hlt : k < n0
            · have hgl : zs[k]? = some (zs[k]'(by rw [HO3.out.len]; exact hlt)) := List.getElem?_eq_getElem _
              have hc := HO3.out.il.the hlt hgl
              rw [N.add_plain, Nat.zero_add] at hc
              have hf := HO3.out.fr
              clear hgl
              go_wp2
              go_roundw
              case rel => exact ⟨k + 1, zs.set k (-7), hlt, by go_num, HO3.out.set (by decide), ⟨BlkOk.far (p := ⟨g2, k, none⟩) HT.out.tb HNE.out.1 _, BlkOk.far (p := ⟨g2, k, none⟩) HT.out.en HNE.out.2 _⟩, HB3.out.setCell (p := ⟨g2, k, none⟩) HO3.out.ge.1 _⟩
              case measure => simp [intOf]; omega
            · obtain rfl : k = n0 := by omega
              have hS := Lib.hid (SC.fresh HB3.out)
              go_wp2_with fail
              go_at_call 13
              with_reducible refine (tpick_ok (HT.out.on hS.out.bl) HW.out HP.out).mono ?_
              rintro e v3 ⟨rfl, hb⟩
              have h1 := hS.out.below hb
              clear hb
              clear hS; have hS := Lib.hid h1; clear h1
              go_wp2_with fail
              go_at_call 14
              with_reducible refine (rpick_ok (HI.out.below hS.out.wb) HW.out HP.out).mono ?_
              rintro e v4 ⟨rfl, rfl⟩
              have h1 := hS.out
              clear hS; have hS := Lib.hid h1; clear h1
              go_wp2_with fail
              go_at_call 15
              with_reducible refine (tshare_no (HT.out.on hS.out.bl) HW.out HX.out).mono ?_
              rintro e v5 ho
              obtain ⟨rfl, h1⟩ := hS.out.tRZ ho
              clear hS; have hS := Lib.hid h1; clear h1
              have h1 := (hS.out.boxed (vs := [.bool false, .slice none 0 0, .slice none 0 0]) (ty := 37) rfl rfl)
              try simp only [World.size_alloc] at h1
              obtain ⟨p0_0, p1_0, p2_0⟩ := h1.cs3 0 rfl
              clear h1
              go_wp2_with fail
              clear p0_0 p1_0 p2_0
              generalize hwa : World.alloc v5 _ = v6
              have h1 := (hS.out.boxed (vs := [.bool false, .slice none 0 0, .slice none 0 0]) (ty := 37) rfl hwa)
              have hsz : v6.heap.size = v5.heap.size + 1 := by rw [← hwa]; simp only [World.size_alloc]
              try rw [← hsz]
              clear hwa hsz
              clear hS; have hS := Lib.hid h1; clear h1
              obtain ⟨x0_0, x1_0, x2_0⟩ := hS.out.cs3 0 rfl
              go_wp2_with fail
              go_at_call 16
              with_reducible refine (rshare_no HX2.out).mono ?_
              rintro e v7 ho
              clear x0_0 x1_0 x2_0
              obtain ⟨rfl, h1⟩ := hS.out.tRZ ho
              clear hS; have hS := Lib.hid h1; clear h1
              obtain ⟨x0_0, x1_0, x2_0⟩ := hS.out.cs3 0 rfl
              have h1 := (hS.out.boxed (vs := [.bool false, .slice none 0 0, .slice none 0 0]) (ty := 37) rfl rfl)
              try simp only [World.size_alloc] at h1
              obtain ⟨p0_0, p1_0, p2_0⟩ := h1.cs3 0 rfl
              obtain ⟨p0_1, p1_1, p2_1⟩ := h1.cs3 1 rfl
              clear h1
              go_wp2_with fail
              clear x0_0 x1_0 x2_0
              clear p0_0 p1_0 p2_0 p0_1 p1_1 p2_1
              generalize hwa : World.alloc v7 _ = v8
              have h1 := (hS.out.boxed (vs := [.bool false, .slice none 0 0, .slice none 0 0]) (ty := 37) rfl hwa)
              have hsz : v8.heap.size = v7.heap.size + 1 := by rw [← hwa]; simp only [World.size_alloc]
              try rw [← hsz]
              clear hwa hsz
              clear hS; have hS := Lib.hid h1; clear h1
              obtain ⟨x0_0, x1_0, x2_0⟩ := hS.out.cs3 0 rfl
              obtain ⟨x0_1, x1_1, x2_1⟩ := hS.out.cs3 1 rfl
              go_wp2_with (first
                | (go_at_call 17; (with_reducible refine (is9_c hS.out.none_ List.mem_cons_self List.mem_cons_self List.mem_cons_self List.mem_cons_self rfl rfl rfl).mono ?_); rintro e w' ⟨rfl, h1⟩; clear x0_0 x1_0 x2_0 x0_1 x1_1 x2_1; clear hS; have hS := Lib.hid h1; clear h1; obtain ⟨x0_0, x1_0, x2_0⟩ := hS.out.cs3 0 rfl; obtain ⟨x0_1, x1_1, x2_1⟩ := hS.out.cs3 1 rfl)
                | (go_at_call 18; (with_reducible refine (tlen_n (HT.out.on hS.out.bl) HLN.out).mono ?_); rintro e w' ⟨rfl, rfl⟩; have h1 := hS.out; clear x0_0 x1_0 x2_0 x0_1 x1_1 x2_1; clear hS; have hS := Lib.hid h1; clear h1; obtain ⟨x0_0, x1_0, x2_0⟩ := hS.out.cs3 0 rfl; obtain ⟨x0_1, x1_1, x2_1⟩ := hS.out.cs3 1 rfl)
                | (go_at_call 19; (with_reducible refine (tsum_any (HT.out.on hS.out.bl) HW.out.l1 HS.out).mono ?_); rintro e w' ⟨rfl, rfl⟩; have h1 := hS.out; clear x0_0 x1_0 x2_0 x0_1 x1_1 x2_1; clear hS; have hS := Lib.hid h1; clear h1; obtain ⟨x0_0, x1_0, x2_0⟩ := hS.out.cs3 0 rfl; obtain ⟨x0_1, x1_1, x2_1⟩ := hS.out.cs3 1 rfl)
                | (go_at_call 20; (with_reducible refine (rsum_any (HI.out.below hS.out.wb) HW.out.ok (by omega) HSN.out).mono ?_); rintro e w' ⟨rfl, rfl⟩; have h1 := hS.out; clear x0_0 x1_0 x2_0 x0_1 x1_1 x2_1; clear hS; have hS := Lib.hid h1; clear h1; obtain ⟨x0_0, x1_0, x2_0⟩ := hS.out.cs3 0 rfl; obtain ⟨x0_1, x1_1, x2_1⟩ := hS.out.cs3 1 rfl)
                | (go_at_call 10; (with_reducible refine (awake10 _).mono ?_); rintro e w' ⟨rfl, hb⟩; have h1 := hS.out.below hb; clear hb; clear x0_0 x1_0 x2_0 x0_1 x1_1 x2_1; clear hS; have hS := Lib.hid h1; clear h1; obtain ⟨x0_0, x1_0, x2_0⟩ := hS.out.cs3 0 rfl; obtain ⟨x0_1, x1_1, x2_1⟩ := hS.out.cs3 1 rfl))
              go_wp2
              go_ret
              first
                | exact ⟨rfl, hS.out.st.1⟩
                | (refine ⟨?_, hS.out.st.1⟩; simp)
      · have HP := Lib.hid (show ¬ (0 ≤ a1 ∧ a1 < pre xs0 xs0.length) by rw [HS.out]; exact hr)
        clear hr
        by_cases hi : 0 ≤ a2 ∧ a2 < (n0 : Int)
        · obtain ⟨ip, rfl⟩ := Int.eq_ofNat_of_zero_le hi.1
          obtain ⟨x, hx, _, _⟩ := HW.out.ok.at (k := ip) (by rw [HLN.out]; omega)
          have HX := Lib.hid hx
          obtain ⟨r, hr⟩ : ∃ r, mkRat x sm.toNat = r := ⟨_, rfl⟩
          have HR := Lib.hid hr
          clear hx hr hi
          go_enter Tryz.func3, Tryz.ntmps3
          have HIA := Lib.hid ((HI.out.below hS.out.bl).below ((Below.refl _ w).alloc (Nat.le_refl _) (.cells #[] 2)))
          go_wp2_with (first | (at_builtin; refine wp_app64 rfl _ _ rfl w.heap.size rfl (OwnI.empty (heap_alloc_new _ _) (Nat.le_refl _)) rfl HIA.out (by omega) (by omega) (by simp) ?_; intro A2 c2 w2 hown2 hb2; simp only [Nat.zero_add, List.nil_append] at hown2; have HO2 := Lib.hid hown2; have HB2 := Lib.hid (((Below.refl _ w).alloc (Nat.le_refl _) (.cells #[] 2)).trans hb2); clear hown2 hb2) | fail)
          obtain ⟨g2, rfl⟩ : ∃ g2, A2 = some ⟨g2, 0, none⟩ := by
            rcases HO2.out.ways with ⟨_, e, _⟩ | ⟨g2, _, e, _⟩
            · omega
            · exact ⟨g2, e⟩
          go_at_call 11
          refine (fnew_ok HO2.out.il HM.out).mono ?_
          rintro e v1 ⟨t, g, rfl, hT, ht, hg, htg, hb⟩
          have HT := Lib.hid hT
          have HO3 := Lib.hid (HO2.out.below hb)
          have HNE := Lib.hid (show t ≠ g2 ∧ g ≠ g2 by have h1 := HO2.out.ge; omega)
          have HB3 := Lib.hid (HB2.out.trans (hb.mono HB2.out.size))
          clear hT ht hg htg hb HO2 HB2
          clear hS; have hS := Lib.hid (SC.fresh HB3.out)
          have HMY := Lib.hid (fun (W : World) (hb : Below w.heap.size w W) => (show Calls Tryz.prog 12 #[.slice A0 n0 c0] W fun e w' => e = .returned (.int .i64 0) ∧ w' = W by rw [← HM.out]; exact rmay_any (HI.out.below hb)))
          go_wp2_with fail
          go_at_call 12
          with_reducible refine (HMY.out _ hS.out.wb).mono ?_
          rintro e v2 ⟨rfl, rfl⟩
          have h1 := hS.out
          clear hS; have hS := Lib.hid h1; clear h1
          go_wp2_with fail
          go_loopw [10] (fun i wr => ∃ (k : Nat) (zs : List Int), k ≤ n0 ∧ i = .int .i64 k ∧ OwnI wr w.heap.size (some ⟨g2, 0, none⟩) n0 c2 zs ∧ TbOk wr t g xs0 ∧ Below w.heap.size w wr) (fun i _ => n0 - (intOf i).toNat)
          case atStart => exact ⟨0, xs0, Nat.zero_le _, rfl, HO3.out.below hS.out.bl, HT.out.on hS.out.bl, hS.out.wb⟩
          case round =>
            obtain ⟨k, zs, hk, rfl, ho, hT, hb⟩ := hrel
            clear hS HT HO3 HB3
            have HO3 := Lib.hid ho
            have HT := Lib.hid hT
            have HB3 := Lib.hid hb
            clear ho hT hb
            by_cases hlt : k < n0
            · have hgl : zs[k]? = some (zs[k]'(by rw [HO3.out.len]; exact hlt)) := List.getElem?_eq_getElem _
              have hc := HO3.out.il.the hlt hgl
              rw [N.add_plain, Nat.zero_add] at hc
              have hf := HO3.out.fr
              clear hgl
              go_wp2
              go_roundw
              case rel => exact ⟨k + 1, zs.set k (-7), hlt, by go_num, HO3.out.set (by decide), ⟨BlkOk.far (p := ⟨g2, k, none⟩) HT.out.tb HNE.out.1 _, BlkOk.far (p := ⟨g2, k, none⟩) HT.out.en HNE.out.2 _⟩, HB3.out.setCell (p := ⟨g2, k, none⟩) HO3.out.ge.1 _⟩
              case measure => simp [intOf]; omega
            · obtain rfl : k = n0 := by omega
              have hS := Lib.hid (SC.fresh HB3.out)
              go_wp2_with fail
              go_at_call 13
              with_reducible refine (tpick_no (HT.out.on hS.out.bl) HW.out HP.out).mono ?_
              rintro e v3 ⟨rfl, hb⟩
              have h1 := hS.out.below hb
              clear hb
              clear hS; have hS := Lib.hid h1; clear h1
              go_wp2_with fail
              go_at_call 14
              with_reducible refine (rpick_no (HI.out.below hS.out.wb) HW.out HP.out).mono ?_
              rintro e v4 ⟨rfl, rfl⟩
              have h1 := hS.out
              clear hS; have hS := Lib.hid h1; clear h1
              go_wp2_with fail
              go_at_call 15
              with_reducible refine (tshare_ok (HT.out.on hS.out.bl) HW.out HX.out HS.out HR.out).mono ?_
              rintro e v5 ho
              obtain ⟨A1, n1, c1, A2, n2, c2, rfl, h1⟩ := hS.out.rRE (Nat.le_refl _) ho
              clear hS; have hS := Lib.hid h1; clear h1
              have h1 := (hS.out.boxed (vs := [.bool (sg r.num), .slice A1 n1 c1, .slice A2 n2 c2]) (ty := 37) rfl rfl)
              try simp only [World.size_alloc] at h1
              obtain ⟨p0_0, p1_0, p2_0⟩ := h1.cs3 0 rfl
              clear h1
              go_wp2_with fail
              clear p0_0 p1_0 p2_0
              generalize hwa : World.alloc v5 _ = v6
              have h1 := (hS.out.boxed (vs := [.bool (sg r.num), .slice A1 n1 c1, .slice A2 n2 c2]) (ty := 37) rfl hwa)
              have hsz : v6.heap.size = v5.heap.size + 1 := by rw [← hwa]; simp only [World.size_alloc]
              try rw [← hsz]
              clear hwa hsz
              clear hS; have hS := Lib.hid h1; clear h1
              obtain ⟨x0_0, x1_0, x2_0⟩ := hS.out.cs3 0 rfl
              go_wp2_with fail
              go_at_call 16
              with_reducible refine (rshare_ok (HI.out.below hS.out.wb) HW.out HX.out HS.out HR.out).mono ?_
              rintro e v7 ho
              clear x0_0 x1_0 x2_0
              obtain ⟨A3, n3, c3, A4, n4, c4, rfl, h1⟩ := hS.out.rRE (Nat.le_refl _) ho
              clear hS; have hS := Lib.hid h1; clear h1
              obtain ⟨x0_0, x1_0, x2_0⟩ := hS.out.cs3 0 rfl
              have h1 := (hS.out.boxed (vs := [.bool (sg r.num), .slice A3 n3 c3, .slice A4 n4 c4]) (ty := 37) rfl rfl)
              try simp only [World.size_alloc] at h1
              obtain ⟨p0_0, p1_0, p2_0⟩ := h1.cs3 0 rfl
              obtain ⟨p0_1, p1_1, p2_1⟩ := h1.cs3 1 rfl
              clear h1
              go_wp2_with fail
              clear x0_0 x1_0 x2_0
              clear p0_0 p1_0 p2_0 p0_1 p1_1 p2_1
              generalize hwa : World.alloc v7 _ = v8
              have h1 := (hS.out.boxed (vs := [.bool (sg r.num), .slice A3 n3 c3, .slice A4 n4 c4]) (ty := 37) rfl hwa)
              have hsz : v8.heap.size = v7.heap.size + 1 := by rw [← hwa]; simp only [World.size_alloc]
              try rw [← hsz]
              clear hwa hsz
              clear hS; have hS := Lib.hid h1; clear h1
              obtain ⟨x0_0, x1_0, x2_0⟩ := hS.out.cs3 0 rfl
              obtain ⟨x0_1, x1_1, x2_1⟩ := hS.out.cs3 1 rfl
              go_wp2_with (first
                | (go_at_call 17; (with_reducible refine (is9_told (r := r) (r' := r) (k := 1) (k' := 1) hS.out (by repeat (first | exact List.mem_cons_self | apply List.mem_cons_of_mem)) (by repeat (first | exact List.mem_cons_self | apply List.mem_cons_of_mem)) (by repeat (first | exact List.mem_cons_self | apply List.mem_cons_of_mem)) (by repeat (first | exact List.mem_cons_self | apply List.mem_cons_of_mem)) rfl).mono ?_); rintro e w' ⟨rfl, h1⟩; clear x0_0 x1_0 x2_0 x0_1 x1_1 x2_1; clear hS; have hS := Lib.hid h1; clear h1; obtain ⟨x0_0, x1_0, x2_0⟩ := hS.out.cs3 0 rfl; obtain ⟨x0_1, x1_1, x2_1⟩ := hS.out.cs3 1 rfl)
                | (go_at_call 18; (with_reducible refine (tlen_n (HT.out.on hS.out.bl) HLN.out).mono ?_); rintro e w' ⟨rfl, rfl⟩; have h1 := hS.out; clear x0_0 x1_0 x2_0 x0_1 x1_1 x2_1; clear hS; have hS := Lib.hid h1; clear h1; obtain ⟨x0_0, x1_0, x2_0⟩ := hS.out.cs3 0 rfl; obtain ⟨x0_1, x1_1, x2_1⟩ := hS.out.cs3 1 rfl)
                | (go_at_call 19; (with_reducible refine (tsum_any (HT.out.on hS.out.bl) HW.out.l1 HS.out).mono ?_); rintro e w' ⟨rfl, rfl⟩; have h1 := hS.out; clear x0_0 x1_0 x2_0 x0_1 x1_1 x2_1; clear hS; have hS := Lib.hid h1; clear h1; obtain ⟨x0_0, x1_0, x2_0⟩ := hS.out.cs3 0 rfl; obtain ⟨x0_1, x1_1, x2_1⟩ := hS.out.cs3 1 rfl)
                | (go_at_call 20; (with_reducible refine (rsum_any (HI.out.below hS.out.wb) HW.out.ok (by omega) HSN.out).mono ?_); rintro e w' ⟨rfl, rfl⟩; have h1 := hS.out; clear x0_0 x1_0 x2_0 x0_1 x1_1 x2_1; clear hS; have hS := Lib.hid h1; clear h1; obtain ⟨x0_0, x1_0, x2_0⟩ := hS.out.cs3 0 rfl; obtain ⟨x0_1, x1_1, x2_1⟩ := hS.out.cs3 1 rfl)
                | (go_at_call 10; (with_reducible refine (awake10 _).mono ?_); rintro e w' ⟨rfl, hb⟩; have h1 := hS.out.below hb; clear hb; clear x0_0 x1_0 x2_0 x0_1 x1_1 x2_1; clear hS; have hS := Lib.hid h1; clear h1; obtain ⟨x0_0, x1_0, x2_0⟩ := hS.out.cs3 0 rfl; obtain ⟨x0_1, x1_1, x2_1⟩ := hS.out.cs3 1 rfl))
              go_wp2
              go_ret
              first
                | exact ⟨rfl, hS.out.st.1⟩
                | (refine ⟨?_, hS.out.st.1⟩; simp)
        · have HX2 := Lib.hid hi
          have HX := Lib.hid (show ¬ (0 ≤ a2 ∧ a2 < (xs0.length : Int)) by rw [HLN.out]; exact hi)
          clear hi
          go_enter Tryz.func3, Tryz.ntmps3
          have HIA := Lib.hid ((HI.out.below hS.out.bl).below ((Below.refl _ w).alloc (Nat.le_refl _) (.cells #[] 2)))
          go_wp2_with (first | (at_builtin; refine wp_app64 rfl _ _ rfl w.heap.size rfl (OwnI.empty (heap_alloc_new _ _) (Nat.le_refl _)) rfl HIA.out (by omega) (by omega) (by simp) ?_; intro A2 c2 w2 hown2 hb2; simp only [Nat.zero_add, List.nil_append] at hown2; have HO2 := Lib.hid hown2; have HB2 := Lib.hid (((Below.refl _ w).alloc (Nat.le_refl _) (.cells #[] 2)).trans hb2); clear hown2 hb2) | fail)
          obtain ⟨g2, rfl⟩ : ∃ g2, A2 = some ⟨g2, 0, none⟩ := by
            rcases HO2.out.ways with ⟨_, e, _⟩ | ⟨g2, _, e, _⟩
            · omega
            · exact ⟨g2, e⟩
          go_at_call 11
          refine (fnew_ok HO2.out.il HM.out).mono ?_
          rintro e v1 ⟨t, g, rfl, hT, ht, hg, htg, hb⟩
          have HT := Lib.hid hT
          have HO3 := Lib.hid (HO2.out.below hb)
          have HNE := Lib.hid (show t ≠ g2 ∧ g ≠ g2 by have h1 := HO2.out.ge; omega)
          have HB3 := Lib.hid (HB2.out.trans (hb.mono HB2.out.size))
          clear hT ht hg htg hb HO2 HB2
          clear hS; have hS := Lib.hid (SC.fresh HB3.out)
          have HMY := Lib.hid (fun (W : World) (hb : Below w.heap.size w W) => (show Calls Tryz.prog 12 #[.slice A0 n0 c0] W fun e w' => e = .returned (.int .i64 0) ∧ w' = W by rw [← HM.out]; exact rmay_any (HI.out.below hb)))
          go_wp2_with fail
          go_at_call 12
          with_reducible refine (HMY.out _ hS.out.wb).mono ?_
          rintro e v2 ⟨rfl, rfl⟩
          have h1 := hS.out
          clear hS; have hS := Lib.hid h1; clear h1
          go_wp2_with fail
          go_loopw [10] (fun i wr => ∃ (k : Nat) (zs : List Int), k ≤ n0 ∧ i = .int .i64 k ∧ OwnI wr w.heap.size (some ⟨g2, 0, none⟩) n0 c2 zs ∧ TbOk wr t g xs0 ∧ Below w.heap.size w wr) (fun i _ => n0 - (intOf i).toNat)
          case atStart => exact ⟨0, xs0, Nat.zero_le _, rfl, HO3.out.below hS.out.bl, HT.out.on hS.out.bl, hS.out.wb⟩
          case round =>
            obtain ⟨k, zs, hk, rfl, ho, hT, hb⟩ := hrel
            clear hS HT HO3 HB3
            have HO3 := Lib.hid ho
            have HT := Lib.hid hT
            have HB3 := Lib.hid hb
            clear ho hT hb
            by_cases hlt : k < n0
            · have hgl : zs[k]? = some (zs[k]'(by rw [HO3.out.len]; exact hlt)) := List.getElem?_eq_getElem _
              have hc := HO3.out.il.the hlt hgl
              rw [N.add_plain, Nat.zero_add] at hc
              have hf := HO3.out.fr
              clear hgl
              go_wp2
              go_roundw
              case rel => exact ⟨k + 1, zs.set k (-7), hlt, by go_num, HO3.out.set (by decide), ⟨BlkOk.far (p := ⟨g2, k, none⟩) HT.out.tb HNE.out.1 _, BlkOk.far (p := ⟨g2, k, none⟩) HT.out.en HNE.out.2 _⟩, HB3.out.setCell (p := ⟨g2, k, none⟩) HO3.out.ge.1 _⟩
              case measure => simp [intOf]; omega
            · obtain rfl : k = n0 := by omega
              have hS := Lib.hid (SC.fresh HB3.out)
              go_wp2_with fail
              go_at_call 13
              with_reducible refine (tpick_no (HT.out.on hS.out.bl) HW.out HP.out).mono ?_
              rintro e v3 ⟨rfl, hb⟩
              have h1 := hS.out.below hb
              clear hb
              clear hS; have hS := Lib.hid h1; clear h1
              go_wp2_with fail
              go_at_call 14
              with_reducible refine (rpick_no (HI.out.below hS.out.wb) HW.out HP.out).mono ?_
              rintro e v4 ⟨rfl, rfl⟩
              have h1 := hS.out
              clear hS; have hS := Lib.hid h1; clear h1
              go_wp2_with fail
              go_at_call 15
              with_reducible refine (tshare_no (HT.out.on hS.out.bl) HW.out HX.out).mono ?_
              rintro e v5 ho
              obtain ⟨rfl, h1⟩ := hS.out.tRZ ho
              clear hS; have hS := Lib.hid h1; clear h1
              have h1 := (hS.out.boxed (vs := [.bool false, .slice none 0 0, .slice none 0 0]) (ty := 37) rfl rfl)
              try simp only [World.size_alloc] at h1
              obtain ⟨p0_0, p1_0, p2_0⟩ := h1.cs3 0 rfl
              clear h1
              go_wp2_with fail
              clear p0_0 p1_0 p2_0
              generalize hwa : World.alloc v5 _ = v6
              have h1 := (hS.out.boxed (vs := [.bool false, .slice none 0 0, .slice none 0 0]) (ty := 37) rfl hwa)
              have hsz : v6.heap.size = v5.heap.size + 1 := by rw [← hwa]; simp only [World.size_alloc]
              try rw [← hsz]
              clear hwa hsz
              clear hS; have hS := Lib.hid h1; clear h1
              obtain ⟨x0_0, x1_0, x2_0⟩ := hS.out.cs3 0 rfl
              go_wp2_with fail
              go_at_call 16
              with_reducible refine (rshare_no HX2.out).mono ?_
              rintro e v7 ho
              clear x0_0 x1_0 x2_0
              obtain ⟨rfl, h1⟩ := hS.out.tRZ ho
              clear hS; have hS := Lib.hid h1; clear h1
              obtain ⟨x0_0, x1_0, x2_0⟩ := hS.out.cs3 0 rfl
              have h1 := (hS.out.boxed (vs := [.bool false, .slice none 0 0, .slice none 0 0]) (ty := 37) rfl rfl)
              try simp only [World.size_alloc] at h1
              obtain ⟨p0_0, p1_0, p2_0⟩ := h1.cs3 0 rfl
              obtain ⟨p0_1, p1_1, p2_1⟩ := h1.cs3 1 rfl
              clear h1
              go_wp2_with fail
              clear x0_0 x1_0 x2_0
              clear p0_0 p1_0 p2_0 p0_1 p1_1 p2_1
              generalize hwa : World.alloc v7 _ = v8
              have h1 := (hS.out.boxed (vs := [.bool false, .slice none 0 0, .slice none 0 0]) (ty := 37) rfl hwa)
              have hsz : v8.heap.size = v7.heap.size + 1 := by rw [← hwa]; simp only [World.size_alloc]
              try rw [← hsz]
              clear hwa hsz
              clear hS; have hS := Lib.hid h1; clear h1
              obtain ⟨x0_0, x1_0, x2_0⟩ := hS.out.cs3 0 rfl
              obtain ⟨x0_1, x1_1, x2_1⟩ := hS.out.cs3 1 rfl
              go_wp2_with (first
                | (go_at_call 17; (with_reducible refine (is9_c hS.out.none_ List.mem_cons_self List.mem_cons_self List.mem_cons_self List.mem_cons_self rfl rfl rfl).mono ?_); rintro e w' ⟨rfl, h1⟩; clear x0_0 x1_0 x2_0 x0_1 x1_1 x2_1; clear hS; have hS := Lib.hid h1; clear h1; obtain ⟨x0_0, x1_0, x2_0⟩ := hS.out.cs3 0 rfl; obtain ⟨x0_1, x1_1, x2_1⟩ := hS.out.cs3 1 rfl)
                | (go_at_call 18; (with_reducible refine (tlen_n (HT.out.on hS.out.bl) HLN.out).mono ?_); rintro e w' ⟨rfl, rfl⟩; have h1 := hS.out; clear x0_0 x1_0 x2_0 x0_1 x1_1 x2_1; clear hS; have hS := Lib.hid h1; clear h1; obtain ⟨x0_0, x1_0, x2_0⟩ := hS.out.cs3 0 rfl; obtain ⟨x0_1, x1_1, x2_1⟩ := hS.out.cs3 1 rfl)
                | (go_at_call 19; (with_reducible refine (tsum_any (HT.out.on hS.out.bl) HW.out.l1 HS.out).mono ?_); rintro e w' ⟨rfl, rfl⟩; have h1 := hS.out; clear x0_0 x1_0 x2_0 x0_1 x1_1 x2_1; clear hS; have hS := Lib.hid h1; clear h1; obtain ⟨x0_0, x1_0, x2_0⟩ := hS.out.cs3 0 rfl; obtain ⟨x0_1, x1_1, x2_1⟩ := hS.out.cs3 1 rfl)
                | (go_at_call 20; (with_reducible refine (rsum_any (HI.out.below hS.out.wb) HW.out.ok (by omega) HSN.out).mono ?_); rintro e w' ⟨rfl, rfl⟩; have h1 := hS.out; clear x0_0 x1_0 x2_0 x0_1 x1_1 x2_1; clear hS; have hS := Lib.hid h1; clear h1; obtain ⟨x0_0, x1_0, x2_0⟩ := hS.out.cs3 0 rfl; obtain ⟨x0_1, x1_1, x2_1⟩ := hS.out.cs3 1 rfl)
                | (go_at_call 10; (with_reducible refine (awake10 _).mono ?_); rintro e w' ⟨rfl, hb⟩; have h1 := hS.out.below hb; clear hb; clear x0_0 x1_0 x2_0 x0_1 x1_1 x2_1; clear hS; have hS := Lib.hid h1; clear h1; obtain ⟨x0_0, x1_0, x2_0⟩ := hS.out.cs3 0 rfl; obtain ⟨x0_1, x1_1, x2_1⟩ := hS.out.cs3 1 rfl))
              go_wp2
              go_ret
              first
                | exact ⟨rfl, hS.out.st.1⟩
                | (refine ⟨?_, hS.out.st.1⟩; simp)
    · obtain ⟨z, hz1, hz2, _, _⟩ := mayW_ways (fun e => hm (mayW_zero.2 e))
      have HM := Lib.hid hz1
      have HZ := Lib.hid hz2
      clear hz1 hm
      go_enter Tryz.func3, Tryz.ntmps3
      have HIA := Lib.hid ((HI.out.below hS.out.bl).below ((Below.refl _ w).alloc (Nat.le_refl _) (.cells #[] 2)))
      go_wp2_with (first | (at_builtin; refine wp_app64 rfl _ _ rfl w.heap.size rfl (OwnI.empty (heap_alloc_new _ _) (Nat.le_refl _)) rfl HIA.out (by omega) (by omega) (by simp) ?_; intro A2 c2 w2 hown2 hb2; simp only [Nat.zero_add, List.nil_append] at hown2; have HO2 := Lib.hid hown2; have HB2 := Lib.hid (((Below.refl _ w).alloc (Nat.le_refl _) (.cells #[] 2)).trans hb2); clear hown2 hb2) | fail)
      go_at_call 11
      refine (fnew_no HO2.out.il HM.out HZ.out).mono ?_
      rintro e v1 ⟨rfl, hb⟩
      have HB3 := Lib.hid (HB2.out.trans (hb.mono HB2.out.size))
      clear hb
      clear hS; have hS := Lib.hid (SC.fresh HB3.out)
      have hzb : (z != 0) = true := by simpa using HZ.out
      have HMY := Lib.hid (fun (W : World) (hb : Below w.heap.size w W) => (show Calls Tryz.prog 12 #[.slice A0 n0 c0] W fun e w' => e = .returned (.int .i64 z) ∧ w' = W by rw [← HM.out]; exact rmay_any (HI.out.below hb)))
      go_wp2_with fail
      go_at_call 12
      with_reducible refine (HMY.out _ hS.out.wb).mono ?_
      rintro e v2 ⟨rfl, rfl⟩
      have h1 := hS.out
      clear hS; have hS := Lib.hid h1; clear h1
      go_wp2_with fail
      go_at_call 10
      with_reducible refine (awake10 _).mono ?_
      rintro e v3 ⟨rfl, hb⟩
      have h1 := hS.out.below hb
      clear hb
      clear hS; have hS := Lib.hid h1; clear h1
      go_wp2
      go_ret
      first
        | exact ⟨rfl, hS.out.st.1⟩
        | (refine ⟨?_, hS.out.st.1⟩; simp)
set_option maxRecDepth 100000 in
theorem lifted (os : Os) (started : os.Started) (H : Type) (enc : TypeId × Value → H) :
    ReturnsInHanded {} Tryz.checked os 3 .any (fun w args => (Rows.freqTellsSpec.pre enc Tryz.prog Tryz.f3 Rows.freqTellsRow.domain false w args ∧ laidMetH Tryz.prog Rows.freqTellsRow.laid w) ∧ sizedMet enc Tryz.prog Tryz.f3 (OpenSpec.ofChange Rows.freqTellsSpec) false w args) (Rows.freqTellsSpec.post enc Tryz.prog Tryz.f3 false true false false) := by
  refine returnsInHanded_of_change_and (C := Tryz.checked) (X := fun w _ => laidMetH Tryz.prog Rows.freqTellsRow.laid w) (fun _ _ _ hh h => h.of_heap hh) own started (by kernel_rfl) Tryz.func3
    (ChangeSpec.witness_shaped (enc := enc) (C := Tryz.checked) (os := os) (X := fun w _ => laidMetH Tryz.prog Rows.freqTellsRow.laid w) false (World.laidAll Tryz.prog os Rows.freqTellsRow.laid) #[.slice none 0 0, .int .i64 0, .int .i64 0] 8 (World.laidAll_os _ _ _)
      (World.shaped_of_ZipB (by kernel_rfl) (by kernel_rfl)) (by kernel_rfl) (by kernel_rfl) (by kernel_rfl)
      (by rw [MakeChecks.laidMetH_plain _ _ _ (by kernel_rfl)]; exact laidMet_laidAll _ (by kernel_rfl) (by kernel_rfl))) ?_
  intro W base args ds gs before hval0 hW hcnd _ _ _
  have hval : ∀ (j : Nat) t v, Tryz.f3.params[j]? = some t → args[j]? = some v → Value.okWide Tryz.prog W .any base t v := hval0
  have hW' := hW
  obtain ⟨p, q, hA0, hV, hpq, hfz, hnd⟩ := hW
  have hA : DataW.TrodAll enc Tryz.prog W 0 (fun _ => true) true Tryz.f3.params.toList args.toList ds p := hA0
  rw [Tryz.params3] at hA hval
  obtain ⟨v0, vs0, d0, ds0, p0, q0, hargs, rfl, rfl, h0, r0⟩ := trodAll_cons hA
  obtain ⟨v1, vs1, d1, ds1, p1, q1, rfl, rfl, rfl, h1, r1⟩ := trodAll_cons r0
  obtain ⟨v2, vs2, d2, ds2, p2, q2, rfl, rfl, rfl, h2, r2⟩ := trodAll_cons r1
  obtain ⟨rfl, rfl, rfl⟩ := trodAll_nil r2
  obtain rfl : args = #[v0, v1, v2] := by cases args; simp_all
  obtain ⟨rfl, rfl⟩ := trodVars_none hV
  obtain ⟨A0, n0, c0, xs0, rfl, s0⟩ := open_i64s_ (hval 0 22 v0 rfl rfl) h0
  obtain ⟨a1, rfl, rfl, rfl, w1⟩ := open_int Tryz.underlying2 (hval 1 2 v1 rfl rfl) h1
  obtain ⟨a2, rfl, rfl, rfl, w2⟩ := open_int Tryz.underlying3 (hval 2 3 v2 rfl rfl) h2
  refine (walk W A0 n0 c0 xs0 s0 a1 w1 a2 w2).mono fun e W' ⟨he, hb⟩ => ?_
  subst he
  exact ⟨_, rfl, Frame.close laidOut hW' rfl rfl rfl Tryz.underlying4 (fun t ht => by rw [Tryz.params3] at ht; simp at ht; rcases ht with rfl | rfl | rfl <;> exact ⟨by kernel_rfl, of_decide_eq_true (by kernel_rfl)⟩) hb⟩
theorem over : Rows.freqTellsRow.holds Tryz.pinned (OpenSpec.ofChange Rows.freqTellsSpec) :=
  OpenClaim.holds_of_wide 3 Tryz.f3 rfl rfl rfl rfl rfl rfl rfl ⟨rfl, rfl, rfl, rfl, rfl⟩ rfl rfl rfl rfl rfl (by kernel_rfl) Tryz.func3 (by kernel_rfl)
    (of_decide_eq_true (by kernel_rfl)) (by unfold Func.isWrapper; first | (rw [if_pos (by decide +kernel)]; kernel_rfl) | (rw [if_neg (by decide +kernel)]; exact ⟨rfl, rfl⟩))
    (fun os started H enc _ => lifted os started H enc)
/-- the statement -/
theorem proved : Rows.FreqTellsCardSaid :=
  Claim7.holds_tied_plain_at .later [] _ _ _ _ over (fun _ h => by cases h) (by kernel_rfl) (fun _ h => by cases h) freqTells_row_tie rfl ⟨rfl, rfl⟩ (by kernel_rfl) rfl
    (fun f fn hf hfn => by
      obtain rfl : f = 3 := Option.some.inj ((show Tryz.prog.funcNamed "tombola/tombolalaw10.FreqTells" = some 3 by kernel_rfl).symm.trans hf) |>.symm
      obtain rfl : fn = Tryz.f3 := (Option.some.inj (Tryz.func3.symm.trans hfn)).symm
      exact ⟨by kernel_rfl, (fun j t ht => by
        rw [Tryz.params3] at ht
        have hm : t ∈ [22, 2, 3] := by simpa using Array.mem_of_getElem? ht
        have hall : ([22, 2, 3].all fun u => !Tryz.prog.wantsStandIn u) = true := by kernel_rfl
        exact (show Tryz.prog.wantsStandIn t = false by simpa using List.all_eq_true.1 hall t hm))⟩)
    (by kernel_rfl)
#print axioms proved
end Go.Proofs.YtolfjhfmcgibbaaGreatDoor.freqTells
