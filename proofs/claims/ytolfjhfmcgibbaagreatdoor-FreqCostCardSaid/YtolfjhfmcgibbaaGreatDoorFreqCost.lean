/-
  PROVED: the statement FreqCost (tombolalaw10.FreqCost) about the landed commit: for every input the law returns true and leaves its arguments as they were. Conditions: none beyond those that the given row itself prints.
-/
import Derived.Test.YtolfjhfmcgibbaaGreatDoorCards
import Derived.Test.YtolfjhfmcgibbaaGreatDoorTie
import Derived.LaidMore
import Derived.Lay
import Derived.SevenTiedAt
import Derived.Stop.Joined
import Derived.Test.YtolfjhfmcgibbaaGreatDoorRows
import Derived.WalkKit
import Derived.ProofKit
import Derived.OpenShut
import Derived.RowKit3
import Derived.Test.YtolfjhfmcgibbaaGreatDoorGFrame
import Derived.Test.YtolfjhfmcgibbaaGreatDoorFreState
import Derived.Test.YtolfjhfmcgibbaaGreatDoorI64Open
import Derived.Deep.RegionHeld3
namespace Go.Proofs.YtolfjhfmcgibbaaGreatDoor.freqCost
open Go.ChangeShapes Go.WideShapes Go.ChangeAt Go.RowKit
set_option linter.unusedVariables false
set_option linter.unusedSimpArgs false
set_option maxRecDepth 20000
open N
theorem own : ownKnob Tryz.prog.godebug = none := by kernel_rfl

set_option maxRecDepth 100000 in
set_option maxHeartbeats 40000000 in
theorem walk (w : World) (A0 : Option Addr) (n0 c0 : Nat) (xs0 : List Int) (h0 : Il w A0 n0 c0 xs0) (b1 : List UInt8) (l1 : b1.length ≤ maxLen) :
    Calls Tryz.prog 9 #[.slice A0 n0 c0, .string ⟨b1.toArray⟩] w fun e w' => e = .returned (.bool true) ∧ Below w.heap.size w w' := by
  have hS := Lib.hid (CS.start w)
  have HI := Lib.hid h0
  have HL := Lib.hid l1
  clear h0 l1
  by_cases hm : mayW xs0 = 0
  · have HM := Lib.hid hm
    have HW := Lib.hid (mayW_zero.1 hm)
    clear hm
    by_cases h : isB b1 = true
    · have HB := Lib.hid h
      clear h
      obtain ⟨m, hsm⟩ : ∃ m : Nat, pre xs0 xs0.length = (m : Int) := ⟨(pre xs0 xs0.length).toNat, by have := HW.out.pos; omega⟩
      have HS := Lib.hid hsm
      have hmb : 0 < m ∧ m ≤ 67108864 := by have h1 := HW.out.pos; have h2 := (HW.out.le (Nat.le_refl _)).2.2; rw [hsm] at h1 h2; omega
      have hcw : IntKind.u64.wrap (m : Int) = (m : Int) := by rw [IntKind.wrap_u64]; omega
      have HMB := Lib.hid hmb
      clear hsm hmb
      rcases hd : dr b1 0 false m with ⟨v, gd, a, o⟩
      obtain ⟨q, hq⟩ := pk_of HW.out HS.out hd
      have ha := (dr_ways hd).2.1 (Nat.zero_le _)
      obtain ⟨r, hr⟩ : ∃ r, cR m = r := ⟨_, rfl⟩
      have HD := Lib.hid hd
      have HR := Lib.hid hr
      have HM9 := Lib.hid (show m < 18446744073709551616 by have := HMB.out; omega)
      clear hd ha hr
      rcases hq with ⟨rfl, hp⟩ | ⟨rfl, rfl⟩
      · have hvw : IntKind.i64.wrap (v : Int) = (v : Int) := by
          have h1 := hp.range HW.out.ok
          rw [HS.out] at h1
          have h2 := HMB.out
          rw [IntKind.wrap_i64]
          omega
        have HP := Lib.hid hp
        clear hp
        go_enter Tryz.func9, Tryz.ntmps9
        go_wp2_with fail
        go_at_call 11
        refine (new10_s hS.out (HI.out.below hS.out.bl) HM.out).mono ?_
        rintro e v1 ⟨t, g, rfl, h1⟩
        have h2 : CS w v1 [TB t g xs0.length, EN g xs0] := h1
        clear hS h1; have hS := Lib.hid h2; clear h2
        go_wp2_with fail
        go_at_call 21
        refine (new_s hS.out HB.out).mono ?_
        rintro e v2 ⟨gc, rfl, h1⟩
        have h2 : CS w v2 [K gc b1 0 false, TB t g xs0.length, EN g xs0] := h1
        clear hS h1; have hS := Lib.hid h2; clear h2
        go_wp2_with fail
        go_at_call 21
        refine (new_s hS.out HB.out).mono ?_
        rintro e v3 ⟨gd, rfl, h1⟩
        have h2 : CS w v3 [K gd b1 0 false, K gc b1 0 false, TB t g xs0.length, EN g xs0] := h1
        clear hS h1; have hS := Lib.hid h2; clear h2
        go_wp2_with fail
        go_at_call 10
        refine (awake10_s hS.out).mono ?_
        rintro e v4 ⟨rfl, h1⟩
        have h2 : CS w v4 [K gd b1 0 false, K gc b1 0 false, TB t g xs0.length, EN g xs0] := h1
        clear hS h1; have hS := Lib.hid h2; clear h2
        go_wp2_with fail
        go_at_call 19
        refine (sum10_s hS.out 2 3 rfl rfl HW.out HS.out).mono ?_
        rintro e v5 ⟨rfl, h1⟩
        have h2 : CS w v5 [K gd b1 0 false, K gc b1 0 false, TB t g xs0.length, EN g xs0] := h1
        clear hS h1; have hS := Lib.hid h2; clear h2
        go_wp2_with fail
        go_at_call 35
        refine (draw10_s hS.out 0 rfl HB.out (Nat.zero_le _) HM9.out HD.out).mono ?_
        rintro e v6 ⟨rfl, h1⟩
        have h2 : CS w v6 [K gd b1 a o, K gc b1 0 false, TB t g xs0.length, EN g xs0] := h1
        clear hS h1; have hS := Lib.hid h2; clear h2
        go_wp2_with fail
        go_at_call 23
        refine (tdraw_s hS.out 2 3 1 rfl rfl rfl (by decide) (by decide) HW.out HB.out (Nat.zero_le _) HS.out HD.out (.inl ⟨rfl, HP.out⟩)).mono ?_
        rintro e v7 ⟨rfl, h1⟩
        have h2 : CS w v7 [K gd b1 a o, K gc b1 a o, TB t g xs0.length, EN g xs0] := h1
        clear hS h1; have hS := Lib.hid h2; clear h2
        have HT := Lib.hid (show TbOk v7 t g xs0 from hS.out.tb 2 rfl 3 rfl)
        have HC := Lib.hid (show CuOk v7 gc b1 a o from hS.out.get 1 rfl)
        have HE := Lib.hid (show CuOk v7 gd b1 a o from hS.out.get 0 rfl)
        have HB1 := Lib.hid hS.out.bl
        clear hS; have hS := Lib.hid (SC.fresh HB1.out)
        go_wp2_with fail
        go_at_call 19
        with_reducible refine (tsum_any (HT.out.on hS.out.bl) HW.out.l1 HS.out).mono ?_
        rintro e v8 ⟨rfl, rfl⟩
        have h1 := hS.out
        clear hS; have hS := Lib.hid h1; clear h1
        go_wp2_with fail
        go_at_call 36
        with_reducible refine (cost_any _ m HM9.out HMB.out.1).mono ?_
        rintro e v9 ho
        rw [HR.out] at ho
        obtain ⟨A1, n1, c1, A2, n2, c2, rfl, h1⟩ := hS.out.rRE (Nat.le_refl _) ho
        clear hS; have hS := Lib.hid h1; clear h1
        have h1 := (hS.out.boxed (vs := [.bool (sg r.num), .slice A1 n1 c1, .slice A2 n2 c2]) (ty := 37) rfl rfl)
        try simp only [World.size_alloc] at h1
        obtain ⟨p0_0, p1_0, p2_0⟩ := h1.cs3 0 rfl
        clear h1
        go_wp2_with fail
        clear p0_0 p1_0 p2_0
        generalize hwa : World.alloc v9 _ = v10
        have h1 := (hS.out.boxed (vs := [.bool (sg r.num), .slice A1 n1 c1, .slice A2 n2 c2]) (ty := 37) rfl hwa)
        have hsz : v10.heap.size = v9.heap.size + 1 := by rw [← hwa]; simp only [World.size_alloc]
        try rw [← hsz]
        clear hwa hsz
        clear hS; have hS := Lib.hid h1; clear h1
        obtain ⟨x0_0, x1_0, x2_0⟩ := hS.out.cs3 0 rfl
        go_wp2_with fail
        clear x0_0 x1_0 x2_0
        have h1 := hS.out.drew
        clear hS; have hS := Lib.hid h1; clear h1
        try simp only [List.append_eq, List.cons_append, List.nil_append]
        go_region_held3 (fun W => (W.cell? ⟨v9.heap.size, 0, none⟩ = some (.bool (sg r.num)) ∧ W.cell? ⟨v9.heap.size, 1, none⟩ = some (.slice A1 n1 c1) ∧ W.cell? ⟨v9.heap.size, 2, none⟩ = some (.slice A2 n2 c2))) (first | with_reducible exact hS.out.cs3 0 rfl | with_reducible exact hS.out.drew.cs3 0 rfl | with_reducible exact (hS.out.alloc _).cs3 0 rfl | with_reducible exact ((hS.out.alloc _).alloc _).cs3 0 rfl) (first
          | (go_at_call 27; (with_reducible refine (tcost_any (HT.out.on hS.out.bl) HW.out HS.out HR.out).mono ?_); rintro e w' ho; obtain ⟨A3, n3, c3, A4, n4, c4, rfl, h1⟩ := hS.out.rR (Nat.le_refl _) ho; clear hS; have hS := Lib.hid h1; clear h1)
          | (go_at_call 17; (with_reducible refine (is9_told (r := r) (r' := r) (k := 1030) (k' := 1030) hS.out (by repeat (first | exact List.mem_cons_self | apply List.mem_cons_of_mem)) (by repeat (first | exact List.mem_cons_self | apply List.mem_cons_of_mem)) (by repeat (first | exact List.mem_cons_self | apply List.mem_cons_of_mem)) (by repeat (first | exact List.mem_cons_self | apply List.mem_cons_of_mem)) rfl).mono ?_); rintro e w' ⟨rfl, h1⟩; clear hS; have hS := Lib.hid h1; clear h1)
          | (go_at_call 25; (with_reducible refine (at_any (HC.out.on hS.out.bl)).mono ?_); rintro e w' ⟨rfl, hb⟩; have h1 := hS.out.below hb; clear hb; clear hS; have hS := Lib.hid h1; clear h1)
          | (go_at_call 25; (with_reducible refine (at_any (HE.out.on hS.out.bl)).mono ?_); rintro e w' ⟨rfl, hb⟩; have h1 := hS.out.below hb; clear hb; clear hS; have hS := Lib.hid h1; clear h1)
          | (go_at_call 26; (with_reducible refine (over_any (HC.out.on hS.out.bl)).mono ?_); rintro e w' ⟨rfl, hb⟩; have h1 := hS.out.below hb; clear hb; clear hS; have hS := Lib.hid h1; clear h1)
          | (go_at_call 26; (with_reducible refine (over_any (HE.out.on hS.out.bl)).mono ?_); rintro e w' ⟨rfl, hb⟩; have h1 := hS.out.below hb; clear hb; clear hS; have hS := Lib.hid h1; clear h1))
        obtain ⟨x0_0, x1_0, x2_0⟩ := hS.out.cs3 0 rfl
        go_wp2_with fail
        go_at_call 29
        with_reducible refine (picked_ok (HT.out.on hS.out.bl) HW.out HP.out rfl).mono ?_
        rintro e v11 ⟨rfl, hb⟩
        clear x0_0 x1_0 x2_0
        have h1 := hS.out.below hb
        clear hb
        clear hS; have hS := Lib.hid h1; clear h1
        obtain ⟨x0_0, x1_0, x2_0⟩ := hS.out.cs3 0 rfl
        go_wp2
        go_ret
        first
          | exact ⟨rfl, hS.out.st.1⟩
          | (refine ⟨?_, hS.out.st.1⟩; simp)
      · go_enter Tryz.func9, Tryz.ntmps9
        go_wp2_with fail
        go_at_call 11
        refine (new10_s hS.out (HI.out.below hS.out.bl) HM.out).mono ?_
        rintro e v1 ⟨t, g, rfl, h1⟩
        have h2 : CS w v1 [TB t g xs0.length, EN g xs0] := h1
        clear hS h1; have hS := Lib.hid h2; clear h2
        go_wp2_with fail
        go_at_call 21
        refine (new_s hS.out HB.out).mono ?_
        rintro e v2 ⟨gc, rfl, h1⟩
        have h2 : CS w v2 [K gc b1 0 false, TB t g xs0.length, EN g xs0] := h1
        clear hS h1; have hS := Lib.hid h2; clear h2
        go_wp2_with fail
        go_at_call 21
        refine (new_s hS.out HB.out).mono ?_
        rintro e v3 ⟨gd, rfl, h1⟩
        have h2 : CS w v3 [K gd b1 0 false, K gc b1 0 false, TB t g xs0.length, EN g xs0] := h1
        clear hS h1; have hS := Lib.hid h2; clear h2
        go_wp2_with fail
        go_at_call 10
        refine (awake10_s hS.out).mono ?_
        rintro e v4 ⟨rfl, h1⟩
        have h2 : CS w v4 [K gd b1 0 false, K gc b1 0 false, TB t g xs0.length, EN g xs0] := h1
        clear hS h1; have hS := Lib.hid h2; clear h2
        go_wp2_with fail
        go_at_call 19
        refine (sum10_s hS.out 2 3 rfl rfl HW.out HS.out).mono ?_
        rintro e v5 ⟨rfl, h1⟩
        have h2 : CS w v5 [K gd b1 0 false, K gc b1 0 false, TB t g xs0.length, EN g xs0] := h1
        clear hS h1; have hS := Lib.hid h2; clear h2
        go_wp2_with fail
        go_at_call 35
        refine (draw10_s hS.out 0 rfl HB.out (Nat.zero_le _) HM9.out HD.out).mono ?_
        rintro e v6 ⟨rfl, h1⟩
        have h2 : CS w v6 [K gd b1 a o, K gc b1 0 false, TB t g xs0.length, EN g xs0] := h1
        clear hS h1; have hS := Lib.hid h2; clear h2
        go_wp2_with fail
        go_at_call 23
        refine (tdraw_s hS.out 2 3 1 rfl rfl rfl (by decide) (by decide) HW.out HB.out (Nat.zero_le _) HS.out HD.out (.inr ⟨rfl, rfl⟩)).mono ?_
        rintro e v7 ⟨rfl, h1⟩
        have h2 : CS w v7 [K gd b1 a o, K gc b1 a o, TB t g xs0.length, EN g xs0] := h1
        clear hS h1; have hS := Lib.hid h2; clear h2
        have HT := Lib.hid (show TbOk v7 t g xs0 from hS.out.tb 2 rfl 3 rfl)
        have HC := Lib.hid (show CuOk v7 gc b1 a o from hS.out.get 1 rfl)
        have HE := Lib.hid (show CuOk v7 gd b1 a o from hS.out.get 0 rfl)
        have HB1 := Lib.hid hS.out.bl
        clear hS; have hS := Lib.hid (SC.fresh HB1.out)
        go_wp2_with fail
        go_at_call 19
        with_reducible refine (tsum_any (HT.out.on hS.out.bl) HW.out.l1 HS.out).mono ?_
        rintro e v8 ⟨rfl, rfl⟩
        have h1 := hS.out
        clear hS; have hS := Lib.hid h1; clear h1
        go_wp2_with fail
        go_at_call 36
        with_reducible refine (cost_any _ m HM9.out HMB.out.1).mono ?_
        rintro e v9 ho
        rw [HR.out] at ho
        obtain ⟨A1, n1, c1, A2, n2, c2, rfl, h1⟩ := hS.out.rRE (Nat.le_refl _) ho
        clear hS; have hS := Lib.hid h1; clear h1
        have h1 := (hS.out.boxed (vs := [.bool (sg r.num), .slice A1 n1 c1, .slice A2 n2 c2]) (ty := 37) rfl rfl)
        try simp only [World.size_alloc] at h1
        obtain ⟨p0_0, p1_0, p2_0⟩ := h1.cs3 0 rfl
        clear h1
        go_wp2_with fail
        clear p0_0 p1_0 p2_0
        generalize hwa : World.alloc v9 _ = v10
        have h1 := (hS.out.boxed (vs := [.bool (sg r.num), .slice A1 n1 c1, .slice A2 n2 c2]) (ty := 37) rfl hwa)
        have hsz : v10.heap.size = v9.heap.size + 1 := by rw [← hwa]; simp only [World.size_alloc]
        try rw [← hsz]
        clear hwa hsz
        clear hS; have hS := Lib.hid h1; clear h1
        obtain ⟨x0_0, x1_0, x2_0⟩ := hS.out.cs3 0 rfl
        go_wp2_with fail
        clear x0_0 x1_0 x2_0
        have h1 := hS.out.drew
        clear hS; have hS := Lib.hid h1; clear h1
        try simp only [List.append_eq, List.cons_append, List.nil_append]
        go_region_held3 (fun W => (W.cell? ⟨v9.heap.size, 0, none⟩ = some (.bool (sg r.num)) ∧ W.cell? ⟨v9.heap.size, 1, none⟩ = some (.slice A1 n1 c1) ∧ W.cell? ⟨v9.heap.size, 2, none⟩ = some (.slice A2 n2 c2))) (first | with_reducible exact hS.out.cs3 0 rfl | with_reducible exact hS.out.drew.cs3 0 rfl | with_reducible exact (hS.out.alloc _).cs3 0 rfl | with_reducible exact ((hS.out.alloc _).alloc _).cs3 0 rfl) (first
          | (go_at_call 27; (with_reducible refine (tcost_any (HT.out.on hS.out.bl) HW.out HS.out HR.out).mono ?_); rintro e w' ho; obtain ⟨A3, n3, c3, A4, n4, c4, rfl, h1⟩ := hS.out.rR (Nat.le_refl _) ho; clear hS; have hS := Lib.hid h1; clear h1)
          | (go_at_call 17; (with_reducible refine (is9_told (r := r) (r' := r) (k := 1030) (k' := 1030) hS.out (by repeat (first | exact List.mem_cons_self | apply List.mem_cons_of_mem)) (by repeat (first | exact List.mem_cons_self | apply List.mem_cons_of_mem)) (by repeat (first | exact List.mem_cons_self | apply List.mem_cons_of_mem)) (by repeat (first | exact List.mem_cons_self | apply List.mem_cons_of_mem)) rfl).mono ?_); rintro e w' ⟨rfl, h1⟩; clear hS; have hS := Lib.hid h1; clear h1)
          | (go_at_call 25; (with_reducible refine (at_any (HC.out.on hS.out.bl)).mono ?_); rintro e w' ⟨rfl, hb⟩; have h1 := hS.out.below hb; clear hb; clear hS; have hS := Lib.hid h1; clear h1)
          | (go_at_call 25; (with_reducible refine (at_any (HE.out.on hS.out.bl)).mono ?_); rintro e w' ⟨rfl, hb⟩; have h1 := hS.out.below hb; clear hb; clear hS; have hS := Lib.hid h1; clear h1)
          | (go_at_call 26; (with_reducible refine (over_any (HC.out.on hS.out.bl)).mono ?_); rintro e w' ⟨rfl, hb⟩; have h1 := hS.out.below hb; clear hb; clear hS; have hS := Lib.hid h1; clear h1)
          | (go_at_call 26; (with_reducible refine (over_any (HE.out.on hS.out.bl)).mono ?_); rintro e w' ⟨rfl, hb⟩; have h1 := hS.out.below hb; clear hb; clear hS; have hS := Lib.hid h1; clear h1))
        obtain ⟨x0_0, x1_0, x2_0⟩ := hS.out.cs3 0 rfl
        go_wp2
        go_ret
        first
          | exact ⟨rfl, hS.out.st.1⟩
          | (refine ⟨?_, hS.out.st.1⟩; simp)
    · have hB : isB b1 = false := by simpa using h
      have HB := Lib.hid hB
      clear h hB
      go_enter Tryz.func9, Tryz.ntmps9
      go_wp2_with fail
      go_at_call 11
      refine (new10_s hS.out (HI.out.below hS.out.bl) HM.out).mono ?_
      rintro e v1 ⟨t, g, rfl, h1⟩
      have h2 : CS w v1 [TB t g xs0.length, EN g xs0] := h1
      clear hS h1; have hS := Lib.hid h2; clear h2
      go_wp2_with fail
      go_at_call 21
      refine (cnew10_no (l := b1) hS.out HL.out HB.out).mono ?_
      rintro e v2 ⟨rfl, h1⟩
      have h2 : CS w v2 [TB t g xs0.length, EN g xs0] := h1
      clear hS h1; have hS := Lib.hid h2; clear h2
      go_wp2_with fail
      go_at_call 21
      refine (cnew10_no (l := b1) hS.out HL.out HB.out).mono ?_
      rintro e v3 ⟨rfl, h1⟩
      have h2 : CS w v3 [TB t g xs0.length, EN g xs0] := h1
      clear hS h1; have hS := Lib.hid h2; clear h2
      go_wp2_with fail
      go_at_call 10
      refine (awake10_s hS.out).mono ?_
      rintro e v4 ⟨rfl, h1⟩
      have h2 : CS w v4 [TB t g xs0.length, EN g xs0] := h1
      clear hS h1; have hS := Lib.hid h2; clear h2
      go_wp2
      go_ret
      exact ⟨rfl, hS.out.bl⟩
  · obtain ⟨z, hz1, hz2, _, _⟩ := mayW_ways (fun e => hm (mayW_zero.2 e))
    have HM := Lib.hid hz1
    have HZ := Lib.hid hz2
    clear hz1 hm
    by_cases h : isB b1 = true
    · have HB := Lib.hid h
      clear h
      go_enter Tryz.func9, Tryz.ntmps9
      go_wp2_with fail
      go_at_call 11
      refine (new10_no hS.out (HI.out.below hS.out.bl) HM.out HZ.out).mono ?_
      rintro e v1 ⟨rfl, h1⟩
      have h2 : CS w v1 [] := h1
      clear hS h1; have hS := Lib.hid h2; clear h2
      go_wp2_with fail
      go_at_call 21
      refine (new_s hS.out HB.out).mono ?_
      rintro e v2 ⟨gc, rfl, h1⟩
      have h2 : CS w v2 [K gc b1 0 false] := h1
      clear hS h1; have hS := Lib.hid h2; clear h2
      go_wp2_with fail
      go_at_call 21
      refine (new_s hS.out HB.out).mono ?_
      rintro e v3 ⟨gd, rfl, h1⟩
      have h2 : CS w v3 [K gd b1 0 false, K gc b1 0 false] := h1
      clear hS h1; have hS := Lib.hid h2; clear h2
      go_wp2_with fail
      go_at_call 10
      refine (awake10_s hS.out).mono ?_
      rintro e v4 ⟨rfl, h1⟩
      have h2 : CS w v4 [K gd b1 0 false, K gc b1 0 false] := h1
      clear hS h1; have hS := Lib.hid h2; clear h2
      go_wp2
      go_ret
      exact ⟨rfl, hS.out.bl⟩
    · have hB : isB b1 = false := by simpa using h
      have HB := Lib.hid hB
      clear h hB
      go_enter Tryz.func9, Tryz.ntmps9
      go_wp2_with fail
      go_at_call 11
      refine (new10_no hS.out (HI.out.below hS.out.bl) HM.out HZ.out).mono ?_
      rintro e v1 ⟨rfl, h1⟩
      have h2 : CS w v1 [] := h1
      clear hS h1; have hS := Lib.hid h2; clear h2
      go_wp2_with fail
      go_at_call 21
      refine (cnew10_no (l := b1) hS.out HL.out HB.out).mono ?_
      rintro e v2 ⟨rfl, h1⟩
      have h2 : CS w v2 [] := h1
      clear hS h1; have hS := Lib.hid h2; clear h2
      go_wp2_with fail
      go_at_call 21
      refine (cnew10_no (l := b1) hS.out HL.out HB.out).mono ?_
      rintro e v3 ⟨rfl, h1⟩
      have h2 : CS w v3 [] := h1
      clear hS h1; have hS := Lib.hid h2; clear h2
      go_wp2_with fail
      go_at_call 10
      refine (awake10_s hS.out).mono ?_
      rintro e v4 ⟨rfl, h1⟩
      have h2 : CS w v4 [] := h1
      clear hS h1; have hS := Lib.hid h2; clear h2
      go_wp2
      go_ret
      exact ⟨rfl, hS.out.bl⟩
set_option maxRecDepth 100000 in
theorem lifted (os : Os) (started : os.Started) (H : Type) (enc : TypeId × Value → H) :
    ReturnsInHanded {} Tryz.checked os 9 .any (fun w args => (Rows.freqCostSpec.pre enc Tryz.prog Tryz.f9 Rows.freqCostRow.domain false w args ∧ laidMetH Tryz.prog Rows.freqCostRow.laid w) ∧ sizedMet enc Tryz.prog Tryz.f9 (OpenSpec.ofChange Rows.freqCostSpec) false w args) (Rows.freqCostSpec.post enc Tryz.prog Tryz.f9 false true false false) := by
  refine returnsInHanded_of_change_and (C := Tryz.checked) (X := fun w _ => laidMetH Tryz.prog Rows.freqCostRow.laid w) (fun _ _ _ hh h => h.of_heap hh) own started (by kernel_rfl) Tryz.func9
    (ChangeSpec.witness_shaped (enc := enc) (C := Tryz.checked) (os := os) (X := fun w _ => laidMetH Tryz.prog Rows.freqCostRow.laid w) false (World.laidAll Tryz.prog os Rows.freqCostRow.laid) #[.slice none 0 0, .string ByteArray.empty] 8 (World.laidAll_os _ _ _)
      (World.shaped_of_ZipB (by kernel_rfl) (by kernel_rfl)) (by kernel_rfl) (by kernel_rfl) (by kernel_rfl)
      (by rw [MakeChecks.laidMetH_plain _ _ _ (by kernel_rfl)]; exact laidMet_laidAll _ (by kernel_rfl) (by kernel_rfl))) ?_
  intro W base args ds gs before hval0 hW hcnd _ _ _
  have hval : ∀ (j : Nat) t v, Tryz.f9.params[j]? = some t → args[j]? = some v → Value.okWide Tryz.prog W .any base t v := hval0
  have hW' := hW
  obtain ⟨p, q, hA0, hV, hpq, hfz, hnd⟩ := hW
  have hA : DataW.TrodAll enc Tryz.prog W 0 (fun _ => true) true Tryz.f9.params.toList args.toList ds p := hA0
  rw [Tryz.params9] at hA hval
  obtain ⟨v0, vs0, d0, ds0, p0, q0, hargs, rfl, rfl, h0, r0⟩ := trodAll_cons hA
  obtain ⟨v1, vs1, d1, ds1, p1, q1, rfl, rfl, rfl, h1, r1⟩ := trodAll_cons r0
  obtain ⟨rfl, rfl, rfl⟩ := trodAll_nil r1
  obtain rfl : args = #[v0, v1] := by cases args; simp_all
  obtain ⟨rfl, rfl⟩ := trodVars_none hV
  obtain ⟨A0, n0, c0, xs0, rfl, s0⟩ := open_i64s_ (hval 0 22 v0 rfl rfl) h0
  obtain ⟨y1, rfl, rfl, rfl, l1⟩ := Go.ChangeMaps.open_string Tryz.underlying9 (hval 1 9 v1 rfl rfl) h1
  obtain ⟨b1, rfl⟩ : ∃ b : List UInt8, y1 = ⟨b.toArray⟩ := ⟨y1.data.toList, by cases y1; simp⟩
  refine (walk W A0 n0 c0 xs0 s0 b1 l1).mono fun e W' ⟨he, hb⟩ => ?_
  subst he
  exact ⟨_, rfl, Frame.close laidOut hW' rfl rfl rfl Tryz.underlying4 (fun t ht => by rw [Tryz.params9] at ht; simp at ht; rcases ht with rfl | rfl <;> exact ⟨by kernel_rfl, of_decide_eq_true (by kernel_rfl)⟩) hb⟩
theorem over : Rows.freqCostRow.holds Tryz.pinned (OpenSpec.ofChange Rows.freqCostSpec) :=
  OpenClaim.holds_of_wide 9 Tryz.f9 rfl rfl rfl rfl rfl rfl rfl ⟨rfl, rfl, rfl, rfl, rfl⟩ rfl rfl rfl rfl rfl (by kernel_rfl) Tryz.func9 (by kernel_rfl)
    (of_decide_eq_true (by kernel_rfl)) (by unfold Func.isWrapper; first | (rw [if_pos (by decide +kernel)]; kernel_rfl) | (rw [if_neg (by decide +kernel)]; exact ⟨rfl, rfl⟩))
    (fun os started H enc _ => lifted os started H enc)
/-- the statement -/
theorem proved : Rows.FreqCostCardSaid :=
  Claim7.holds_tied_plain_at .later [] _ _ _ _ over (fun _ h => by cases h) (by kernel_rfl) (fun _ h => by cases h) freqCost_row_tie rfl ⟨rfl, rfl⟩ (by kernel_rfl) rfl
    (fun f fn hf hfn => by
      obtain rfl : f = 9 := Option.some.inj ((show Tryz.prog.funcNamed "tombola/tombolalaw10.FreqCost" = some 9 by kernel_rfl).symm.trans hf) |>.symm
      obtain rfl : fn = Tryz.f9 := (Option.some.inj (Tryz.func9.symm.trans hfn)).symm
      exact ⟨by kernel_rfl, (fun j t ht => by
        rw [Tryz.params9] at ht
        have hm : t ∈ [22, 9] := by simpa using Array.mem_of_getElem? ht
        have hall : ([22, 9].all fun u => !Tryz.prog.wantsStandIn u) = true := by kernel_rfl
        exact (show Tryz.prog.wantsStandIn t = false by simpa using List.all_eq_true.1 hall t hm))⟩)
    (by kernel_rfl)
#print axioms proved
end Go.Proofs.YtolfjhfmcgibbaaGreatDoor.freqCost
