/-
  PROVED: the statement RatBack (tombolalaw06.RatBack) about the landed commit: for every input the law returns true and leaves its arguments as they were. Conditions: none beyond those that the given row itself prints.
-/
import Derived.Test.YtfncaflaefnjmaaGreatDoorCards
import Derived.Test.YtfncaflaefnjmaaGreatDoorTie
import Derived.LaidMore
import Derived.Lay
import Derived.SevenTiedAt
import Derived.Stop.Joined
import Derived.Test.YtfncaflaefnjmaaGreatDoorRows
import Derived.WalkKit
import Derived.ProofKit
import Derived.OpenShut
import Derived.RowKit3
import Derived.Test.YtfncaflaefnjmaaGreatDoorGFrame
import Derived.Test.YtfncaflaefnjmaaGreatDoorRatOpen
import Derived.Test.YtfncaflaefnjmaaGreatDoorRatH
import Derived.Test.YtfncaflaefnjmaaGreatDoorRatL
import Derived.Deep.RegionHeld3
namespace Go.Proofs.YtfncaflaefnjmaaGreatDoor.ratBack
open Go.ChangeShapes Go.WideShapes Go.ChangeAt Go.RowKit
set_option linter.unusedVariables false
set_option maxRecDepth 20000
open N
theorem own : ownKnob Tryz.prog.godebug = none := by kernel_rfl
open RC
open Go.Lib (decDigits nDigits decDigits_length nDigits_pos)
theorem shR_ok {r : Rat} (h : RB 6 r) : (shR r).length ≤ maxLen ∧ rdK (shR r) = 0 ∧ rdR (shR r) = r := by
  have h1 : nDigits r.num.natAbs ≤ 121 := by
    have h2 := nDigits_val (limbs_dg (mg r.num)) rfl (v := r.num.natAbs) (by rw [limbs_val (mg_nn _)]; rfl)
    have h3 := (limbs_len_le (mg_nn r.num) 6).2 h.1
    omega
  have h4 : nDigits r.den ≤ 121 := by
    have h2 := nDigits_val (limbs_dg (r.den : Int)) rfl (v := r.den) (by rw [limbs_val (Int.le_of_lt (rden_pos r))])
    have h3 := (limbs_len_le (Int.le_of_lt (rden_pos r)) 6).2 h.2
    omega
  obtain ⟨e1, e2⟩ := rd_shR (r := r) (by omega) (by omega)
  refine ⟨?_, e1, e2⟩
  have h5 := shI_len r.num
  unfold shR maxLen
  split
  · omega
  · rw [List.length_append, List.length_cons, decDigits_length]; omega
set_option maxRecDepth 100000 in
set_option maxHeartbeats 4000000 in
theorem walk (w : World) (b0 : Bool) (A0 : Option Addr) (n0 c0 : Nat) (xs0 : List Int) (A0' : Option Addr) (n0' c0' : Nat) (ys0 : List Int) (h0 : Sl w A0 n0 c0 xs0) (g0 : Sl w A0' n0' c0' ys0) (b1 : List UInt8) (l1 : b1.length ≤ maxLen) :
    Calls Tryz.prog 9 #[.agg #[.bool b0, .slice A0 n0 c0, .slice A0' n0' c0'], .string ⟨b1.toArray⟩] w fun e w' => e = .returned (.bool true) ∧ Below w.heap.size w w' := by
  have hc0 := h0.cap
  have hm0 := h0.max
  have hd0 := g0.cap
  have he0 := g0.max
  unfold maxLen at hm0 he0
  by_cases hl : n0 ≤ 6 ∧ n0' ≤ 6
  · by_cases hs : b1.length ≤ 300
    · obtain ⟨r0, hr0⟩ : ∃ r, rv b0 (val B xs0) (val B ys0) = r := ⟨_, rfl⟩
      have HZ0 := Lib.hid hr0
      obtain ⟨z1, z2, z3⟩ := shR_ok (show RB 6 r0 by rw [← hr0]; exact RBs h0 g0 hl.1 hl.2 (by decide))
      obtain ⟨Z, hZ⟩ : ∃ Z, shR r0 = Z := ⟨_, rfl⟩
      rw [hZ] at z1 z2 z3
      have HZZ := Lib.hid hZ
      have HZL := Lib.hid z1
      have HZK := Lib.hid z2
      have HZR := Lib.hid z3
      clear z1 z2 z3 hZ
      cases hmay : mayR b0 xs0 ys0 with
      | true =>
        have HMAY := Lib.hid hmay
        obtain ⟨_, y1, y2, y3⟩ := (mayR_iff h0.dg g0.dg hr0).1 hmay
        have HB0 := Lib.hid y1
        have HB1 := Lib.hid y2
        have HB2 := Lib.hid y3
        clear y1 y2 y3 hmay hr0
        by_cases hrd : rdK b1 = 0
        · have HRD := Lib.hid hrd
          clear hrd
          have hS := Lib.hid (((SC.start w).old (k := 6) g0 hl.2 rfl).old (k := 6) h0 hl.1 rfl)
          clear h0 g0
          go_enter Tryz.func9, Tryz.ntmps9
          have h1 := (hS.out.boxed (vs := [.bool b0, .slice A0 n0 c0, .slice A0' n0' c0']) (ty := 27) rfl rfl)
          try simp only [World.size_alloc] at h1
          obtain ⟨p0_0, p1_0, p2_0⟩ := h1.cs3 0 rfl
          clear h1
          go_wp2_with fail
          clear p0_0 p1_0 p2_0
          generalize hwa : World.alloc w _ = v1
          have h1 := (hS.out.boxed (vs := [.bool b0, .slice A0 n0 c0, .slice A0' n0' c0']) (ty := 27) rfl hwa)
          have hsz : v1.heap.size = w.heap.size + 1 := by rw [← hwa]; simp only [World.size_alloc]
          try rw [← hsz]
          clear hwa hsz
          clear hS; have hS := Lib.hid h1; clear h1
          obtain ⟨x0_0, x1_0, x2_0⟩ := hS.out.cs3 0 rfl
          go_wp2_with fail
          go_at_call 11
          with_reducible refine (long1_n hS.out hl).mono ?_
          rintro e v2 ⟨rfl, h1⟩
          clear x0_0 x1_0 x2_0
          clear hS; have hS := Lib.hid h1; clear h1
          obtain ⟨x0_0, x1_0, x2_0⟩ := hS.out.cs3 0 rfl
          go_wp2_with fail
          go_at_call 12
          with_reducible refine (awake_any _).mono ?_
          rintro e v3 ⟨rfl, hb⟩
          clear x0_0 x1_0 x2_0
          have h1 := hS.out.below hb
          clear hb
          clear hS; have hS := Lib.hid h1; clear h1
          obtain ⟨x0_0, x1_0, x2_0⟩ := hS.out.cs3 0 rfl
          go_wp2_with fail
          go_at_call 27
          with_reducible refine (fshow_s (Z := Z) hS.out (by repeat (first | exact List.mem_cons_self | apply List.mem_cons_of_mem)) (by repeat (first | exact List.mem_cons_self | apply List.mem_cons_of_mem)) (by decide) HZ0.out HZZ.out).mono ?_
          rintro e v4 ⟨rfl, h1⟩
          clear x0_0 x1_0 x2_0
          clear hS; have hS := Lib.hid h1; clear h1
          obtain ⟨x0_0, x1_0, x2_0⟩ := hS.out.cs3 0 rfl
          go_wp2_with fail
          go_at_call 26
          with_reducible refine (fread_s hS.out Z HZL.out HZK.out).mono ?_
          rintro e v5 ⟨rb, Ab, nb, cb, Ab', nb', cb', hrb, rfl, h1⟩
          clear x0_0 x1_0 x2_0
          have HRb := Lib.hid hrb; clear hrb
          clear hS; have hS := Lib.hid h1; clear h1
          obtain ⟨x0_0, x1_0, x2_0⟩ := hS.out.cs3 0 rfl
          have h1 := (hS.out.boxed (vs := [.bool (sg (rb).num), .slice Ab nb cb, .slice Ab' nb' cb']) (ty := 27) rfl rfl)
          try simp only [World.size_alloc] at h1
          obtain ⟨p0_0, p1_0, p2_0⟩ := h1.cs3 0 rfl
          obtain ⟨p0_1, p1_1, p2_1⟩ := h1.cs3 1 rfl
          clear h1
          go_wp2_with fail
          clear x0_0 x1_0 x2_0
          clear p0_0 p1_0 p2_0 p0_1 p1_1 p2_1
          generalize hwa : World.alloc v5 _ = v6
          have h1 := (hS.out.boxed (vs := [.bool (sg (rb).num), .slice Ab nb cb, .slice Ab' nb' cb']) (ty := 27) rfl hwa)
          have hsz : v6.heap.size = v5.heap.size + 1 := by rw [← hwa]; simp only [World.size_alloc]
          try rw [← hsz]
          clear hwa hsz
          clear hS; have hS := Lib.hid h1; clear h1
          obtain ⟨x0_0, x1_0, x2_0⟩ := hS.out.cs3 0 rfl
          obtain ⟨x0_1, x1_1, x2_1⟩ := hS.out.cs3 1 rfl
          go_wp2_with fail
          go_at_call 32
          with_reducible refine (fsame_s (q := true) hS.out (by repeat (first | exact List.mem_cons_self | apply List.mem_cons_of_mem)) (by repeat (first | exact List.mem_cons_self | apply List.mem_cons_of_mem)) (by repeat (first | exact List.mem_cons_self | apply List.mem_cons_of_mem)) (by repeat (first | exact List.mem_cons_self | apply List.mem_cons_of_mem)) (by decide) (by decide) HZ0.out (rv_self _) (by rw [← HRb.out, HZR.out, Rat.sub_self]; decide +kernel)).mono ?_
          rintro e v7 ⟨rfl, h1⟩
          clear x0_0 x1_0 x2_0 x0_1 x1_1 x2_1
          clear hS; have hS := Lib.hid h1; clear h1
          obtain ⟨x0_0, x1_0, x2_0⟩ := hS.out.cs3 0 rfl
          obtain ⟨x0_1, x1_1, x2_1⟩ := hS.out.cs3 1 rfl
          go_wp2_with fail
          go_at_call 23
          with_reducible refine (fmay_s (q := true) hS.out (by repeat (first | exact List.mem_cons_self | apply List.mem_cons_of_mem)) (by repeat (first | exact List.mem_cons_self | apply List.mem_cons_of_mem)) (by decide) (mayR_told _)).mono ?_
          rintro e v8 ⟨rfl, h1⟩
          clear x0_0 x1_0 x2_0 x0_1 x1_1 x2_1
          clear hS; have hS := Lib.hid h1; clear h1
          obtain ⟨x0_0, x1_0, x2_0⟩ := hS.out.cs3 0 rfl
          obtain ⟨x0_1, x1_1, x2_1⟩ := hS.out.cs3 1 rfl
          go_wp2_with fail
          go_at_call 23
          with_reducible refine (fmay_s (q := true) hS.out (by repeat (first | exact List.mem_cons_self | apply List.mem_cons_of_mem)) (by repeat (first | exact List.mem_cons_self | apply List.mem_cons_of_mem)) (by decide) HMAY.out).mono ?_
          rintro e v9 ⟨rfl, h1⟩
          clear x0_0 x1_0 x2_0 x0_1 x1_1 x2_1
          clear hS; have hS := Lib.hid h1; clear h1
          obtain ⟨x0_0, x1_0, x2_0⟩ := hS.out.cs3 0 rfl
          obtain ⟨x0_1, x1_1, x2_1⟩ := hS.out.cs3 1 rfl
          have HQ := Lib.hid (show rb = r0 from HRb.out.symm.trans HZR.out)
          go_wp2_with fail
          go_at_call 20
          with_reducible refine (is_s hS.out (by repeat (first | exact List.mem_cons_self | apply List.mem_cons_of_mem)) (by repeat (first | exact List.mem_cons_self | apply List.mem_cons_of_mem)) (by repeat (first | exact List.mem_cons_self | apply List.mem_cons_of_mem)) (by repeat (first | exact List.mem_cons_self | apply List.mem_cons_of_mem)) (by rw [HQ.out]; exact HB0.out) (by rw [HQ.out]; exact HB1.out) (by rw [HQ.out]; exact HB2.out)).mono ?_
          rintro e v10 ⟨rfl, h1⟩
          clear x0_0 x1_0 x2_0 x0_1 x1_1 x2_1
          clear hS; have hS := Lib.hid h1; clear h1
          obtain ⟨x0_0, x1_0, x2_0⟩ := hS.out.cs3 0 rfl
          obtain ⟨x0_1, x1_1, x2_1⟩ := hS.out.cs3 1 rfl
          go_wp2_with fail
          go_at_call 26
          with_reducible refine (fread_s hS.out b1 l1 HRD.out).mono ?_
          rintro e v11 ⟨rc, Ac, nc, cc, Ac', nc', cc', hrc, rfl, h1⟩
          clear x0_0 x1_0 x2_0 x0_1 x1_1 x2_1
          have HRc := Lib.hid hrc; clear hrc
          clear hS; have hS := Lib.hid h1; clear h1
          obtain ⟨x0_0, x1_0, x2_0⟩ := hS.out.cs3 0 rfl
          obtain ⟨x0_1, x1_1, x2_1⟩ := hS.out.cs3 1 rfl
          have h1 := (hS.out.boxed (vs := [.bool (sg (rc).num), .slice Ac nc cc, .slice Ac' nc' cc']) (ty := 27) rfl rfl)
          try simp only [World.size_alloc] at h1
          obtain ⟨p0_0, p1_0, p2_0⟩ := h1.cs3 0 rfl
          obtain ⟨p0_1, p1_1, p2_1⟩ := h1.cs3 1 rfl
          obtain ⟨p0_2, p1_2, p2_2⟩ := h1.cs3 2 rfl
          clear h1
          go_wp2_with fail
          clear x0_0 x1_0 x2_0 x0_1 x1_1 x2_1
          clear p0_0 p1_0 p2_0 p0_1 p1_1 p2_1 p0_2 p1_2 p2_2
          generalize hwa : World.alloc v11 _ = v12
          have h1 := (hS.out.boxed (vs := [.bool (sg (rc).num), .slice Ac nc cc, .slice Ac' nc' cc']) (ty := 27) rfl hwa)
          have hsz : v12.heap.size = v11.heap.size + 1 := by rw [← hwa]; simp only [World.size_alloc]
          try rw [← hsz]
          clear hwa hsz
          clear hS; have hS := Lib.hid h1; clear h1
          obtain ⟨x0_0, x1_0, x2_0⟩ := hS.out.cs3 0 rfl
          obtain ⟨x0_1, x1_1, x2_1⟩ := hS.out.cs3 1 rfl
          obtain ⟨x0_2, x1_2, x2_2⟩ := hS.out.cs3 2 rfl
          go_wp2_with fail
          go_at_call 23
          with_reducible refine (fmay_s (q := true) hS.out (by repeat (first | exact List.mem_cons_self | apply List.mem_cons_of_mem)) (by repeat (first | exact List.mem_cons_self | apply List.mem_cons_of_mem)) (by decide) (mayR_told _)).mono ?_
          rintro e v13 ⟨rfl, h1⟩
          clear x0_0 x1_0 x2_0 x0_1 x1_1 x2_1 x0_2 x1_2 x2_2
          clear hS; have hS := Lib.hid h1; clear h1
          obtain ⟨x0_0, x1_0, x2_0⟩ := hS.out.cs3 0 rfl
          obtain ⟨x0_1, x1_1, x2_1⟩ := hS.out.cs3 1 rfl
          obtain ⟨x0_2, x1_2, x2_2⟩ := hS.out.cs3 2 rfl
          go_wp2_with fail
          go_at_call 27
          with_reducible refine (fshow_s (Z := b1) hS.out (by repeat (first | exact List.mem_cons_self | apply List.mem_cons_of_mem)) (by repeat (first | exact List.mem_cons_self | apply List.mem_cons_of_mem)) (by decide) (rv_self _) (by rw [← HRc.out]; exact sh_rdR HRD.out)).mono ?_
          rintro e v14 ⟨rfl, h1⟩
          clear x0_0 x1_0 x2_0 x0_1 x1_1 x2_1 x0_2 x1_2 x2_2
          clear hS; have hS := Lib.hid h1; clear h1
          obtain ⟨x0_0, x1_0, x2_0⟩ := hS.out.cs3 0 rfl
          obtain ⟨x0_1, x1_1, x2_1⟩ := hS.out.cs3 1 rfl
          obtain ⟨x0_2, x1_2, x2_2⟩ := hS.out.cs3 2 rfl
          go_wp2
          go_ret
          exact ⟨rfl, hS.out.st.1⟩
        · obtain ⟨j, hj⟩ : ∃ j, rdK b1 = j := ⟨_, rfl⟩
          rw [hj] at hrd
          have HRD := Lib.hid hrd
          have HRJ := Lib.hid hj
          have hjb : (j == 0) = false := by simpa using hrd
          have hjc : (j != 0) = true := by simpa using hrd
          clear hj
          have hS := Lib.hid (((SC.start w).old (k := 6) g0 hl.2 rfl).old (k := 6) h0 hl.1 rfl)
          clear h0 g0
          go_enter Tryz.func9, Tryz.ntmps9
          have h1 := (hS.out.boxed (vs := [.bool b0, .slice A0 n0 c0, .slice A0' n0' c0']) (ty := 27) rfl rfl)
          try simp only [World.size_alloc] at h1
          obtain ⟨p0_0, p1_0, p2_0⟩ := h1.cs3 0 rfl
          clear h1
          go_wp2_with fail
          clear p0_0 p1_0 p2_0
          generalize hwa : World.alloc w _ = v1
          have h1 := (hS.out.boxed (vs := [.bool b0, .slice A0 n0 c0, .slice A0' n0' c0']) (ty := 27) rfl hwa)
          have hsz : v1.heap.size = w.heap.size + 1 := by rw [← hwa]; simp only [World.size_alloc]
          try rw [← hsz]
          clear hwa hsz
          clear hS; have hS := Lib.hid h1; clear h1
          obtain ⟨x0_0, x1_0, x2_0⟩ := hS.out.cs3 0 rfl
          go_wp2_with fail
          go_at_call 11
          with_reducible refine (long1_n hS.out hl).mono ?_
          rintro e v2 ⟨rfl, h1⟩
          clear x0_0 x1_0 x2_0
          clear hS; have hS := Lib.hid h1; clear h1
          obtain ⟨x0_0, x1_0, x2_0⟩ := hS.out.cs3 0 rfl
          go_wp2_with fail
          go_at_call 12
          with_reducible refine (awake_any _).mono ?_
          rintro e v3 ⟨rfl, hb⟩
          clear x0_0 x1_0 x2_0
          have h1 := hS.out.below hb
          clear hb
          clear hS; have hS := Lib.hid h1; clear h1
          obtain ⟨x0_0, x1_0, x2_0⟩ := hS.out.cs3 0 rfl
          go_wp2_with fail
          go_at_call 27
          with_reducible refine (fshow_s (Z := Z) hS.out (by repeat (first | exact List.mem_cons_self | apply List.mem_cons_of_mem)) (by repeat (first | exact List.mem_cons_self | apply List.mem_cons_of_mem)) (by decide) HZ0.out HZZ.out).mono ?_
          rintro e v4 ⟨rfl, h1⟩
          clear x0_0 x1_0 x2_0
          clear hS; have hS := Lib.hid h1; clear h1
          obtain ⟨x0_0, x1_0, x2_0⟩ := hS.out.cs3 0 rfl
          go_wp2_with fail
          go_at_call 26
          with_reducible refine (fread_s hS.out Z HZL.out HZK.out).mono ?_
          rintro e v5 ⟨rb, Ab, nb, cb, Ab', nb', cb', hrb, rfl, h1⟩
          clear x0_0 x1_0 x2_0
          have HRb := Lib.hid hrb; clear hrb
          clear hS; have hS := Lib.hid h1; clear h1
          obtain ⟨x0_0, x1_0, x2_0⟩ := hS.out.cs3 0 rfl
          have h1 := (hS.out.boxed (vs := [.bool (sg (rb).num), .slice Ab nb cb, .slice Ab' nb' cb']) (ty := 27) rfl rfl)
          try simp only [World.size_alloc] at h1
          obtain ⟨p0_0, p1_0, p2_0⟩ := h1.cs3 0 rfl
          obtain ⟨p0_1, p1_1, p2_1⟩ := h1.cs3 1 rfl
          clear h1
          go_wp2_with fail
          clear x0_0 x1_0 x2_0
          clear p0_0 p1_0 p2_0 p0_1 p1_1 p2_1
          generalize hwa : World.alloc v5 _ = v6
          have h1 := (hS.out.boxed (vs := [.bool (sg (rb).num), .slice Ab nb cb, .slice Ab' nb' cb']) (ty := 27) rfl hwa)
          have hsz : v6.heap.size = v5.heap.size + 1 := by rw [← hwa]; simp only [World.size_alloc]
          try rw [← hsz]
          clear hwa hsz
          clear hS; have hS := Lib.hid h1; clear h1
          obtain ⟨x0_0, x1_0, x2_0⟩ := hS.out.cs3 0 rfl
          obtain ⟨x0_1, x1_1, x2_1⟩ := hS.out.cs3 1 rfl
          go_wp2_with fail
          go_at_call 32
          with_reducible refine (fsame_s (q := true) hS.out (by repeat (first | exact List.mem_cons_self | apply List.mem_cons_of_mem)) (by repeat (first | exact List.mem_cons_self | apply List.mem_cons_of_mem)) (by repeat (first | exact List.mem_cons_self | apply List.mem_cons_of_mem)) (by repeat (first | exact List.mem_cons_self | apply List.mem_cons_of_mem)) (by decide) (by decide) HZ0.out (rv_self _) (by rw [← HRb.out, HZR.out, Rat.sub_self]; decide +kernel)).mono ?_
          rintro e v7 ⟨rfl, h1⟩
          clear x0_0 x1_0 x2_0 x0_1 x1_1 x2_1
          clear hS; have hS := Lib.hid h1; clear h1
          obtain ⟨x0_0, x1_0, x2_0⟩ := hS.out.cs3 0 rfl
          obtain ⟨x0_1, x1_1, x2_1⟩ := hS.out.cs3 1 rfl
          go_wp2_with fail
          go_at_call 23
          with_reducible refine (fmay_s (q := true) hS.out (by repeat (first | exact List.mem_cons_self | apply List.mem_cons_of_mem)) (by repeat (first | exact List.mem_cons_self | apply List.mem_cons_of_mem)) (by decide) (mayR_told _)).mono ?_
          rintro e v8 ⟨rfl, h1⟩
          clear x0_0 x1_0 x2_0 x0_1 x1_1 x2_1
          clear hS; have hS := Lib.hid h1; clear h1
          obtain ⟨x0_0, x1_0, x2_0⟩ := hS.out.cs3 0 rfl
          obtain ⟨x0_1, x1_1, x2_1⟩ := hS.out.cs3 1 rfl
          go_wp2_with fail
          go_at_call 23
          with_reducible refine (fmay_s (q := true) hS.out (by repeat (first | exact List.mem_cons_self | apply List.mem_cons_of_mem)) (by repeat (first | exact List.mem_cons_self | apply List.mem_cons_of_mem)) (by decide) HMAY.out).mono ?_
          rintro e v9 ⟨rfl, h1⟩
          clear x0_0 x1_0 x2_0 x0_1 x1_1 x2_1
          clear hS; have hS := Lib.hid h1; clear h1
          obtain ⟨x0_0, x1_0, x2_0⟩ := hS.out.cs3 0 rfl
          obtain ⟨x0_1, x1_1, x2_1⟩ := hS.out.cs3 1 rfl
          have HQ := Lib.hid (show rb = r0 from HRb.out.symm.trans HZR.out)
          go_wp2_with fail
          go_at_call 20
          with_reducible refine (is_s hS.out (by repeat (first | exact List.mem_cons_self | apply List.mem_cons_of_mem)) (by repeat (first | exact List.mem_cons_self | apply List.mem_cons_of_mem)) (by repeat (first | exact List.mem_cons_self | apply List.mem_cons_of_mem)) (by repeat (first | exact List.mem_cons_self | apply List.mem_cons_of_mem)) (by rw [HQ.out]; exact HB0.out) (by rw [HQ.out]; exact HB1.out) (by rw [HQ.out]; exact HB2.out)).mono ?_
          rintro e v10 ⟨rfl, h1⟩
          clear x0_0 x1_0 x2_0 x0_1 x1_1 x2_1
          clear hS; have hS := Lib.hid h1; clear h1
          obtain ⟨x0_0, x1_0, x2_0⟩ := hS.out.cs3 0 rfl
          obtain ⟨x0_1, x1_1, x2_1⟩ := hS.out.cs3 1 rfl
          go_wp2_with fail
          go_at_call 26
          with_reducible refine (fread_x hS.out b1 l1 HRJ.out HRD.out).mono ?_
          rintro e v11 ⟨rfl, h1⟩
          clear x0_0 x1_0 x2_0 x0_1 x1_1 x2_1
          clear hS; have hS := Lib.hid h1; clear h1
          obtain ⟨x0_0, x1_0, x2_0⟩ := hS.out.cs3 0 rfl
          obtain ⟨x0_1, x1_1, x2_1⟩ := hS.out.cs3 1 rfl
          go_wp2
          go_ret
          exact ⟨rfl, (hS.out.alloc _).st.1⟩
      | false =>
        have HMAY := Lib.hid hmay
        clear hmay hr0
        by_cases hrd : rdK b1 = 0
        · have HRD := Lib.hid hrd
          clear hrd
          have hS := Lib.hid (((SC.start w).old (k := 6) g0 hl.2 rfl).old (k := 6) h0 hl.1 rfl)
          clear h0 g0
          go_enter Tryz.func9, Tryz.ntmps9
          have h1 := (hS.out.boxed (vs := [.bool b0, .slice A0 n0 c0, .slice A0' n0' c0']) (ty := 27) rfl rfl)
          try simp only [World.size_alloc] at h1
          obtain ⟨p0_0, p1_0, p2_0⟩ := h1.cs3 0 rfl
          clear h1
          go_wp2_with fail
          clear p0_0 p1_0 p2_0
          generalize hwa : World.alloc w _ = v1
          have h1 := (hS.out.boxed (vs := [.bool b0, .slice A0 n0 c0, .slice A0' n0' c0']) (ty := 27) rfl hwa)
          have hsz : v1.heap.size = w.heap.size + 1 := by rw [← hwa]; simp only [World.size_alloc]
          try rw [← hsz]
          clear hwa hsz
          clear hS; have hS := Lib.hid h1; clear h1
          obtain ⟨x0_0, x1_0, x2_0⟩ := hS.out.cs3 0 rfl
          go_wp2_with fail
          go_at_call 11
          with_reducible refine (long1_n hS.out hl).mono ?_
          rintro e v2 ⟨rfl, h1⟩
          clear x0_0 x1_0 x2_0
          clear hS; have hS := Lib.hid h1; clear h1
          obtain ⟨x0_0, x1_0, x2_0⟩ := hS.out.cs3 0 rfl
          go_wp2_with fail
          go_at_call 12
          with_reducible refine (awake_any _).mono ?_
          rintro e v3 ⟨rfl, hb⟩
          clear x0_0 x1_0 x2_0
          have h1 := hS.out.below hb
          clear hb
          clear hS; have hS := Lib.hid h1; clear h1
          obtain ⟨x0_0, x1_0, x2_0⟩ := hS.out.cs3 0 rfl
          go_wp2_with fail
          go_at_call 27
          with_reducible refine (fshow_s (Z := Z) hS.out (by repeat (first | exact List.mem_cons_self | apply List.mem_cons_of_mem)) (by repeat (first | exact List.mem_cons_self | apply List.mem_cons_of_mem)) (by decide) HZ0.out HZZ.out).mono ?_
          rintro e v4 ⟨rfl, h1⟩
          clear x0_0 x1_0 x2_0
          clear hS; have hS := Lib.hid h1; clear h1
          obtain ⟨x0_0, x1_0, x2_0⟩ := hS.out.cs3 0 rfl
          go_wp2_with fail
          go_at_call 26
          with_reducible refine (fread_s hS.out Z HZL.out HZK.out).mono ?_
          rintro e v5 ⟨rb, Ab, nb, cb, Ab', nb', cb', hrb, rfl, h1⟩
          clear x0_0 x1_0 x2_0
          have HRb := Lib.hid hrb; clear hrb
          clear hS; have hS := Lib.hid h1; clear h1
          obtain ⟨x0_0, x1_0, x2_0⟩ := hS.out.cs3 0 rfl
          have h1 := (hS.out.boxed (vs := [.bool (sg (rb).num), .slice Ab nb cb, .slice Ab' nb' cb']) (ty := 27) rfl rfl)
          try simp only [World.size_alloc] at h1
          obtain ⟨p0_0, p1_0, p2_0⟩ := h1.cs3 0 rfl
          obtain ⟨p0_1, p1_1, p2_1⟩ := h1.cs3 1 rfl
          clear h1
          go_wp2_with fail
          clear x0_0 x1_0 x2_0
          clear p0_0 p1_0 p2_0 p0_1 p1_1 p2_1
          generalize hwa : World.alloc v5 _ = v6
          have h1 := (hS.out.boxed (vs := [.bool (sg (rb).num), .slice Ab nb cb, .slice Ab' nb' cb']) (ty := 27) rfl hwa)
          have hsz : v6.heap.size = v5.heap.size + 1 := by rw [← hwa]; simp only [World.size_alloc]
          try rw [← hsz]
          clear hwa hsz
          clear hS; have hS := Lib.hid h1; clear h1
          obtain ⟨x0_0, x1_0, x2_0⟩ := hS.out.cs3 0 rfl
          obtain ⟨x0_1, x1_1, x2_1⟩ := hS.out.cs3 1 rfl
          go_wp2_with fail
          go_at_call 32
          with_reducible refine (fsame_s (q := true) hS.out (by repeat (first | exact List.mem_cons_self | apply List.mem_cons_of_mem)) (by repeat (first | exact List.mem_cons_self | apply List.mem_cons_of_mem)) (by repeat (first | exact List.mem_cons_self | apply List.mem_cons_of_mem)) (by repeat (first | exact List.mem_cons_self | apply List.mem_cons_of_mem)) (by decide) (by decide) HZ0.out (rv_self _) (by rw [← HRb.out, HZR.out, Rat.sub_self]; decide +kernel)).mono ?_
          rintro e v7 ⟨rfl, h1⟩
          clear x0_0 x1_0 x2_0 x0_1 x1_1 x2_1
          clear hS; have hS := Lib.hid h1; clear h1
          obtain ⟨x0_0, x1_0, x2_0⟩ := hS.out.cs3 0 rfl
          obtain ⟨x0_1, x1_1, x2_1⟩ := hS.out.cs3 1 rfl
          go_wp2_with fail
          go_at_call 23
          with_reducible refine (fmay_s (q := true) hS.out (by repeat (first | exact List.mem_cons_self | apply List.mem_cons_of_mem)) (by repeat (first | exact List.mem_cons_self | apply List.mem_cons_of_mem)) (by decide) (mayR_told _)).mono ?_
          rintro e v8 ⟨rfl, h1⟩
          clear x0_0 x1_0 x2_0 x0_1 x1_1 x2_1
          clear hS; have hS := Lib.hid h1; clear h1
          obtain ⟨x0_0, x1_0, x2_0⟩ := hS.out.cs3 0 rfl
          obtain ⟨x0_1, x1_1, x2_1⟩ := hS.out.cs3 1 rfl
          go_wp2_with fail
          go_at_call 23
          with_reducible refine (fmay_s (q := false) hS.out (by repeat (first | exact List.mem_cons_self | apply List.mem_cons_of_mem)) (by repeat (first | exact List.mem_cons_self | apply List.mem_cons_of_mem)) (by decide) HMAY.out).mono ?_
          rintro e v9 ⟨rfl, h1⟩
          clear x0_0 x1_0 x2_0 x0_1 x1_1 x2_1
          clear hS; have hS := Lib.hid h1; clear h1
          obtain ⟨x0_0, x1_0, x2_0⟩ := hS.out.cs3 0 rfl
          obtain ⟨x0_1, x1_1, x2_1⟩ := hS.out.cs3 1 rfl
          go_wp2_with fail
          go_at_call 26
          with_reducible refine (fread_s hS.out b1 l1 HRD.out).mono ?_
          rintro e v10 ⟨rc, Ac, nc, cc, Ac', nc', cc', hrc, rfl, h1⟩
          clear x0_0 x1_0 x2_0 x0_1 x1_1 x2_1
          have HRc := Lib.hid hrc; clear hrc
          clear hS; have hS := Lib.hid h1; clear h1
          obtain ⟨x0_0, x1_0, x2_0⟩ := hS.out.cs3 0 rfl
          obtain ⟨x0_1, x1_1, x2_1⟩ := hS.out.cs3 1 rfl
          have h1 := (hS.out.boxed (vs := [.bool (sg (rc).num), .slice Ac nc cc, .slice Ac' nc' cc']) (ty := 27) rfl rfl)
          try simp only [World.size_alloc] at h1
          obtain ⟨p0_0, p1_0, p2_0⟩ := h1.cs3 0 rfl
          obtain ⟨p0_1, p1_1, p2_1⟩ := h1.cs3 1 rfl
          obtain ⟨p0_2, p1_2, p2_2⟩ := h1.cs3 2 rfl
          clear h1
          go_wp2_with fail
          clear x0_0 x1_0 x2_0 x0_1 x1_1 x2_1
          clear p0_0 p1_0 p2_0 p0_1 p1_1 p2_1 p0_2 p1_2 p2_2
          generalize hwa : World.alloc v10 _ = v11
          have h1 := (hS.out.boxed (vs := [.bool (sg (rc).num), .slice Ac nc cc, .slice Ac' nc' cc']) (ty := 27) rfl hwa)
          have hsz : v11.heap.size = v10.heap.size + 1 := by rw [← hwa]; simp only [World.size_alloc]
          try rw [← hsz]
          clear hwa hsz
          clear hS; have hS := Lib.hid h1; clear h1
          obtain ⟨x0_0, x1_0, x2_0⟩ := hS.out.cs3 0 rfl
          obtain ⟨x0_1, x1_1, x2_1⟩ := hS.out.cs3 1 rfl
          obtain ⟨x0_2, x1_2, x2_2⟩ := hS.out.cs3 2 rfl
          go_wp2_with fail
          go_at_call 23
          with_reducible refine (fmay_s (q := true) hS.out (by repeat (first | exact List.mem_cons_self | apply List.mem_cons_of_mem)) (by repeat (first | exact List.mem_cons_self | apply List.mem_cons_of_mem)) (by decide) (mayR_told _)).mono ?_
          rintro e v12 ⟨rfl, h1⟩
          clear x0_0 x1_0 x2_0 x0_1 x1_1 x2_1 x0_2 x1_2 x2_2
          clear hS; have hS := Lib.hid h1; clear h1
          obtain ⟨x0_0, x1_0, x2_0⟩ := hS.out.cs3 0 rfl
          obtain ⟨x0_1, x1_1, x2_1⟩ := hS.out.cs3 1 rfl
          obtain ⟨x0_2, x1_2, x2_2⟩ := hS.out.cs3 2 rfl
          go_wp2_with fail
          go_at_call 27
          with_reducible refine (fshow_s (Z := b1) hS.out (by repeat (first | exact List.mem_cons_self | apply List.mem_cons_of_mem)) (by repeat (first | exact List.mem_cons_self | apply List.mem_cons_of_mem)) (by decide) (rv_self _) (by rw [← HRc.out]; exact sh_rdR HRD.out)).mono ?_
          rintro e v13 ⟨rfl, h1⟩
          clear x0_0 x1_0 x2_0 x0_1 x1_1 x2_1 x0_2 x1_2 x2_2
          clear hS; have hS := Lib.hid h1; clear h1
          obtain ⟨x0_0, x1_0, x2_0⟩ := hS.out.cs3 0 rfl
          obtain ⟨x0_1, x1_1, x2_1⟩ := hS.out.cs3 1 rfl
          obtain ⟨x0_2, x1_2, x2_2⟩ := hS.out.cs3 2 rfl
          go_wp2
          go_ret
          exact ⟨rfl, hS.out.st.1⟩
        · obtain ⟨j, hj⟩ : ∃ j, rdK b1 = j := ⟨_, rfl⟩
          rw [hj] at hrd
          have HRD := Lib.hid hrd
          have HRJ := Lib.hid hj
          have hjb : (j == 0) = false := by simpa using hrd
          have hjc : (j != 0) = true := by simpa using hrd
          clear hj
          have hS := Lib.hid (((SC.start w).old (k := 6) g0 hl.2 rfl).old (k := 6) h0 hl.1 rfl)
          clear h0 g0
          go_enter Tryz.func9, Tryz.ntmps9
          have h1 := (hS.out.boxed (vs := [.bool b0, .slice A0 n0 c0, .slice A0' n0' c0']) (ty := 27) rfl rfl)
          try simp only [World.size_alloc] at h1
          obtain ⟨p0_0, p1_0, p2_0⟩ := h1.cs3 0 rfl
          clear h1
          go_wp2_with fail
          clear p0_0 p1_0 p2_0
          generalize hwa : World.alloc w _ = v1
          have h1 := (hS.out.boxed (vs := [.bool b0, .slice A0 n0 c0, .slice A0' n0' c0']) (ty := 27) rfl hwa)
          have hsz : v1.heap.size = w.heap.size + 1 := by rw [← hwa]; simp only [World.size_alloc]
          try rw [← hsz]
          clear hwa hsz
          clear hS; have hS := Lib.hid h1; clear h1
          obtain ⟨x0_0, x1_0, x2_0⟩ := hS.out.cs3 0 rfl
          go_wp2_with fail
          go_at_call 11
          with_reducible refine (long1_n hS.out hl).mono ?_
          rintro e v2 ⟨rfl, h1⟩
          clear x0_0 x1_0 x2_0
          clear hS; have hS := Lib.hid h1; clear h1
          obtain ⟨x0_0, x1_0, x2_0⟩ := hS.out.cs3 0 rfl
          go_wp2_with fail
          go_at_call 12
          with_reducible refine (awake_any _).mono ?_
          rintro e v3 ⟨rfl, hb⟩
          clear x0_0 x1_0 x2_0
          have h1 := hS.out.below hb
          clear hb
          clear hS; have hS := Lib.hid h1; clear h1
          obtain ⟨x0_0, x1_0, x2_0⟩ := hS.out.cs3 0 rfl
          go_wp2_with fail
          go_at_call 27
          with_reducible refine (fshow_s (Z := Z) hS.out (by repeat (first | exact List.mem_cons_self | apply List.mem_cons_of_mem)) (by repeat (first | exact List.mem_cons_self | apply List.mem_cons_of_mem)) (by decide) HZ0.out HZZ.out).mono ?_
          rintro e v4 ⟨rfl, h1⟩
          clear x0_0 x1_0 x2_0
          clear hS; have hS := Lib.hid h1; clear h1
          obtain ⟨x0_0, x1_0, x2_0⟩ := hS.out.cs3 0 rfl
          go_wp2_with fail
          go_at_call 26
          with_reducible refine (fread_s hS.out Z HZL.out HZK.out).mono ?_
          rintro e v5 ⟨rb, Ab, nb, cb, Ab', nb', cb', hrb, rfl, h1⟩
          clear x0_0 x1_0 x2_0
          have HRb := Lib.hid hrb; clear hrb
          clear hS; have hS := Lib.hid h1; clear h1
          obtain ⟨x0_0, x1_0, x2_0⟩ := hS.out.cs3 0 rfl
          have h1 := (hS.out.boxed (vs := [.bool (sg (rb).num), .slice Ab nb cb, .slice Ab' nb' cb']) (ty := 27) rfl rfl)
          try simp only [World.size_alloc] at h1
          obtain ⟨p0_0, p1_0, p2_0⟩ := h1.cs3 0 rfl
          obtain ⟨p0_1, p1_1, p2_1⟩ := h1.cs3 1 rfl
          clear h1
          go_wp2_with fail
          clear x0_0 x1_0 x2_0
          clear p0_0 p1_0 p2_0 p0_1 p1_1 p2_1
          generalize hwa : World.alloc v5 _ = v6
          have h1 := (hS.out.boxed (vs := [.bool (sg (rb).num), .slice Ab nb cb, .slice Ab' nb' cb']) (ty := 27) rfl hwa)
          have hsz : v6.heap.size = v5.heap.size + 1 := by rw [← hwa]; simp only [World.size_alloc]
          try rw [← hsz]
          clear hwa hsz
          clear hS; have hS := Lib.hid h1; clear h1
          obtain ⟨x0_0, x1_0, x2_0⟩ := hS.out.cs3 0 rfl
          obtain ⟨x0_1, x1_1, x2_1⟩ := hS.out.cs3 1 rfl
          go_wp2_with fail
          go_at_call 32
          with_reducible refine (fsame_s (q := true) hS.out (by repeat (first | exact List.mem_cons_self | apply List.mem_cons_of_mem)) (by repeat (first | exact List.mem_cons_self | apply List.mem_cons_of_mem)) (by repeat (first | exact List.mem_cons_self | apply List.mem_cons_of_mem)) (by repeat (first | exact List.mem_cons_self | apply List.mem_cons_of_mem)) (by decide) (by decide) HZ0.out (rv_self _) (by rw [← HRb.out, HZR.out, Rat.sub_self]; decide +kernel)).mono ?_
          rintro e v7 ⟨rfl, h1⟩
          clear x0_0 x1_0 x2_0 x0_1 x1_1 x2_1
          clear hS; have hS := Lib.hid h1; clear h1
          obtain ⟨x0_0, x1_0, x2_0⟩ := hS.out.cs3 0 rfl
          obtain ⟨x0_1, x1_1, x2_1⟩ := hS.out.cs3 1 rfl
          go_wp2_with fail
          go_at_call 23
          with_reducible refine (fmay_s (q := true) hS.out (by repeat (first | exact List.mem_cons_self | apply List.mem_cons_of_mem)) (by repeat (first | exact List.mem_cons_self | apply List.mem_cons_of_mem)) (by decide) (mayR_told _)).mono ?_
          rintro e v8 ⟨rfl, h1⟩
          clear x0_0 x1_0 x2_0 x0_1 x1_1 x2_1
          clear hS; have hS := Lib.hid h1; clear h1
          obtain ⟨x0_0, x1_0, x2_0⟩ := hS.out.cs3 0 rfl
          obtain ⟨x0_1, x1_1, x2_1⟩ := hS.out.cs3 1 rfl
          go_wp2_with fail
          go_at_call 23
          with_reducible refine (fmay_s (q := false) hS.out (by repeat (first | exact List.mem_cons_self | apply List.mem_cons_of_mem)) (by repeat (first | exact List.mem_cons_self | apply List.mem_cons_of_mem)) (by decide) HMAY.out).mono ?_
          rintro e v9 ⟨rfl, h1⟩
          clear x0_0 x1_0 x2_0 x0_1 x1_1 x2_1
          clear hS; have hS := Lib.hid h1; clear h1
          obtain ⟨x0_0, x1_0, x2_0⟩ := hS.out.cs3 0 rfl
          obtain ⟨x0_1, x1_1, x2_1⟩ := hS.out.cs3 1 rfl
          go_wp2_with fail
          go_at_call 26
          with_reducible refine (fread_x hS.out b1 l1 HRJ.out HRD.out).mono ?_
          rintro e v10 ⟨rfl, h1⟩
          clear x0_0 x1_0 x2_0 x0_1 x1_1 x2_1
          clear hS; have hS := Lib.hid h1; clear h1
          obtain ⟨x0_0, x1_0, x2_0⟩ := hS.out.cs3 0 rfl
          obtain ⟨x0_1, x1_1, x2_1⟩ := hS.out.cs3 1 rfl
          go_wp2
          go_ret
          exact ⟨rfl, (hS.out.alloc _).st.1⟩
    · have hs : 300 < b1.length := by omega
      have hS := Lib.hid (((SC.start w).old (k := 6) g0 hl.2 rfl).old (k := 6) h0 hl.1 rfl)
      clear h0 g0
      go_enter Tryz.func9, Tryz.ntmps9
      have h1 := (hS.out.boxed (vs := [.bool b0, .slice A0 n0 c0, .slice A0' n0' c0']) (ty := 27) rfl rfl)
      try simp only [World.size_alloc] at h1
      obtain ⟨p0_0, p1_0, p2_0⟩ := h1.cs3 0 rfl
      clear h1
      go_wp2_with fail
      clear p0_0 p1_0 p2_0
      generalize hwa : World.alloc w _ = v1
      have h1 := (hS.out.boxed (vs := [.bool b0, .slice A0 n0 c0, .slice A0' n0' c0']) (ty := 27) rfl hwa)
      have hsz : v1.heap.size = w.heap.size + 1 := by rw [← hwa]; simp only [World.size_alloc]
      try rw [← hsz]
      clear hwa hsz
      clear hS; have hS := Lib.hid h1; clear h1
      obtain ⟨x0_0, x1_0, x2_0⟩ := hS.out.cs3 0 rfl
      go_wp2_with fail
      go_at_call 11
      with_reducible refine (long1_n hS.out hl).mono ?_
      rintro e v2 ⟨rfl, h1⟩
      clear x0_0 x1_0 x2_0
      clear hS; have hS := Lib.hid h1; clear h1
      obtain ⟨x0_0, x1_0, x2_0⟩ := hS.out.cs3 0 rfl
      go_wp2_with fail
      go_at_call 12
      with_reducible refine (awake_any _).mono ?_
      rintro e v3 ⟨rfl, hb⟩
      clear x0_0 x1_0 x2_0
      have h1 := hS.out.below hb
      clear hb
      clear hS; have hS := Lib.hid h1; clear h1
      obtain ⟨x0_0, x1_0, x2_0⟩ := hS.out.cs3 0 rfl
      go_wp2
      go_ret
      exact ⟨rfl, hS.out.st.1⟩
  · have hS := Lib.hid (SC.start w)
    clear h0 g0
    go_enter Tryz.func9, Tryz.ntmps9
    have h1 := (hS.out.boxed (vs := [.bool b0, .slice A0 n0 c0, .slice A0' n0' c0']) (ty := 27) rfl rfl)
    try simp only [World.size_alloc] at h1
    obtain ⟨p0_0, p1_0, p2_0⟩ := h1.cs3 0 rfl
    clear h1
    go_wp2_with fail
    clear p0_0 p1_0 p2_0
    generalize hwa : World.alloc w _ = v1
    have h1 := (hS.out.boxed (vs := [.bool b0, .slice A0 n0 c0, .slice A0' n0' c0']) (ty := 27) rfl hwa)
    have hsz : v1.heap.size = w.heap.size + 1 := by rw [← hwa]; simp only [World.size_alloc]
    try rw [← hsz]
    clear hwa hsz
    clear hS; have hS := Lib.hid h1; clear h1
    obtain ⟨x0_0, x1_0, x2_0⟩ := hS.out.cs3 0 rfl
    go_wp2_with fail
    go_at_call 11
    with_reducible refine (long1_y hS.out ⟨by omega, by omega⟩ hl).mono ?_
    rintro e v2 ⟨rfl, h1⟩
    clear x0_0 x1_0 x2_0
    clear hS; have hS := Lib.hid h1; clear h1
    obtain ⟨x0_0, x1_0, x2_0⟩ := hS.out.cs3 0 rfl
    go_wp2_with fail
    go_at_call 12
    with_reducible refine (awake_any _).mono ?_
    rintro e v3 ⟨rfl, hb⟩
    clear x0_0 x1_0 x2_0
    have h1 := hS.out.below hb
    clear hb
    clear hS; have hS := Lib.hid h1; clear h1
    obtain ⟨x0_0, x1_0, x2_0⟩ := hS.out.cs3 0 rfl
    go_wp2
    go_ret
    exact ⟨rfl, hS.out.st.1⟩
set_option maxRecDepth 100000 in
theorem lifted (os : Os) (started : os.Started) (H : Type) (enc : TypeId × Value → H) :
    ReturnsInHanded {} Tryz.checked os 9 .any (fun w args => (Rows.ratBackSpec.pre enc Tryz.prog Tryz.f9 Rows.ratBackRow.domain false w args ∧ laidMetH Tryz.prog Rows.ratBackRow.laid w) ∧ sizedMet enc Tryz.prog Tryz.f9 (OpenSpec.ofChange Rows.ratBackSpec) false w args) (Rows.ratBackSpec.post enc Tryz.prog Tryz.f9 false true false false) := by
  refine returnsInHanded_of_change_and (C := Tryz.checked) (X := fun w _ => laidMetH Tryz.prog Rows.ratBackRow.laid w) (fun _ _ _ hh h => h.of_heap hh) own started (by kernel_rfl) Tryz.func9
    (ChangeSpec.witness_shaped (enc := enc) (C := Tryz.checked) (os := os) (X := fun w _ => laidMetH Tryz.prog Rows.ratBackRow.laid w) false (World.laidAll Tryz.prog os Rows.ratBackRow.laid) #[.agg #[.bool false, .slice none 0 0, .slice none 0 0], .string ByteArray.empty] 8 (World.laidAll_os _ _ _)
      (World.shaped_of_ZipB (by kernel_rfl) (by kernel_rfl)) (by kernel_rfl) (by kernel_rfl) (by kernel_rfl)
      (by rw [MakeChecks.laidMetH_plain _ _ _ (by kernel_rfl)]; exact laidMet_laidAll _ (by kernel_rfl) (by kernel_rfl))) ?_
  intro W base args ds gs before hval0 hW hcnd _ _ _
  have hval : ∀ (j : Nat) t v, Tryz.f9.params[j]? = some t → args[j]? = some v → Value.okWide Tryz.prog W .any base t v := hval0
  have hW' := hW
  obtain ⟨p, q, hA0, hV, hpq, hfz, hnd⟩ := hW
  have hA : DataW.TrodAll enc Tryz.prog W 0 (fun _ => true) true Tryz.f9.params.toList args.toList ds p := hA0
  rw [Tryz.params9] at hA hval
  obtain ⟨v0, vs0, d0, ds0, p0, q0, hargs, rfl, rfl, h0, r0⟩ := trodAll_cons hA
  obtain ⟨v1, vs1, d1, ds1, p1, q1, rfl, rfl, rfl, h1, r1⟩ := trodAll_cons r0
  obtain ⟨rfl, rfl, rfl⟩ := trodAll_nil r1
  obtain rfl : args = #[v0, v1] := by cases args; simp_all
  obtain ⟨rfl, rfl⟩ := trodVars_none hV
  obtain ⟨b0, A0, n0, c0, xs0, A0', n0', c0', ys0, rfl, s0, sd0⟩ := open_frac (hval 0 27 v0 rfl rfl) h0
  obtain ⟨y1, rfl, rfl, rfl, l1⟩ := Go.ChangeMaps.open_string Tryz.underlying9 (hval 1 9 v1 rfl rfl) h1
  obtain ⟨b1, rfl⟩ : ∃ b : List UInt8, y1 = ⟨b.toArray⟩ := ⟨y1.data.toList, by cases y1; simp⟩
  refine (walk W b0 A0 n0 c0 xs0 A0' n0' c0' ys0 s0 sd0 b1 l1).mono fun e W' ⟨he, hb⟩ => ?_
  subst he
  exact ⟨_, rfl, Frame.close laidOut hW' rfl rfl rfl Tryz.underlying4 (fun t ht => by rw [Tryz.params9] at ht; simp at ht; rcases ht with rfl | rfl <;> exact ⟨by kernel_rfl, of_decide_eq_true (by kernel_rfl)⟩) hb⟩
theorem over : Rows.ratBackRow.holds Tryz.pinned (OpenSpec.ofChange Rows.ratBackSpec) :=
  OpenClaim.holds_of_wide 9 Tryz.f9 rfl rfl rfl rfl rfl rfl rfl ⟨rfl, rfl, rfl, rfl, rfl⟩ rfl rfl rfl rfl rfl (by kernel_rfl) Tryz.func9 (by kernel_rfl)
    (of_decide_eq_true (by kernel_rfl)) (by unfold Func.isWrapper; first | (rw [if_pos (by decide +kernel)]; kernel_rfl) | (rw [if_neg (by decide +kernel)]; exact ⟨rfl, rfl⟩))
    (fun os started H enc _ => lifted os started H enc)
/-- the statement -/
theorem proved : Rows.RatBackCardSaid :=
  Claim7.holds_tied_plain_at .later [] _ _ _ _ over (fun _ h => by cases h) (by kernel_rfl) (fun _ h => by cases h) ratBack_row_tie rfl ⟨rfl, rfl⟩ (by kernel_rfl) rfl
    (fun f fn hf hfn => by
      obtain rfl : f = 9 := Option.some.inj ((show Tryz.prog.funcNamed "tombola/tombolalaw06.RatBack" = some 9 by kernel_rfl).symm.trans hf) |>.symm
      obtain rfl : fn = Tryz.f9 := (Option.some.inj (Tryz.func9.symm.trans hfn)).symm
      exact ⟨by kernel_rfl, (fun j t ht => by
        rw [Tryz.params9] at ht
        have hm : t ∈ [27, 9] := by simpa using Array.mem_of_getElem? ht
        have hall : ([27, 9].all fun u => !Tryz.prog.wantsStandIn u) = true := by kernel_rfl
        exact (show Tryz.prog.wantsStandIn t = false by simpa using List.all_eq_true.1 hall t hm))⟩)
    (by kernel_rfl)
#print axioms proved
end Go.Proofs.YtfncaflaefnjmaaGreatDoor.ratBack
