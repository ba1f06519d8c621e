/-
  PROVED: the statement RatPowers (tombolalaw06.RatPowers) about the landed commit: for every input the law returns true and leaves its arguments as they were. Conditions: none beyond those that the given row itself prints.
-/
import Derived.Test.YtpokcocfdchfeaaGreatDoorCards
import Derived.Test.YtpokcocfdchfeaaGreatDoorTie
import Derived.LaidMore
import Derived.Lay
import Derived.SevenTiedAt
import Derived.Stop.Joined
import Derived.Test.YtpokcocfdchfeaaGreatDoorRows
import Derived.WalkKit
import Derived.ProofKit
import Derived.OpenShut
import Derived.RowKit3
import Derived.Test.YtpokcocfdchfeaaGreatDoorGFrame
import Derived.Test.YtpokcocfdchfeaaGreatDoorGFrame
import Derived.Test.YtpokcocfdchfeaaGreatDoorRatOpen
import Derived.Test.YtpokcocfdchfeaaGreatDoorRatH
import Derived.Test.YtpokcocfdchfeaaGreatDoorRatToldP
import Derived.Deep.RegionHeld3
namespace Go.Proofs.YtpokcocfdchfeaaGreatDoor.ratPowers
open Go.ChangeShapes Go.WideShapes Go.ChangeAt Go.RowKit
set_option linter.unusedVariables false
set_option linter.unusedSimpArgs false
set_option maxRecDepth 20000
open N
theorem own : ownKnob Tryz.prog.godebug = none := by kernel_rfl
open RC
open Go.Lib (decDigits nDigits decDigits_length nDigits_pos)
set_option maxRecDepth 100000 in
set_option maxHeartbeats 4000000 in
theorem walk (w : World) (b0 : Bool) (A0 : Option Addr) (n0 c0 : Nat) (xs0 : List Int) (A0' : Option Addr) (n0' c0' : Nat) (ys0 : List Int) (h0 : Sl w A0 n0 c0 xs0) (g0 : Sl w A0' n0' c0' ys0) (a1 : Int) (w1 : (Lit.int .i64 a1).wf = true) :
    Calls Tryz.prog 3 #[.agg #[.bool b0, .slice A0 n0 c0, .slice A0' n0' c0'], .int .i64 a1] w fun e w' => e = .returned (.bool true) ∧ Below w.heap.size w w' := by
  have hc0 := h0.cap
  have hm0 := h0.max
  have hd0 := g0.cap
  have he0 := g0.max
  unfold maxLen at hm0 he0
  have bx := bounds_i64 w1
  clear w1
  by_cases hl : n0 ≤ 6 ∧ n0' ≤ 6
  · clear hc0 hm0 hd0 he0
    obtain ⟨hl6, hl6'⟩ := hl
    have hl := And.intro hl6 hl6'
    have hwl : IntKind.i64.wrap ((n0 : Int) + (n0' : Int)) = (n0 : Int) + (n0' : Int) := by rw [IntKind.wrap_i64]; omega
    by_cases h1 : a1 ≤ 4
    · have q12 : ¬ 12 < a1 := by omega
      have q4 : ¬ 4 < a1 := by omega
      have q20 : ¬ 1048576 < a1 := by omega
      obtain ⟨sm, xsm, ysm, jm, hj5, hfp, hrp⟩ := pows_t b0 xs0 ys0 a1 (by omega) bx.2
      clear hj5
      clear bx
      have HFP := Lib.hid hfp
      have HRP := Lib.hid hrp
      clear hfp hrp
      have HL := Lib.hid hl
      have hS := Lib.hid (((SC.start w).old (k := 6) g0 hl.2 rfl).old (k := 6) h0 hl.1 rfl)
      clear h0 g0
      go_enter Tryz.func3, Tryz.ntmps3
      have h1 := (hS.out.boxed (vs := [.bool b0, .slice A0 n0 c0, .slice A0' n0' c0']) (ty := 27) rfl rfl)
      try simp only [World.size_alloc] at h1
      obtain ⟨p0_0, p1_0, p2_0⟩ := h1.cs3 0 rfl
      clear h1
      go_wp2_with fail
      clear p0_0 p1_0 p2_0
      generalize hwa : World.alloc w _ = v1
      have h1 := (hS.out.boxed (vs := [.bool b0, .slice A0 n0 c0, .slice A0' n0' c0']) (ty := 27) rfl hwa)
      have hsz : v1.heap.size = w.heap.size + 1 := by rw [← hwa]; simp only [World.size_alloc]
      try rw [← hsz]
      clear hwa hsz
      clear hS; have hS := Lib.hid h1; clear h1
      obtain ⟨x0_0, x1_0, x2_0⟩ := hS.out.cs3 0 rfl
      go_wp2_with fail
      go_at_call 4
      with_reducible refine (long1_n hS.out HL.out).mono ?_
      rintro e v2 ⟨rfl, h1⟩
      clear x0_0 x1_0 x2_0
      clear hS; have hS := Lib.hid h1; clear h1
      obtain ⟨x0_0, x1_0, x2_0⟩ := hS.out.cs3 0 rfl
      go_wp2_with fail
      go_at_call 6
      with_reducible refine (HRP.out _ _ _ _ _ _ _ (hS.out.get (A := A0) (n := n0) (c := c0) (k := 6) (xs := xs0) (v := val B xs0) (by repeat (first | exact ms | apply mo))).1 (hS.out.get (A := A0') (n := n0') (c := c0') (k := 6) (xs := ys0) (v := val B ys0) (by repeat (first | exact ms | apply mo))).1 HL.out.1 HL.out.2).mono ?_
      rintro e v3 ho
      clear x0_0 x1_0 x2_0
      obtain ⟨Am, nm, cm, Am', nm', cm', rfl, h1⟩ := hS.out.told ho
      clear ho
      clear hS; have hS := Lib.hid h1; clear h1
      obtain ⟨x0_0, x1_0, x2_0⟩ := hS.out.cs3 0 rfl
      have h1 := (hS.out.boxed (vs := [.bool sm, .slice Am nm cm, .slice Am' nm' cm']) (ty := 27) rfl rfl)
      try simp only [World.size_alloc] at h1
      obtain ⟨p0_0, p1_0, p2_0⟩ := h1.cs3 0 rfl
      obtain ⟨p0_1, p1_1, p2_1⟩ := h1.cs3 1 rfl
      clear h1
      go_wp2_with fail
      clear x0_0 x1_0 x2_0
      clear p0_0 p1_0 p2_0 p0_1 p1_1 p2_1
      generalize hwa : World.alloc v3 _ = v4
      have h1 := (hS.out.boxed (vs := [.bool sm, .slice Am nm cm, .slice Am' nm' cm']) (ty := 27) rfl hwa)
      have hsz : v4.heap.size = v3.heap.size + 1 := by rw [← hwa]; simp only [World.size_alloc]
      try rw [← hsz]
      clear hwa hsz
      clear hS; have hS := Lib.hid h1; clear h1
      obtain ⟨x0_0, x1_0, x2_0⟩ := hS.out.cs3 0 rfl
      obtain ⟨x0_1, x1_1, x2_1⟩ := hS.out.cs3 1 rfl
      have h1 : SC w w v4 _ _ [] := (hS.out.sub (fun t ht => ht) (List.Sublist.refl _) (fun t ht => by cases ht))
      clear hS; have hS := Lib.hid h1; clear h1
      go_wp2_with fail
      clear x0_0 x1_0 x2_0 x0_1 x1_1 x2_1
      go_loopw [7] (fun i wr => ∃ k : Nat, k ≤ 2 ∧ i = .int .i64 k ∧ SC w w wr [⟨Am, nm, cm, 73, xsm, val B xsm⟩, ⟨Am', nm', cm', 73, ysm, val B ysm⟩, ⟨A0, n0, c0, 6, xs0, val B xs0⟩, ⟨A0', n0', c0', 6, ys0, val B ys0⟩] [⟨v3.heap.size, [.bool sm, .slice Am nm cm, .slice Am' nm' cm'], 27⟩, ⟨w.heap.size, [.bool b0, .slice A0 n0 c0, .slice A0' n0' c0'], 27⟩] []) (fun i _ => 2 - (intOf i).toNat)
      case atStart => exact ⟨0, by omega, rfl, hS.out⟩
      case round =>
        obtain ⟨k, hk, rfl, hS0⟩ := hrel
        obtain ⟨vr, rfl⟩ : ∃ vr : World, vr = wr := ⟨_, rfl⟩
        clear hS
        have HS0 := Lib.hid hS0
        clear hS0
        by_cases hlt : k < 2
        · have hS := Lib.hid HS0.out.rebase
          obtain ⟨x0_0, x1_0, x2_0⟩ := hS.out.cs3 0 rfl
          obtain ⟨x0_1, x1_1, x2_1⟩ := hS.out.cs3 1 rfl
          go_wp2_with fail
          go_at_call 7
          with_reducible refine (HFP.out _ _ _ _ _ _ _ (hS.out.get (A := A0) (n := n0) (c := c0) (k := 6) (xs := xs0) (v := val B xs0) (by repeat (first | exact ms | apply mo))).1 (hS.out.get (A := A0') (n := n0') (c := c0') (k := 6) (xs := ys0) (v := val B ys0) (by repeat (first | exact ms | apply mo))).1 HL.out.1 HL.out.2).mono ?_
          rintro e v5 ho
          clear x0_0 x1_0 x2_0 x0_1 x1_1 x2_1
          obtain ⟨Aa, na, ca, Aa', na', ca', rfl, h1⟩ := hS.out.told ho
          clear ho
          clear hS; have hS := Lib.hid h1; clear h1
          obtain ⟨x0_0, x1_0, x2_0⟩ := hS.out.cs3 0 rfl
          obtain ⟨x0_1, x1_1, x2_1⟩ := hS.out.cs3 1 rfl
          have h1 := (hS.out.boxed (vs := [.bool sm, .slice Aa na ca, .slice Aa' na' ca']) (ty := 27) rfl rfl)
          try simp only [World.size_alloc] at h1
          obtain ⟨p0_0, p1_0, p2_0⟩ := h1.cs3 0 rfl
          obtain ⟨p0_1, p1_1, p2_1⟩ := h1.cs3 1 rfl
          obtain ⟨p0_2, p1_2, p2_2⟩ := h1.cs3 2 rfl
          clear h1
          go_wp2_with fail
          clear x0_0 x1_0 x2_0 x0_1 x1_1 x2_1
          clear p0_0 p1_0 p2_0 p0_1 p1_1 p2_1 p0_2 p1_2 p2_2
          generalize hwa : World.alloc v5 _ = v6
          have h1 := (hS.out.boxed (vs := [.bool sm, .slice Aa na ca, .slice Aa' na' ca']) (ty := 27) rfl hwa)
          have hsz : v6.heap.size = v5.heap.size + 1 := by rw [← hwa]; simp only [World.size_alloc]
          try rw [← hsz]
          clear hwa hsz
          clear hS; have hS := Lib.hid h1; clear h1
          obtain ⟨x0_0, x1_0, x2_0⟩ := hS.out.cs3 0 rfl
          obtain ⟨x0_1, x1_1, x2_1⟩ := hS.out.cs3 1 rfl
          obtain ⟨x0_2, x1_2, x2_2⟩ := hS.out.cs3 2 rfl
          go_wp2_with fail
          go_at_call 8
          with_reducible refine (isg_c (q := true) hS.out (by repeat (first | exact ms | apply mo)) (by repeat (first | exact ms | apply mo)) (by repeat (first | exact ms | apply mo)) (by repeat (first | exact ms | apply mo)) (by simp)).mono ?_
          rintro e v7 ⟨rfl, h1⟩
          clear x0_0 x1_0 x2_0 x0_1 x1_1 x2_1 x0_2 x1_2 x2_2
          clear hS; have hS := Lib.hid h1; clear h1
          obtain ⟨x0_0, x1_0, x2_0⟩ := hS.out.cs3 0 rfl
          obtain ⟨x0_1, x1_1, x2_1⟩ := hS.out.cs3 1 rfl
          obtain ⟨x0_2, x1_2, x2_2⟩ := hS.out.cs3 2 rfl
          clear x0_0 x1_0 x2_0 x0_1 x1_1 x2_1 x0_2 x1_2 x2_2
          have h1 := hS.out.rs
          simp only [List.map_cons, List.map_nil] at h1
          have hR := Lib.hid h1
          clear h1 hS
          obtain ⟨x0_0, x1_0, x2_0⟩ := hR.out.cs3 0 rfl
          go_wp2_with fail
          go_at_call 9
          with_reducible refine (spoil_r hR.out (by repeat (first | exact ms | apply mo)) (by repeat (first | exact ms | apply mo))).mono ?_
          rintro e v8 ⟨⟨z0, rfl⟩, h1⟩
          clear x0_0 x1_0 x2_0
          clear hR; have hR := Lib.hid h1; clear h1
          go_wp2_with fail
          go_roundw
          case rel => exact ⟨k + 1, by omega, by go_num, HS0.out.back hR.out⟩
          case measure => simp [intOf]; omega
        · have hS := HS0
          clear HS0
          have hk2 : k = 2 := by omega
          subst hk2
          obtain ⟨x0_0, x1_0, x2_0⟩ := hS.out.cs3 0 rfl
          obtain ⟨x0_1, x1_1, x2_1⟩ := hS.out.cs3 1 rfl
          go_wp2_with fail
          go_at_call 5
          with_reducible refine (awake_any _).mono ?_
          rintro e v5 ⟨rfl, hb⟩
          clear x0_0 x1_0 x2_0 x0_1 x1_1 x2_1
          have h1 := hS.out.below hb
          clear hb
          clear hS; have hS := Lib.hid h1; clear h1
          obtain ⟨x0_0, x1_0, x2_0⟩ := hS.out.cs3 0 rfl
          obtain ⟨x0_1, x1_1, x2_1⟩ := hS.out.cs3 1 rfl
          go_wp2
          go_ret
          exact ⟨rfl, hS.out.st.1⟩
    by_cases h2 : 1048576 < a1
    · have q12 : 12 < a1 := by omega
      have q4 : 4 < a1 := by omega
      have q20 : ¬ a1 ≤ 1048576 := by omega
      obtain ⟨sm, xsm, ysm, jm, hj5, hfp, hrp⟩ := pows_t b0 xs0 ys0 a1 (by omega) bx.2
      obtain rfl := hj5 (by omega)
      clear hj5
      clear bx
      have HFP := Lib.hid hfp
      have HRP := Lib.hid hrp
      clear hfp hrp
      have HL := Lib.hid hl
      have hS := Lib.hid (((SC.start w).old (k := 6) g0 hl.2 rfl).old (k := 6) h0 hl.1 rfl)
      clear h0 g0
      go_enter Tryz.func3, Tryz.ntmps3
      have h1 := (hS.out.boxed (vs := [.bool b0, .slice A0 n0 c0, .slice A0' n0' c0']) (ty := 27) rfl rfl)
      try simp only [World.size_alloc] at h1
      obtain ⟨p0_0, p1_0, p2_0⟩ := h1.cs3 0 rfl
      clear h1
      go_wp2_with fail
      clear p0_0 p1_0 p2_0
      generalize hwa : World.alloc w _ = v1
      have h1 := (hS.out.boxed (vs := [.bool b0, .slice A0 n0 c0, .slice A0' n0' c0']) (ty := 27) rfl hwa)
      have hsz : v1.heap.size = w.heap.size + 1 := by rw [← hwa]; simp only [World.size_alloc]
      try rw [← hsz]
      clear hwa hsz
      clear hS; have hS := Lib.hid h1; clear h1
      obtain ⟨x0_0, x1_0, x2_0⟩ := hS.out.cs3 0 rfl
      go_wp2_with fail
      go_at_call 4
      with_reducible refine (long1_n hS.out HL.out).mono ?_
      rintro e v2 ⟨rfl, h1⟩
      clear x0_0 x1_0 x2_0
      clear hS; have hS := Lib.hid h1; clear h1
      obtain ⟨x0_0, x1_0, x2_0⟩ := hS.out.cs3 0 rfl
      go_wp2_with fail
      go_at_call 6
      with_reducible refine (HRP.out _ _ _ _ _ _ _ (hS.out.get (A := A0) (n := n0) (c := c0) (k := 6) (xs := xs0) (v := val B xs0) (by repeat (first | exact ms | apply mo))).1 (hS.out.get (A := A0') (n := n0') (c := c0') (k := 6) (xs := ys0) (v := val B ys0) (by repeat (first | exact ms | apply mo))).1 HL.out.1 HL.out.2).mono ?_
      rintro e v3 ho
      clear x0_0 x1_0 x2_0
      obtain ⟨Am, nm, cm, Am', nm', cm', rfl, h1⟩ := hS.out.told ho
      clear ho
      clear hS; have hS := Lib.hid h1; clear h1
      obtain ⟨x0_0, x1_0, x2_0⟩ := hS.out.cs3 0 rfl
      have h1 := (hS.out.boxed (vs := [.bool sm, .slice Am nm cm, .slice Am' nm' cm']) (ty := 27) rfl rfl)
      try simp only [World.size_alloc] at h1
      obtain ⟨p0_0, p1_0, p2_0⟩ := h1.cs3 0 rfl
      obtain ⟨p0_1, p1_1, p2_1⟩ := h1.cs3 1 rfl
      clear h1
      go_wp2_with fail
      clear x0_0 x1_0 x2_0
      clear p0_0 p1_0 p2_0 p0_1 p1_1 p2_1
      generalize hwa : World.alloc v3 _ = v4
      have h1 := (hS.out.boxed (vs := [.bool sm, .slice Am nm cm, .slice Am' nm' cm']) (ty := 27) rfl hwa)
      have hsz : v4.heap.size = v3.heap.size + 1 := by rw [← hwa]; simp only [World.size_alloc]
      try rw [← hsz]
      clear hwa hsz
      clear hS; have hS := Lib.hid h1; clear h1
      obtain ⟨x0_0, x1_0, x2_0⟩ := hS.out.cs3 0 rfl
      obtain ⟨x0_1, x1_1, x2_1⟩ := hS.out.cs3 1 rfl
      have h1 : SC w w v4 _ _ [] := (hS.out.sub (fun t ht => ht) (List.Sublist.refl _) (fun t ht => by cases ht))
      clear hS; have hS := Lib.hid h1; clear h1
      go_wp2_with fail
      clear x0_0 x1_0 x2_0 x0_1 x1_1 x2_1
      go_loopw [7] (fun i wr => ∃ k : Nat, k ≤ 2 ∧ i = .int .i64 k ∧ SC w w wr [⟨Am, nm, cm, 73, xsm, val B xsm⟩, ⟨Am', nm', cm', 73, ysm, val B ysm⟩, ⟨A0, n0, c0, 6, xs0, val B xs0⟩, ⟨A0', n0', c0', 6, ys0, val B ys0⟩] [⟨v3.heap.size, [.bool sm, .slice Am nm cm, .slice Am' nm' cm'], 27⟩, ⟨w.heap.size, [.bool b0, .slice A0 n0 c0, .slice A0' n0' c0'], 27⟩] []) (fun i _ => 2 - (intOf i).toNat)
      case atStart => exact ⟨0, by omega, rfl, hS.out⟩
      case round =>
        obtain ⟨k, hk, rfl, hS0⟩ := hrel
        obtain ⟨vr, rfl⟩ : ∃ vr : World, vr = wr := ⟨_, rfl⟩
        clear hS
        have HS0 := Lib.hid hS0
        clear hS0
        by_cases hlt : k < 2
        · have hS := Lib.hid HS0.out.rebase
          obtain ⟨x0_0, x1_0, x2_0⟩ := hS.out.cs3 0 rfl
          obtain ⟨x0_1, x1_1, x2_1⟩ := hS.out.cs3 1 rfl
          go_wp2_with fail
          go_at_call 7
          with_reducible refine (HFP.out _ _ _ _ _ _ _ (hS.out.get (A := A0) (n := n0) (c := c0) (k := 6) (xs := xs0) (v := val B xs0) (by repeat (first | exact ms | apply mo))).1 (hS.out.get (A := A0') (n := n0') (c := c0') (k := 6) (xs := ys0) (v := val B ys0) (by repeat (first | exact ms | apply mo))).1 HL.out.1 HL.out.2).mono ?_
          rintro e v5 ho
          clear x0_0 x1_0 x2_0 x0_1 x1_1 x2_1
          obtain ⟨Aa, na, ca, Aa', na', ca', rfl, h1⟩ := hS.out.told ho
          clear ho
          clear hS; have hS := Lib.hid h1; clear h1
          obtain ⟨x0_0, x1_0, x2_0⟩ := hS.out.cs3 0 rfl
          obtain ⟨x0_1, x1_1, x2_1⟩ := hS.out.cs3 1 rfl
          have h1 := (hS.out.boxed (vs := [.bool sm, .slice Aa na ca, .slice Aa' na' ca']) (ty := 27) rfl rfl)
          try simp only [World.size_alloc] at h1
          obtain ⟨p0_0, p1_0, p2_0⟩ := h1.cs3 0 rfl
          obtain ⟨p0_1, p1_1, p2_1⟩ := h1.cs3 1 rfl
          obtain ⟨p0_2, p1_2, p2_2⟩ := h1.cs3 2 rfl
          clear h1
          go_wp2_with fail
          clear x0_0 x1_0 x2_0 x0_1 x1_1 x2_1
          clear p0_0 p1_0 p2_0 p0_1 p1_1 p2_1 p0_2 p1_2 p2_2
          generalize hwa : World.alloc v5 _ = v6
          have h1 := (hS.out.boxed (vs := [.bool sm, .slice Aa na ca, .slice Aa' na' ca']) (ty := 27) rfl hwa)
          have hsz : v6.heap.size = v5.heap.size + 1 := by rw [← hwa]; simp only [World.size_alloc]
          try rw [← hsz]
          clear hwa hsz
          clear hS; have hS := Lib.hid h1; clear h1
          obtain ⟨x0_0, x1_0, x2_0⟩ := hS.out.cs3 0 rfl
          obtain ⟨x0_1, x1_1, x2_1⟩ := hS.out.cs3 1 rfl
          obtain ⟨x0_2, x1_2, x2_2⟩ := hS.out.cs3 2 rfl
          go_wp2_with fail
          go_at_call 8
          with_reducible refine (isg_c (q := true) hS.out (by repeat (first | exact ms | apply mo)) (by repeat (first | exact ms | apply mo)) (by repeat (first | exact ms | apply mo)) (by repeat (first | exact ms | apply mo)) (by simp)).mono ?_
          rintro e v7 ⟨rfl, h1⟩
          clear x0_0 x1_0 x2_0 x0_1 x1_1 x2_1 x0_2 x1_2 x2_2
          clear hS; have hS := Lib.hid h1; clear h1
          obtain ⟨x0_0, x1_0, x2_0⟩ := hS.out.cs3 0 rfl
          obtain ⟨x0_1, x1_1, x2_1⟩ := hS.out.cs3 1 rfl
          obtain ⟨x0_2, x1_2, x2_2⟩ := hS.out.cs3 2 rfl
          clear x0_0 x1_0 x2_0 x0_1 x1_1 x2_1 x0_2 x1_2 x2_2
          have h1 := hS.out.rs
          simp only [List.map_cons, List.map_nil] at h1
          have hR := Lib.hid h1
          clear h1 hS
          obtain ⟨x0_0, x1_0, x2_0⟩ := hR.out.cs3 0 rfl
          go_wp2_with fail
          go_at_call 9
          with_reducible refine (spoil_r hR.out (by repeat (first | exact ms | apply mo)) (by repeat (first | exact ms | apply mo))).mono ?_
          rintro e v8 ⟨⟨z0, rfl⟩, h1⟩
          clear x0_0 x1_0 x2_0
          clear hR; have hR := Lib.hid h1; clear h1
          go_wp2_with fail
          go_roundw
          case rel => exact ⟨k + 1, by omega, by go_num, HS0.out.back hR.out⟩
          case measure => simp [intOf]; omega
        · have hS := HS0
          clear HS0
          have hk2 : k = 2 := by omega
          subst hk2
          obtain ⟨x0_0, x1_0, x2_0⟩ := hS.out.cs3 0 rfl
          obtain ⟨x0_1, x1_1, x2_1⟩ := hS.out.cs3 1 rfl
          go_wp2_with fail
          go_at_call 5
          with_reducible refine (awake_any _).mono ?_
          rintro e v5 ⟨rfl, hb⟩
          clear x0_0 x1_0 x2_0 x0_1 x1_1 x2_1
          have h1 := hS.out.below hb
          clear hb
          clear hS; have hS := Lib.hid h1; clear h1
          obtain ⟨x0_0, x1_0, x2_0⟩ := hS.out.cs3 0 rfl
          obtain ⟨x0_1, x1_1, x2_1⟩ := hS.out.cs3 1 rfl
          go_wp2
          go_ret
          exact ⟨rfl, hS.out.st.1⟩
    have q20 : a1 ≤ 1048576 := by omega
    have q20' : ¬ 1048576 < a1 := by omega
    have q4 : 4 < a1 := by omega
    by_cases h3 : 12 < a1
    · clear bx
      have HL := Lib.hid hl
      have hS := Lib.hid (((SC.start w).old (k := 6) g0 hl.2 rfl).old (k := 6) h0 hl.1 rfl)
      clear h0 g0
      go_enter Tryz.func3, Tryz.ntmps3
      have h1 := (hS.out.boxed (vs := [.bool b0, .slice A0 n0 c0, .slice A0' n0' c0']) (ty := 27) rfl rfl)
      try simp only [World.size_alloc] at h1
      obtain ⟨p0_0, p1_0, p2_0⟩ := h1.cs3 0 rfl
      clear h1
      go_wp2_with fail
      clear p0_0 p1_0 p2_0
      generalize hwa : World.alloc w _ = v1
      have h1 := (hS.out.boxed (vs := [.bool b0, .slice A0 n0 c0, .slice A0' n0' c0']) (ty := 27) rfl hwa)
      have hsz : v1.heap.size = w.heap.size + 1 := by rw [← hwa]; simp only [World.size_alloc]
      try rw [← hsz]
      clear hwa hsz
      clear hS; have hS := Lib.hid h1; clear h1
      obtain ⟨x0_0, x1_0, x2_0⟩ := hS.out.cs3 0 rfl
      go_wp2_with fail
      go_at_call 4
      with_reducible refine (long1_n hS.out HL.out).mono ?_
      rintro e v2 ⟨rfl, h1⟩
      clear x0_0 x1_0 x2_0
      clear hS; have hS := Lib.hid h1; clear h1
      obtain ⟨x0_0, x1_0, x2_0⟩ := hS.out.cs3 0 rfl
      go_wp2_with fail
      go_at_call 5
      with_reducible refine (awake_any _).mono ?_
      rintro e v3 ⟨rfl, hb⟩
      clear x0_0 x1_0 x2_0
      have h1 := hS.out.below hb
      clear hb
      clear hS; have hS := Lib.hid h1; clear h1
      obtain ⟨x0_0, x1_0, x2_0⟩ := hS.out.cs3 0 rfl
      go_wp2
      go_ret
      exact ⟨rfl, hS.out.st.1⟩
    by_cases h4 : 2 < n0 + n0'
    · have h4' : 2 < (n0 : Int) + (n0' : Int) := by omega
      clear bx
      have HL := Lib.hid hl
      have hS := Lib.hid (((SC.start w).old (k := 6) g0 hl.2 rfl).old (k := 6) h0 hl.1 rfl)
      clear h0 g0
      go_enter Tryz.func3, Tryz.ntmps3
      have h1 := (hS.out.boxed (vs := [.bool b0, .slice A0 n0 c0, .slice A0' n0' c0']) (ty := 27) rfl rfl)
      try simp only [World.size_alloc] at h1
      obtain ⟨p0_0, p1_0, p2_0⟩ := h1.cs3 0 rfl
      clear h1
      go_wp2_with fail
      clear p0_0 p1_0 p2_0
      generalize hwa : World.alloc w _ = v1
      have h1 := (hS.out.boxed (vs := [.bool b0, .slice A0 n0 c0, .slice A0' n0' c0']) (ty := 27) rfl hwa)
      have hsz : v1.heap.size = w.heap.size + 1 := by rw [← hwa]; simp only [World.size_alloc]
      try rw [← hsz]
      clear hwa hsz
      clear hS; have hS := Lib.hid h1; clear h1
      obtain ⟨x0_0, x1_0, x2_0⟩ := hS.out.cs3 0 rfl
      go_wp2_with fail
      go_at_call 4
      with_reducible refine (long1_n hS.out HL.out).mono ?_
      rintro e v2 ⟨rfl, h1⟩
      clear x0_0 x1_0 x2_0
      clear hS; have hS := Lib.hid h1; clear h1
      obtain ⟨x0_0, x1_0, x2_0⟩ := hS.out.cs3 0 rfl
      go_wp2_with fail
      go_at_call 5
      with_reducible refine (awake_any _).mono ?_
      rintro e v3 ⟨rfl, hb⟩
      clear x0_0 x1_0 x2_0
      have h1 := hS.out.below hb
      clear hb
      clear hS; have hS := Lib.hid h1; clear h1
      obtain ⟨x0_0, x1_0, x2_0⟩ := hS.out.cs3 0 rfl
      go_wp2
      go_ret
      exact ⟨rfl, hS.out.st.1⟩
    have h4' : ¬ 2 < (n0 : Int) + (n0' : Int) := by omega
    obtain ⟨sm, xsm, ysm, jm, hj5, hfp, hrp⟩ := pows_t b0 xs0 ys0 a1 (by omega) bx.2
    clear hj5
    clear bx
    have HFP := Lib.hid hfp
    have HRP := Lib.hid hrp
    clear hfp hrp
    have HL := Lib.hid hl
    have hS := Lib.hid (((SC.start w).old (k := 6) g0 hl.2 rfl).old (k := 6) h0 hl.1 rfl)
    clear h0 g0
    go_enter Tryz.func3, Tryz.ntmps3
    have h1 := (hS.out.boxed (vs := [.bool b0, .slice A0 n0 c0, .slice A0' n0' c0']) (ty := 27) rfl rfl)
    try simp only [World.size_alloc] at h1
    obtain ⟨p0_0, p1_0, p2_0⟩ := h1.cs3 0 rfl
    clear h1
    go_wp2_with fail
    clear p0_0 p1_0 p2_0
    generalize hwa : World.alloc w _ = v1
    have h1 := (hS.out.boxed (vs := [.bool b0, .slice A0 n0 c0, .slice A0' n0' c0']) (ty := 27) rfl hwa)
    have hsz : v1.heap.size = w.heap.size + 1 := by rw [← hwa]; simp only [World.size_alloc]
    try rw [← hsz]
    clear hwa hsz
    clear hS; have hS := Lib.hid h1; clear h1
    obtain ⟨x0_0, x1_0, x2_0⟩ := hS.out.cs3 0 rfl
    go_wp2_with fail
    go_at_call 4
    with_reducible refine (long1_n hS.out HL.out).mono ?_
    rintro e v2 ⟨rfl, h1⟩
    clear x0_0 x1_0 x2_0
    clear hS; have hS := Lib.hid h1; clear h1
    obtain ⟨x0_0, x1_0, x2_0⟩ := hS.out.cs3 0 rfl
    go_wp2_with fail
    go_at_call 6
    with_reducible refine (HRP.out _ _ _ _ _ _ _ (hS.out.get (A := A0) (n := n0) (c := c0) (k := 6) (xs := xs0) (v := val B xs0) (by repeat (first | exact ms | apply mo))).1 (hS.out.get (A := A0') (n := n0') (c := c0') (k := 6) (xs := ys0) (v := val B ys0) (by repeat (first | exact ms | apply mo))).1 HL.out.1 HL.out.2).mono ?_
    rintro e v3 ho
    clear x0_0 x1_0 x2_0
    obtain ⟨Am, nm, cm, Am', nm', cm', rfl, h1⟩ := hS.out.told ho
    clear ho
    clear hS; have hS := Lib.hid h1; clear h1
    obtain ⟨x0_0, x1_0, x2_0⟩ := hS.out.cs3 0 rfl
    have h1 := (hS.out.boxed (vs := [.bool sm, .slice Am nm cm, .slice Am' nm' cm']) (ty := 27) rfl rfl)
    try simp only [World.size_alloc] at h1
    obtain ⟨p0_0, p1_0, p2_0⟩ := h1.cs3 0 rfl
    obtain ⟨p0_1, p1_1, p2_1⟩ := h1.cs3 1 rfl
    clear h1
    go_wp2_with fail
    clear x0_0 x1_0 x2_0
    clear p0_0 p1_0 p2_0 p0_1 p1_1 p2_1
    generalize hwa : World.alloc v3 _ = v4
    have h1 := (hS.out.boxed (vs := [.bool sm, .slice Am nm cm, .slice Am' nm' cm']) (ty := 27) rfl hwa)
    have hsz : v4.heap.size = v3.heap.size + 1 := by rw [← hwa]; simp only [World.size_alloc]
    try rw [← hsz]
    clear hwa hsz
    clear hS; have hS := Lib.hid h1; clear h1
    obtain ⟨x0_0, x1_0, x2_0⟩ := hS.out.cs3 0 rfl
    obtain ⟨x0_1, x1_1, x2_1⟩ := hS.out.cs3 1 rfl
    have h1 : SC w w v4 _ _ [] := (hS.out.sub (fun t ht => ht) (List.Sublist.refl _) (fun t ht => by cases ht))
    clear hS; have hS := Lib.hid h1; clear h1
    go_wp2_with fail
    clear x0_0 x1_0 x2_0 x0_1 x1_1 x2_1
    go_loopw [7] (fun i wr => ∃ k : Nat, k ≤ 2 ∧ i = .int .i64 k ∧ SC w w wr [⟨Am, nm, cm, 73, xsm, val B xsm⟩, ⟨Am', nm', cm', 73, ysm, val B ysm⟩, ⟨A0, n0, c0, 6, xs0, val B xs0⟩, ⟨A0', n0', c0', 6, ys0, val B ys0⟩] [⟨v3.heap.size, [.bool sm, .slice Am nm cm, .slice Am' nm' cm'], 27⟩, ⟨w.heap.size, [.bool b0, .slice A0 n0 c0, .slice A0' n0' c0'], 27⟩] []) (fun i _ => 2 - (intOf i).toNat)
    case atStart => exact ⟨0, by omega, rfl, hS.out⟩
    case round =>
      obtain ⟨k, hk, rfl, hS0⟩ := hrel
      obtain ⟨vr, rfl⟩ : ∃ vr : World, vr = wr := ⟨_, rfl⟩
      clear hS
      have HS0 := Lib.hid hS0
      clear hS0
      by_cases hlt : k < 2
      · have hS := Lib.hid HS0.out.rebase
        obtain ⟨x0_0, x1_0, x2_0⟩ := hS.out.cs3 0 rfl
        obtain ⟨x0_1, x1_1, x2_1⟩ := hS.out.cs3 1 rfl
        go_wp2_with fail
        go_at_call 7
        with_reducible refine (HFP.out _ _ _ _ _ _ _ (hS.out.get (A := A0) (n := n0) (c := c0) (k := 6) (xs := xs0) (v := val B xs0) (by repeat (first | exact ms | apply mo))).1 (hS.out.get (A := A0') (n := n0') (c := c0') (k := 6) (xs := ys0) (v := val B ys0) (by repeat (first | exact ms | apply mo))).1 HL.out.1 HL.out.2).mono ?_
        rintro e v5 ho
        clear x0_0 x1_0 x2_0 x0_1 x1_1 x2_1
        obtain ⟨Aa, na, ca, Aa', na', ca', rfl, h1⟩ := hS.out.told ho
        clear ho
        clear hS; have hS := Lib.hid h1; clear h1
        obtain ⟨x0_0, x1_0, x2_0⟩ := hS.out.cs3 0 rfl
        obtain ⟨x0_1, x1_1, x2_1⟩ := hS.out.cs3 1 rfl
        have h1 := (hS.out.boxed (vs := [.bool sm, .slice Aa na ca, .slice Aa' na' ca']) (ty := 27) rfl rfl)
        try simp only [World.size_alloc] at h1
        obtain ⟨p0_0, p1_0, p2_0⟩ := h1.cs3 0 rfl
        obtain ⟨p0_1, p1_1, p2_1⟩ := h1.cs3 1 rfl
        obtain ⟨p0_2, p1_2, p2_2⟩ := h1.cs3 2 rfl
        clear h1
        go_wp2_with fail
        clear x0_0 x1_0 x2_0 x0_1 x1_1 x2_1
        clear p0_0 p1_0 p2_0 p0_1 p1_1 p2_1 p0_2 p1_2 p2_2
        generalize hwa : World.alloc v5 _ = v6
        have h1 := (hS.out.boxed (vs := [.bool sm, .slice Aa na ca, .slice Aa' na' ca']) (ty := 27) rfl hwa)
        have hsz : v6.heap.size = v5.heap.size + 1 := by rw [← hwa]; simp only [World.size_alloc]
        try rw [← hsz]
        clear hwa hsz
        clear hS; have hS := Lib.hid h1; clear h1
        obtain ⟨x0_0, x1_0, x2_0⟩ := hS.out.cs3 0 rfl
        obtain ⟨x0_1, x1_1, x2_1⟩ := hS.out.cs3 1 rfl
        obtain ⟨x0_2, x1_2, x2_2⟩ := hS.out.cs3 2 rfl
        go_wp2_with fail
        go_at_call 8
        with_reducible refine (isg_c (q := true) hS.out (by repeat (first | exact ms | apply mo)) (by repeat (first | exact ms | apply mo)) (by repeat (first | exact ms | apply mo)) (by repeat (first | exact ms | apply mo)) (by simp)).mono ?_
        rintro e v7 ⟨rfl, h1⟩
        clear x0_0 x1_0 x2_0 x0_1 x1_1 x2_1 x0_2 x1_2 x2_2
        clear hS; have hS := Lib.hid h1; clear h1
        obtain ⟨x0_0, x1_0, x2_0⟩ := hS.out.cs3 0 rfl
        obtain ⟨x0_1, x1_1, x2_1⟩ := hS.out.cs3 1 rfl
        obtain ⟨x0_2, x1_2, x2_2⟩ := hS.out.cs3 2 rfl
        clear x0_0 x1_0 x2_0 x0_1 x1_1 x2_1 x0_2 x1_2 x2_2
        have h1 := hS.out.rs
        simp only [List.map_cons, List.map_nil] at h1
        have hR := Lib.hid h1
        clear h1 hS
        obtain ⟨x0_0, x1_0, x2_0⟩ := hR.out.cs3 0 rfl
        go_wp2_with fail
        go_at_call 9
        with_reducible refine (spoil_r hR.out (by repeat (first | exact ms | apply mo)) (by repeat (first | exact ms | apply mo))).mono ?_
        rintro e v8 ⟨⟨z0, rfl⟩, h1⟩
        clear x0_0 x1_0 x2_0
        clear hR; have hR := Lib.hid h1; clear h1
        go_wp2_with fail
        go_roundw
        case rel => exact ⟨k + 1, by omega, by go_num, HS0.out.back hR.out⟩
        case measure => simp [intOf]; omega
      · have hS := HS0
        clear HS0
        have hk2 : k = 2 := by omega
        subst hk2
        obtain ⟨x0_0, x1_0, x2_0⟩ := hS.out.cs3 0 rfl
        obtain ⟨x0_1, x1_1, x2_1⟩ := hS.out.cs3 1 rfl
        go_wp2_with fail
        go_at_call 5
        with_reducible refine (awake_any _).mono ?_
        rintro e v5 ⟨rfl, hb⟩
        clear x0_0 x1_0 x2_0 x0_1 x1_1 x2_1
        have h1 := hS.out.below hb
        clear hb
        clear hS; have hS := Lib.hid h1; clear h1
        obtain ⟨x0_0, x1_0, x2_0⟩ := hS.out.cs3 0 rfl
        obtain ⟨x0_1, x1_1, x2_1⟩ := hS.out.cs3 1 rfl
        go_wp2
        go_ret
        exact ⟨rfl, hS.out.st.1⟩
  · have hS := Lib.hid (SC.start w)
    clear h0 g0
    go_enter Tryz.func3, Tryz.ntmps3
    have h1 := (hS.out.boxed (vs := [.bool b0, .slice A0 n0 c0, .slice A0' n0' c0']) (ty := 27) rfl rfl)
    try simp only [World.size_alloc] at h1
    obtain ⟨p0_0, p1_0, p2_0⟩ := h1.cs3 0 rfl
    clear h1
    go_wp2_with fail
    clear p0_0 p1_0 p2_0
    generalize hwa : World.alloc w _ = v1
    have h1 := (hS.out.boxed (vs := [.bool b0, .slice A0 n0 c0, .slice A0' n0' c0']) (ty := 27) rfl hwa)
    have hsz : v1.heap.size = w.heap.size + 1 := by rw [← hwa]; simp only [World.size_alloc]
    try rw [← hsz]
    clear hwa hsz
    clear hS; have hS := Lib.hid h1; clear h1
    obtain ⟨x0_0, x1_0, x2_0⟩ := hS.out.cs3 0 rfl
    go_wp2_with fail
    go_at_call 4
    with_reducible refine (long1_y hS.out ⟨by omega, by omega⟩ hl).mono ?_
    rintro e v2 ⟨rfl, h1⟩
    clear x0_0 x1_0 x2_0
    clear hS; have hS := Lib.hid h1; clear h1
    obtain ⟨x0_0, x1_0, x2_0⟩ := hS.out.cs3 0 rfl
    go_wp2_with fail
    go_at_call 5
    with_reducible refine (awake_any _).mono ?_
    rintro e v3 ⟨rfl, hb⟩
    clear x0_0 x1_0 x2_0
    have h1 := hS.out.below hb
    clear hb
    clear hS; have hS := Lib.hid h1; clear h1
    obtain ⟨x0_0, x1_0, x2_0⟩ := hS.out.cs3 0 rfl
    go_wp2
    go_ret
    exact ⟨rfl, hS.out.st.1⟩
set_option maxRecDepth 100000 in
theorem lifted (os : Os) (started : os.Started) (H : Type) (enc : TypeId × Value → H) :
    ReturnsInHanded {} Tryz.checked os 3 .any (fun w args => (Rows.ratPowersSpec.pre enc Tryz.prog Tryz.f3 Rows.ratPowersRow.domain false w args ∧ laidMetH Tryz.prog Rows.ratPowersRow.laid w) ∧ sizedMet enc Tryz.prog Tryz.f3 (OpenSpec.ofChange Rows.ratPowersSpec) false w args) (Rows.ratPowersSpec.post enc Tryz.prog Tryz.f3 false true false false) := by
  refine returnsInHanded_of_change_and (C := Tryz.checked) (X := fun w _ => laidMetH Tryz.prog Rows.ratPowersRow.laid w) (fun _ _ _ hh h => h.of_heap hh) own started (by kernel_rfl) Tryz.func3
    (ChangeSpec.witness_shaped (enc := enc) (C := Tryz.checked) (os := os) (X := fun w _ => laidMetH Tryz.prog Rows.ratPowersRow.laid w) false (World.laidAll Tryz.prog os Rows.ratPowersRow.laid) #[.agg #[.bool false, .slice none 0 0, .slice none 0 0], .int .i64 0] 8 (World.laidAll_os _ _ _)
      (World.shaped_of_ZipB (by kernel_rfl) (by kernel_rfl)) (by kernel_rfl) (by kernel_rfl) (by kernel_rfl)
      (by rw [MakeChecks.laidMetH_plain _ _ _ (by kernel_rfl)]; exact laidMet_laidAll _ (by kernel_rfl) (by kernel_rfl))) ?_
  intro W base args ds gs before hval0 hW hcnd _ _ _
  have hval : ∀ (j : Nat) t v, Tryz.f3.params[j]? = some t → args[j]? = some v → Value.okWide Tryz.prog W .any base t v := hval0
  have hW' := hW
  obtain ⟨p, q, hA0, hV, hpq, hfz, hnd⟩ := hW
  have hA : DataW.TrodAll enc Tryz.prog W 0 (fun _ => true) true Tryz.f3.params.toList args.toList ds p := hA0
  rw [Tryz.params3] at hA hval
  obtain ⟨v0, vs0, d0, ds0, p0, q0, hargs, rfl, rfl, h0, r0⟩ := trodAll_cons hA
  obtain ⟨v1, vs1, d1, ds1, p1, q1, rfl, rfl, rfl, h1, r1⟩ := trodAll_cons r0
  obtain ⟨rfl, rfl, rfl⟩ := trodAll_nil r1
  obtain rfl : args = #[v0, v1] := by cases args; simp_all
  obtain ⟨rfl, rfl⟩ := trodVars_none hV
  obtain ⟨b0, A0, n0, c0, xs0, A0', n0', c0', ys0, rfl, s0, sd0⟩ := open_frac (hval 0 27 v0 rfl rfl) h0
  obtain ⟨a1, rfl, rfl, rfl, w1⟩ := open_int Tryz.underlying3 (hval 1 3 v1 rfl rfl) h1
  refine (walk W b0 A0 n0 c0 xs0 A0' n0' c0' ys0 s0 sd0 a1 w1).mono fun e W' ⟨he, hb⟩ => ?_
  subst he
  exact ⟨_, rfl, Frame.close laidOut hW' rfl rfl rfl Tryz.underlying4 (fun t ht => by rw [Tryz.params3] at ht; simp at ht; rcases ht with rfl | rfl <;> exact ⟨by kernel_rfl, of_decide_eq_true (by kernel_rfl)⟩) hb⟩
theorem over : Rows.ratPowersRow.holds Tryz.pinned (OpenSpec.ofChange Rows.ratPowersSpec) :=
  OpenClaim.holds_of_wide 3 Tryz.f3 rfl rfl rfl rfl rfl rfl rfl ⟨rfl, rfl, rfl, rfl, rfl⟩ rfl rfl rfl rfl rfl (by kernel_rfl) Tryz.func3 (by kernel_rfl)
    (of_decide_eq_true (by kernel_rfl)) (by unfold Func.isWrapper; first | (rw [if_pos (by decide +kernel)]; kernel_rfl) | (rw [if_neg (by decide +kernel)]; exact ⟨rfl, rfl⟩))
    (fun os started H enc _ => lifted os started H enc)
/-- the statement -/
theorem proved : Rows.RatPowersCardSaid :=
  Claim7.holds_tied_plain_at .later [] _ _ _ _ over (fun _ h => by cases h) (by kernel_rfl) (fun _ h => by cases h) ratPowers_row_tie rfl ⟨rfl, rfl⟩ (by kernel_rfl) rfl
    (fun f fn hf hfn => by
      obtain rfl : f = 3 := Option.some.inj ((show Tryz.prog.funcNamed "tombola/tombolalaw06.RatPowers" = some 3 by kernel_rfl).symm.trans hf) |>.symm
      obtain rfl : fn = Tryz.f3 := (Option.some.inj (Tryz.func3.symm.trans hfn)).symm
      exact ⟨by kernel_rfl, (fun j t ht => by
        rw [Tryz.params3] at ht
        have hm : t ∈ [27, 3] := by simpa using Array.mem_of_getElem? ht
        have hall : ([27, 3].all fun u => !Tryz.prog.wantsStandIn u) = true := by kernel_rfl
        exact (show Tryz.prog.wantsStandIn t = false by simpa using List.all_eq_true.1 hall t hm))⟩)
    (by kernel_rfl)
#print axioms proved
end Go.Proofs.YtpokcocfdchfeaaGreatDoor.ratPowers
