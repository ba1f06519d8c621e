/-
  PROVED: the statement RatMakes (tombolalaw06.RatMakes) about the landed commit: for every input the law returns true and leaves its arguments as they were. Conditions: none beyond those that the given row itself prints.
-/
import Derived.Test.YtbpambamaoonfaaGreatDoorCards
import Derived.Test.YtbpambamaoonfaaGreatDoorTie
import Derived.LaidMore
import Derived.Lay
import Derived.SevenTiedAt
import Derived.Stop.Joined
import Derived.Test.YtbpambamaoonfaaGreatDoorRows
import Derived.WalkKit
import Derived.ProofKit
import Derived.OpenShut
import Derived.RowKit3
import Derived.Test.YtbpambamaoonfaaGreatDoorGFrame
import Derived.Test.YtbpambamaoonfaaGreatDoorRefRatL
import Derived.Test.YtbpambamaoonfaaGreatDoorRatH
import Derived.Test.YtbpambamaoonfaaGreatDoorRatTold
import Derived.Deep.RegionHeld3
namespace Go.Proofs.YtbpambamaoonfaaGreatDoor.ratMakes
open Go.ChangeShapes Go.WideShapes Go.ChangeAt Go.RowKit
set_option linter.unusedVariables false
set_option linter.unusedSimpArgs false
set_option maxRecDepth 20000
open N
theorem own : ownKnob Tryz.prog.godebug = none := by kernel_rfl
open RC
open Go.Lib (decDigits nDigits decDigits_length nDigits_pos)
set_option maxRecDepth 100000 in
set_option maxHeartbeats 40000000 in
theorem walk (w : World) (b0 : Bool) (A0 : Option Addr) (n0 c0 : Nat) (xs0 : List Int) (h0 : Sl w A0 n0 c0 xs0) (A1 : Option Addr) (n1 c1 : Nat) (xs1 : List Int) (h1 : Sl w A1 n1 c1 xs1) (a2 : Int) (w2 : (Lit.int .i64 a2).wf = true) (a3 : Int) (w3 : (Lit.int .i64 a3).wf = true) (a4 : Int) (w4 : (Lit.int .i64 a4).wf = true) :
    Calls Tryz.prog 3 #[.agg #[.bool b0, .slice A0 n0 c0], .slice A1 n1 c1, .int .i64 a2, .int .i64 a3, .int .i64 a4] w fun e w' => e = .returned (.bool true) ∧ Below w.heap.size w w' := by
  have hc0 := h0.cap
  have hm0 := h0.max
  have hc1 := h1.cap
  have hm1 := h1.max
  unfold maxLen at hm0 hm1
  have bx2 := bounds_i64 w2
  have bx3 := bounds_i64 w3
  clear w2 w3
  by_cases hl : n0 ≤ 6 ∧ n1 ≤ 6
  · rcases (show (3000 < a4 ∧ a4 ≤ 65536) ∨ (a4 ≤ 3000 ∨ (3000 < a4 ∧ 65536 < a4)) by omega) with ⟨hh, hh2⟩ | hh
    · clear bx2 bx3
      have HL := Lib.hid hl
      have hS := Lib.hid (((SC.start w).old (k := 6) h1 hl.2 rfl).old (k := 6) h0 hl.1 rfl)
      clear h0 h1
      go_enter Tryz.func3, Tryz.ntmps3
      have h1 := ((hS.out.boxed (vs := [.bool b0, .slice A0 n0 c0]) (ty := 25) rfl rfl).boxed (vs := [.bool b0, .slice A0 n0 c0, .slice A1 n1 c1]) (ty := 27) rfl rfl)
      try simp only [World.size_alloc] at h1
      obtain ⟨p0_0, p1_0, p2_0⟩ := h1.cs3 0 rfl
      obtain ⟨p0_1, p1_1⟩ := h1.cs2 1 rfl
      clear h1
      go_wp2_with fail
      clear p0_0 p1_0 p2_0 p0_1 p1_1
      generalize hwa : World.alloc (World.alloc w _) _ = v1
      have h1 := ((hS.out.boxed (vs := [.bool b0, .slice A0 n0 c0]) (ty := 25) rfl rfl).boxed (vs := [.bool b0, .slice A0 n0 c0, .slice A1 n1 c1]) (ty := 27) rfl hwa)
      simp only [World.size_alloc] at h1
      have hsz : v1.heap.size = w.heap.size + 1 + 1 := by rw [← hwa]; simp only [World.size_alloc]
      try rw [← hsz]
      clear hwa hsz
      clear hS; have hS := Lib.hid h1; clear h1
      obtain ⟨x0_0, x1_0, x2_0⟩ := hS.out.cs3 0 rfl
      obtain ⟨x0_1, x1_1⟩ := hS.out.cs2 1 rfl
      go_wp2_with fail
      go_at_call 5
      with_reducible refine (long1_n hS.out HL.out).mono ?_
      rintro e v2 ⟨rfl, h1⟩
      clear x0_0 x1_0 x2_0 x0_1 x1_1
      clear hS; have hS := Lib.hid h1; clear h1
      obtain ⟨x0_0, x1_0, x2_0⟩ := hS.out.cs3 0 rfl
      obtain ⟨x0_1, x1_1⟩ := hS.out.cs2 1 rfl
      go_wp2_with fail
      go_at_call 6
      with_reducible refine (awake_any _).mono ?_
      rintro e v3 ⟨rfl, hb⟩
      clear x0_0 x1_0 x2_0 x0_1 x1_1
      have h1 := hS.out.below hb
      clear hb
      clear hS; have hS := Lib.hid h1; clear h1
      obtain ⟨x0_0, x1_0, x2_0⟩ := hS.out.cs3 0 rfl
      obtain ⟨x0_1, x1_1⟩ := hS.out.cs2 1 rfl
      go_wp2
      go_ret
      exact ⟨rfl, hS.out.st.1⟩
    · rcases hh with hh | ⟨hh, hh2⟩
      all_goals (
    obtain ⟨sm, xsm, ysm, jm, hmk1, hmk2⟩ := makes_t b0 xs0 xs1
    obtain ⟨so, xso, yso, jo, hov1, hov2⟩ := overs_t (x := a2) (y := a3) bx2.1 bx2.2 bx3.1 bx3.2
    obtain ⟨sh, xsh, ysh, jh, hhf1, hhf2⟩ := halves_t a4
    obtain ⟨ro, hof1, hof2⟩ := ofs_t (x := a2) bx2.1 bx2.2
    obtain ⟨q, hq⟩ : ∃ q, mayR b0 xs0 xs1 = q := ⟨_, rfl⟩
    have HMAY := Lib.hid hq
    have HMK1 := Lib.hid hmk1
    have HMK2 := Lib.hid hmk2
    have HOV1 := Lib.hid hov1
    have HOV2 := Lib.hid hov2
    have HHF1 := Lib.hid hhf1
    have HHF2 := Lib.hid hhf2
    have HOF1 := Lib.hid hof1
    have HOF2 := Lib.hid hof2
    clear hq hmk1 hmk2 hov1 hov2 hhf1 hhf2 hof1 hof2 bx2 bx3
    have HL := Lib.hid hl
    have hS := Lib.hid (((SC.start w).old (k := 6) h1 hl.2 rfl).old (k := 6) h0 hl.1 rfl)
    clear h0 h1
    go_enter Tryz.func3, Tryz.ntmps3
    have h1 := ((hS.out.boxed (vs := [.bool b0, .slice A0 n0 c0]) (ty := 25) rfl rfl).boxed (vs := [.bool b0, .slice A0 n0 c0, .slice A1 n1 c1]) (ty := 27) rfl rfl)
    try simp only [World.size_alloc] at h1
    obtain ⟨p0_0, p1_0, p2_0⟩ := h1.cs3 0 rfl
    obtain ⟨p0_1, p1_1⟩ := h1.cs2 1 rfl
    clear h1
    go_wp2_with fail
    clear p0_0 p1_0 p2_0 p0_1 p1_1
    generalize hwa : World.alloc (World.alloc w _) _ = v1
    have h1 := ((hS.out.boxed (vs := [.bool b0, .slice A0 n0 c0]) (ty := 25) rfl rfl).boxed (vs := [.bool b0, .slice A0 n0 c0, .slice A1 n1 c1]) (ty := 27) rfl hwa)
    simp only [World.size_alloc] at h1
    have hsz : v1.heap.size = w.heap.size + 1 + 1 := by rw [← hwa]; simp only [World.size_alloc]
    try rw [← hsz]
    clear hwa hsz
    clear hS; have hS := Lib.hid h1; clear h1
    obtain ⟨x0_0, x1_0, x2_0⟩ := hS.out.cs3 0 rfl
    obtain ⟨x0_1, x1_1⟩ := hS.out.cs2 1 rfl
    go_wp2_with fail
    go_at_call 5
    with_reducible refine (long1_n hS.out HL.out).mono ?_
    rintro e v2 ⟨rfl, h1⟩
    clear x0_0 x1_0 x2_0 x0_1 x1_1
    clear hS; have hS := Lib.hid h1; clear h1
    obtain ⟨x0_0, x1_0, x2_0⟩ := hS.out.cs3 0 rfl
    obtain ⟨x0_1, x1_1⟩ := hS.out.cs2 1 rfl
    go_wp2_with fail
    go_at_call 7
    with_reducible refine (HMK2.out _ _ _ _ _ _ _ (hS.out.get (A := A0) (n := n0) (c := c0) (k := 6) (xs := xs0) (v := val B xs0) (by repeat (first | exact ms | apply mo))).1 (hS.out.get (A := A1) (n := n1) (c := c1) (k := 6) (xs := xs1) (v := val B xs1) (by repeat (first | exact ms | apply mo))).1 HL.out.1 HL.out.2).mono ?_
    rintro e v3 ho
    clear x0_0 x1_0 x2_0 x0_1 x1_1
    obtain ⟨Am, nm, cm, Am', nm', cm', rfl, h1⟩ := hS.out.told ho
    clear ho
    clear hS; have hS := Lib.hid h1; clear h1
    obtain ⟨x0_0, x1_0, x2_0⟩ := hS.out.cs3 0 rfl
    obtain ⟨x0_1, x1_1⟩ := hS.out.cs2 1 rfl
    have h1 := (hS.out.boxed (vs := [.bool sm, .slice Am nm cm, .slice Am' nm' cm']) (ty := 27) rfl rfl)
    try simp only [World.size_alloc] at h1
    obtain ⟨p0_0, p1_0, p2_0⟩ := h1.cs3 0 rfl
    obtain ⟨p0_1, p1_1, p2_1⟩ := h1.cs3 1 rfl
    obtain ⟨p0_2, p1_2⟩ := h1.cs2 2 rfl
    clear h1
    go_wp2_with fail
    clear x0_0 x1_0 x2_0 x0_1 x1_1
    clear p0_0 p1_0 p2_0 p0_1 p1_1 p2_1 p0_2 p1_2
    generalize hwa : World.alloc v3 _ = v4
    have h1 := (hS.out.boxed (vs := [.bool sm, .slice Am nm cm, .slice Am' nm' cm']) (ty := 27) rfl hwa)
    have hsz : v4.heap.size = v3.heap.size + 1 := by rw [← hwa]; simp only [World.size_alloc]
    try rw [← hsz]
    clear hwa hsz
    clear hS; have hS := Lib.hid h1; clear h1
    obtain ⟨x0_0, x1_0, x2_0⟩ := hS.out.cs3 0 rfl
    obtain ⟨x0_1, x1_1, x2_1⟩ := hS.out.cs3 1 rfl
    obtain ⟨x0_2, x1_2⟩ := hS.out.cs2 2 rfl
    go_wp2_with fail
    go_at_call 8
    with_reducible refine (HOV2.out _).mono ?_
    rintro e v5 ho
    clear x0_0 x1_0 x2_0 x0_1 x1_1 x2_1 x0_2 x1_2
    obtain ⟨Ao, no, co, Ao', no', co', rfl, h1⟩ := hS.out.told ho
    clear ho
    clear hS; have hS := Lib.hid h1; clear h1
    obtain ⟨x0_0, x1_0, x2_0⟩ := hS.out.cs3 0 rfl
    obtain ⟨x0_1, x1_1, x2_1⟩ := hS.out.cs3 1 rfl
    obtain ⟨x0_2, x1_2⟩ := hS.out.cs2 2 rfl
    have h1 := (hS.out.boxed (vs := [.bool so, .slice Ao no co, .slice Ao' no' co']) (ty := 27) rfl rfl)
    try simp only [World.size_alloc] at h1
    obtain ⟨p0_0, p1_0, p2_0⟩ := h1.cs3 0 rfl
    obtain ⟨p0_1, p1_1, p2_1⟩ := h1.cs3 1 rfl
    obtain ⟨p0_2, p1_2, p2_2⟩ := h1.cs3 2 rfl
    obtain ⟨p0_3, p1_3⟩ := h1.cs2 3 rfl
    clear h1
    go_wp2_with fail
    clear x0_0 x1_0 x2_0 x0_1 x1_1 x2_1 x0_2 x1_2
    clear p0_0 p1_0 p2_0 p0_1 p1_1 p2_1 p0_2 p1_2 p2_2 p0_3 p1_3
    generalize hwa : World.alloc v5 _ = v6
    have h1 := (hS.out.boxed (vs := [.bool so, .slice Ao no co, .slice Ao' no' co']) (ty := 27) rfl hwa)
    have hsz : v6.heap.size = v5.heap.size + 1 := by rw [← hwa]; simp only [World.size_alloc]
    try rw [← hsz]
    clear hwa hsz
    clear hS; have hS := Lib.hid h1; clear h1
    obtain ⟨x0_0, x1_0, x2_0⟩ := hS.out.cs3 0 rfl
    obtain ⟨x0_1, x1_1, x2_1⟩ := hS.out.cs3 1 rfl
    obtain ⟨x0_2, x1_2, x2_2⟩ := hS.out.cs3 2 rfl
    obtain ⟨x0_3, x1_3⟩ := hS.out.cs2 3 rfl
    go_wp2_with fail
    go_at_call 9
    with_reducible refine (HHF2.out _).mono ?_
    rintro e v7 ho
    clear x0_0 x1_0 x2_0 x0_1 x1_1 x2_1 x0_2 x1_2 x2_2 x0_3 x1_3
    obtain ⟨Ah, nh, ch, Ah', nh', ch', rfl, h1⟩ := hS.out.told ho
    clear ho
    clear hS; have hS := Lib.hid h1; clear h1
    obtain ⟨x0_0, x1_0, x2_0⟩ := hS.out.cs3 0 rfl
    obtain ⟨x0_1, x1_1, x2_1⟩ := hS.out.cs3 1 rfl
    obtain ⟨x0_2, x1_2, x2_2⟩ := hS.out.cs3 2 rfl
    obtain ⟨x0_3, x1_3⟩ := hS.out.cs2 3 rfl
    have h1 := (hS.out.boxed (vs := [.bool sh, .slice Ah nh ch, .slice Ah' nh' ch']) (ty := 27) rfl rfl)
    try simp only [World.size_alloc] at h1
    obtain ⟨p0_0, p1_0, p2_0⟩ := h1.cs3 0 rfl
    obtain ⟨p0_1, p1_1, p2_1⟩ := h1.cs3 1 rfl
    obtain ⟨p0_2, p1_2, p2_2⟩ := h1.cs3 2 rfl
    obtain ⟨p0_3, p1_3, p2_3⟩ := h1.cs3 3 rfl
    obtain ⟨p0_4, p1_4⟩ := h1.cs2 4 rfl
    clear h1
    go_wp2_with fail
    clear x0_0 x1_0 x2_0 x0_1 x1_1 x2_1 x0_2 x1_2 x2_2 x0_3 x1_3
    clear p0_0 p1_0 p2_0 p0_1 p1_1 p2_1 p0_2 p1_2 p2_2 p0_3 p1_3 p2_3 p0_4 p1_4
    generalize hwa : World.alloc v7 _ = v8
    have h1 := (hS.out.boxed (vs := [.bool sh, .slice Ah nh ch, .slice Ah' nh' ch']) (ty := 27) rfl hwa)
    have hsz : v8.heap.size = v7.heap.size + 1 := by rw [← hwa]; simp only [World.size_alloc]
    try rw [← hsz]
    clear hwa hsz
    clear hS; have hS := Lib.hid h1; clear h1
    obtain ⟨x0_0, x1_0, x2_0⟩ := hS.out.cs3 0 rfl
    obtain ⟨x0_1, x1_1, x2_1⟩ := hS.out.cs3 1 rfl
    obtain ⟨x0_2, x1_2, x2_2⟩ := hS.out.cs3 2 rfl
    obtain ⟨x0_3, x1_3, x2_3⟩ := hS.out.cs3 3 rfl
    obtain ⟨x0_4, x1_4⟩ := hS.out.cs2 4 rfl
    have h1 : SC w w v8 _ _ [] := (hS.out.sub (fun t ht => ht) (List.Sublist.refl _) (fun t ht => by cases ht))
    clear hS; have hS := Lib.hid h1; clear h1
    go_wp2_with fail
    clear x0_0 x1_0 x2_0 x0_1 x1_1 x2_1 x0_2 x1_2 x2_2 x0_3 x1_3 x2_3 x0_4 x1_4
    go_loopw [18] (fun i wr => ∃ k : Nat, k ≤ 2 ∧ i = .int .i64 k ∧ SC w w wr [⟨Ah, nh, ch, 1026, xsh, val B xsh⟩, ⟨Ah', nh', ch', 1026, ysh, val B ysh⟩, ⟨Ao, no, co, 1, xso, val B xso⟩, ⟨Ao', no', co', 1, yso, val B yso⟩, ⟨Am, nm, cm, 6, xsm, val B xsm⟩, ⟨Am', nm', cm', 6, ysm, val B ysm⟩, ⟨A0, n0, c0, 6, xs0, val B xs0⟩, ⟨A1, n1, c1, 6, xs1, val B xs1⟩] [⟨v7.heap.size, [.bool sh, .slice Ah nh ch, .slice Ah' nh' ch'], 27⟩, ⟨v5.heap.size, [.bool so, .slice Ao no co, .slice Ao' no' co'], 27⟩, ⟨v3.heap.size, [.bool sm, .slice Am nm cm, .slice Am' nm' cm'], 27⟩, ⟨w.heap.size + 1, [.bool b0, .slice A0 n0 c0, .slice A1 n1 c1], 27⟩, ⟨w.heap.size, [.bool b0, .slice A0 n0 c0], 25⟩] []) (fun i _ => 2 - (intOf i).toNat)
    case atStart => exact ⟨0, by omega, rfl, hS.out⟩
    case round =>
      obtain ⟨k, hk, rfl, hS0⟩ := hrel
      obtain ⟨vr, rfl⟩ : ∃ vr : World, vr = wr := ⟨_, rfl⟩
      clear hS
      have HS0 := Lib.hid hS0
      clear hS0
      by_cases hlt : k < 2
      · have hS := Lib.hid HS0.out.rebase
        obtain ⟨x0_0, x1_0, x2_0⟩ := hS.out.cs3 0 rfl
        obtain ⟨x0_1, x1_1, x2_1⟩ := hS.out.cs3 1 rfl
        obtain ⟨x0_2, x1_2, x2_2⟩ := hS.out.cs3 2 rfl
        obtain ⟨x0_3, x1_3, x2_3⟩ := hS.out.cs3 3 rfl
        obtain ⟨x0_4, x1_4⟩ := hS.out.cs2 4 rfl
        go_wp2_with fail
        go_at_call 10
        with_reducible refine (HMK1.out _ _ _ _ _ _ _ (hS.out.get (A := A0) (n := n0) (c := c0) (k := 6) (xs := xs0) (v := val B xs0) (by repeat (first | exact ms | apply mo))).1 (hS.out.get (A := A1) (n := n1) (c := c1) (k := 6) (xs := xs1) (v := val B xs1) (by repeat (first | exact ms | apply mo))).1 HL.out.1 HL.out.2).mono ?_
        rintro e v9 ho
        clear x0_0 x1_0 x2_0 x0_1 x1_1 x2_1 x0_2 x1_2 x2_2 x0_3 x1_3 x2_3 x0_4 x1_4
        obtain ⟨Aa, na, ca, Aa', na', ca', rfl, h1⟩ := hS.out.told ho
        clear ho
        clear hS; have hS := Lib.hid h1; clear h1
        obtain ⟨x0_0, x1_0, x2_0⟩ := hS.out.cs3 0 rfl
        obtain ⟨x0_1, x1_1, x2_1⟩ := hS.out.cs3 1 rfl
        obtain ⟨x0_2, x1_2, x2_2⟩ := hS.out.cs3 2 rfl
        obtain ⟨x0_3, x1_3, x2_3⟩ := hS.out.cs3 3 rfl
        obtain ⟨x0_4, x1_4⟩ := hS.out.cs2 4 rfl
        have h1 := (hS.out.boxed (vs := [.bool sm, .slice Aa na ca, .slice Aa' na' ca']) (ty := 27) rfl rfl)
        try simp only [World.size_alloc] at h1
        obtain ⟨p0_0, p1_0, p2_0⟩ := h1.cs3 0 rfl
        obtain ⟨p0_1, p1_1, p2_1⟩ := h1.cs3 1 rfl
        obtain ⟨p0_2, p1_2, p2_2⟩ := h1.cs3 2 rfl
        obtain ⟨p0_3, p1_3, p2_3⟩ := h1.cs3 3 rfl
        obtain ⟨p0_4, p1_4, p2_4⟩ := h1.cs3 4 rfl
        obtain ⟨p0_5, p1_5⟩ := h1.cs2 5 rfl
        clear h1
        go_wp2_with fail
        clear x0_0 x1_0 x2_0 x0_1 x1_1 x2_1 x0_2 x1_2 x2_2 x0_3 x1_3 x2_3 x0_4 x1_4
        clear p0_0 p1_0 p2_0 p0_1 p1_1 p2_1 p0_2 p1_2 p2_2 p0_3 p1_3 p2_3 p0_4 p1_4 p2_4 p0_5 p1_5
        generalize hwa : World.alloc v9 _ = v10
        have h1 := (hS.out.boxed (vs := [.bool sm, .slice Aa na ca, .slice Aa' na' ca']) (ty := 27) rfl hwa)
        have hsz : v10.heap.size = v9.heap.size + 1 := by rw [← hwa]; simp only [World.size_alloc]
        try rw [← hsz]
        clear hwa hsz
        clear hS; have hS := Lib.hid h1; clear h1
        obtain ⟨x0_0, x1_0, x2_0⟩ := hS.out.cs3 0 rfl
        obtain ⟨x0_1, x1_1, x2_1⟩ := hS.out.cs3 1 rfl
        obtain ⟨x0_2, x1_2, x2_2⟩ := hS.out.cs3 2 rfl
        obtain ⟨x0_3, x1_3, x2_3⟩ := hS.out.cs3 3 rfl
        obtain ⟨x0_4, x1_4, x2_4⟩ := hS.out.cs3 4 rfl
        obtain ⟨x0_5, x1_5⟩ := hS.out.cs2 5 rfl
        go_wp2_with fail
        go_at_call 11
        with_reducible refine (HOV1.out _).mono ?_
        rintro e v11 ho
        clear x0_0 x1_0 x2_0 x0_1 x1_1 x2_1 x0_2 x1_2 x2_2 x0_3 x1_3 x2_3 x0_4 x1_4 x2_4 x0_5 x1_5
        obtain ⟨Ab, nb, cb, Ab', nb', cb', rfl, h1⟩ := hS.out.told ho
        clear ho
        clear hS; have hS := Lib.hid h1; clear h1
        obtain ⟨x0_0, x1_0, x2_0⟩ := hS.out.cs3 0 rfl
        obtain ⟨x0_1, x1_1, x2_1⟩ := hS.out.cs3 1 rfl
        obtain ⟨x0_2, x1_2, x2_2⟩ := hS.out.cs3 2 rfl
        obtain ⟨x0_3, x1_3, x2_3⟩ := hS.out.cs3 3 rfl
        obtain ⟨x0_4, x1_4, x2_4⟩ := hS.out.cs3 4 rfl
        obtain ⟨x0_5, x1_5⟩ := hS.out.cs2 5 rfl
        have h1 := (hS.out.boxed (vs := [.bool so, .slice Ab nb cb, .slice Ab' nb' cb']) (ty := 27) rfl rfl)
        try simp only [World.size_alloc] at h1
        obtain ⟨p0_0, p1_0, p2_0⟩ := h1.cs3 0 rfl
        obtain ⟨p0_1, p1_1, p2_1⟩ := h1.cs3 1 rfl
        obtain ⟨p0_2, p1_2, p2_2⟩ := h1.cs3 2 rfl
        obtain ⟨p0_3, p1_3, p2_3⟩ := h1.cs3 3 rfl
        obtain ⟨p0_4, p1_4, p2_4⟩ := h1.cs3 4 rfl
        obtain ⟨p0_5, p1_5, p2_5⟩ := h1.cs3 5 rfl
        obtain ⟨p0_6, p1_6⟩ := h1.cs2 6 rfl
        clear h1
        go_wp2_with fail
        clear x0_0 x1_0 x2_0 x0_1 x1_1 x2_1 x0_2 x1_2 x2_2 x0_3 x1_3 x2_3 x0_4 x1_4 x2_4 x0_5 x1_5
        clear p0_0 p1_0 p2_0 p0_1 p1_1 p2_1 p0_2 p1_2 p2_2 p0_3 p1_3 p2_3 p0_4 p1_4 p2_4 p0_5 p1_5 p2_5 p0_6 p1_6
        generalize hwa : World.alloc v11 _ = v12
        have h1 := (hS.out.boxed (vs := [.bool so, .slice Ab nb cb, .slice Ab' nb' cb']) (ty := 27) rfl hwa)
        have hsz : v12.heap.size = v11.heap.size + 1 := by rw [← hwa]; simp only [World.size_alloc]
        try rw [← hsz]
        clear hwa hsz
        clear hS; have hS := Lib.hid h1; clear h1
        obtain ⟨x0_0, x1_0, x2_0⟩ := hS.out.cs3 0 rfl
        obtain ⟨x0_1, x1_1, x2_1⟩ := hS.out.cs3 1 rfl
        obtain ⟨x0_2, x1_2, x2_2⟩ := hS.out.cs3 2 rfl
        obtain ⟨x0_3, x1_3, x2_3⟩ := hS.out.cs3 3 rfl
        obtain ⟨x0_4, x1_4, x2_4⟩ := hS.out.cs3 4 rfl
        obtain ⟨x0_5, x1_5, x2_5⟩ := hS.out.cs3 5 rfl
        obtain ⟨x0_6, x1_6⟩ := hS.out.cs2 6 rfl
        go_wp2_with fail
        go_at_call 12
        with_reducible refine (HHF1.out _).mono ?_
        rintro e v13 ho
        clear x0_0 x1_0 x2_0 x0_1 x1_1 x2_1 x0_2 x1_2 x2_2 x0_3 x1_3 x2_3 x0_4 x1_4 x2_4 x0_5 x1_5 x2_5 x0_6 x1_6
        obtain ⟨Ad, nd, cd, Ad', nd', cd', rfl, h1⟩ := hS.out.told ho
        clear ho
        clear hS; have hS := Lib.hid h1; clear h1
        obtain ⟨x0_0, x1_0, x2_0⟩ := hS.out.cs3 0 rfl
        obtain ⟨x0_1, x1_1, x2_1⟩ := hS.out.cs3 1 rfl
        obtain ⟨x0_2, x1_2, x2_2⟩ := hS.out.cs3 2 rfl
        obtain ⟨x0_3, x1_3, x2_3⟩ := hS.out.cs3 3 rfl
        obtain ⟨x0_4, x1_4, x2_4⟩ := hS.out.cs3 4 rfl
        obtain ⟨x0_5, x1_5, x2_5⟩ := hS.out.cs3 5 rfl
        obtain ⟨x0_6, x1_6⟩ := hS.out.cs2 6 rfl
        have h1 := (hS.out.boxed (vs := [.bool sh, .slice Ad nd cd, .slice Ad' nd' cd']) (ty := 27) rfl rfl)
        try simp only [World.size_alloc] at h1
        obtain ⟨p0_0, p1_0, p2_0⟩ := h1.cs3 0 rfl
        obtain ⟨p0_1, p1_1, p2_1⟩ := h1.cs3 1 rfl
        obtain ⟨p0_2, p1_2, p2_2⟩ := h1.cs3 2 rfl
        obtain ⟨p0_3, p1_3, p2_3⟩ := h1.cs3 3 rfl
        obtain ⟨p0_4, p1_4, p2_4⟩ := h1.cs3 4 rfl
        obtain ⟨p0_5, p1_5, p2_5⟩ := h1.cs3 5 rfl
        obtain ⟨p0_6, p1_6, p2_6⟩ := h1.cs3 6 rfl
        obtain ⟨p0_7, p1_7⟩ := h1.cs2 7 rfl
        clear h1
        go_wp2_with fail
        clear x0_0 x1_0 x2_0 x0_1 x1_1 x2_1 x0_2 x1_2 x2_2 x0_3 x1_3 x2_3 x0_4 x1_4 x2_4 x0_5 x1_5 x2_5 x0_6 x1_6
        clear p0_0 p1_0 p2_0 p0_1 p1_1 p2_1 p0_2 p1_2 p2_2 p0_3 p1_3 p2_3 p0_4 p1_4 p2_4 p0_5 p1_5 p2_5 p0_6 p1_6 p2_6 p0_7 p1_7
        generalize hwa : World.alloc v13 _ = v14
        have h1 := (hS.out.boxed (vs := [.bool sh, .slice Ad nd cd, .slice Ad' nd' cd']) (ty := 27) rfl hwa)
        have hsz : v14.heap.size = v13.heap.size + 1 := by rw [← hwa]; simp only [World.size_alloc]
        try rw [← hsz]
        clear hwa hsz
        clear hS; have hS := Lib.hid h1; clear h1
        obtain ⟨x0_0, x1_0, x2_0⟩ := hS.out.cs3 0 rfl
        obtain ⟨x0_1, x1_1, x2_1⟩ := hS.out.cs3 1 rfl
        obtain ⟨x0_2, x1_2, x2_2⟩ := hS.out.cs3 2 rfl
        obtain ⟨x0_3, x1_3, x2_3⟩ := hS.out.cs3 3 rfl
        obtain ⟨x0_4, x1_4, x2_4⟩ := hS.out.cs3 4 rfl
        obtain ⟨x0_5, x1_5, x2_5⟩ := hS.out.cs3 5 rfl
        obtain ⟨x0_6, x1_6, x2_6⟩ := hS.out.cs3 6 rfl
        obtain ⟨x0_7, x1_7⟩ := hS.out.cs2 7 rfl
        go_wp2_with fail
        go_at_call 13
        with_reducible refine (HOF1.out _).mono ?_
        rintro e v15 ho
        clear x0_0 x1_0 x2_0 x0_1 x1_1 x2_1 x0_2 x1_2 x2_2 x0_3 x1_3 x2_3 x0_4 x1_4 x2_4 x0_5 x1_5 x2_5 x0_6 x1_6 x2_6 x0_7 x1_7
        obtain ⟨Ae, ne, ce, Ae', ne', ce', rfl, h1⟩ := hS.out.rR (Nat.le_refl _) ho
        clear ho
        clear hS; have hS := Lib.hid h1; clear h1
        obtain ⟨x0_0, x1_0, x2_0⟩ := hS.out.cs3 0 rfl
        obtain ⟨x0_1, x1_1, x2_1⟩ := hS.out.cs3 1 rfl
        obtain ⟨x0_2, x1_2, x2_2⟩ := hS.out.cs3 2 rfl
        obtain ⟨x0_3, x1_3, x2_3⟩ := hS.out.cs3 3 rfl
        obtain ⟨x0_4, x1_4, x2_4⟩ := hS.out.cs3 4 rfl
        obtain ⟨x0_5, x1_5, x2_5⟩ := hS.out.cs3 5 rfl
        obtain ⟨x0_6, x1_6, x2_6⟩ := hS.out.cs3 6 rfl
        obtain ⟨x0_7, x1_7⟩ := hS.out.cs2 7 rfl
        have h1 := (hS.out.boxed (vs := [.bool (sg (ro).num), .slice Ae ne ce, .slice Ae' ne' ce']) (ty := 27) rfl rfl)
        try simp only [World.size_alloc] at h1
        obtain ⟨p0_0, p1_0, p2_0⟩ := h1.cs3 0 rfl
        obtain ⟨p0_1, p1_1, p2_1⟩ := h1.cs3 1 rfl
        obtain ⟨p0_2, p1_2, p2_2⟩ := h1.cs3 2 rfl
        obtain ⟨p0_3, p1_3, p2_3⟩ := h1.cs3 3 rfl
        obtain ⟨p0_4, p1_4, p2_4⟩ := h1.cs3 4 rfl
        obtain ⟨p0_5, p1_5, p2_5⟩ := h1.cs3 5 rfl
        obtain ⟨p0_6, p1_6, p2_6⟩ := h1.cs3 6 rfl
        obtain ⟨p0_7, p1_7, p2_7⟩ := h1.cs3 7 rfl
        obtain ⟨p0_8, p1_8⟩ := h1.cs2 8 rfl
        clear h1
        go_wp2_with fail
        clear x0_0 x1_0 x2_0 x0_1 x1_1 x2_1 x0_2 x1_2 x2_2 x0_3 x1_3 x2_3 x0_4 x1_4 x2_4 x0_5 x1_5 x2_5 x0_6 x1_6 x2_6 x0_7 x1_7
        clear p0_0 p1_0 p2_0 p0_1 p1_1 p2_1 p0_2 p1_2 p2_2 p0_3 p1_3 p2_3 p0_4 p1_4 p2_4 p0_5 p1_5 p2_5 p0_6 p1_6 p2_6 p0_7 p1_7 p2_7 p0_8 p1_8
        generalize hwa : World.alloc v15 _ = v16
        have h1 := (hS.out.boxed (vs := [.bool (sg (ro).num), .slice Ae ne ce, .slice Ae' ne' ce']) (ty := 27) rfl hwa)
        have hsz : v16.heap.size = v15.heap.size + 1 := by rw [← hwa]; simp only [World.size_alloc]
        try rw [← hsz]
        clear hwa hsz
        clear hS; have hS := Lib.hid h1; clear h1
        obtain ⟨x0_0, x1_0, x2_0⟩ := hS.out.cs3 0 rfl
        obtain ⟨x0_1, x1_1, x2_1⟩ := hS.out.cs3 1 rfl
        obtain ⟨x0_2, x1_2, x2_2⟩ := hS.out.cs3 2 rfl
        obtain ⟨x0_3, x1_3, x2_3⟩ := hS.out.cs3 3 rfl
        obtain ⟨x0_4, x1_4, x2_4⟩ := hS.out.cs3 4 rfl
        obtain ⟨x0_5, x1_5, x2_5⟩ := hS.out.cs3 5 rfl
        obtain ⟨x0_6, x1_6, x2_6⟩ := hS.out.cs3 6 rfl
        obtain ⟨x0_7, x1_7, x2_7⟩ := hS.out.cs3 7 rfl
        obtain ⟨x0_8, x1_8⟩ := hS.out.cs2 8 rfl
        go_wp2_with fail
        clear x0_0 x1_0 x2_0 x0_1 x1_1 x2_1 x0_2 x1_2 x2_2 x0_3 x1_3 x2_3 x0_4 x1_4 x2_4 x0_5 x1_5 x2_5 x0_6 x1_6 x2_6 x0_7 x1_7 x2_7 x0_8 x1_8
        have h1 := hS.out.drew
        clear hS; have hS := Lib.hid h1; clear h1
        try simp only [List.append_eq, List.cons_append, List.nil_append]
        go_region_held3 (fun W => (W.cell? ⟨v15.heap.size, 0, none⟩ = some (.bool (sg (ro).num)) ∧ W.cell? ⟨v15.heap.size, 1, none⟩ = some (.slice Ae ne ce) ∧ W.cell? ⟨v15.heap.size, 2, none⟩ = some (.slice Ae' ne' ce')) ∧ (W.cell? ⟨v13.heap.size, 0, none⟩ = some (.bool sh) ∧ W.cell? ⟨v13.heap.size, 1, none⟩ = some (.slice Ad nd cd) ∧ W.cell? ⟨v13.heap.size, 2, none⟩ = some (.slice Ad' nd' cd')) ∧ (W.cell? ⟨v11.heap.size, 0, none⟩ = some (.bool so) ∧ W.cell? ⟨v11.heap.size, 1, none⟩ = some (.slice Ab nb cb) ∧ W.cell? ⟨v11.heap.size, 2, none⟩ = some (.slice Ab' nb' cb')) ∧ (W.cell? ⟨v9.heap.size, 0, none⟩ = some (.bool sm) ∧ W.cell? ⟨v9.heap.size, 1, none⟩ = some (.slice Aa na ca) ∧ W.cell? ⟨v9.heap.size, 2, none⟩ = some (.slice Aa' na' ca')) ∧ (W.cell? ⟨v7.heap.size, 0, none⟩ = some (.bool sh) ∧ W.cell? ⟨v7.heap.size, 1, none⟩ = some (.slice Ah nh ch) ∧ W.cell? ⟨v7.heap.size, 2, none⟩ = some (.slice Ah' nh' ch')) ∧ (W.cell? ⟨v5.heap.size, 0, none⟩ = some (.bool so) ∧ W.cell? ⟨v5.heap.size, 1, none⟩ = some (.slice Ao no co) ∧ W.cell? ⟨v5.heap.size, 2, none⟩ = some (.slice Ao' no' co')) ∧ (W.cell? ⟨v3.heap.size, 0, none⟩ = some (.bool sm) ∧ W.cell? ⟨v3.heap.size, 1, none⟩ = some (.slice Am nm cm) ∧ W.cell? ⟨v3.heap.size, 2, none⟩ = some (.slice Am' nm' cm')) ∧ (W.cell? ⟨w.heap.size + 1, 0, none⟩ = some (.bool b0) ∧ W.cell? ⟨w.heap.size + 1, 1, none⟩ = some (.slice A0 n0 c0) ∧ W.cell? ⟨w.heap.size + 1, 2, none⟩ = some (.slice A1 n1 c1)) ∧ (W.cell? ⟨w.heap.size, 0, none⟩ = some (.bool b0) ∧ W.cell? ⟨w.heap.size, 1, none⟩ = some (.slice A0 n0 c0))) (first | with_reducible exact ⟨hS.out.cs3 0 rfl, hS.out.cs3 1 rfl, hS.out.cs3 2 rfl, hS.out.cs3 3 rfl, hS.out.cs3 4 rfl, hS.out.cs3 5 rfl, hS.out.cs3 6 rfl, hS.out.cs3 7 rfl, hS.out.cs2 8 rfl⟩ | with_reducible exact ⟨hS.out.drew.cs3 0 rfl, hS.out.drew.cs3 1 rfl, hS.out.drew.cs3 2 rfl, hS.out.drew.cs3 3 rfl, hS.out.drew.cs3 4 rfl, hS.out.drew.cs3 5 rfl, hS.out.drew.cs3 6 rfl, hS.out.drew.cs3 7 rfl, hS.out.drew.cs2 8 rfl⟩ | with_reducible exact ⟨(hS.out.alloc _).cs3 0 rfl, (hS.out.alloc _).cs3 1 rfl, (hS.out.alloc _).cs3 2 rfl, (hS.out.alloc _).cs3 3 rfl, (hS.out.alloc _).cs3 4 rfl, (hS.out.alloc _).cs3 5 rfl, (hS.out.alloc _).cs3 6 rfl, (hS.out.alloc _).cs3 7 rfl, (hS.out.alloc _).cs2 8 rfl⟩ | with_reducible exact ⟨((hS.out.alloc _).alloc _).cs3 0 rfl, ((hS.out.alloc _).alloc _).cs3 1 rfl, ((hS.out.alloc _).alloc _).cs3 2 rfl, ((hS.out.alloc _).alloc _).cs3 3 rfl, ((hS.out.alloc _).alloc _).cs3 4 rfl, ((hS.out.alloc _).alloc _).cs3 5 rfl, ((hS.out.alloc _).alloc _).cs3 6 rfl, ((hS.out.alloc _).alloc _).cs3 7 rfl, ((hS.out.alloc _).alloc _).cs2 8 rfl⟩) (first
          | (go_at_call 14; (with_reducible refine (isg_c (q := true) hS.out (by repeat (first | exact ms | apply mo)) (by repeat (first | exact ms | apply mo)) (by repeat (first | exact ms | apply mo)) (by repeat (first | exact ms | apply mo)) (by simp)).mono ?_); rintro e w' ⟨rfl, h1⟩; clear hS; have hS := Lib.hid h1; clear h1)
          | (go_at_call 15; (with_reducible refine (HOF2.out _).mono ?_); rintro e w' ho; obtain ⟨Ai, ni, ci, Ai', ni', ci', rfl, h1⟩ := hS.out.rR (Nat.le_refl _) ho; clear ho; clear hS; have hS := Lib.hid h1; clear h1))
        obtain ⟨x0_0, x1_0, x2_0⟩ := hS.out.cs3 0 rfl
        obtain ⟨x0_1, x1_1, x2_1⟩ := hS.out.cs3 1 rfl
        obtain ⟨x0_2, x1_2, x2_2⟩ := hS.out.cs3 2 rfl
        obtain ⟨x0_3, x1_3, x2_3⟩ := hS.out.cs3 3 rfl
        obtain ⟨x0_4, x1_4, x2_4⟩ := hS.out.cs3 4 rfl
        obtain ⟨x0_5, x1_5, x2_5⟩ := hS.out.cs3 5 rfl
        obtain ⟨x0_6, x1_6, x2_6⟩ := hS.out.cs3 6 rfl
        obtain ⟨x0_7, x1_7, x2_7⟩ := hS.out.cs3 7 rfl
        obtain ⟨x0_8, x1_8⟩ := hS.out.cs2 8 rfl
        go_wp2_with fail
        clear x0_0 x1_0 x2_0 x0_1 x1_1 x2_1 x0_2 x1_2 x2_2 x0_3 x1_3 x2_3 x0_4 x1_4 x2_4 x0_5 x1_5 x2_5 x0_6 x1_6 x2_6 x0_7 x1_7 x2_7 x0_8 x1_8
        have h1 := hS.out.rs
        simp only [List.map_cons, List.map_nil] at h1
        have hR := Lib.hid h1
        clear h1 hS
        obtain ⟨x0_0, x1_0, x2_0⟩ := hR.out.cs3 0 rfl
        obtain ⟨x0_1, x1_1, x2_1⟩ := hR.out.cs3 1 rfl
        obtain ⟨x0_2, x1_2, x2_2⟩ := hR.out.cs3 2 rfl
        obtain ⟨x0_3, x1_3, x2_3⟩ := hR.out.cs3 3 rfl
        go_wp2_with fail
        go_at_call 16
        with_reducible refine (spoil_r hR.out (by repeat (first | exact ms | apply mo)) (by repeat (first | exact ms | apply mo))).mono ?_
        rintro e v17 ⟨⟨z0, rfl⟩, h1⟩
        clear x0_0 x1_0 x2_0 x0_1 x1_1 x2_1 x0_2 x1_2 x2_2 x0_3 x1_3 x2_3
        clear hR; have hR := Lib.hid h1; clear h1
        obtain ⟨x0_0, x1_0, x2_0⟩ := hR.out.cs3 0 rfl
        obtain ⟨x0_1, x1_1, x2_1⟩ := hR.out.cs3 1 rfl
        obtain ⟨x0_2, x1_2, x2_2⟩ := hR.out.cs3 2 rfl
        obtain ⟨x0_3, x1_3, x2_3⟩ := hR.out.cs3 3 rfl
        go_wp2_with fail
        go_at_call 16
        with_reducible refine (spoil_r hR.out (by repeat (first | exact ms | apply mo)) (by repeat (first | exact ms | apply mo))).mono ?_
        rintro e v18 ⟨⟨z1, rfl⟩, h1⟩
        clear x0_0 x1_0 x2_0 x0_1 x1_1 x2_1 x0_2 x1_2 x2_2 x0_3 x1_3 x2_3
        clear hR; have hR := Lib.hid h1; clear h1
        obtain ⟨x0_0, x1_0, x2_0⟩ := hR.out.cs3 0 rfl
        obtain ⟨x0_1, x1_1, x2_1⟩ := hR.out.cs3 1 rfl
        obtain ⟨x0_2, x1_2, x2_2⟩ := hR.out.cs3 2 rfl
        obtain ⟨x0_3, x1_3, x2_3⟩ := hR.out.cs3 3 rfl
        go_wp2_with fail
        go_at_call 16
        with_reducible refine (spoil_r hR.out (by repeat (first | exact ms | apply mo)) (by repeat (first | exact ms | apply mo))).mono ?_
        rintro e v19 ⟨⟨z2, rfl⟩, h1⟩
        clear x0_0 x1_0 x2_0 x0_1 x1_1 x2_1 x0_2 x1_2 x2_2 x0_3 x1_3 x2_3
        clear hR; have hR := Lib.hid h1; clear h1
        obtain ⟨x0_0, x1_0, x2_0⟩ := hR.out.cs3 0 rfl
        obtain ⟨x0_1, x1_1, x2_1⟩ := hR.out.cs3 1 rfl
        obtain ⟨x0_2, x1_2, x2_2⟩ := hR.out.cs3 2 rfl
        obtain ⟨x0_3, x1_3, x2_3⟩ := hR.out.cs3 3 rfl
        go_wp2_with fail
        go_at_call 16
        with_reducible refine (spoil_r hR.out (by repeat (first | exact ms | apply mo)) (by repeat (first | exact ms | apply mo))).mono ?_
        rintro e v20 ⟨⟨z3, rfl⟩, h1⟩
        clear x0_0 x1_0 x2_0 x0_1 x1_1 x2_1 x0_2 x1_2 x2_2 x0_3 x1_3 x2_3
        clear hR; have hR := Lib.hid h1; clear h1
        obtain ⟨x0_0, x1_0, x2_0⟩ := hR.out.cs3 0 rfl
        obtain ⟨x0_1, x1_1, x2_1⟩ := hR.out.cs3 1 rfl
        obtain ⟨x0_2, x1_2, x2_2⟩ := hR.out.cs3 2 rfl
        obtain ⟨x0_3, x1_3, x2_3⟩ := hR.out.cs3 3 rfl
        go_wp2_with fail
        go_roundw
        case rel => exact ⟨k + 1, by omega, by go_num, HS0.out.back hR.out⟩
        case measure => simp [intOf]; omega
      · have hS := HS0
        clear HS0
        have hk2 : k = 2 := by omega
        subst hk2
        obtain ⟨x0_0, x1_0, x2_0⟩ := hS.out.cs3 0 rfl
        obtain ⟨x0_1, x1_1, x2_1⟩ := hS.out.cs3 1 rfl
        obtain ⟨x0_2, x1_2, x2_2⟩ := hS.out.cs3 2 rfl
        obtain ⟨x0_3, x1_3, x2_3⟩ := hS.out.cs3 3 rfl
        obtain ⟨x0_4, x1_4⟩ := hS.out.cs2 4 rfl
        go_wp2_with fail
        clear x0_0 x1_0 x2_0 x0_1 x1_1 x2_1 x0_2 x1_2 x2_2 x0_3 x1_3 x2_3 x0_4 x1_4
        have h1 := hS.out.drew
        clear hS; have hS := Lib.hid h1; clear h1
        try simp only [List.append_eq, List.cons_append, List.nil_append]
        go_region_held3 (fun W => (W.cell? ⟨v7.heap.size, 0, none⟩ = some (.bool sh) ∧ W.cell? ⟨v7.heap.size, 1, none⟩ = some (.slice Ah nh ch) ∧ W.cell? ⟨v7.heap.size, 2, none⟩ = some (.slice Ah' nh' ch')) ∧ (W.cell? ⟨v5.heap.size, 0, none⟩ = some (.bool so) ∧ W.cell? ⟨v5.heap.size, 1, none⟩ = some (.slice Ao no co) ∧ W.cell? ⟨v5.heap.size, 2, none⟩ = some (.slice Ao' no' co')) ∧ (W.cell? ⟨v3.heap.size, 0, none⟩ = some (.bool sm) ∧ W.cell? ⟨v3.heap.size, 1, none⟩ = some (.slice Am nm cm) ∧ W.cell? ⟨v3.heap.size, 2, none⟩ = some (.slice Am' nm' cm')) ∧ (W.cell? ⟨w.heap.size + 1, 0, none⟩ = some (.bool b0) ∧ W.cell? ⟨w.heap.size + 1, 1, none⟩ = some (.slice A0 n0 c0) ∧ W.cell? ⟨w.heap.size + 1, 2, none⟩ = some (.slice A1 n1 c1)) ∧ (W.cell? ⟨w.heap.size, 0, none⟩ = some (.bool b0) ∧ W.cell? ⟨w.heap.size, 1, none⟩ = some (.slice A0 n0 c0))) (first | with_reducible exact ⟨hS.out.cs3 0 rfl, hS.out.cs3 1 rfl, hS.out.cs3 2 rfl, hS.out.cs3 3 rfl, hS.out.cs2 4 rfl⟩ | with_reducible exact ⟨hS.out.drew.cs3 0 rfl, hS.out.drew.cs3 1 rfl, hS.out.drew.cs3 2 rfl, hS.out.drew.cs3 3 rfl, hS.out.drew.cs2 4 rfl⟩ | with_reducible exact ⟨(hS.out.alloc _).cs3 0 rfl, (hS.out.alloc _).cs3 1 rfl, (hS.out.alloc _).cs3 2 rfl, (hS.out.alloc _).cs3 3 rfl, (hS.out.alloc _).cs2 4 rfl⟩ | with_reducible exact ⟨((hS.out.alloc _).alloc _).cs3 0 rfl, ((hS.out.alloc _).alloc _).cs3 1 rfl, ((hS.out.alloc _).alloc _).cs3 2 rfl, ((hS.out.alloc _).alloc _).cs3 3 rfl, ((hS.out.alloc _).alloc _).cs2 4 rfl⟩) (first
          | (go_at_call 17; (with_reducible refine (fmay_s (q := q) hS.out (by repeat (first | exact ms | apply mo)) (by repeat (first | exact ms | apply mo)) (by decide) HMAY.out).mono ?_); rintro e w' ⟨rfl, h1⟩; clear hS; have hS := Lib.hid h1; clear h1)
          | (go_at_call 18; (with_reducible refine (r6may_c (q := q) hS.out (by repeat (first | exact ms | apply mo)) (by repeat (first | exact ms | apply mo)) (by decide) (by decide) HMAY.out).mono ?_); rintro e w' ⟨rfl, h1⟩; clear hS; have hS := Lib.hid h1; clear h1)
          | (go_at_call 6; (with_reducible refine (awake_any _).mono ?_); rintro e w' ⟨rfl, hb⟩; have h1 := hS.out.below hb; clear hb; clear hS; have hS := Lib.hid h1; clear h1))
        obtain ⟨x0_0, x1_0, x2_0⟩ := hS.out.cs3 0 rfl
        obtain ⟨x0_1, x1_1, x2_1⟩ := hS.out.cs3 1 rfl
        obtain ⟨x0_2, x1_2, x2_2⟩ := hS.out.cs3 2 rfl
        obtain ⟨x0_3, x1_3, x2_3⟩ := hS.out.cs3 3 rfl
        obtain ⟨x0_4, x1_4⟩ := hS.out.cs2 4 rfl
        go_wp2
        go_ret
        exact ⟨rfl, hS.out.st.1⟩
      )
  · clear bx2 bx3
    have hS := Lib.hid (SC.start w)
    clear h0 h1
    go_enter Tryz.func3, Tryz.ntmps3
    have h1 := ((hS.out.boxed (vs := [.bool b0, .slice A0 n0 c0]) (ty := 25) rfl rfl).boxed (vs := [.bool b0, .slice A0 n0 c0, .slice A1 n1 c1]) (ty := 27) rfl rfl)
    try simp only [World.size_alloc] at h1
    obtain ⟨p0_0, p1_0, p2_0⟩ := h1.cs3 0 rfl
    obtain ⟨p0_1, p1_1⟩ := h1.cs2 1 rfl
    clear h1
    go_wp2_with fail
    clear p0_0 p1_0 p2_0 p0_1 p1_1
    generalize hwa : World.alloc (World.alloc w _) _ = v1
    have h1 := ((hS.out.boxed (vs := [.bool b0, .slice A0 n0 c0]) (ty := 25) rfl rfl).boxed (vs := [.bool b0, .slice A0 n0 c0, .slice A1 n1 c1]) (ty := 27) rfl hwa)
    simp only [World.size_alloc] at h1
    have hsz : v1.heap.size = w.heap.size + 1 + 1 := by rw [← hwa]; simp only [World.size_alloc]
    try rw [← hsz]
    clear hwa hsz
    clear hS; have hS := Lib.hid h1; clear h1
    obtain ⟨x0_0, x1_0, x2_0⟩ := hS.out.cs3 0 rfl
    obtain ⟨x0_1, x1_1⟩ := hS.out.cs2 1 rfl
    go_wp2_with fail
    go_at_call 5
    with_reducible refine (long1_y hS.out ⟨by omega, by omega⟩ hl).mono ?_
    rintro e v2 ⟨rfl, h1⟩
    clear x0_0 x1_0 x2_0 x0_1 x1_1
    clear hS; have hS := Lib.hid h1; clear h1
    obtain ⟨x0_0, x1_0, x2_0⟩ := hS.out.cs3 0 rfl
    obtain ⟨x0_1, x1_1⟩ := hS.out.cs2 1 rfl
    go_wp2_with fail
    go_at_call 6
    with_reducible refine (awake_any _).mono ?_
    rintro e v3 ⟨rfl, hb⟩
    clear x0_0 x1_0 x2_0 x0_1 x1_1
    have h1 := hS.out.below hb
    clear hb
    clear hS; have hS := Lib.hid h1; clear h1
    obtain ⟨x0_0, x1_0, x2_0⟩ := hS.out.cs3 0 rfl
    obtain ⟨x0_1, x1_1⟩ := hS.out.cs2 1 rfl
    go_wp2
    go_ret
    exact ⟨rfl, hS.out.st.1⟩
set_option maxRecDepth 100000 in
theorem lifted (os : Os) (started : os.Started) (H : Type) (enc : TypeId × Value → H) :
    ReturnsInHanded {} Tryz.checked os 3 .any (fun w args => (Rows.ratMakesSpec.pre enc Tryz.prog Tryz.f3 Rows.ratMakesRow.domain false w args ∧ laidMetH Tryz.prog Rows.ratMakesRow.laid w) ∧ sizedMet enc Tryz.prog Tryz.f3 (OpenSpec.ofChange Rows.ratMakesSpec) false w args) (Rows.ratMakesSpec.post enc Tryz.prog Tryz.f3 false true false false) := by
  refine returnsInHanded_of_change_and (C := Tryz.checked) (X := fun w _ => laidMetH Tryz.prog Rows.ratMakesRow.laid w) (fun _ _ _ hh h => h.of_heap hh) own started (by kernel_rfl) Tryz.func3
    (ChangeSpec.witness_shaped (enc := enc) (C := Tryz.checked) (os := os) (X := fun w _ => laidMetH Tryz.prog Rows.ratMakesRow.laid w) false (World.laidAll Tryz.prog os Rows.ratMakesRow.laid) #[.agg #[.bool false, .slice none 0 0], .slice none 0 0, .int .i64 0, .int .i64 0, .int .i64 0] 8 (World.laidAll_os _ _ _)
      (World.shaped_of_ZipB (by kernel_rfl) (by kernel_rfl)) (by kernel_rfl) (by kernel_rfl) (by kernel_rfl)
      (by rw [MakeChecks.laidMetH_plain _ _ _ (by kernel_rfl)]; exact laidMet_laidAll _ (by kernel_rfl) (by kernel_rfl))) ?_
  intro W base args ds gs before hval0 hW hcnd _ _ _
  have hval : ∀ (j : Nat) t v, Tryz.f3.params[j]? = some t → args[j]? = some v → Value.okWide Tryz.prog W .any base t v := hval0
  have hW' := hW
  obtain ⟨p, q, hA0, hV, hpq, hfz, hnd⟩ := hW
  have hA : DataW.TrodAll enc Tryz.prog W 0 (fun _ => true) true Tryz.f3.params.toList args.toList ds p := hA0
  rw [Tryz.params3] at hA hval
  obtain ⟨v0, vs0, d0, ds0, p0, q0, hargs, rfl, rfl, h0, r0⟩ := trodAll_cons hA
  obtain ⟨v1, vs1, d1, ds1, p1, q1, rfl, rfl, rfl, h1, r1⟩ := trodAll_cons r0
  obtain ⟨v2, vs2, d2, ds2, p2, q2, rfl, rfl, rfl, h2, r2⟩ := trodAll_cons r1
  obtain ⟨v3, vs3, d3, ds3, p3, q3, rfl, rfl, rfl, h3, r3⟩ := trodAll_cons r2
  obtain ⟨v4, vs4, d4, ds4, p4, q4, rfl, rfl, rfl, h4, r4⟩ := trodAll_cons r3
  obtain ⟨rfl, rfl, rfl⟩ := trodAll_nil r4
  obtain rfl : args = #[v0, v1, v2, v3, v4] := by cases args; simp_all
  obtain ⟨rfl, rfl⟩ := trodVars_none hV
  obtain ⟨b0, A0, n0, c0, xs0, rfl, s0⟩ := open_whole (hval 0 25 v0 rfl rfl) h0
  obtain ⟨A1, n1, c1, xs1, rfl, s1⟩ := open_natural (hval 1 23 v1 rfl rfl) h1
  obtain ⟨a2, rfl, rfl, rfl, w2⟩ := open_int Tryz.underlying2 (hval 2 2 v2 rfl rfl) h2
  obtain ⟨a3, rfl, rfl, rfl, w3⟩ := open_int Tryz.underlying2 (hval 3 2 v3 rfl rfl) h3
  obtain ⟨a4, rfl, rfl, rfl, w4⟩ := open_int Tryz.underlying3 (hval 4 3 v4 rfl rfl) h4
  refine (walk W b0 A0 n0 c0 xs0 s0 A1 n1 c1 xs1 s1 a2 w2 a3 w3 a4 w4).mono fun e W' ⟨he, hb⟩ => ?_
  subst he
  exact ⟨_, rfl, Frame.close laidOut hW' rfl rfl rfl Tryz.underlying4 (fun t ht => by rw [Tryz.params3] at ht; simp at ht; rcases ht with rfl | rfl | rfl | rfl <;> exact ⟨by kernel_rfl, of_decide_eq_true (by kernel_rfl)⟩) hb⟩
theorem over : Rows.ratMakesRow.holds Tryz.pinned (OpenSpec.ofChange Rows.ratMakesSpec) :=
  OpenClaim.holds_of_wide 3 Tryz.f3 rfl rfl rfl rfl rfl rfl rfl ⟨rfl, rfl, rfl, rfl, rfl⟩ rfl rfl rfl rfl rfl (by kernel_rfl) Tryz.func3 (by kernel_rfl)
    (of_decide_eq_true (by kernel_rfl)) (by unfold Func.isWrapper; first | (rw [if_pos (by decide +kernel)]; kernel_rfl) | (rw [if_neg (by decide +kernel)]; exact ⟨rfl, rfl⟩))
    (fun os started H enc _ => lifted os started H enc)
/-- the statement -/
theorem proved : Rows.RatMakesCardSaid :=
  Claim7.holds_tied_plain_at .later [] _ _ _ _ over (fun _ h => by cases h) (by kernel_rfl) (fun _ h => by cases h) ratMakes_row_tie rfl ⟨rfl, rfl⟩ (by kernel_rfl) rfl
    (fun f fn hf hfn => by
      obtain rfl : f = 3 := Option.some.inj ((show Tryz.prog.funcNamed "tombola/tombolalaw06.RatMakes" = some 3 by kernel_rfl).symm.trans hf) |>.symm
      obtain rfl : fn = Tryz.f3 := (Option.some.inj (Tryz.func3.symm.trans hfn)).symm
      exact ⟨by kernel_rfl, (fun j t ht => by
        rw [Tryz.params3] at ht
        have hm : t ∈ [25, 23, 2, 2, 3] := by simpa using Array.mem_of_getElem? ht
        have hall : ([25, 23, 2, 2, 3].all fun u => !Tryz.prog.wantsStandIn u) = true := by kernel_rfl
        exact (show Tryz.prog.wantsStandIn t = false by simpa using List.all_eq_true.1 hall t hm))⟩)
    (by kernel_rfl)
#print axioms proved
end Go.Proofs.YtbpambamaoonfaaGreatDoor.ratMakes
