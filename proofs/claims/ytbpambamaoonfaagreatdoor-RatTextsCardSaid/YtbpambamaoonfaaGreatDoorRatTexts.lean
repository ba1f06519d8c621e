/-
  PROVED: the statement RatTexts (tombolalaw06.RatTexts) about the landed commit: for every input the law returns true and leaves its arguments as they were. Conditions: none beyond those that the given row itself prints.
-/
import Derived.Test.YtbpambamaoonfaaGreatDoorCards
import Derived.Test.YtbpambamaoonfaaGreatDoorTie
import Derived.LaidMore
import Derived.Lay
import Derived.SevenTiedAt
import Derived.Stop.Joined
import Derived.Test.YtbpambamaoonfaaGreatDoorRows
import Derived.WalkKit
import Derived.ProofKit
import Derived.OpenShut
import Derived.RowKit3
import Derived.Test.YtbpambamaoonfaaGreatDoorGFrame
import Derived.Test.YtbpambamaoonfaaGreatDoorRatOpen
import Derived.Test.YtbpambamaoonfaaGreatDoorRatH
import Derived.Test.YtbpambamaoonfaaGreatDoorRatToldT
import Derived.Deep.RegionHeld3
namespace Go.Proofs.YtbpambamaoonfaaGreatDoor.ratTexts
open Go.ChangeShapes Go.WideShapes Go.ChangeAt Go.RowKit
set_option linter.unusedVariables false
set_option linter.unusedSimpArgs false
set_option maxRecDepth 20000
open N
theorem own : ownKnob Tryz.prog.godebug = none := by kernel_rfl
open RC
open Go.Lib (decDigits nDigits decDigits_length nDigits_pos)
set_option maxRecDepth 100000 in
set_option maxHeartbeats 40000000 in
theorem walk (w : World) (b0 : Bool) (A0 : Option Addr) (n0 c0 : Nat) (xs0 : List Int) (A0' : Option Addr) (n0' c0' : Nat) (ys0 : List Int) (h0 : Sl w A0 n0 c0 xs0) (g0 : Sl w A0' n0' c0' ys0) (b1 : List UInt8) (l1 : b1.length ≤ maxLen) :
    Calls Tryz.prog 4 #[.agg #[.bool b0, .slice A0 n0 c0, .slice A0' n0' c0'], .string ⟨b1.toArray⟩] w fun e w' => e = .returned (.bool true) ∧ Below w.heap.size w w' := by
  have hc0 := h0.cap
  have hm0 := h0.max
  have hd0 := g0.cap
  have he0 := g0.max
  unfold maxLen at hm0 he0
  by_cases hl : n0 ≤ 6 ∧ n0' ≤ 6
  · by_cases hs : b1.length ≤ 300
    · obtain ⟨sm, xsm, ysm, jm, hfr, hrr⟩ := reads_t b1 hs
      obtain ⟨r0, hr0⟩ : ∃ r, rv b0 (val B xs0) (val B ys0) = r := ⟨_, rfl⟩
      obtain ⟨Z, hZ⟩ : ∃ Z, shR r0 = Z := ⟨_, rfl⟩
      have HZ0 := Lib.hid hr0
      have HZZ := Lib.hid hZ
      have HFR := Lib.hid hfr
      have HRR := Lib.hid hrr
      clear hfr hrr hr0 hZ
      have HL := Lib.hid hl
      have hS := Lib.hid (((SC.start w).old (k := 6) g0 hl.2 rfl).old (k := 6) h0 hl.1 rfl)
      clear h0 g0
      go_enter Tryz.func4, Tryz.ntmps4
      have h1 := (hS.out.boxed (vs := [.bool b0, .slice A0 n0 c0, .slice A0' n0' c0']) (ty := 27) rfl rfl)
      try simp only [World.size_alloc] at h1
      obtain ⟨p0_0, p1_0, p2_0⟩ := h1.cs3 0 rfl
      clear h1
      go_wp2_with fail
      clear p0_0 p1_0 p2_0
      generalize hwa : World.alloc w _ = v1
      have h1 := (hS.out.boxed (vs := [.bool b0, .slice A0 n0 c0, .slice A0' n0' c0']) (ty := 27) rfl hwa)
      have hsz : v1.heap.size = w.heap.size + 1 := by rw [← hwa]; simp only [World.size_alloc]
      try rw [← hsz]
      clear hwa hsz
      clear hS; have hS := Lib.hid h1; clear h1
      obtain ⟨x0_0, x1_0, x2_0⟩ := hS.out.cs3 0 rfl
      go_wp2_with fail
      go_at_call 5
      with_reducible refine (long1_n hS.out HL.out).mono ?_
      rintro e v2 ⟨rfl, h1⟩
      clear x0_0 x1_0 x2_0
      clear hS; have hS := Lib.hid h1; clear h1
      obtain ⟨x0_0, x1_0, x2_0⟩ := hS.out.cs3 0 rfl
      go_wp2_with fail
      go_at_call 19
      with_reducible refine (HRR.out _).mono ?_
      rintro e v3 ho
      clear x0_0 x1_0 x2_0
      obtain ⟨Am, nm, cm, Am', nm', cm', rfl, h1⟩ := hS.out.told ho
      clear ho
      clear hS; have hS := Lib.hid h1; clear h1
      obtain ⟨x0_0, x1_0, x2_0⟩ := hS.out.cs3 0 rfl
      have h1 := (hS.out.boxed (vs := [.bool sm, .slice Am nm cm, .slice Am' nm' cm']) (ty := 27) rfl rfl)
      try simp only [World.size_alloc] at h1
      obtain ⟨p0_0, p1_0, p2_0⟩ := h1.cs3 0 rfl
      obtain ⟨p0_1, p1_1, p2_1⟩ := h1.cs3 1 rfl
      clear h1
      go_wp2_with fail
      clear x0_0 x1_0 x2_0
      clear p0_0 p1_0 p2_0 p0_1 p1_1 p2_1
      generalize hwa : World.alloc v3 _ = v4
      have h1 := (hS.out.boxed (vs := [.bool sm, .slice Am nm cm, .slice Am' nm' cm']) (ty := 27) rfl hwa)
      have hsz : v4.heap.size = v3.heap.size + 1 := by rw [← hwa]; simp only [World.size_alloc]
      try rw [← hsz]
      clear hwa hsz
      clear hS; have hS := Lib.hid h1; clear h1
      obtain ⟨x0_0, x1_0, x2_0⟩ := hS.out.cs3 0 rfl
      obtain ⟨x0_1, x1_1, x2_1⟩ := hS.out.cs3 1 rfl
      have h1 : SC w w v4 _ _ [] := (hS.out.sub (fun t ht => ht) (List.Sublist.refl _) (fun t ht => by cases ht))
      clear hS; have hS := Lib.hid h1; clear h1
      go_wp2_with fail
      clear x0_0 x1_0 x2_0 x0_1 x1_1 x2_1
      go_loopw [7] (fun i wr => ∃ k : Nat, k ≤ 2 ∧ i = .int .i64 k ∧ SC w w wr [⟨Am, nm, cm, 20001, xsm, val B xsm⟩, ⟨Am', nm', cm', 20001, ysm, val B ysm⟩, ⟨A0, n0, c0, 6, xs0, val B xs0⟩, ⟨A0', n0', c0', 6, ys0, val B ys0⟩] [⟨v3.heap.size, [.bool sm, .slice Am nm cm, .slice Am' nm' cm'], 27⟩, ⟨w.heap.size, [.bool b0, .slice A0 n0 c0, .slice A0' n0' c0'], 27⟩] []) (fun i _ => 2 - (intOf i).toNat)
      case atStart => exact ⟨0, by omega, rfl, hS.out⟩
      case round =>
        obtain ⟨k, hk, rfl, hS0⟩ := hrel
        obtain ⟨vr, rfl⟩ : ∃ vr : World, vr = wr := ⟨_, rfl⟩
        clear hS
        have HS0 := Lib.hid hS0
        clear hS0
        by_cases hlt : k < 2
        · have hS := Lib.hid HS0.out.rebase
          obtain ⟨x0_0, x1_0, x2_0⟩ := hS.out.cs3 0 rfl
          obtain ⟨x0_1, x1_1, x2_1⟩ := hS.out.cs3 1 rfl
          go_wp2_with fail
          go_at_call 20
          with_reducible refine (HFR.out _).mono ?_
          rintro e v5 ho
          clear x0_0 x1_0 x2_0 x0_1 x1_1 x2_1
          obtain ⟨Aa, na, ca, Aa', na', ca', rfl, h1⟩ := hS.out.told ho
          clear ho
          clear hS; have hS := Lib.hid h1; clear h1
          obtain ⟨x0_0, x1_0, x2_0⟩ := hS.out.cs3 0 rfl
          obtain ⟨x0_1, x1_1, x2_1⟩ := hS.out.cs3 1 rfl
          have h1 := (hS.out.boxed (vs := [.bool sm, .slice Aa na ca, .slice Aa' na' ca']) (ty := 27) rfl rfl)
          try simp only [World.size_alloc] at h1
          obtain ⟨p0_0, p1_0, p2_0⟩ := h1.cs3 0 rfl
          obtain ⟨p0_1, p1_1, p2_1⟩ := h1.cs3 1 rfl
          obtain ⟨p0_2, p1_2, p2_2⟩ := h1.cs3 2 rfl
          clear h1
          go_wp2_with fail
          clear x0_0 x1_0 x2_0 x0_1 x1_1 x2_1
          clear p0_0 p1_0 p2_0 p0_1 p1_1 p2_1 p0_2 p1_2 p2_2
          generalize hwa : World.alloc v5 _ = v6
          have h1 := (hS.out.boxed (vs := [.bool sm, .slice Aa na ca, .slice Aa' na' ca']) (ty := 27) rfl hwa)
          have hsz : v6.heap.size = v5.heap.size + 1 := by rw [← hwa]; simp only [World.size_alloc]
          try rw [← hsz]
          clear hwa hsz
          clear hS; have hS := Lib.hid h1; clear h1
          obtain ⟨x0_0, x1_0, x2_0⟩ := hS.out.cs3 0 rfl
          obtain ⟨x0_1, x1_1, x2_1⟩ := hS.out.cs3 1 rfl
          obtain ⟨x0_2, x1_2, x2_2⟩ := hS.out.cs3 2 rfl
          go_wp2_with fail
          go_at_call 14
          with_reducible refine (isg_c (q := true) hS.out (by repeat (first | exact ms | apply mo)) (by repeat (first | exact ms | apply mo)) (by repeat (first | exact ms | apply mo)) (by repeat (first | exact ms | apply mo)) (by simp)).mono ?_
          rintro e v7 ⟨rfl, h1⟩
          clear x0_0 x1_0 x2_0 x0_1 x1_1 x2_1 x0_2 x1_2 x2_2
          clear hS; have hS := Lib.hid h1; clear h1
          obtain ⟨x0_0, x1_0, x2_0⟩ := hS.out.cs3 0 rfl
          obtain ⟨x0_1, x1_1, x2_1⟩ := hS.out.cs3 1 rfl
          obtain ⟨x0_2, x1_2, x2_2⟩ := hS.out.cs3 2 rfl
          clear x0_0 x1_0 x2_0 x0_1 x1_1 x2_1 x0_2 x1_2 x2_2
          have h1 := hS.out.rs
          simp only [List.map_cons, List.map_nil] at h1
          have hR := Lib.hid h1
          clear h1 hS
          obtain ⟨x0_0, x1_0, x2_0⟩ := hR.out.cs3 0 rfl
          go_wp2_with fail
          go_at_call 16
          with_reducible refine (spoil_r hR.out (by repeat (first | exact ms | apply mo)) (by repeat (first | exact ms | apply mo))).mono ?_
          rintro e v8 ⟨⟨z0, rfl⟩, h1⟩
          clear x0_0 x1_0 x2_0
          clear hR; have hR := Lib.hid h1; clear h1
          go_wp2_with fail
          go_roundw
          case rel => exact ⟨k + 1, by omega, by go_num, HS0.out.back hR.out⟩
          case measure => simp [intOf]; omega
        · have hS := HS0
          clear HS0
          have hk2 : k = 2 := by omega
          subst hk2
          obtain ⟨x0_0, x1_0, x2_0⟩ := hS.out.cs3 0 rfl
          obtain ⟨x0_1, x1_1, x2_1⟩ := hS.out.cs3 1 rfl
          go_wp2_with fail
          clear x0_0 x1_0 x2_0 x0_1 x1_1 x2_1
          have h1 := hS.out.drew
          clear hS; have hS := Lib.hid h1; clear h1
          try simp only [List.append_eq, List.cons_append, List.nil_append]
          go_region_held3 (fun W => (W.cell? ⟨v3.heap.size, 0, none⟩ = some (.bool sm) ∧ W.cell? ⟨v3.heap.size, 1, none⟩ = some (.slice Am nm cm) ∧ W.cell? ⟨v3.heap.size, 2, none⟩ = some (.slice Am' nm' cm')) ∧ (W.cell? ⟨w.heap.size, 0, none⟩ = some (.bool b0) ∧ W.cell? ⟨w.heap.size, 1, none⟩ = some (.slice A0 n0 c0) ∧ W.cell? ⟨w.heap.size, 2, none⟩ = some (.slice A0' n0' c0'))) (first | with_reducible exact ⟨hS.out.cs3 0 rfl, hS.out.cs3 1 rfl⟩ | with_reducible exact ⟨hS.out.drew.cs3 0 rfl, hS.out.drew.cs3 1 rfl⟩ | with_reducible exact ⟨(hS.out.alloc _).cs3 0 rfl, (hS.out.alloc _).cs3 1 rfl⟩ | with_reducible exact ⟨((hS.out.alloc _).alloc _).cs3 0 rfl, ((hS.out.alloc _).alloc _).cs3 1 rfl⟩) (first
            | (go_at_call 21; (with_reducible refine (fshow_t (Z := Z) hS.out (by repeat (first | exact ms | apply mo)) (by repeat (first | exact ms | apply mo)) (by decide) HZ0.out HZZ.out).mono ?_); rintro e w' ⟨rfl, h1⟩; clear hS; have hS := Lib.hid h1; clear h1)
            | (go_at_call 22; (with_reducible refine (r6show_t (Z := Z) hS.out (by repeat (first | exact ms | apply mo)) (by repeat (first | exact ms | apply mo)) (by decide) HZ0.out HZZ.out).mono ?_); rintro e w' ⟨rfl, h1⟩; clear hS; have hS := Lib.hid h1; clear h1)
            | (go_at_call 6; (with_reducible refine (awake_any _).mono ?_); rintro e w' ⟨rfl, hb⟩; have h1 := hS.out.below hb; clear hb; clear hS; have hS := Lib.hid h1; clear h1))
          obtain ⟨x0_0, x1_0, x2_0⟩ := hS.out.cs3 0 rfl
          obtain ⟨x0_1, x1_1, x2_1⟩ := hS.out.cs3 1 rfl
          go_wp2
          go_ret
          exact ⟨rfl, hS.out.st.1⟩
    · clear hm0 he0
      have HL := Lib.hid hl
      have hS := Lib.hid (((SC.start w).old (k := 6) g0 hl.2 rfl).old (k := 6) h0 hl.1 rfl)
      clear h0 g0
      go_enter Tryz.func4, Tryz.ntmps4
      have h1 := (hS.out.boxed (vs := [.bool b0, .slice A0 n0 c0, .slice A0' n0' c0']) (ty := 27) rfl rfl)
      try simp only [World.size_alloc] at h1
      obtain ⟨p0_0, p1_0, p2_0⟩ := h1.cs3 0 rfl
      clear h1
      go_wp2_with fail
      clear p0_0 p1_0 p2_0
      generalize hwa : World.alloc w _ = v1
      have h1 := (hS.out.boxed (vs := [.bool b0, .slice A0 n0 c0, .slice A0' n0' c0']) (ty := 27) rfl hwa)
      have hsz : v1.heap.size = w.heap.size + 1 := by rw [← hwa]; simp only [World.size_alloc]
      try rw [← hsz]
      clear hwa hsz
      clear hS; have hS := Lib.hid h1; clear h1
      obtain ⟨x0_0, x1_0, x2_0⟩ := hS.out.cs3 0 rfl
      go_wp2_with fail
      go_at_call 5
      with_reducible refine (long1_n hS.out HL.out).mono ?_
      rintro e v2 ⟨rfl, h1⟩
      clear x0_0 x1_0 x2_0
      clear hS; have hS := Lib.hid h1; clear h1
      obtain ⟨x0_0, x1_0, x2_0⟩ := hS.out.cs3 0 rfl
      go_wp2_with fail
      go_at_call 6
      with_reducible refine (awake_any _).mono ?_
      rintro e v3 ⟨rfl, hb⟩
      clear x0_0 x1_0 x2_0
      have h1 := hS.out.below hb
      clear hb
      clear hS; have hS := Lib.hid h1; clear h1
      obtain ⟨x0_0, x1_0, x2_0⟩ := hS.out.cs3 0 rfl
      go_wp2
      go_ret
      exact ⟨rfl, hS.out.st.1⟩
  · have hS := Lib.hid (SC.start w)
    clear h0 g0
    go_enter Tryz.func4, Tryz.ntmps4
    have h1 := (hS.out.boxed (vs := [.bool b0, .slice A0 n0 c0, .slice A0' n0' c0']) (ty := 27) rfl rfl)
    try simp only [World.size_alloc] at h1
    obtain ⟨p0_0, p1_0, p2_0⟩ := h1.cs3 0 rfl
    clear h1
    go_wp2_with fail
    clear p0_0 p1_0 p2_0
    generalize hwa : World.alloc w _ = v1
    have h1 := (hS.out.boxed (vs := [.bool b0, .slice A0 n0 c0, .slice A0' n0' c0']) (ty := 27) rfl hwa)
    have hsz : v1.heap.size = w.heap.size + 1 := by rw [← hwa]; simp only [World.size_alloc]
    try rw [← hsz]
    clear hwa hsz
    clear hS; have hS := Lib.hid h1; clear h1
    obtain ⟨x0_0, x1_0, x2_0⟩ := hS.out.cs3 0 rfl
    go_wp2_with fail
    go_at_call 5
    with_reducible refine (long1_y hS.out ⟨by omega, by omega⟩ hl).mono ?_
    rintro e v2 ⟨rfl, h1⟩
    clear x0_0 x1_0 x2_0
    clear hS; have hS := Lib.hid h1; clear h1
    obtain ⟨x0_0, x1_0, x2_0⟩ := hS.out.cs3 0 rfl
    go_wp2_with fail
    go_at_call 6
    with_reducible refine (awake_any _).mono ?_
    rintro e v3 ⟨rfl, hb⟩
    clear x0_0 x1_0 x2_0
    have h1 := hS.out.below hb
    clear hb
    clear hS; have hS := Lib.hid h1; clear h1
    obtain ⟨x0_0, x1_0, x2_0⟩ := hS.out.cs3 0 rfl
    go_wp2
    go_ret
    exact ⟨rfl, hS.out.st.1⟩
set_option maxRecDepth 100000 in
theorem lifted (os : Os) (started : os.Started) (H : Type) (enc : TypeId × Value → H) :
    ReturnsInHanded {} Tryz.checked os 4 .any (fun w args => (Rows.ratTextsSpec.pre enc Tryz.prog Tryz.f4 Rows.ratTextsRow.domain false w args ∧ laidMetH Tryz.prog Rows.ratTextsRow.laid w) ∧ sizedMet enc Tryz.prog Tryz.f4 (OpenSpec.ofChange Rows.ratTextsSpec) false w args) (Rows.ratTextsSpec.post enc Tryz.prog Tryz.f4 false true false false) := by
  refine returnsInHanded_of_change_and (C := Tryz.checked) (X := fun w _ => laidMetH Tryz.prog Rows.ratTextsRow.laid w) (fun _ _ _ hh h => h.of_heap hh) own started (by kernel_rfl) Tryz.func4
    (ChangeSpec.witness_shaped (enc := enc) (C := Tryz.checked) (os := os) (X := fun w _ => laidMetH Tryz.prog Rows.ratTextsRow.laid w) false (World.laidAll Tryz.prog os Rows.ratTextsRow.laid) #[.agg #[.bool false, .slice none 0 0, .slice none 0 0], .string ByteArray.empty] 8 (World.laidAll_os _ _ _)
      (World.shaped_of_ZipB (by kernel_rfl) (by kernel_rfl)) (by kernel_rfl) (by kernel_rfl) (by kernel_rfl)
      (by rw [MakeChecks.laidMetH_plain _ _ _ (by kernel_rfl)]; exact laidMet_laidAll _ (by kernel_rfl) (by kernel_rfl))) ?_
  intro W base args ds gs before hval0 hW hcnd _ _ _
  have hval : ∀ (j : Nat) t v, Tryz.f4.params[j]? = some t → args[j]? = some v → Value.okWide Tryz.prog W .any base t v := hval0
  have hW' := hW
  obtain ⟨p, q, hA0, hV, hpq, hfz, hnd⟩ := hW
  have hA : DataW.TrodAll enc Tryz.prog W 0 (fun _ => true) true Tryz.f4.params.toList args.toList ds p := hA0
  rw [Tryz.params4] at hA hval
  obtain ⟨v0, vs0, d0, ds0, p0, q0, hargs, rfl, rfl, h0, r0⟩ := trodAll_cons hA
  obtain ⟨v1, vs1, d1, ds1, p1, q1, rfl, rfl, rfl, h1, r1⟩ := trodAll_cons r0
  obtain ⟨rfl, rfl, rfl⟩ := trodAll_nil r1
  obtain rfl : args = #[v0, v1] := by cases args; simp_all
  obtain ⟨rfl, rfl⟩ := trodVars_none hV
  obtain ⟨b0, A0, n0, c0, xs0, A0', n0', c0', ys0, rfl, s0, sd0⟩ := open_frac (hval 0 27 v0 rfl rfl) h0
  obtain ⟨y1, rfl, rfl, rfl, l1⟩ := Go.ChangeMaps.open_string Tryz.underlying9 (hval 1 9 v1 rfl rfl) h1
  obtain ⟨b1, rfl⟩ : ∃ b : List UInt8, y1 = ⟨b.toArray⟩ := ⟨y1.data.toList, by cases y1; simp⟩
  refine (walk W b0 A0 n0 c0 xs0 A0' n0' c0' ys0 s0 sd0 b1 l1).mono fun e W' ⟨he, hb⟩ => ?_
  subst he
  exact ⟨_, rfl, Frame.close laidOut hW' rfl rfl rfl Tryz.underlying4 (fun t ht => by rw [Tryz.params4] at ht; simp at ht; rcases ht with rfl | rfl <;> exact ⟨by kernel_rfl, of_decide_eq_true (by kernel_rfl)⟩) hb⟩
theorem over : Rows.ratTextsRow.holds Tryz.pinned (OpenSpec.ofChange Rows.ratTextsSpec) :=
  OpenClaim.holds_of_wide 4 Tryz.f4 rfl rfl rfl rfl rfl rfl rfl ⟨rfl, rfl, rfl, rfl, rfl⟩ rfl rfl rfl rfl rfl (by kernel_rfl) Tryz.func4 (by kernel_rfl)
    (of_decide_eq_true (by kernel_rfl)) (by unfold Func.isWrapper; first | (rw [if_pos (by decide +kernel)]; kernel_rfl) | (rw [if_neg (by decide +kernel)]; exact ⟨rfl, rfl⟩))
    (fun os started H enc _ => lifted os started H enc)
/-- the statement -/
theorem proved : Rows.RatTextsCardSaid :=
  Claim7.holds_tied_plain_at .later [] _ _ _ _ over (fun _ h => by cases h) (by kernel_rfl) (fun _ h => by cases h) ratTexts_row_tie rfl ⟨rfl, rfl⟩ (by kernel_rfl) rfl
    (fun f fn hf hfn => by
      obtain rfl : f = 4 := Option.some.inj ((show Tryz.prog.funcNamed "tombola/tombolalaw06.RatTexts" = some 4 by kernel_rfl).symm.trans hf) |>.symm
      obtain rfl : fn = Tryz.f4 := (Option.some.inj (Tryz.func4.symm.trans hfn)).symm
      exact ⟨by kernel_rfl, (fun j t ht => by
        rw [Tryz.params4] at ht
        have hm : t ∈ [27, 9] := by simpa using Array.mem_of_getElem? ht
        have hall : ([27, 9].all fun u => !Tryz.prog.wantsStandIn u) = true := by kernel_rfl
        exact (show Tryz.prog.wantsStandIn t = false by simpa using List.all_eq_true.1 hall t hm))⟩)
    (by kernel_rfl)
#print axioms proved
end Go.Proofs.YtbpambamaoonfaaGreatDoor.ratTexts
