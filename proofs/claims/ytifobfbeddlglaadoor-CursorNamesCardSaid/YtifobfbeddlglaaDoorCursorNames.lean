/-
  PROVED: the statement CursorNames (tombolalaw08.CursorNames) about the landed commit: for every input the law returns true and leaves its arguments as they were. Conditions: none beyond those that the given row itself prints.
-/
import Derived.Test.YtifobfbeddlglaaDoorCards
import Derived.Test.YtifobfbeddlglaaDoorTie
import Derived.LaidMore
import Derived.Lay
import Derived.SevenTiedAt
import Derived.Stop.Joined
import Derived.Test.YtifobfbeddlglaaDoorRows
import Derived.WalkKit
import Derived.ProofKit
import Derived.OpenShut
import Derived.RowKit3
import Derived.Test.YtifobfbeddlglaaDoorGFrame
import Derived.Test.YtifobfbeddlglaaDoorCurOnes
import Derived.Test.YtifobfbeddlglaaDoorIntOpen
namespace Go.Proofs.YtifobfbeddlglaaDoor.cursorNames
open Go.ChangeShapes Go.WideShapes Go.ChangeAt Go.RowKit
set_option linter.unusedVariables false
set_option linter.unusedSimpArgs false
set_option maxRecDepth 20000
open N
theorem own : ownKnob Tryd.prog.godebug = none := by kernel_rfl

set_option maxRecDepth 100000 in
set_option maxHeartbeats 40000000 in
theorem walk (w : World)  :
    Calls Tryd.prog 4 #[] w fun e w' => e = .returned (.bool true) ∧ Below w.heap.size w w' := by
  have hS := Lib.hid (CS.start w)
  obtain ⟨l, hl⟩ : ∃ l : List UInt8, List.replicate 1024 49 = l := ⟨_, rfl⟩
  obtain ⟨m, hm⟩ : ∃ m : List UInt8, List.replicate 1025 49 = m := ⟨_, rfl⟩
  have HLN := Lib.hid (show l.length = 1024 by rw [← hl, List.length_replicate])
  have HB := Lib.hid (show isB l = true by rw [isB_iff, ← hl]; exact ⟨by rw [List.length_replicate]; omega, bitsL_rep 1024 rfl⟩)
  have HBM := Lib.hid (show isB m = false by rw [← hm]; unfold isB; rw [List.length_replicate]; rfl)
  have HMN := Lib.hid (show m.length ≤ 2000 by rw [← hm, List.length_replicate]; omega)
  have HSEG := Lib.hid (fun (a : Nat) (h : a + 64 ≤ 1024) => show numB ((l.drop a).take 64) = 18446744073709551615 by
    rw [← hl, List.drop_replicate, List.take_replicate, Nat.min_eq_left (by omega)]
    have := numB_ones 64
    omega)
  have HL1 := Lib.hid hl
  have HM1 := Lib.hid hm
  have HBE := Lib.hid (show isB [] = true by decide)
  clear hl hm
  go_enter Tryd.func4, Tryd.ntmps4
  go_wp2_with fail
  go_at_call 9
  refine (cawake_s hS.out).mono ?_
  rintro e v1 ⟨rfl, h1⟩
  have h2 : CS w v1 [] := h1
  clear hS h1; have hS := Lib.hid h2; clear h2
  go_wp2_with fail
  go_at_call 15
  refine (ones_s hS.out 1024 (by decide) HL1.out).mono ?_
  rintro e v2 ⟨rfl, h1⟩
  have h2 : CS w v2 [] := h1
  clear hS h1; have hS := Lib.hid h2; clear h2
  go_wp2_with fail
  go_at_call 10
  refine (new_s hS.out HB.out).mono ?_
  rintro e v3 ⟨g, rfl, h1⟩
  have h2 : CS w v3 [K g l 0 false] := h1
  clear hS h1; have hS := Lib.hid h2; clear h2
  go_wp2_with fail
  go_at_call 15
  refine (ones_s hS.out 1025 (by decide) HM1.out).mono ?_
  rintro e v4 ⟨rfl, h1⟩
  have h2 : CS w v4 [K g l 0 false] := h1
  clear hS h1; have hS := Lib.hid h2; clear h2
  go_wp2_with fail
  go_at_call 10
  refine (new_s_no (l := m) hS.out HMN.out HBM.out).mono ?_
  rintro e v5 ⟨rfl, h1⟩
  have h2 : CS w v5 [K g l 0 false] := h1
  clear hS h1; have hS := Lib.hid h2; clear h2
  go_wp2_with fail
  go_loopw [5] (fun i wr => ∃ k : Nat, k ≤ 16 ∧ i = .int .i64 k ∧ CS w wr [K g l (64 * k) false]) (fun i _ => 16 - (intOf i).toNat)
  case atStart => exact ⟨0, by omega, rfl, hS.out⟩
  case round =>
    obtain ⟨k, hk, rfl, hS0⟩ := hrel
    clear hS
    have hS := Lib.hid hS0
    clear hS0
    by_cases hlt : k < 16
    · obtain ⟨c, hcc⟩ : ∃ c, 64 * (k + 1) = c := ⟨_, rfl⟩
      have hw1 : IntKind.i64.wrap ((k : Int) + 1) = (k : Int) + 1 := by rw [IntKind.wrap_i64]; omega
      have hw2 : IntKind.i64.wrap (64 * ((k : Int) + 1)) = (c : Int) := by rw [IntKind.wrap_i64]; omega
      have HK := Lib.hid (show Tk l (64 * k) false 64 18446744073709551615 true c false by rw [show c = 64 * k + 64 by omega]; exact Tk.good (k := 64) (by decide) (by rw [HLN.out]; omega) (HSEG.out _ (by omega)))
      have HC := Lib.hid hcc
      clear hcc
      go_wp2_with fail
      have hc : Calls Tryd.prog 16 #[.pointer (some ⟨g, 0, none⟩), .int .i64 65, .int .u64 0, .bool false] wr fun e w' => e = .returned (.bool true) ∧ CS w w' [K g l (64 * k) false] := takes_n (l := l) (a := 64 * k) (o := false) hS.out 0 rfl HB.out (by rw [HLN.out]; omega) (Tk.bad (.inr (.inr (by decide))))
      go_at_call 16
      refine hc.mono ?_
      rintro e v6 ⟨rfl, h1⟩
      clear hS hc; have hS := Lib.hid h1; clear h1
      go_wp2_with fail
      have hc : Calls Tryd.prog 16 #[.pointer (some ⟨g, 0, none⟩), .int .i64 (-1), .int .u64 0, .bool false] v6 fun e w' => e = .returned (.bool true) ∧ CS w w' [K g l (64 * k) false] := takes_n (l := l) (a := 64 * k) (o := false) hS.out 0 rfl HB.out (by rw [HLN.out]; omega) (Tk.bad (.inr (.inl (by decide))))
      go_at_call 16
      refine hc.mono ?_
      rintro e v7 ⟨rfl, h1⟩
      clear hS hc; have hS := Lib.hid h1; clear h1
      go_wp2_with fail
      have hc : Calls Tryd.prog 16 #[.pointer (some ⟨g, 0, none⟩), .int .i64 64, .int .u64 18446744073709551615, .bool true] v7 fun e w' => e = .returned (.bool true) ∧ CS w w' [K g l c false] := takes_n (l := l) (a := 64 * k) (o := false) hS.out 0 rfl HB.out (by rw [HLN.out]; omega) (HK.out)
      go_at_call 16
      refine hc.mono ?_
      rintro e v8 ⟨rfl, h1⟩
      clear hS hc; have hS := Lib.hid h1; clear h1
      go_wp2_with fail
      go_at_call 17
      refine (at_s hS.out 0 rfl).mono ?_
      rintro e v9 ⟨rfl, h1⟩
      have h2 : CS w v9 [K g l c false] := h1
      clear hS h1; have hS := Lib.hid h2; clear h2
      go_wp2
      go_roundw
      case rel => exact ⟨k + 1, by omega, by go_num, by rw [HC.out]; exact hS.out⟩
      case measure => simp [intOf]; omega
    · obtain rfl : k = 16 := by omega
      have h2 : CS w wr [K g l 1024 false] := hS.out
      clear hS; have hS := Lib.hid h2; clear h2
      go_wp2_with fail
      have hc : Calls Tryd.prog 16 #[.pointer (some ⟨g, 0, none⟩), .int .i64 0, .int .u64 0, .bool true] wr fun e w' => e = .returned (.bool true) ∧ CS w w' [K g l 1024 false] := takes_n (l := l) (a := 1024) (o := false) hS.out 0 rfl HB.out (by rw [HLN.out]; omega) (Tk.good (k := 0) (by decide) (by rw [HLN.out]; omega) rfl)
      go_at_call 16
      refine hc.mono ?_
      rintro e v6 ⟨rfl, h1⟩
      clear hS hc; have hS := Lib.hid h1; clear h1
      go_wp2_with fail
      go_at_call 18
      refine (over_s hS.out 0 rfl).mono ?_
      rintro e v7 ⟨rfl, h1⟩
      have h2 : CS w v7 [K g l 1024 false] := h1
      clear hS h1; have hS := Lib.hid h2; clear h2
      go_wp2_with fail
      have hc : Calls Tryd.prog 16 #[.pointer (some ⟨g, 0, none⟩), .int .i64 1, .int .u64 0, .bool false] v7 fun e w' => e = .returned (.bool true) ∧ CS w w' [K g l 1024 true] := takes_n (l := l) (a := 1024) (o := false) hS.out 0 rfl HB.out (by rw [HLN.out]; omega) (Tk.over (by decide) (by decide) (by rw [HLN.out]; decide))
      go_at_call 16
      refine hc.mono ?_
      rintro e v8 ⟨rfl, h1⟩
      clear hS hc; have hS := Lib.hid h1; clear h1
      go_wp2_with fail
      go_at_call 18
      refine (over_s hS.out 0 rfl).mono ?_
      rintro e v9 ⟨rfl, h1⟩
      have h2 : CS w v9 [K g l 1024 true] := h1
      clear hS h1; have hS := Lib.hid h2; clear h2
      go_wp2_with fail
      have hc : Calls Tryd.prog 16 #[.pointer (some ⟨g, 0, none⟩), .int .i64 0, .int .u64 0, .bool false] v9 fun e w' => e = .returned (.bool true) ∧ CS w w' [K g l 1024 true] := takes_n (l := l) (a := 1024) (o := true) hS.out 0 rfl HB.out (by rw [HLN.out]; omega) (Tk.bad (.inl rfl))
      go_at_call 16
      refine hc.mono ?_
      rintro e v10 ⟨rfl, h1⟩
      clear hS hc; have hS := Lib.hid h1; clear h1
      go_wp2_with fail
      have hc : Calls Tryd.prog 19 #[.pointer (some ⟨g, 0, none⟩)] v10 fun e w' => e = .returned (.int .i64 0) ∧ CS w w' [K g l 1024 true] := (by have h := left_s (l := l) (a := 1024) hS.out 0 rfl HB.out (by rw [HLN.out]; omega); rwa [show (l.length : Int) - ((1024 : Nat) : Int) = 0 by rw [HLN.out]; rfl] at h)
      go_at_call 19
      refine hc.mono ?_
      rintro e v11 ⟨rfl, h1⟩
      clear hS hc; have hS := Lib.hid h1; clear h1
      go_wp2_with fail
      go_at_call 10
      refine (new_s (l := []) hS.out HBE.out).mono ?_
      rintro e v12 ⟨e0, rfl, h1⟩
      have h2 : CS w v12 [K e0 [] 0 false, K g l 1024 true] := h1
      clear hS h1; have hS := Lib.hid h2; clear h2
      go_wp2_with fail
      generalize hwa : World.alloc v12 _ = v13
      obtain ⟨f, hf⟩ : ∃ f, v12.heap.size = f := ⟨_, rfl⟩
      have h2 : CS w v13 [K f [] 0 false, K e0 [] 0 false, K g l 1024 true] := by
        rw [← hwa, ← hf]
        exact hS.out.new (q := K v12.heap.size [] 0 false) ((Below.refl _ _).alloc (Nat.le_refl _) _) (heap_alloc_new _ _) (Nat.le_refl _)
      rw [hf]
      clear hwa hf hS; have hS := Lib.hid h2; clear h2
      have hc : Calls Tryd.prog 16 #[.pointer (some ⟨e0, 0, none⟩), .int .i64 0, .int .u64 0, .bool true] v13 fun e w' => e = .returned (.bool true) ∧ CS w w' [K f [] 0 false, K e0 [] 0 false, K g l 1024 true] := takes_n (l := []) (a := 0) (o := false) hS.out 1 rfl HBE.out (by decide) (Tk.good (k := 0) (by decide) (by decide) rfl)
      go_at_call 16
      refine hc.mono ?_
      rintro e v14 ⟨rfl, h1⟩
      clear hS hc; have hS := Lib.hid h1; clear h1
      go_wp2_with fail
      have hc : Calls Tryd.prog 16 #[.pointer none, .int .i64 0, .int .u64 0, .bool false] v14 fun e w' => e = .returned (.bool true) ∧ CS w w' [K f [] 0 false, K e0 [] 0 false, K g l 1024 true] := takes_nil hS.out 0
      go_at_call 16
      refine hc.mono ?_
      rintro e v15 ⟨rfl, h1⟩
      clear hS hc; have hS := Lib.hid h1; clear h1
      go_wp2_with fail
      have hc : Calls Tryd.prog 16 #[.pointer none, .int .i64 1, .int .u64 0, .bool false] v15 fun e w' => e = .returned (.bool true) ∧ CS w w' [K f [] 0 false, K e0 [] 0 false, K g l 1024 true] := takes_nil hS.out 1
      go_at_call 16
      refine hc.mono ?_
      rintro e v16 ⟨rfl, h1⟩
      clear hS hc; have hS := Lib.hid h1; clear h1
      go_wp2_with fail
      have hc : Calls Tryd.prog 17 #[.pointer none] v16 fun e w' => e = .returned (.int .i64 0) ∧ CS w w' [K f [] 0 false, K e0 [] 0 false, K g l 1024 true] := (at_nil _).mono fun e w' h => ⟨h.1, hS.out.below h.2⟩
      go_at_call 17
      refine hc.mono ?_
      rintro e v17 ⟨rfl, h1⟩
      clear hS hc; have hS := Lib.hid h1; clear h1
      go_wp2_with fail
      have hc : Calls Tryd.prog 19 #[.pointer none] v17 fun e w' => e = .returned (.int .i64 0) ∧ CS w w' [K f [] 0 false, K e0 [] 0 false, K g l 1024 true] := (left_nil _).mono fun e w' h => ⟨h.1, hS.out.below h.2⟩
      go_at_call 19
      refine hc.mono ?_
      rintro e v18 ⟨rfl, h1⟩
      clear hS hc; have hS := Lib.hid h1; clear h1
      go_wp2_with fail
      have hc : Calls Tryd.prog 20 #[.pointer none] v18 fun e w' => e = .returned (.string ⟨#[]⟩) ∧ CS w w' [K f [] 0 false, K e0 [] 0 false, K g l 1024 true] := (rest_nil _).mono fun e w' h => ⟨h.1, hS.out.below h.2⟩
      go_at_call 20
      refine hc.mono ?_
      rintro e v19 ⟨rfl, h1⟩
      clear hS hc; have hS := Lib.hid h1; clear h1
      go_wp2_with fail
      have hc : Calls Tryd.prog 18 #[.pointer none] v19 fun e w' => e = .returned (.bool false) ∧ CS w w' [K f [] 0 false, K e0 [] 0 false, K g l 1024 true] := (over_nil _).mono fun e w' h => ⟨h.1, hS.out.below h.2⟩
      go_at_call 18
      refine hc.mono ?_
      rintro e v20 ⟨rfl, h1⟩
      clear hS hc; have hS := Lib.hid h1; clear h1
      go_wp2_with fail
      have hc : Calls Tryd.prog 21 #[.pointer none] v20 fun e w' => e = .returned (.pointer none) ∧ CS w w' [K f [] 0 false, K e0 [] 0 false, K g l 1024 true] := (copy_nil _).mono fun e w' h => ⟨h.1, hS.out.below h.2⟩
      go_at_call 21
      refine hc.mono ?_
      rintro e v21 ⟨rfl, h1⟩
      clear hS hc; have hS := Lib.hid h1; clear h1
      go_wp2_with fail
      have hc : Calls Tryd.prog 16 #[.pointer (some ⟨f, 0, none⟩), .int .i64 0, .int .u64 0, .bool true] v21 fun e w' => e = .returned (.bool true) ∧ CS w w' [K f [] 0 false, K e0 [] 0 false, K g l 1024 true] := takes_n (l := []) (a := 0) (o := false) hS.out 0 rfl HBE.out (by decide) (Tk.good (k := 0) (by decide) (by decide) rfl)
      go_at_call 16
      refine hc.mono ?_
      rintro e v22 ⟨rfl, h1⟩
      clear hS hc; have hS := Lib.hid h1; clear h1
      go_wp2_with fail
      have hc : Calls Tryd.prog 16 #[.pointer (some ⟨f, 0, none⟩), .int .i64 1, .int .u64 0, .bool false] v22 fun e w' => e = .returned (.bool true) ∧ CS w w' [K f [] 0 true, K e0 [] 0 false, K g l 1024 true] := takes_n (l := []) (a := 0) (o := false) hS.out 0 rfl HBE.out (by decide) (Tk.over (by decide) (by decide) (by decide))
      go_at_call 16
      refine hc.mono ?_
      rintro e v23 ⟨rfl, h1⟩
      clear hS hc; have hS := Lib.hid h1; clear h1
      go_wp2_with fail
      go_at_call 18
      refine (over_s hS.out 0 rfl).mono ?_
      rintro e v24 ⟨rfl, h1⟩
      have h2 : CS w v24 [K f [] 0 true, K e0 [] 0 false, K g l 1024 true] := h1
      clear hS h1; have hS := Lib.hid h2; clear h2
      go_wp2
      go_ret
      exact ⟨rfl, hS.out.bl⟩
set_option maxRecDepth 100000 in
theorem lifted (os : Os) (started : os.Started) (H : Type) (enc : TypeId × Value → H) :
    ReturnsInHanded {} Tryd.checked os 4 .any (fun w args => (Rows.cursorNamesSpec.pre enc Tryd.prog Tryd.f4 Rows.cursorNamesRow.domain false w args ∧ laidMetH Tryd.prog Rows.cursorNamesRow.laid w) ∧ sizedMet enc Tryd.prog Tryd.f4 (OpenSpec.ofChange Rows.cursorNamesSpec) false w args) (Rows.cursorNamesSpec.post enc Tryd.prog Tryd.f4 false true false false) := by
  refine returnsInHanded_of_change_and (C := Tryd.checked) (X := fun w _ => laidMetH Tryd.prog Rows.cursorNamesRow.laid w) (fun _ _ _ hh h => h.of_heap hh) own started (by kernel_rfl) Tryd.func4
    (ChangeSpec.witness_shaped (enc := enc) (C := Tryd.checked) (os := os) (X := fun w _ => laidMetH Tryd.prog Rows.cursorNamesRow.laid w) false (World.laidAll Tryd.prog os Rows.cursorNamesRow.laid) #[] 8 (World.laidAll_os _ _ _)
      (World.shaped_of_ZipB (by kernel_rfl) (by kernel_rfl)) (by kernel_rfl) (by kernel_rfl) (by kernel_rfl)
      (by rw [MakeChecks.laidMetH_plain _ _ _ (by kernel_rfl)]; exact laidMet_laidAll _ (by kernel_rfl) (by kernel_rfl))) ?_
  intro W base args ds gs before hval0 hW hcnd _ _ _
  have hval : ∀ (j : Nat) t v, Tryd.f4.params[j]? = some t → args[j]? = some v → Value.okWide Tryd.prog W .any base t v := hval0
  have hW' := hW
  obtain ⟨p, q, hA0, hV, hpq, hfz, hnd⟩ := hW
  have hA : DataW.TrodAll enc Tryd.prog W 0 (fun _ => true) true Tryd.f4.params.toList args.toList ds p := hA0
  rw [Tryd.params4] at hA hval
  obtain ⟨hargs, rfl, rfl⟩ := trodAll_nil hA
  obtain rfl : args = #[] := by cases args; simp_all
  obtain ⟨rfl, rfl⟩ := trodVars_none hV
  refine (walk W ).mono fun e W' ⟨he, hb⟩ => ?_
  subst he
  exact ⟨_, rfl, Frame.close laidOut hW' rfl rfl rfl Tryd.underlying4 (fun t ht => by rw [Tryd.params4] at ht; cases ht) hb⟩
theorem over : Rows.cursorNamesRow.holds Tryd.pinned (OpenSpec.ofChange Rows.cursorNamesSpec) :=
  OpenClaim.holds_of_wide 4 Tryd.f4 rfl rfl rfl rfl rfl rfl rfl ⟨rfl, rfl, rfl, rfl, rfl⟩ rfl rfl rfl rfl rfl (by kernel_rfl) Tryd.func4 (by kernel_rfl)
    (of_decide_eq_true (by kernel_rfl)) (by unfold Func.isWrapper; first | (rw [if_pos (by decide +kernel)]; kernel_rfl) | (rw [if_neg (by decide +kernel)]; exact ⟨rfl, rfl⟩))
    (fun os started H enc _ => lifted os started H enc)
/-- the statement -/
theorem proved : Rows.CursorNamesCardSaid :=
  Claim7.holds_tied_plain_at .later [] _ _ _ _ over (fun _ h => by cases h) (by kernel_rfl) (fun _ h => by cases h) cursorNames_row_tie rfl ⟨rfl, rfl⟩ (by kernel_rfl) rfl
    (fun f fn hf hfn => by
      obtain rfl : f = 4 := Option.some.inj ((show Tryd.prog.funcNamed "tombola/tombolalaw08.CursorNames" = some 4 by kernel_rfl).symm.trans hf) |>.symm
      obtain rfl : fn = Tryd.f4 := (Option.some.inj (Tryd.func4.symm.trans hfn)).symm
      exact ⟨by kernel_rfl, (fun j t ht => by rw [Tryd.params4] at ht; cases ht)⟩)
    (by kernel_rfl)
#print axioms proved
end Go.Proofs.YtifobfbeddlglaaDoor.cursorNames
