/-
  PROVED: the statement CursorOver (tombolalaw08.CursorOver) about the landed commit: for every input the law returns true and leaves its arguments as they were. Conditions: none beyond those that the given row itself prints.
-/
import Derived.Test.YtifobfbeddlglaaDoorCards
import Derived.Test.YtifobfbeddlglaaDoorTie
import Derived.LaidMore
import Derived.Lay
import Derived.SevenTiedAt
import Derived.Stop.Joined
import Derived.Test.YtifobfbeddlglaaDoorRows
import Derived.WalkKit
import Derived.ProofKit
import Derived.OpenShut
import Derived.RowKit3
import Derived.Test.YtifobfbeddlglaaDoorGFrame
import Derived.Test.YtifobfbeddlglaaDoorCurAwake
import Derived.Test.YtifobfbeddlglaaDoorIntOpen
namespace Go.Proofs.YtifobfbeddlglaaDoor.cursorOver
open Go.ChangeShapes Go.WideShapes Go.ChangeAt Go.RowKit
set_option linter.unusedVariables false
set_option linter.unusedSimpArgs false
set_option maxRecDepth 20000
open N
theorem own : ownKnob Tryd.prog.godebug = none := by kernel_rfl

set_option maxRecDepth 100000 in
set_option maxHeartbeats 40000000 in
theorem walk (w : World) (b0 : List UInt8) (l0 : b0.length ≤ maxLen) (A1 : Option Addr) (n1 c1 : Nat) (xs1 : List Int) (h1 : Il w A1 n1 c1 xs1) :
    Calls Tryd.prog 7 #[.string ⟨b0.toArray⟩, .slice A1 n1 c1] w fun e w' => e = .returned (.bool true) ∧ Below w.heap.size w w' := by
  have hS := Lib.hid (CS.start w)
  by_cases g0 : 2000 < b0.length
  · go_enter Tryd.func7, Tryd.ntmps7
    go_wp2_with fail
    go_at_call 9
    refine (cawake_s hS.out).mono ?_
    rintro e v1 ⟨rfl, h1⟩
    have h2 : CS w v1 [] := h1
    clear hS h1; have hS := Lib.hid h2; clear h2
    go_wp2
    go_ret
    exact ⟨rfl, hS.out.bl⟩
  · have hl0 : b0.length ≤ 2000 := by omega
    clear g0
    by_cases g1 : 200 < n1
    · go_enter Tryd.func7, Tryd.ntmps7
      go_wp2_with fail
      go_at_call 9
      refine (cawake_s hS.out).mono ?_
      rintro e v1 ⟨rfl, h1⟩
      have h2 : CS w v1 [] := h1
      clear hS h1; have hS := Lib.hid h2; clear h2
      go_wp2
      go_ret
      exact ⟨rfl, hS.out.bl⟩
    · have HI := Lib.hid h1
      have HL0 := Lib.hid hl0
      clear h1
      by_cases h : isB b0 = true
      · have HB := Lib.hid h
        clear h
        have HLN := Lib.hid (isB_iff.1 HB.out).1
        go_enter Tryd.func7, Tryd.ntmps7
        go_wp2_with fail
        go_at_call 9
        refine (cawake_s hS.out).mono ?_
        rintro e v1 ⟨rfl, h1⟩
        have h2 : CS w v1 [] := h1
        clear hS h1; have hS := Lib.hid h2; clear h2
        go_wp2_with fail
        go_at_call 10
        refine (new_s hS.out HB.out).mono ?_
        rintro e v2 ⟨g, rfl, h1⟩
        have h2 : CS w v2 [K g b0 0 false] := h1
        clear hS h1; have hS := Lib.hid h2; clear h2
        go_wp2_with fail
        go_loopw [7, 8] (fun ov i wr => ∃ (k a : Nat) (o : Bool), k ≤ n1 ∧ a ≤ b0.length ∧ ov = .bool o ∧ i = .int .i64 k ∧ CS w wr [K g b0 a o]) (fun _ i _ => n1 - (intOf i).toNat)
        case atStart => exact ⟨0, 0, false, by omega, by omega, rfl, rfl, hS.out⟩
        case round =>
          obtain ⟨k, a, o, hk, ha, rfl, rfl, hS0⟩ := hrel
          clear hS
          have hS := Lib.hid hS0
          clear hS0
          have HA := Lib.hid ha
          by_cases hlt : k < n1
          · obtain ⟨ad, z, rfl, hz, wz, hcell⟩ := (HI.out.below hS.out.bl).one hlt
            have HE := Lib.hid (fun (W : World) (hb : Below w.heap.size w W) => (HI.out.below hb).the hlt hz)
            clear hz wz
            have HLT := Lib.hid hlt
            obtain ⟨lf, hlf⟩ : ∃ x, (b0.length : Int) - (a : Int) = x := ⟨_, rfl⟩
            have HLF := Lib.hid hlf
            by_cases ho : o = true
            · subst ho
              by_cases q1 : z < 0
              · have d1 : decide (0 ≤ z) = false := by simp; omega
                have HK := Lib.hid (Tk.bad (l := b0) (a := a) (o := true) (n := z) (.inl rfl))
                have HA2 := Lib.hid (show a ≤ b0.length by have := HA.out; omega)
                obtain ⟨r0, hr0⟩ : ∃ r, b0.drop a = r := ⟨_, rfl⟩
                have HRS := Lib.hid (fun (W : World) (hq : CuOk W g b0 a true) => (by have h := rest_any hq (by have := HLN.out; omega) HA2.out; rwa [hr0] at h : Calls Tryd.prog 20 #[.pointer (some ⟨g, 0, none⟩)] W fun e w' => e = .returned (.string ⟨r0.toArray⟩) ∧ Below W.heap.size W w'))
                have HEX := Lib.hid (show (⟨b0.toArray⟩ : ByteArray).extract a b0.length = ⟨r0.toArray⟩ by
                  rw [← hr0]; apply ByteArray.ext; simp; exact List.take_of_length_le (by simp))
                clear hr0
                have HWL := Lib.hid (show IntKind.i64.wrap (((a : Nat) : Int) + ((b0.length : Int) - ((a : Nat) : Int))) = (b0.length : Int) by have := HLN.out; rw [IntKind.wrap_i64]; omega)
                go_wp2_with fail
                go_at_call 17
                refine (at_s hS.out 0 rfl).mono ?_
                rintro e v3 ⟨rfl, h1⟩
                have h2 : CS w v3 [K g b0 a true] := h1
                clear hS h1; have hS := Lib.hid h2; clear h2
                clear hcell
                have hcell := HE.out _ hS.out.bl
                go_wp2_with fail
                go_at_call 19
                refine (left_s hS.out 0 rfl HB.out HA.out).mono ?_
                rintro e v4 ⟨rfl, h1⟩
                have h2 : CS w v4 [K g b0 a true] := h1
                clear hS h1; have hS := Lib.hid h2; clear h2
                clear hcell
                have hcell := HE.out _ hS.out.bl
                go_wp2_with fail
                go_at_call 12
                refine (take_n hS.out 0 rfl HB.out HA.out HK.out).mono ?_
                rintro e v5 ⟨rfl, h1⟩
                have h2 : CS w v5 [K g b0 a true] := h1
                clear hS h1; have hS := Lib.hid h2; clear h2
                clear hcell
                have hcell := HE.out _ hS.out.bl
                go_wp2_with fail
                refine RV.wp_region_g (by kernel_rfl) [91, 92, 93, 94, 95, 96, 97, 98, 99, 100, 101, 102, 103, 104, 105, 106, 107, 108, 109, 110, 111, 112, 113, 114, 115, 116, 117, 118, 119, 120, 121, 122, 123, 124, 125, 126, 127, 128, 129, 130, 131, 132, 133, 134, 135, 136, 137, 138, 139, 140, 141, 142, 143, 144, 145, 146, 147, 148, 149, 150, 151, 152, 153, 154, 155, 156, 157, 158] [.bool false, .bool false, .bool false, .bool false, .bool false, .bool true, .bool true, .int .u64 0, .bool false, .bool false, .pointer (some ⟨g, 0, none⟩), .int .i64 ((a : Nat)), .int .i64 (a : Nat), .bool false, .bool false, .bool false, .bool false, .bool false, .bool false, .bool false, undef, undef, undef, undef, undef, undef, undef, undef, undef, .bool false, .bool false, .bool false, .pointer (some ⟨g, 0, none⟩), .bool true, .bool true, .bool false, .bool false, .bool false, .pointer (some ⟨g, 0, none⟩), .int .i64 ((a : Nat)), .pointer (some ⟨g, 0, none⟩), .int .i64 ((b0.length : Int) - ((a : Nat) : Int)), .int .i64 (b0.length : Nat), .string ⟨(b0).toArray⟩, .int .i64 (b0.length : Nat), .bool false, .bool false, .bool false, .pointer (some ⟨g, 0, none⟩), .int .i64 ((a : Nat)), .bool false, .bool false, .bool false, .pointer (some ⟨g, 0, none⟩), .int .i64 ((a : Nat)), .string ⟨(b0).toArray⟩, .int .i64 (b0.length : Nat), .bool false, .bool false, .bool false, .pointer (some ⟨g, 0, none⟩), .string ⟨(r0).toArray⟩, .string ⟨(b0).toArray⟩, .pointer (some ⟨g, 0, none⟩), .int .i64 ((a : Nat)), .string ⟨(r0).toArray⟩, .bool false, .bool false] (fun W => CS w W [K g b0 a true]) (by kernel_rfl) rfl (by decide) rfl (by kernel_rfl) (hS.out.drew) ?_ ?_
                · intro ii hii fa fw fr hp hG
                  match ii, hii with
                  | 0, _ =>
                    have p13 : fa.eval (.tmp 13) = .bool false := (fr.out 13 (by decide)).trans rfl
                    simp only [Act.eval] at p13
                    refine ⟨_, _, rfl, rfl, .inl ⟨RV.wanted_none rfl, .inl ⟨fw, ?_, hG⟩⟩⟩
                    simp only [execOp, Act.eval]
                    go_simp
                    all_goals first | omega | (intro hh; omega) | (rw [IntKind.wrap_i64]; omega)
                  | 1, _ =>
                    have p14 : fa.eval (.tmp 14) = .bool false := (fr.out 14 (by decide)).trans rfl
                    simp only [Act.eval] at p14
                    refine ⟨_, _, rfl, rfl, .inl ⟨RV.wanted_none rfl, .inl ⟨fw, ?_, hG⟩⟩⟩
                    simp only [execOp, Act.eval]
                    go_simp
                    all_goals first | omega | (intro hh; omega) | (rw [IntKind.wrap_i64]; omega)
                  | 2, _ =>
                    have p91 : fa.eval (.tmp 91) = .bool false := hp 0 91 _ (by kernel_rfl) rfl rfl
                    have p92 : fa.eval (.tmp 92) = .bool false := hp 1 92 _ (by kernel_rfl) rfl rfl
                    simp only [Act.eval] at p91 p92
                    refine ⟨_, _, rfl, rfl, .inl ⟨RV.wanted_none rfl, .inl ⟨fw, ?_, hG⟩⟩⟩
                    simp only [execOp, Act.eval]
                    go_simp
                    all_goals first | omega | (intro hh; omega) | (rw [IntKind.wrap_i64]; omega)
                  | 3, _ =>
                    have p93 : fa.eval (.tmp 93) = .bool false := hp 2 93 _ (by kernel_rfl) rfl rfl
                    simp only [Act.eval] at p93
                    refine ⟨_, _, rfl, rfl, .inl ⟨RV.wanted_none rfl, .inl ⟨fw, ?_, hG⟩⟩⟩
                    simp only [execOp, Act.eval]
                    go_simp
                    all_goals first | omega | (intro hh; omega) | (rw [IntKind.wrap_i64]; omega)
                  | 4, _ =>
                    have p13 : fa.eval (.tmp 13) = .bool false := (fr.out 13 (by decide)).trans rfl
                    simp only [Act.eval] at p13
                    refine ⟨_, _, rfl, rfl, .inl ⟨RV.wanted_at (d := 94) rfl fr (by rfl) (hp 3 94 _ (by kernel_rfl) rfl rfl) rfl, .inl ⟨fw, ?_, hG⟩⟩⟩
                    simp only [execOp, Act.eval]
                    go_simp
                    all_goals first | omega | (intro hh; omega) | (rw [IntKind.wrap_i64]; omega)
                  | 5, _ =>
                    have p95 : fa.eval (.tmp 95) = .bool false := hp 4 95 _ (by kernel_rfl) rfl rfl
                    simp only [Act.eval] at p95
                    refine ⟨_, _, rfl, rfl, .inl ⟨RV.wanted_at (d := 94) rfl fr (by rfl) (hp 3 94 _ (by kernel_rfl) rfl rfl) rfl, .inl ⟨fw, ?_, hG⟩⟩⟩
                    simp only [execOp, Act.eval]
                    go_simp
                    all_goals first | omega | (intro hh; omega) | (rw [IntKind.wrap_i64]; omega)
                  | 6, _ =>
                    have p96 : fa.eval (.tmp 96) = .bool true := hp 5 96 _ (by kernel_rfl) rfl rfl
                    simp only [Act.eval] at p96
                    refine ⟨_, _, rfl, rfl, .inl ⟨RV.wanted_at (d := 94) rfl fr (by rfl) (hp 3 94 _ (by kernel_rfl) rfl rfl) rfl, .inl ⟨fw, ?_, hG⟩⟩⟩
                    simp only [execOp, Act.eval]
                    go_simp
                    all_goals first | omega | (intro hh; omega) | (rw [IntKind.wrap_i64]; omega)
                  | 7, _ =>
                    have p12 : fa.eval (.tmp 12) = .int .u64 0 := (fr.out 12 (by decide)).trans rfl
                    simp only [Act.eval] at p12
                    refine ⟨_, _, rfl, rfl, .inl ⟨RV.wanted_at (d := 97) rfl fr (by rfl) (hp 6 97 _ (by kernel_rfl) rfl rfl) rfl, .inl ⟨fw, ?_, hG⟩⟩⟩
                    simp only [execOp, Act.eval]
                    go_simp
                    all_goals first | omega | (intro hh; omega) | (rw [IntKind.wrap_i64]; omega)
                  | 8, _ =>
                    have p98 : fa.eval (.tmp 98) = .int .u64 0 := hp 7 98 _ (by kernel_rfl) rfl rfl
                    simp only [Act.eval] at p98
                    refine ⟨_, _, rfl, rfl, .inl ⟨RV.wanted_at (d := 97) rfl fr (by rfl) (hp 6 97 _ (by kernel_rfl) rfl rfl) rfl, .inl ⟨fw, ?_, hG⟩⟩⟩
                    simp only [execOp, Act.eval]
                    go_simp
                    all_goals first | omega | (intro hh; omega) | (rw [IntKind.wrap_i64]; omega)
                  | 9, _ =>
                    have p99 : fa.eval (.tmp 99) = .bool false := hp 8 99 _ (by kernel_rfl) rfl rfl
                    simp only [Act.eval] at p99
                    refine ⟨_, _, rfl, rfl, .inl ⟨RV.wanted_at (d := 97) rfl fr (by rfl) (hp 6 97 _ (by kernel_rfl) rfl rfl) rfl, .inl ⟨fw, ?_, hG⟩⟩⟩
                    simp only [execOp, Act.eval]
                    go_simp
                    all_goals first | omega | (intro hh; omega) | (rw [IntKind.wrap_i64]; omega)
                  | 10, _ =>
                    have p5 : fa.eval (.tmp 5) = .pointer (some ⟨g, 0, none⟩) := (fr.out 5 (by decide)).trans rfl
                    simp only [Act.eval] at p5
                    refine ⟨_, _, rfl, rfl, .inl ⟨RV.wanted_at (d := 100) rfl fr (by rfl) (hp 9 100 _ (by kernel_rfl) rfl rfl) rfl, .inl ⟨fw, ?_, hG⟩⟩⟩
                    simp only [execOp, Act.eval]
                    go_simp
                    all_goals first | omega | (intro hh; omega) | (rw [IntKind.wrap_i64]; omega)
                  | 11, _ =>
                    have p101 : fa.eval (.tmp 101) = .pointer (some ⟨g, 0, none⟩) := hp 10 101 _ (by kernel_rfl) rfl rfl
                    have hv : (#[Operand.tmp 101] : Array Operand).map fa.eval = #[(.pointer (some ⟨g, 0, none⟩))] := by simp only [List.map_toArray, List.map_cons, List.map_nil, p101]
                    exact ⟨_, _, rfl, rfl, .inl ⟨RV.wanted_at (d := 100) rfl fr (by rfl) (hp 9 100 _ (by kernel_rfl) rfl rfl) rfl, RV.yields_call_g hv Tryd.func17 (by kernel_rfl) rfl (at_any (hG.get 0 rfl)) (fun e w2 h => ⟨h.1, hG.below h.2⟩)⟩⟩
                  | 12, _ =>
                    have p9 : fa.eval (.tmp 9) = .int .i64 (a : Nat) := (fr.out 9 (by decide)).trans rfl
                    simp only [Act.eval] at p9
                    refine ⟨_, _, rfl, rfl, .inl ⟨RV.wanted_at (d := 100) rfl fr (by rfl) (hp 9 100 _ (by kernel_rfl) rfl rfl) rfl, .inl ⟨fw, ?_, hG⟩⟩⟩
                    simp only [execOp, Act.eval]
                    go_simp
                    all_goals first | omega | (intro hh; omega) | (rw [IntKind.wrap_i64]; omega)
                  | 13, _ =>
                    have p102 : fa.eval (.tmp 102) = .int .i64 ((a : Nat)) := hp 11 102 _ (by kernel_rfl) rfl rfl
                    have p103 : fa.eval (.tmp 103) = .int .i64 (a : Nat) := hp 12 103 _ (by kernel_rfl) rfl rfl
                    simp only [Act.eval] at p102 p103
                    refine ⟨_, _, rfl, rfl, .inl ⟨RV.wanted_at (d := 100) rfl fr (by rfl) (hp 9 100 _ (by kernel_rfl) rfl rfl) rfl, .inl ⟨fw, ?_, hG⟩⟩⟩
                    simp only [execOp, Act.eval]
                    go_simp
                    all_goals first | omega | (intro hh; omega) | (rw [IntKind.wrap_i64]; omega)
                  | 14, _ =>
                    have p100 : fa.eval (.tmp 100) = .bool false := hp 9 100 _ (by kernel_rfl) rfl rfl
                    have p104 : fa.eval (.tmp 104) = .bool false := hp 13 104 _ (by kernel_rfl) rfl rfl
                    simp only [Act.eval] at p100 p104
                    refine ⟨_, _, rfl, rfl, .inl ⟨RV.wanted_at (d := 97) rfl fr (by rfl) (hp 6 97 _ (by kernel_rfl) rfl rfl) rfl, .inl ⟨fw, ?_, hG⟩⟩⟩
                    simp only [execOp, Act.eval]
                    go_simp
                    all_goals first | omega | (intro hh; omega) | (rw [IntKind.wrap_i64]; omega)
                  | 15, _ =>
                    have p97 : fa.eval (.tmp 97) = .bool true := hp 6 97 _ (by kernel_rfl) rfl rfl
                    have p105 : fa.eval (.tmp 105) = .bool false := hp 14 105 _ (by kernel_rfl) rfl rfl
                    simp only [Act.eval] at p97 p105
                    refine ⟨_, _, rfl, rfl, .inl ⟨RV.wanted_at (d := 94) rfl fr (by rfl) (hp 3 94 _ (by kernel_rfl) rfl rfl) rfl, .inl ⟨fw, ?_, hG⟩⟩⟩
                    simp only [execOp, Act.eval]
                    go_simp
                    all_goals first | omega | (intro hh; omega) | (rw [IntKind.wrap_i64]; omega)
                  | 16, _ =>
                    have p94 : fa.eval (.tmp 94) = .bool false := hp 3 94 _ (by kernel_rfl) rfl rfl
                    have p106 : fa.eval (.tmp 106) = .bool false := hp 15 106 _ (by kernel_rfl) rfl rfl
                    simp only [Act.eval] at p94 p106
                    refine ⟨_, _, rfl, rfl, .inl ⟨RV.wanted_none rfl, .inl ⟨fw, ?_, hG⟩⟩⟩
                    simp only [execOp, Act.eval]
                    go_simp
                    all_goals first | omega | (intro hh; omega) | (rw [IntKind.wrap_i64]; omega)
                  | 17, _ =>
                    have p107 : fa.eval (.tmp 107) = .bool false := hp 16 107 _ (by kernel_rfl) rfl rfl
                    simp only [Act.eval] at p107
                    refine ⟨_, _, rfl, rfl, .inl ⟨RV.wanted_none rfl, .inl ⟨fw, ?_, hG⟩⟩⟩
                    simp only [execOp, Act.eval]
                    go_simp
                    all_goals first | omega | (intro hh; omega) | (rw [IntKind.wrap_i64]; omega)
                  | 18, _ =>
                    have p13 : fa.eval (.tmp 13) = .bool false := (fr.out 13 (by decide)).trans rfl
                    simp only [Act.eval] at p13
                    refine ⟨_, _, rfl, rfl, .inl ⟨RV.wanted_at (d := 108) rfl fr (by rfl) (hp 17 108 _ (by kernel_rfl) rfl rfl) rfl, .inl ⟨fw, ?_, hG⟩⟩⟩
                    simp only [execOp, Act.eval]
                    go_simp
                    all_goals first | omega | (intro hh; omega) | (rw [IntKind.wrap_i64]; omega)
                  | 19, _ =>
                    have p109 : fa.eval (.tmp 109) = .bool false := hp 18 109 _ (by kernel_rfl) rfl rfl
                    simp only [Act.eval] at p109
                    refine ⟨_, _, rfl, rfl, .inl ⟨RV.wanted_at (d := 108) rfl fr (by rfl) (hp 17 108 _ (by kernel_rfl) rfl rfl) rfl, .inl ⟨fw, ?_, hG⟩⟩⟩
                    simp only [execOp, Act.eval]
                    go_simp
                    all_goals first | omega | (intro hh; omega) | (rw [IntKind.wrap_i64]; omega)
                  | 20, _ =>
                    exact ⟨_, _, rfl, rfl, .inr ⟨RV.wanted_no (d := 110) rfl fr (by rfl) (hp 19 110 _ (by kernel_rfl) rfl rfl) (.inl rfl) rfl, rfl⟩⟩
                  | 21, _ =>
                    exact ⟨_, _, rfl, rfl, .inr ⟨RV.wanted_no (d := 110) rfl fr (by rfl) (hp 19 110 _ (by kernel_rfl) rfl rfl) (.inl rfl) rfl, rfl⟩⟩
                  | 22, _ =>
                    exact ⟨_, _, rfl, rfl, .inr ⟨RV.wanted_no (d := 110) rfl fr (by rfl) (hp 19 110 _ (by kernel_rfl) rfl rfl) (.inl rfl) rfl, rfl⟩⟩
                  | 23, _ =>
                    exact ⟨_, _, rfl, rfl, .inr ⟨RV.wanted_no (d := 110) rfl fr (by rfl) (hp 19 110 _ (by kernel_rfl) rfl rfl) (.inl rfl) rfl, rfl⟩⟩
                  | 24, _ =>
                    exact ⟨_, _, rfl, rfl, .inr ⟨RV.wanted_no (d := 110) rfl fr (by rfl) (hp 19 110 _ (by kernel_rfl) rfl rfl) (.inl rfl) rfl, rfl⟩⟩
                  | 25, _ =>
                    exact ⟨_, _, rfl, rfl, .inr ⟨RV.wanted_no (d := 110) rfl fr (by rfl) (hp 19 110 _ (by kernel_rfl) rfl rfl) (.inl rfl) rfl, rfl⟩⟩
                  | 26, _ =>
                    exact ⟨_, _, rfl, rfl, .inr ⟨RV.wanted_no (d := 110) rfl fr (by rfl) (hp 19 110 _ (by kernel_rfl) rfl rfl) (.inl rfl) rfl, rfl⟩⟩
                  | 27, _ =>
                    exact ⟨_, _, rfl, rfl, .inr ⟨RV.wanted_no (d := 110) rfl fr (by rfl) (hp 19 110 _ (by kernel_rfl) rfl rfl) (.inl rfl) rfl, rfl⟩⟩
                  | 28, _ =>
                    exact ⟨_, _, rfl, rfl, .inr ⟨RV.wanted_no (d := 110) rfl fr (by rfl) (hp 19 110 _ (by kernel_rfl) rfl rfl) (.inl rfl) rfl, rfl⟩⟩
                  | 29, _ =>
                    have p110 : fa.eval (.tmp 110) = .bool false := hp 19 110 _ (by kernel_rfl) rfl rfl
                    have p119 : fa.eval (.tmp 119) = undef := hp 28 119 _ (by kernel_rfl) rfl rfl
                    simp only [Act.eval] at p110 p119
                    refine ⟨_, _, rfl, rfl, .inl ⟨RV.wanted_at (d := 108) rfl fr (by rfl) (hp 17 108 _ (by kernel_rfl) rfl rfl) rfl, .inl ⟨fw, ?_, hG⟩⟩⟩
                    simp only [execOp, Act.eval]
                    go_simp
                    all_goals first | omega | (intro hh; omega) | (rw [IntKind.wrap_i64]; omega)
                  | 30, _ =>
                    have p108 : fa.eval (.tmp 108) = .bool false := hp 17 108 _ (by kernel_rfl) rfl rfl
                    have p120 : fa.eval (.tmp 120) = .bool false := hp 29 120 _ (by kernel_rfl) rfl rfl
                    simp only [Act.eval] at p108 p120
                    refine ⟨_, _, rfl, rfl, .inl ⟨RV.wanted_none rfl, .inl ⟨fw, ?_, hG⟩⟩⟩
                    simp only [execOp, Act.eval]
                    go_simp
                    all_goals first | omega | (intro hh; omega) | (rw [IntKind.wrap_i64]; omega)
                  | 31, _ =>
                    have p121 : fa.eval (.tmp 121) = .bool false := hp 30 121 _ (by kernel_rfl) rfl rfl
                    simp only [Act.eval] at p121
                    refine ⟨_, _, rfl, rfl, .inl ⟨RV.wanted_none rfl, .inl ⟨fw, ?_, hG⟩⟩⟩
                    simp only [execOp, Act.eval]
                    go_simp
                    all_goals first | omega | (intro hh; omega) | (rw [IntKind.wrap_i64]; omega)
                  | 32, _ =>
                    have p5 : fa.eval (.tmp 5) = .pointer (some ⟨g, 0, none⟩) := (fr.out 5 (by decide)).trans rfl
                    simp only [Act.eval] at p5
                    refine ⟨_, _, rfl, rfl, .inl ⟨RV.wanted_at (d := 122) rfl fr (by rfl) (hp 31 122 _ (by kernel_rfl) rfl rfl) rfl, .inl ⟨fw, ?_, hG⟩⟩⟩
                    simp only [execOp, Act.eval]
                    go_simp
                    all_goals first | omega | (intro hh; omega) | (rw [IntKind.wrap_i64]; omega)
                  | 33, _ =>
                    have p123 : fa.eval (.tmp 123) = .pointer (some ⟨g, 0, none⟩) := hp 32 123 _ (by kernel_rfl) rfl rfl
                    have hv : (#[Operand.tmp 123] : Array Operand).map fa.eval = #[(.pointer (some ⟨g, 0, none⟩))] := by simp only [List.map_toArray, List.map_cons, List.map_nil, p123]
                    exact ⟨_, _, rfl, rfl, .inl ⟨RV.wanted_at (d := 122) rfl fr (by rfl) (hp 31 122 _ (by kernel_rfl) rfl rfl) rfl, RV.yields_call_g hv Tryd.func18 (by kernel_rfl) rfl (over_any (hG.get 0 rfl)) (fun e w2 h => ⟨h.1, hG.below h.2⟩)⟩⟩
                  | 34, _ =>
                    have p7 : fa.eval (.tmp 7) = .bool true := (fr.out 7 (by decide)).trans rfl
                    simp only [Act.eval] at p7
                    refine ⟨_, _, rfl, rfl, .inl ⟨RV.wanted_at (d := 122) rfl fr (by rfl) (hp 31 122 _ (by kernel_rfl) rfl rfl) rfl, .inl ⟨fw, ?_, hG⟩⟩⟩
                    simp only [execOp, Act.eval]
                    go_simp
                    all_goals first | omega | (intro hh; omega) | (rw [IntKind.wrap_i64]; omega)
                  | 35, _ =>
                    have p124 : fa.eval (.tmp 124) = .bool true := hp 33 124 _ (by kernel_rfl) rfl rfl
                    have p125 : fa.eval (.tmp 125) = .bool true := hp 34 125 _ (by kernel_rfl) rfl rfl
                    simp only [Act.eval] at p124 p125
                    refine ⟨_, _, rfl, rfl, .inl ⟨RV.wanted_at (d := 122) rfl fr (by rfl) (hp 31 122 _ (by kernel_rfl) rfl rfl) rfl, .inl ⟨fw, ?_, hG⟩⟩⟩
                    simp only [execOp, Act.eval]
                    go_simp
                    all_goals first | omega | (intro hh; omega) | (rw [IntKind.wrap_i64]; omega)
                  | 36, _ =>
                    have p122 : fa.eval (.tmp 122) = .bool false := hp 31 122 _ (by kernel_rfl) rfl rfl
                    have p126 : fa.eval (.tmp 126) = .bool false := hp 35 126 _ (by kernel_rfl) rfl rfl
                    simp only [Act.eval] at p122 p126
                    refine ⟨_, _, rfl, rfl, .inl ⟨RV.wanted_none rfl, .inl ⟨fw, ?_, hG⟩⟩⟩
                    simp only [execOp, Act.eval]
                    go_simp
                    all_goals first | omega | (intro hh; omega) | (rw [IntKind.wrap_i64]; omega)
                  | 37, _ =>
                    have p127 : fa.eval (.tmp 127) = .bool false := hp 36 127 _ (by kernel_rfl) rfl rfl
                    simp only [Act.eval] at p127
                    refine ⟨_, _, rfl, rfl, .inl ⟨RV.wanted_none rfl, .inl ⟨fw, ?_, hG⟩⟩⟩
                    simp only [execOp, Act.eval]
                    go_simp
                    all_goals first | omega | (intro hh; omega) | (rw [IntKind.wrap_i64]; omega)
                  | 38, _ =>
                    have p5 : fa.eval (.tmp 5) = .pointer (some ⟨g, 0, none⟩) := (fr.out 5 (by decide)).trans rfl
                    simp only [Act.eval] at p5
                    refine ⟨_, _, rfl, rfl, .inl ⟨RV.wanted_at (d := 128) rfl fr (by rfl) (hp 37 128 _ (by kernel_rfl) rfl rfl) rfl, .inl ⟨fw, ?_, hG⟩⟩⟩
                    simp only [execOp, Act.eval]
                    go_simp
                    all_goals first | omega | (intro hh; omega) | (rw [IntKind.wrap_i64]; omega)
                  | 39, _ =>
                    have p129 : fa.eval (.tmp 129) = .pointer (some ⟨g, 0, none⟩) := hp 38 129 _ (by kernel_rfl) rfl rfl
                    have hv : (#[Operand.tmp 129] : Array Operand).map fa.eval = #[(.pointer (some ⟨g, 0, none⟩))] := by simp only [List.map_toArray, List.map_cons, List.map_nil, p129]
                    exact ⟨_, _, rfl, rfl, .inl ⟨RV.wanted_at (d := 128) rfl fr (by rfl) (hp 37 128 _ (by kernel_rfl) rfl rfl) rfl, RV.yields_call_g hv Tryd.func17 (by kernel_rfl) rfl (at_any (hG.get 0 rfl)) (fun e w2 h => ⟨h.1, hG.below h.2⟩)⟩⟩
                  | 40, _ =>
                    have p5 : fa.eval (.tmp 5) = .pointer (some ⟨g, 0, none⟩) := (fr.out 5 (by decide)).trans rfl
                    simp only [Act.eval] at p5
                    refine ⟨_, _, rfl, rfl, .inl ⟨RV.wanted_at (d := 128) rfl fr (by rfl) (hp 37 128 _ (by kernel_rfl) rfl rfl) rfl, .inl ⟨fw, ?_, hG⟩⟩⟩
                    simp only [execOp, Act.eval]
                    go_simp
                    all_goals first | omega | (intro hh; omega) | (rw [IntKind.wrap_i64]; omega)
                  | 41, _ =>
                    have p131 : fa.eval (.tmp 131) = .pointer (some ⟨g, 0, none⟩) := hp 40 131 _ (by kernel_rfl) rfl rfl
                    have hv : (#[Operand.tmp 131] : Array Operand).map fa.eval = #[(.pointer (some ⟨g, 0, none⟩))] := by simp only [List.map_toArray, List.map_cons, List.map_nil, p131]
                    exact ⟨_, _, rfl, rfl, .inl ⟨RV.wanted_at (d := 128) rfl fr (by rfl) (hp 37 128 _ (by kernel_rfl) rfl rfl) rfl, RV.yields_call_g hv Tryd.func19 (by kernel_rfl) rfl (left_any (hG.get 0 rfl) (by have := HLN.out; unfold maxLen; omega) HA2.out) (fun e w2 h => ⟨h.1, hG.below h.2⟩)⟩⟩
                  | 42, _ =>
                    have p130 : fa.eval (.tmp 130) = .int .i64 ((a : Nat)) := hp 39 130 _ (by kernel_rfl) rfl rfl
                    have p132 : fa.eval (.tmp 132) = .int .i64 ((b0.length : Int) - ((a : Nat) : Int)) := hp 41 132 _ (by kernel_rfl) rfl rfl
                    simp only [Act.eval] at p130 p132
                    have hwl := HWL.out
                    refine ⟨_, _, rfl, rfl, .inl ⟨RV.wanted_at (d := 128) rfl fr (by rfl) (hp 37 128 _ (by kernel_rfl) rfl rfl) rfl, .inl ⟨fw, ?_, hG⟩⟩⟩
                    simp only [execOp, Act.eval]
                    go_simp
                    all_goals first | omega | (intro hh; omega) | (rw [IntKind.wrap_i64]; omega)
                  | 43, _ =>
                    have p0 : fa.eval (.tmp 0) = .string ⟨(b0).toArray⟩ := (fr.out 0 (by decide)).trans rfl
                    simp only [Act.eval] at p0
                    refine ⟨_, _, rfl, rfl, .inl ⟨RV.wanted_at (d := 128) rfl fr (by rfl) (hp 37 128 _ (by kernel_rfl) rfl rfl) rfl, .inl ⟨fw, ?_, hG⟩⟩⟩
                    simp only [execOp, Act.eval]
                    go_simp
                    all_goals first | omega | (intro hh; omega) | (rw [IntKind.wrap_i64]; omega)
                  | 44, _ =>
                    have p134 : fa.eval (.tmp 134) = .string ⟨(b0).toArray⟩ := hp 43 134 _ (by kernel_rfl) rfl rfl
                    simp only [Act.eval] at p134
                    refine ⟨_, _, rfl, rfl, .inl ⟨RV.wanted_at (d := 128) rfl fr (by rfl) (hp 37 128 _ (by kernel_rfl) rfl rfl) rfl, .inl ⟨fw, ?_, hG⟩⟩⟩
                    simp only [execOp, Act.eval]
                    go_simp
                    all_goals first | omega | (intro hh; omega) | (rw [IntKind.wrap_i64]; omega)
                  | 45, _ =>
                    have p133 : fa.eval (.tmp 133) = .int .i64 (b0.length : Nat) := hp 42 133 _ (by kernel_rfl) rfl rfl
                    have p135 : fa.eval (.tmp 135) = .int .i64 (b0.length : Nat) := hp 44 135 _ (by kernel_rfl) rfl rfl
                    simp only [Act.eval] at p133 p135
                    refine ⟨_, _, rfl, rfl, .inl ⟨RV.wanted_at (d := 128) rfl fr (by rfl) (hp 37 128 _ (by kernel_rfl) rfl rfl) rfl, .inl ⟨fw, ?_, hG⟩⟩⟩
                    simp only [execOp, Act.eval]
                    go_simp
                    all_goals first | omega | (intro hh; omega) | (rw [IntKind.wrap_i64]; omega)
                  | 46, _ =>
                    have p128 : fa.eval (.tmp 128) = .bool false := hp 37 128 _ (by kernel_rfl) rfl rfl
                    have p136 : fa.eval (.tmp 136) = .bool false := hp 45 136 _ (by kernel_rfl) rfl rfl
                    simp only [Act.eval] at p128 p136
                    refine ⟨_, _, rfl, rfl, .inl ⟨RV.wanted_none rfl, .inl ⟨fw, ?_, hG⟩⟩⟩
                    simp only [execOp, Act.eval]
                    go_simp
                    all_goals first | omega | (intro hh; omega) | (rw [IntKind.wrap_i64]; omega)
                  | 47, _ =>
                    have p137 : fa.eval (.tmp 137) = .bool false := hp 46 137 _ (by kernel_rfl) rfl rfl
                    simp only [Act.eval] at p137
                    refine ⟨_, _, rfl, rfl, .inl ⟨RV.wanted_none rfl, .inl ⟨fw, ?_, hG⟩⟩⟩
                    simp only [execOp, Act.eval]
                    go_simp
                    all_goals first | omega | (intro hh; omega) | (rw [IntKind.wrap_i64]; omega)
                  | 48, _ =>
                    have p5 : fa.eval (.tmp 5) = .pointer (some ⟨g, 0, none⟩) := (fr.out 5 (by decide)).trans rfl
                    simp only [Act.eval] at p5
                    refine ⟨_, _, rfl, rfl, .inl ⟨RV.wanted_at (d := 138) rfl fr (by rfl) (hp 47 138 _ (by kernel_rfl) rfl rfl) rfl, .inl ⟨fw, ?_, hG⟩⟩⟩
                    simp only [execOp, Act.eval]
                    go_simp
                    all_goals first | omega | (intro hh; omega) | (rw [IntKind.wrap_i64]; omega)
                  | 49, _ =>
                    have p139 : fa.eval (.tmp 139) = .pointer (some ⟨g, 0, none⟩) := hp 48 139 _ (by kernel_rfl) rfl rfl
                    have hv : (#[Operand.tmp 139] : Array Operand).map fa.eval = #[(.pointer (some ⟨g, 0, none⟩))] := by simp only [List.map_toArray, List.map_cons, List.map_nil, p139]
                    exact ⟨_, _, rfl, rfl, .inl ⟨RV.wanted_at (d := 138) rfl fr (by rfl) (hp 47 138 _ (by kernel_rfl) rfl rfl) rfl, RV.yields_call_g hv Tryd.func17 (by kernel_rfl) rfl (at_any (hG.get 0 rfl)) (fun e w2 h => ⟨h.1, hG.below h.2⟩)⟩⟩
                  | 50, _ =>
                    have p140 : fa.eval (.tmp 140) = .int .i64 ((a : Nat)) := hp 49 140 _ (by kernel_rfl) rfl rfl
                    simp only [Act.eval] at p140
                    refine ⟨_, _, rfl, rfl, .inl ⟨RV.wanted_at (d := 138) rfl fr (by rfl) (hp 47 138 _ (by kernel_rfl) rfl rfl) rfl, .inl ⟨fw, ?_, hG⟩⟩⟩
                    simp only [execOp, Act.eval]
                    go_simp
                    all_goals (first | done | omega | (simp; omega))
                  | 51, _ =>
                    have p138 : fa.eval (.tmp 138) = .bool false := hp 47 138 _ (by kernel_rfl) rfl rfl
                    have p141 : fa.eval (.tmp 141) = .bool false := hp 50 141 _ (by kernel_rfl) rfl rfl
                    simp only [Act.eval] at p138 p141
                    refine ⟨_, _, rfl, rfl, .inl ⟨RV.wanted_none rfl, .inl ⟨fw, ?_, hG⟩⟩⟩
                    simp only [execOp, Act.eval]
                    go_simp
                    all_goals first | omega | (intro hh; omega) | (rw [IntKind.wrap_i64]; omega)
                  | 52, _ =>
                    have p142 : fa.eval (.tmp 142) = .bool false := hp 51 142 _ (by kernel_rfl) rfl rfl
                    simp only [Act.eval] at p142
                    refine ⟨_, _, rfl, rfl, .inl ⟨RV.wanted_none rfl, .inl ⟨fw, ?_, hG⟩⟩⟩
                    simp only [execOp, Act.eval]
                    go_simp
                    all_goals first | omega | (intro hh; omega) | (rw [IntKind.wrap_i64]; omega)
                  | 53, _ =>
                    have p5 : fa.eval (.tmp 5) = .pointer (some ⟨g, 0, none⟩) := (fr.out 5 (by decide)).trans rfl
                    simp only [Act.eval] at p5
                    refine ⟨_, _, rfl, rfl, .inl ⟨RV.wanted_at (d := 143) rfl fr (by rfl) (hp 52 143 _ (by kernel_rfl) rfl rfl) rfl, .inl ⟨fw, ?_, hG⟩⟩⟩
                    simp only [execOp, Act.eval]
                    go_simp
                    all_goals first | omega | (intro hh; omega) | (rw [IntKind.wrap_i64]; omega)
                  | 54, _ =>
                    have p144 : fa.eval (.tmp 144) = .pointer (some ⟨g, 0, none⟩) := hp 53 144 _ (by kernel_rfl) rfl rfl
                    have hv : (#[Operand.tmp 144] : Array Operand).map fa.eval = #[(.pointer (some ⟨g, 0, none⟩))] := by simp only [List.map_toArray, List.map_cons, List.map_nil, p144]
                    exact ⟨_, _, rfl, rfl, .inl ⟨RV.wanted_at (d := 143) rfl fr (by rfl) (hp 52 143 _ (by kernel_rfl) rfl rfl) rfl, RV.yields_call_g hv Tryd.func17 (by kernel_rfl) rfl (at_any (hG.get 0 rfl)) (fun e w2 h => ⟨h.1, hG.below h.2⟩)⟩⟩
                  | 55, _ =>
                    have p0 : fa.eval (.tmp 0) = .string ⟨(b0).toArray⟩ := (fr.out 0 (by decide)).trans rfl
                    simp only [Act.eval] at p0
                    refine ⟨_, _, rfl, rfl, .inl ⟨RV.wanted_at (d := 143) rfl fr (by rfl) (hp 52 143 _ (by kernel_rfl) rfl rfl) rfl, .inl ⟨fw, ?_, hG⟩⟩⟩
                    simp only [execOp, Act.eval]
                    go_simp
                    all_goals first | omega | (intro hh; omega) | (rw [IntKind.wrap_i64]; omega)
                  | 56, _ =>
                    have p146 : fa.eval (.tmp 146) = .string ⟨(b0).toArray⟩ := hp 55 146 _ (by kernel_rfl) rfl rfl
                    simp only [Act.eval] at p146
                    refine ⟨_, _, rfl, rfl, .inl ⟨RV.wanted_at (d := 143) rfl fr (by rfl) (hp 52 143 _ (by kernel_rfl) rfl rfl) rfl, .inl ⟨fw, ?_, hG⟩⟩⟩
                    simp only [execOp, Act.eval]
                    go_simp
                    all_goals first | omega | (intro hh; omega) | (rw [IntKind.wrap_i64]; omega)
                  | 57, _ =>
                    have p145 : fa.eval (.tmp 145) = .int .i64 ((a : Nat)) := hp 54 145 _ (by kernel_rfl) rfl rfl
                    have p147 : fa.eval (.tmp 147) = .int .i64 (b0.length : Nat) := hp 56 147 _ (by kernel_rfl) rfl rfl
                    simp only [Act.eval] at p145 p147
                    have hal := HA2.out
                    refine ⟨_, _, rfl, rfl, .inl ⟨RV.wanted_at (d := 143) rfl fr (by rfl) (hp 52 143 _ (by kernel_rfl) rfl rfl) rfl, .inl ⟨fw, ?_, hG⟩⟩⟩
                    simp only [execOp, Act.eval]
                    go_simp
                    all_goals (first | done | omega | (simp; omega))
                  | 58, _ =>
                    have p143 : fa.eval (.tmp 143) = .bool false := hp 52 143 _ (by kernel_rfl) rfl rfl
                    have p148 : fa.eval (.tmp 148) = .bool false := hp 57 148 _ (by kernel_rfl) rfl rfl
                    simp only [Act.eval] at p143 p148
                    refine ⟨_, _, rfl, rfl, .inl ⟨RV.wanted_none rfl, .inl ⟨fw, ?_, hG⟩⟩⟩
                    simp only [execOp, Act.eval]
                    go_simp
                    all_goals first | omega | (intro hh; omega) | (rw [IntKind.wrap_i64]; omega)
                  | 59, _ =>
                    have p149 : fa.eval (.tmp 149) = .bool false := hp 58 149 _ (by kernel_rfl) rfl rfl
                    simp only [Act.eval] at p149
                    refine ⟨_, _, rfl, rfl, .inl ⟨RV.wanted_none rfl, .inl ⟨fw, ?_, hG⟩⟩⟩
                    simp only [execOp, Act.eval]
                    go_simp
                    all_goals first | omega | (intro hh; omega) | (rw [IntKind.wrap_i64]; omega)
                  | 60, _ =>
                    have p5 : fa.eval (.tmp 5) = .pointer (some ⟨g, 0, none⟩) := (fr.out 5 (by decide)).trans rfl
                    simp only [Act.eval] at p5
                    refine ⟨_, _, rfl, rfl, .inl ⟨RV.wanted_at (d := 150) rfl fr (by rfl) (hp 59 150 _ (by kernel_rfl) rfl rfl) rfl, .inl ⟨fw, ?_, hG⟩⟩⟩
                    simp only [execOp, Act.eval]
                    go_simp
                    all_goals first | omega | (intro hh; omega) | (rw [IntKind.wrap_i64]; omega)
                  | 61, _ =>
                    have p151 : fa.eval (.tmp 151) = .pointer (some ⟨g, 0, none⟩) := hp 60 151 _ (by kernel_rfl) rfl rfl
                    have hv : (#[Operand.tmp 151] : Array Operand).map fa.eval = #[(.pointer (some ⟨g, 0, none⟩))] := by simp only [List.map_toArray, List.map_cons, List.map_nil, p151]
                    exact ⟨_, _, rfl, rfl, .inl ⟨RV.wanted_at (d := 150) rfl fr (by rfl) (hp 59 150 _ (by kernel_rfl) rfl rfl) rfl, RV.yields_call_g hv Tryd.func20 (by kernel_rfl) rfl (HRS.out _ (hG.get 0 rfl)) (fun e w2 h => ⟨h.1, hG.below h.2⟩)⟩⟩
                  | 62, _ =>
                    have p0 : fa.eval (.tmp 0) = .string ⟨(b0).toArray⟩ := (fr.out 0 (by decide)).trans rfl
                    simp only [Act.eval] at p0
                    refine ⟨_, _, rfl, rfl, .inl ⟨RV.wanted_at (d := 150) rfl fr (by rfl) (hp 59 150 _ (by kernel_rfl) rfl rfl) rfl, .inl ⟨fw, ?_, hG⟩⟩⟩
                    simp only [execOp, Act.eval]
                    go_simp
                    all_goals first | omega | (intro hh; omega) | (rw [IntKind.wrap_i64]; omega)
                  | 63, _ =>
                    have p5 : fa.eval (.tmp 5) = .pointer (some ⟨g, 0, none⟩) := (fr.out 5 (by decide)).trans rfl
                    simp only [Act.eval] at p5
                    refine ⟨_, _, rfl, rfl, .inl ⟨RV.wanted_at (d := 150) rfl fr (by rfl) (hp 59 150 _ (by kernel_rfl) rfl rfl) rfl, .inl ⟨fw, ?_, hG⟩⟩⟩
                    simp only [execOp, Act.eval]
                    go_simp
                    all_goals first | omega | (intro hh; omega) | (rw [IntKind.wrap_i64]; omega)
                  | 64, _ =>
                    have p154 : fa.eval (.tmp 154) = .pointer (some ⟨g, 0, none⟩) := hp 63 154 _ (by kernel_rfl) rfl rfl
                    have hv : (#[Operand.tmp 154] : Array Operand).map fa.eval = #[(.pointer (some ⟨g, 0, none⟩))] := by simp only [List.map_toArray, List.map_cons, List.map_nil, p154]
                    exact ⟨_, _, rfl, rfl, .inl ⟨RV.wanted_at (d := 150) rfl fr (by rfl) (hp 59 150 _ (by kernel_rfl) rfl rfl) rfl, RV.yields_call_g hv Tryd.func17 (by kernel_rfl) rfl (at_any (hG.get 0 rfl)) (fun e w2 h => ⟨h.1, hG.below h.2⟩)⟩⟩
                  | 65, _ =>
                    have p153 : fa.eval (.tmp 153) = .string ⟨(b0).toArray⟩ := hp 62 153 _ (by kernel_rfl) rfl rfl
                    have p155 : fa.eval (.tmp 155) = .int .i64 ((a : Nat)) := hp 64 155 _ (by kernel_rfl) rfl rfl
                    simp only [Act.eval] at p153 p155
                    have hex := HEX.out
                    have hal := HA2.out
                    refine ⟨_, _, rfl, rfl, .inl ⟨RV.wanted_at (d := 150) rfl fr (by rfl) (hp 59 150 _ (by kernel_rfl) rfl rfl) rfl, .inl ⟨fw, ?_, hG⟩⟩⟩
                    simp only [execOp, Act.eval]
                    go_simp
                    all_goals first | omega | (intro hh; omega) | (rw [IntKind.wrap_i64]; omega)
                  | 66, _ =>
                    have p152 : fa.eval (.tmp 152) = .string ⟨(r0).toArray⟩ := hp 61 152 _ (by kernel_rfl) rfl rfl
                    have p156 : fa.eval (.tmp 156) = .string ⟨(r0).toArray⟩ := hp 65 156 _ (by kernel_rfl) rfl rfl
                    simp only [Act.eval] at p152 p156
                    refine ⟨_, _, rfl, rfl, .inl ⟨RV.wanted_at (d := 150) rfl fr (by rfl) (hp 59 150 _ (by kernel_rfl) rfl rfl) rfl, .inl ⟨fw, ?_, hG⟩⟩⟩
                    simp only [execOp, Act.eval]
                    go_simp
                    all_goals first | omega | (intro hh; omega) | (rw [IntKind.wrap_i64]; omega)
                  | 67, _ =>
                    have p150 : fa.eval (.tmp 150) = .bool false := hp 59 150 _ (by kernel_rfl) rfl rfl
                    have p157 : fa.eval (.tmp 157) = .bool false := hp 66 157 _ (by kernel_rfl) rfl rfl
                    simp only [Act.eval] at p150 p157
                    refine ⟨_, _, rfl, rfl, .inl ⟨RV.wanted_none rfl, .inl ⟨fw, ?_, hG⟩⟩⟩
                    simp only [execOp, Act.eval]
                    go_simp
                    all_goals first | omega | (intro hh; omega) | (rw [IntKind.wrap_i64]; omega)
                  | i + 68, hi => exact absurd hi (by show ¬ (i + 68 < 68); omega)
                · intro w2 hG
                  simp only [RV.putAll, List.zip_cons_cons, List.zip_nil_left, List.zip_nil_right, List.foldl_cons, List.foldl_nil, Act.put, List.setIfInBounds_toArray, List.set_cons_zero, List.set_cons_succ]
                  go_wp2
                  go_roundw
                  case rel => exact ⟨k + 1, a, true, by omega, HA2.out, rfl, by go_num, hG⟩
                  case measure => simp [intOf]; omega
              · by_cases q2 : 64 < z
                · have d1 : decide (0 ≤ z) = true := by simp; omega
                  have d2 : decide (z ≤ 64) = false := by simp; omega
                  have HK := Lib.hid (Tk.bad (l := b0) (a := a) (o := true) (n := z) (.inl rfl))
                  have HA2 := Lib.hid (show a ≤ b0.length by have := HA.out; omega)
                  obtain ⟨r0, hr0⟩ : ∃ r, b0.drop a = r := ⟨_, rfl⟩
                  have HRS := Lib.hid (fun (W : World) (hq : CuOk W g b0 a true) => (by have h := rest_any hq (by have := HLN.out; omega) HA2.out; rwa [hr0] at h : Calls Tryd.prog 20 #[.pointer (some ⟨g, 0, none⟩)] W fun e w' => e = .returned (.string ⟨r0.toArray⟩) ∧ Below W.heap.size W w'))
                  have HEX := Lib.hid (show (⟨b0.toArray⟩ : ByteArray).extract a b0.length = ⟨r0.toArray⟩ by
                    rw [← hr0]; apply ByteArray.ext; simp; exact List.take_of_length_le (by simp))
                  clear hr0
                  have HWL := Lib.hid (show IntKind.i64.wrap (((a : Nat) : Int) + ((b0.length : Int) - ((a : Nat) : Int))) = (b0.length : Int) by have := HLN.out; rw [IntKind.wrap_i64]; omega)
                  go_wp2_with fail
                  go_at_call 17
                  refine (at_s hS.out 0 rfl).mono ?_
                  rintro e v3 ⟨rfl, h1⟩
                  have h2 : CS w v3 [K g b0 a true] := h1
                  clear hS h1; have hS := Lib.hid h2; clear h2
                  clear hcell
                  have hcell := HE.out _ hS.out.bl
                  go_wp2_with fail
                  go_at_call 19
                  refine (left_s hS.out 0 rfl HB.out HA.out).mono ?_
                  rintro e v4 ⟨rfl, h1⟩
                  have h2 : CS w v4 [K g b0 a true] := h1
                  clear hS h1; have hS := Lib.hid h2; clear h2
                  clear hcell
                  have hcell := HE.out _ hS.out.bl
                  go_wp2_with fail
                  go_at_call 12
                  refine (take_n hS.out 0 rfl HB.out HA.out HK.out).mono ?_
                  rintro e v5 ⟨rfl, h1⟩
                  have h2 : CS w v5 [K g b0 a true] := h1
                  clear hS h1; have hS := Lib.hid h2; clear h2
                  clear hcell
                  have hcell := HE.out _ hS.out.bl
                  go_wp2_with fail
                  refine RV.wp_region_g (by kernel_rfl) [91, 92, 93, 94, 95, 96, 97, 98, 99, 100, 101, 102, 103, 104, 105, 106, 107, 108, 109, 110, 111, 112, 113, 114, 115, 116, 117, 118, 119, 120, 121, 122, 123, 124, 125, 126, 127, 128, 129, 130, 131, 132, 133, 134, 135, 136, 137, 138, 139, 140, 141, 142, 143, 144, 145, 146, 147, 148, 149, 150, 151, 152, 153, 154, 155, 156, 157, 158] [.bool false, .bool false, .bool false, .bool false, .bool false, .bool true, .bool true, .int .u64 0, .bool false, .bool false, .pointer (some ⟨g, 0, none⟩), .int .i64 ((a : Nat)), .int .i64 (a : Nat), .bool false, .bool false, .bool false, .bool false, .bool false, .bool false, .bool false, undef, undef, undef, undef, undef, undef, undef, undef, undef, .bool false, .bool false, .bool false, .pointer (some ⟨g, 0, none⟩), .bool true, .bool true, .bool false, .bool false, .bool false, .pointer (some ⟨g, 0, none⟩), .int .i64 ((a : Nat)), .pointer (some ⟨g, 0, none⟩), .int .i64 ((b0.length : Int) - ((a : Nat) : Int)), .int .i64 (b0.length : Nat), .string ⟨(b0).toArray⟩, .int .i64 (b0.length : Nat), .bool false, .bool false, .bool false, .pointer (some ⟨g, 0, none⟩), .int .i64 ((a : Nat)), .bool false, .bool false, .bool false, .pointer (some ⟨g, 0, none⟩), .int .i64 ((a : Nat)), .string ⟨(b0).toArray⟩, .int .i64 (b0.length : Nat), .bool false, .bool false, .bool false, .pointer (some ⟨g, 0, none⟩), .string ⟨(r0).toArray⟩, .string ⟨(b0).toArray⟩, .pointer (some ⟨g, 0, none⟩), .int .i64 ((a : Nat)), .string ⟨(r0).toArray⟩, .bool false, .bool false] (fun W => CS w W [K g b0 a true]) (by kernel_rfl) rfl (by decide) rfl (by kernel_rfl) (hS.out.drew) ?_ ?_
                  · intro ii hii fa fw fr hp hG
                    match ii, hii with
                    | 0, _ =>
                      have p13 : fa.eval (.tmp 13) = .bool false := (fr.out 13 (by decide)).trans rfl
                      simp only [Act.eval] at p13
                      refine ⟨_, _, rfl, rfl, .inl ⟨RV.wanted_none rfl, .inl ⟨fw, ?_, hG⟩⟩⟩
                      simp only [execOp, Act.eval]
                      go_simp
                      all_goals first | omega | (intro hh; omega) | (rw [IntKind.wrap_i64]; omega)
                    | 1, _ =>
                      have p14 : fa.eval (.tmp 14) = .bool false := (fr.out 14 (by decide)).trans rfl
                      simp only [Act.eval] at p14
                      refine ⟨_, _, rfl, rfl, .inl ⟨RV.wanted_none rfl, .inl ⟨fw, ?_, hG⟩⟩⟩
                      simp only [execOp, Act.eval]
                      go_simp
                      all_goals first | omega | (intro hh; omega) | (rw [IntKind.wrap_i64]; omega)
                    | 2, _ =>
                      have p91 : fa.eval (.tmp 91) = .bool false := hp 0 91 _ (by kernel_rfl) rfl rfl
                      have p92 : fa.eval (.tmp 92) = .bool false := hp 1 92 _ (by kernel_rfl) rfl rfl
                      simp only [Act.eval] at p91 p92
                      refine ⟨_, _, rfl, rfl, .inl ⟨RV.wanted_none rfl, .inl ⟨fw, ?_, hG⟩⟩⟩
                      simp only [execOp, Act.eval]
                      go_simp
                      all_goals first | omega | (intro hh; omega) | (rw [IntKind.wrap_i64]; omega)
                    | 3, _ =>
                      have p93 : fa.eval (.tmp 93) = .bool false := hp 2 93 _ (by kernel_rfl) rfl rfl
                      simp only [Act.eval] at p93
                      refine ⟨_, _, rfl, rfl, .inl ⟨RV.wanted_none rfl, .inl ⟨fw, ?_, hG⟩⟩⟩
                      simp only [execOp, Act.eval]
                      go_simp
                      all_goals first | omega | (intro hh; omega) | (rw [IntKind.wrap_i64]; omega)
                    | 4, _ =>
                      have p13 : fa.eval (.tmp 13) = .bool false := (fr.out 13 (by decide)).trans rfl
                      simp only [Act.eval] at p13
                      refine ⟨_, _, rfl, rfl, .inl ⟨RV.wanted_at (d := 94) rfl fr (by rfl) (hp 3 94 _ (by kernel_rfl) rfl rfl) rfl, .inl ⟨fw, ?_, hG⟩⟩⟩
                      simp only [execOp, Act.eval]
                      go_simp
                      all_goals first | omega | (intro hh; omega) | (rw [IntKind.wrap_i64]; omega)
                    | 5, _ =>
                      have p95 : fa.eval (.tmp 95) = .bool false := hp 4 95 _ (by kernel_rfl) rfl rfl
                      simp only [Act.eval] at p95
                      refine ⟨_, _, rfl, rfl, .inl ⟨RV.wanted_at (d := 94) rfl fr (by rfl) (hp 3 94 _ (by kernel_rfl) rfl rfl) rfl, .inl ⟨fw, ?_, hG⟩⟩⟩
                      simp only [execOp, Act.eval]
                      go_simp
                      all_goals first | omega | (intro hh; omega) | (rw [IntKind.wrap_i64]; omega)
                    | 6, _ =>
                      have p96 : fa.eval (.tmp 96) = .bool true := hp 5 96 _ (by kernel_rfl) rfl rfl
                      simp only [Act.eval] at p96
                      refine ⟨_, _, rfl, rfl, .inl ⟨RV.wanted_at (d := 94) rfl fr (by rfl) (hp 3 94 _ (by kernel_rfl) rfl rfl) rfl, .inl ⟨fw, ?_, hG⟩⟩⟩
                      simp only [execOp, Act.eval]
                      go_simp
                      all_goals first | omega | (intro hh; omega) | (rw [IntKind.wrap_i64]; omega)
                    | 7, _ =>
                      have p12 : fa.eval (.tmp 12) = .int .u64 0 := (fr.out 12 (by decide)).trans rfl
                      simp only [Act.eval] at p12
                      refine ⟨_, _, rfl, rfl, .inl ⟨RV.wanted_at (d := 97) rfl fr (by rfl) (hp 6 97 _ (by kernel_rfl) rfl rfl) rfl, .inl ⟨fw, ?_, hG⟩⟩⟩
                      simp only [execOp, Act.eval]
                      go_simp
                      all_goals first | omega | (intro hh; omega) | (rw [IntKind.wrap_i64]; omega)
                    | 8, _ =>
                      have p98 : fa.eval (.tmp 98) = .int .u64 0 := hp 7 98 _ (by kernel_rfl) rfl rfl
                      simp only [Act.eval] at p98
                      refine ⟨_, _, rfl, rfl, .inl ⟨RV.wanted_at (d := 97) rfl fr (by rfl) (hp 6 97 _ (by kernel_rfl) rfl rfl) rfl, .inl ⟨fw, ?_, hG⟩⟩⟩
                      simp only [execOp, Act.eval]
                      go_simp
                      all_goals first | omega | (intro hh; omega) | (rw [IntKind.wrap_i64]; omega)
                    | 9, _ =>
                      have p99 : fa.eval (.tmp 99) = .bool false := hp 8 99 _ (by kernel_rfl) rfl rfl
                      simp only [Act.eval] at p99
                      refine ⟨_, _, rfl, rfl, .inl ⟨RV.wanted_at (d := 97) rfl fr (by rfl) (hp 6 97 _ (by kernel_rfl) rfl rfl) rfl, .inl ⟨fw, ?_, hG⟩⟩⟩
                      simp only [execOp, Act.eval]
                      go_simp
                      all_goals first | omega | (intro hh; omega) | (rw [IntKind.wrap_i64]; omega)
                    | 10, _ =>
                      have p5 : fa.eval (.tmp 5) = .pointer (some ⟨g, 0, none⟩) := (fr.out 5 (by decide)).trans rfl
                      simp only [Act.eval] at p5
                      refine ⟨_, _, rfl, rfl, .inl ⟨RV.wanted_at (d := 100) rfl fr (by rfl) (hp 9 100 _ (by kernel_rfl) rfl rfl) rfl, .inl ⟨fw, ?_, hG⟩⟩⟩
                      simp only [execOp, Act.eval]
                      go_simp
                      all_goals first | omega | (intro hh; omega) | (rw [IntKind.wrap_i64]; omega)
                    | 11, _ =>
                      have p101 : fa.eval (.tmp 101) = .pointer (some ⟨g, 0, none⟩) := hp 10 101 _ (by kernel_rfl) rfl rfl
                      have hv : (#[Operand.tmp 101] : Array Operand).map fa.eval = #[(.pointer (some ⟨g, 0, none⟩))] := by simp only [List.map_toArray, List.map_cons, List.map_nil, p101]
                      exact ⟨_, _, rfl, rfl, .inl ⟨RV.wanted_at (d := 100) rfl fr (by rfl) (hp 9 100 _ (by kernel_rfl) rfl rfl) rfl, RV.yields_call_g hv Tryd.func17 (by kernel_rfl) rfl (at_any (hG.get 0 rfl)) (fun e w2 h => ⟨h.1, hG.below h.2⟩)⟩⟩
                    | 12, _ =>
                      have p9 : fa.eval (.tmp 9) = .int .i64 (a : Nat) := (fr.out 9 (by decide)).trans rfl
                      simp only [Act.eval] at p9
                      refine ⟨_, _, rfl, rfl, .inl ⟨RV.wanted_at (d := 100) rfl fr (by rfl) (hp 9 100 _ (by kernel_rfl) rfl rfl) rfl, .inl ⟨fw, ?_, hG⟩⟩⟩
                      simp only [execOp, Act.eval]
                      go_simp
                      all_goals first | omega | (intro hh; omega) | (rw [IntKind.wrap_i64]; omega)
                    | 13, _ =>
                      have p102 : fa.eval (.tmp 102) = .int .i64 ((a : Nat)) := hp 11 102 _ (by kernel_rfl) rfl rfl
                      have p103 : fa.eval (.tmp 103) = .int .i64 (a : Nat) := hp 12 103 _ (by kernel_rfl) rfl rfl
                      simp only [Act.eval] at p102 p103
                      refine ⟨_, _, rfl, rfl, .inl ⟨RV.wanted_at (d := 100) rfl fr (by rfl) (hp 9 100 _ (by kernel_rfl) rfl rfl) rfl, .inl ⟨fw, ?_, hG⟩⟩⟩
                      simp only [execOp, Act.eval]
                      go_simp
                      all_goals first | omega | (intro hh; omega) | (rw [IntKind.wrap_i64]; omega)
                    | 14, _ =>
                      have p100 : fa.eval (.tmp 100) = .bool false := hp 9 100 _ (by kernel_rfl) rfl rfl
                      have p104 : fa.eval (.tmp 104) = .bool false := hp 13 104 _ (by kernel_rfl) rfl rfl
                      simp only [Act.eval] at p100 p104
                      refine ⟨_, _, rfl, rfl, .inl ⟨RV.wanted_at (d := 97) rfl fr (by rfl) (hp 6 97 _ (by kernel_rfl) rfl rfl) rfl, .inl ⟨fw, ?_, hG⟩⟩⟩
                      simp only [execOp, Act.eval]
                      go_simp
                      all_goals first | omega | (intro hh; omega) | (rw [IntKind.wrap_i64]; omega)
                    | 15, _ =>
                      have p97 : fa.eval (.tmp 97) = .bool true := hp 6 97 _ (by kernel_rfl) rfl rfl
                      have p105 : fa.eval (.tmp 105) = .bool false := hp 14 105 _ (by kernel_rfl) rfl rfl
                      simp only [Act.eval] at p97 p105
                      refine ⟨_, _, rfl, rfl, .inl ⟨RV.wanted_at (d := 94) rfl fr (by rfl) (hp 3 94 _ (by kernel_rfl) rfl rfl) rfl, .inl ⟨fw, ?_, hG⟩⟩⟩
                      simp only [execOp, Act.eval]
                      go_simp
                      all_goals first | omega | (intro hh; omega) | (rw [IntKind.wrap_i64]; omega)
                    | 16, _ =>
                      have p94 : fa.eval (.tmp 94) = .bool false := hp 3 94 _ (by kernel_rfl) rfl rfl
                      have p106 : fa.eval (.tmp 106) = .bool false := hp 15 106 _ (by kernel_rfl) rfl rfl
                      simp only [Act.eval] at p94 p106
                      refine ⟨_, _, rfl, rfl, .inl ⟨RV.wanted_none rfl, .inl ⟨fw, ?_, hG⟩⟩⟩
                      simp only [execOp, Act.eval]
                      go_simp
                      all_goals first | omega | (intro hh; omega) | (rw [IntKind.wrap_i64]; omega)
                    | 17, _ =>
                      have p107 : fa.eval (.tmp 107) = .bool false := hp 16 107 _ (by kernel_rfl) rfl rfl
                      simp only [Act.eval] at p107
                      refine ⟨_, _, rfl, rfl, .inl ⟨RV.wanted_none rfl, .inl ⟨fw, ?_, hG⟩⟩⟩
                      simp only [execOp, Act.eval]
                      go_simp
                      all_goals first | omega | (intro hh; omega) | (rw [IntKind.wrap_i64]; omega)
                    | 18, _ =>
                      have p13 : fa.eval (.tmp 13) = .bool false := (fr.out 13 (by decide)).trans rfl
                      simp only [Act.eval] at p13
                      refine ⟨_, _, rfl, rfl, .inl ⟨RV.wanted_at (d := 108) rfl fr (by rfl) (hp 17 108 _ (by kernel_rfl) rfl rfl) rfl, .inl ⟨fw, ?_, hG⟩⟩⟩
                      simp only [execOp, Act.eval]
                      go_simp
                      all_goals first | omega | (intro hh; omega) | (rw [IntKind.wrap_i64]; omega)
                    | 19, _ =>
                      have p109 : fa.eval (.tmp 109) = .bool false := hp 18 109 _ (by kernel_rfl) rfl rfl
                      simp only [Act.eval] at p109
                      refine ⟨_, _, rfl, rfl, .inl ⟨RV.wanted_at (d := 108) rfl fr (by rfl) (hp 17 108 _ (by kernel_rfl) rfl rfl) rfl, .inl ⟨fw, ?_, hG⟩⟩⟩
                      simp only [execOp, Act.eval]
                      go_simp
                      all_goals first | omega | (intro hh; omega) | (rw [IntKind.wrap_i64]; omega)
                    | 20, _ =>
                      exact ⟨_, _, rfl, rfl, .inr ⟨RV.wanted_no (d := 110) rfl fr (by rfl) (hp 19 110 _ (by kernel_rfl) rfl rfl) (.inl rfl) rfl, rfl⟩⟩
                    | 21, _ =>
                      exact ⟨_, _, rfl, rfl, .inr ⟨RV.wanted_no (d := 110) rfl fr (by rfl) (hp 19 110 _ (by kernel_rfl) rfl rfl) (.inl rfl) rfl, rfl⟩⟩
                    | 22, _ =>
                      exact ⟨_, _, rfl, rfl, .inr ⟨RV.wanted_no (d := 110) rfl fr (by rfl) (hp 19 110 _ (by kernel_rfl) rfl rfl) (.inl rfl) rfl, rfl⟩⟩
                    | 23, _ =>
                      exact ⟨_, _, rfl, rfl, .inr ⟨RV.wanted_no (d := 110) rfl fr (by rfl) (hp 19 110 _ (by kernel_rfl) rfl rfl) (.inl rfl) rfl, rfl⟩⟩
                    | 24, _ =>
                      exact ⟨_, _, rfl, rfl, .inr ⟨RV.wanted_no (d := 110) rfl fr (by rfl) (hp 19 110 _ (by kernel_rfl) rfl rfl) (.inl rfl) rfl, rfl⟩⟩
                    | 25, _ =>
                      exact ⟨_, _, rfl, rfl, .inr ⟨RV.wanted_no (d := 110) rfl fr (by rfl) (hp 19 110 _ (by kernel_rfl) rfl rfl) (.inl rfl) rfl, rfl⟩⟩
                    | 26, _ =>
                      exact ⟨_, _, rfl, rfl, .inr ⟨RV.wanted_no (d := 110) rfl fr (by rfl) (hp 19 110 _ (by kernel_rfl) rfl rfl) (.inl rfl) rfl, rfl⟩⟩
                    | 27, _ =>
                      exact ⟨_, _, rfl, rfl, .inr ⟨RV.wanted_no (d := 110) rfl fr (by rfl) (hp 19 110 _ (by kernel_rfl) rfl rfl) (.inl rfl) rfl, rfl⟩⟩
                    | 28, _ =>
                      exact ⟨_, _, rfl, rfl, .inr ⟨RV.wanted_no (d := 110) rfl fr (by rfl) (hp 19 110 _ (by kernel_rfl) rfl rfl) (.inl rfl) rfl, rfl⟩⟩
                    | 29, _ =>
                      have p110 : fa.eval (.tmp 110) = .bool false := hp 19 110 _ (by kernel_rfl) rfl rfl
                      have p119 : fa.eval (.tmp 119) = undef := hp 28 119 _ (by kernel_rfl) rfl rfl
                      simp only [Act.eval] at p110 p119
                      refine ⟨_, _, rfl, rfl, .inl ⟨RV.wanted_at (d := 108) rfl fr (by rfl) (hp 17 108 _ (by kernel_rfl) rfl rfl) rfl, .inl ⟨fw, ?_, hG⟩⟩⟩
                      simp only [execOp, Act.eval]
                      go_simp
                      all_goals first | omega | (intro hh; omega) | (rw [IntKind.wrap_i64]; omega)
                    | 30, _ =>
                      have p108 : fa.eval (.tmp 108) = .bool false := hp 17 108 _ (by kernel_rfl) rfl rfl
                      have p120 : fa.eval (.tmp 120) = .bool false := hp 29 120 _ (by kernel_rfl) rfl rfl
                      simp only [Act.eval] at p108 p120
                      refine ⟨_, _, rfl, rfl, .inl ⟨RV.wanted_none rfl, .inl ⟨fw, ?_, hG⟩⟩⟩
                      simp only [execOp, Act.eval]
                      go_simp
                      all_goals first | omega | (intro hh; omega) | (rw [IntKind.wrap_i64]; omega)
                    | 31, _ =>
                      have p121 : fa.eval (.tmp 121) = .bool false := hp 30 121 _ (by kernel_rfl) rfl rfl
                      simp only [Act.eval] at p121
                      refine ⟨_, _, rfl, rfl, .inl ⟨RV.wanted_none rfl, .inl ⟨fw, ?_, hG⟩⟩⟩
                      simp only [execOp, Act.eval]
                      go_simp
                      all_goals first | omega | (intro hh; omega) | (rw [IntKind.wrap_i64]; omega)
                    | 32, _ =>
                      have p5 : fa.eval (.tmp 5) = .pointer (some ⟨g, 0, none⟩) := (fr.out 5 (by decide)).trans rfl
                      simp only [Act.eval] at p5
                      refine ⟨_, _, rfl, rfl, .inl ⟨RV.wanted_at (d := 122) rfl fr (by rfl) (hp 31 122 _ (by kernel_rfl) rfl rfl) rfl, .inl ⟨fw, ?_, hG⟩⟩⟩
                      simp only [execOp, Act.eval]
                      go_simp
                      all_goals first | omega | (intro hh; omega) | (rw [IntKind.wrap_i64]; omega)
                    | 33, _ =>
                      have p123 : fa.eval (.tmp 123) = .pointer (some ⟨g, 0, none⟩) := hp 32 123 _ (by kernel_rfl) rfl rfl
                      have hv : (#[Operand.tmp 123] : Array Operand).map fa.eval = #[(.pointer (some ⟨g, 0, none⟩))] := by simp only [List.map_toArray, List.map_cons, List.map_nil, p123]
                      exact ⟨_, _, rfl, rfl, .inl ⟨RV.wanted_at (d := 122) rfl fr (by rfl) (hp 31 122 _ (by kernel_rfl) rfl rfl) rfl, RV.yields_call_g hv Tryd.func18 (by kernel_rfl) rfl (over_any (hG.get 0 rfl)) (fun e w2 h => ⟨h.1, hG.below h.2⟩)⟩⟩
                    | 34, _ =>
                      have p7 : fa.eval (.tmp 7) = .bool true := (fr.out 7 (by decide)).trans rfl
                      simp only [Act.eval] at p7
                      refine ⟨_, _, rfl, rfl, .inl ⟨RV.wanted_at (d := 122) rfl fr (by rfl) (hp 31 122 _ (by kernel_rfl) rfl rfl) rfl, .inl ⟨fw, ?_, hG⟩⟩⟩
                      simp only [execOp, Act.eval]
                      go_simp
                      all_goals first | omega | (intro hh; omega) | (rw [IntKind.wrap_i64]; omega)
                    | 35, _ =>
                      have p124 : fa.eval (.tmp 124) = .bool true := hp 33 124 _ (by kernel_rfl) rfl rfl
                      have p125 : fa.eval (.tmp 125) = .bool true := hp 34 125 _ (by kernel_rfl) rfl rfl
                      simp only [Act.eval] at p124 p125
                      refine ⟨_, _, rfl, rfl, .inl ⟨RV.wanted_at (d := 122) rfl fr (by rfl) (hp 31 122 _ (by kernel_rfl) rfl rfl) rfl, .inl ⟨fw, ?_, hG⟩⟩⟩
                      simp only [execOp, Act.eval]
                      go_simp
                      all_goals first | omega | (intro hh; omega) | (rw [IntKind.wrap_i64]; omega)
                    | 36, _ =>
                      have p122 : fa.eval (.tmp 122) = .bool false := hp 31 122 _ (by kernel_rfl) rfl rfl
                      have p126 : fa.eval (.tmp 126) = .bool false := hp 35 126 _ (by kernel_rfl) rfl rfl
                      simp only [Act.eval] at p122 p126
                      refine ⟨_, _, rfl, rfl, .inl ⟨RV.wanted_none rfl, .inl ⟨fw, ?_, hG⟩⟩⟩
                      simp only [execOp, Act.eval]
                      go_simp
                      all_goals first | omega | (intro hh; omega) | (rw [IntKind.wrap_i64]; omega)
                    | 37, _ =>
                      have p127 : fa.eval (.tmp 127) = .bool false := hp 36 127 _ (by kernel_rfl) rfl rfl
                      simp only [Act.eval] at p127
                      refine ⟨_, _, rfl, rfl, .inl ⟨RV.wanted_none rfl, .inl ⟨fw, ?_, hG⟩⟩⟩
                      simp only [execOp, Act.eval]
                      go_simp
                      all_goals first | omega | (intro hh; omega) | (rw [IntKind.wrap_i64]; omega)
                    | 38, _ =>
                      have p5 : fa.eval (.tmp 5) = .pointer (some ⟨g, 0, none⟩) := (fr.out 5 (by decide)).trans rfl
                      simp only [Act.eval] at p5
                      refine ⟨_, _, rfl, rfl, .inl ⟨RV.wanted_at (d := 128) rfl fr (by rfl) (hp 37 128 _ (by kernel_rfl) rfl rfl) rfl, .inl ⟨fw, ?_, hG⟩⟩⟩
                      simp only [execOp, Act.eval]
                      go_simp
                      all_goals first | omega | (intro hh; omega) | (rw [IntKind.wrap_i64]; omega)
                    | 39, _ =>
                      have p129 : fa.eval (.tmp 129) = .pointer (some ⟨g, 0, none⟩) := hp 38 129 _ (by kernel_rfl) rfl rfl
                      have hv : (#[Operand.tmp 129] : Array Operand).map fa.eval = #[(.pointer (some ⟨g, 0, none⟩))] := by simp only [List.map_toArray, List.map_cons, List.map_nil, p129]
                      exact ⟨_, _, rfl, rfl, .inl ⟨RV.wanted_at (d := 128) rfl fr (by rfl) (hp 37 128 _ (by kernel_rfl) rfl rfl) rfl, RV.yields_call_g hv Tryd.func17 (by kernel_rfl) rfl (at_any (hG.get 0 rfl)) (fun e w2 h => ⟨h.1, hG.below h.2⟩)⟩⟩
                    | 40, _ =>
                      have p5 : fa.eval (.tmp 5) = .pointer (some ⟨g, 0, none⟩) := (fr.out 5 (by decide)).trans rfl
                      simp only [Act.eval] at p5
                      refine ⟨_, _, rfl, rfl, .inl ⟨RV.wanted_at (d := 128) rfl fr (by rfl) (hp 37 128 _ (by kernel_rfl) rfl rfl) rfl, .inl ⟨fw, ?_, hG⟩⟩⟩
                      simp only [execOp, Act.eval]
                      go_simp
                      all_goals first | omega | (intro hh; omega) | (rw [IntKind.wrap_i64]; omega)
                    | 41, _ =>
                      have p131 : fa.eval (.tmp 131) = .pointer (some ⟨g, 0, none⟩) := hp 40 131 _ (by kernel_rfl) rfl rfl
                      have hv : (#[Operand.tmp 131] : Array Operand).map fa.eval = #[(.pointer (some ⟨g, 0, none⟩))] := by simp only [List.map_toArray, List.map_cons, List.map_nil, p131]
                      exact ⟨_, _, rfl, rfl, .inl ⟨RV.wanted_at (d := 128) rfl fr (by rfl) (hp 37 128 _ (by kernel_rfl) rfl rfl) rfl, RV.yields_call_g hv Tryd.func19 (by kernel_rfl) rfl (left_any (hG.get 0 rfl) (by have := HLN.out; unfold maxLen; omega) HA2.out) (fun e w2 h => ⟨h.1, hG.below h.2⟩)⟩⟩
                    | 42, _ =>
                      have p130 : fa.eval (.tmp 130) = .int .i64 ((a : Nat)) := hp 39 130 _ (by kernel_rfl) rfl rfl
                      have p132 : fa.eval (.tmp 132) = .int .i64 ((b0.length : Int) - ((a : Nat) : Int)) := hp 41 132 _ (by kernel_rfl) rfl rfl
                      simp only [Act.eval] at p130 p132
                      have hwl := HWL.out
                      refine ⟨_, _, rfl, rfl, .inl ⟨RV.wanted_at (d := 128) rfl fr (by rfl) (hp 37 128 _ (by kernel_rfl) rfl rfl) rfl, .inl ⟨fw, ?_, hG⟩⟩⟩
                      simp only [execOp, Act.eval]
                      go_simp
                      all_goals first | omega | (intro hh; omega) | (rw [IntKind.wrap_i64]; omega)
                    | 43, _ =>
                      have p0 : fa.eval (.tmp 0) = .string ⟨(b0).toArray⟩ := (fr.out 0 (by decide)).trans rfl
                      simp only [Act.eval] at p0
                      refine ⟨_, _, rfl, rfl, .inl ⟨RV.wanted_at (d := 128) rfl fr (by rfl) (hp 37 128 _ (by kernel_rfl) rfl rfl) rfl, .inl ⟨fw, ?_, hG⟩⟩⟩
                      simp only [execOp, Act.eval]
                      go_simp
                      all_goals first | omega | (intro hh; omega) | (rw [IntKind.wrap_i64]; omega)
                    | 44, _ =>
                      have p134 : fa.eval (.tmp 134) = .string ⟨(b0).toArray⟩ := hp 43 134 _ (by kernel_rfl) rfl rfl
                      simp only [Act.eval] at p134
                      refine ⟨_, _, rfl, rfl, .inl ⟨RV.wanted_at (d := 128) rfl fr (by rfl) (hp 37 128 _ (by kernel_rfl) rfl rfl) rfl, .inl ⟨fw, ?_, hG⟩⟩⟩
                      simp only [execOp, Act.eval]
                      go_simp
                      all_goals first | omega | (intro hh; omega) | (rw [IntKind.wrap_i64]; omega)
                    | 45, _ =>
                      have p133 : fa.eval (.tmp 133) = .int .i64 (b0.length : Nat) := hp 42 133 _ (by kernel_rfl) rfl rfl
                      have p135 : fa.eval (.tmp 135) = .int .i64 (b0.length : Nat) := hp 44 135 _ (by kernel_rfl) rfl rfl
                      simp only [Act.eval] at p133 p135
                      refine ⟨_, _, rfl, rfl, .inl ⟨RV.wanted_at (d := 128) rfl fr (by rfl) (hp 37 128 _ (by kernel_rfl) rfl rfl) rfl, .inl ⟨fw, ?_, hG⟩⟩⟩
                      simp only [execOp, Act.eval]
                      go_simp
                      all_goals first | omega | (intro hh; omega) | (rw [IntKind.wrap_i64]; omega)
                    | 46, _ =>
                      have p128 : fa.eval (.tmp 128) = .bool false := hp 37 128 _ (by kernel_rfl) rfl rfl
                      have p136 : fa.eval (.tmp 136) = .bool false := hp 45 136 _ (by kernel_rfl) rfl rfl
                      simp only [Act.eval] at p128 p136
                      refine ⟨_, _, rfl, rfl, .inl ⟨RV.wanted_none rfl, .inl ⟨fw, ?_, hG⟩⟩⟩
                      simp only [execOp, Act.eval]
                      go_simp
                      all_goals first | omega | (intro hh; omega) | (rw [IntKind.wrap_i64]; omega)
                    | 47, _ =>
                      have p137 : fa.eval (.tmp 137) = .bool false := hp 46 137 _ (by kernel_rfl) rfl rfl
                      simp only [Act.eval] at p137
                      refine ⟨_, _, rfl, rfl, .inl ⟨RV.wanted_none rfl, .inl ⟨fw, ?_, hG⟩⟩⟩
                      simp only [execOp, Act.eval]
                      go_simp
                      all_goals first | omega | (intro hh; omega) | (rw [IntKind.wrap_i64]; omega)
                    | 48, _ =>
                      have p5 : fa.eval (.tmp 5) = .pointer (some ⟨g, 0, none⟩) := (fr.out 5 (by decide)).trans rfl
                      simp only [Act.eval] at p5
                      refine ⟨_, _, rfl, rfl, .inl ⟨RV.wanted_at (d := 138) rfl fr (by rfl) (hp 47 138 _ (by kernel_rfl) rfl rfl) rfl, .inl ⟨fw, ?_, hG⟩⟩⟩
                      simp only [execOp, Act.eval]
                      go_simp
                      all_goals first | omega | (intro hh; omega) | (rw [IntKind.wrap_i64]; omega)
                    | 49, _ =>
                      have p139 : fa.eval (.tmp 139) = .pointer (some ⟨g, 0, none⟩) := hp 48 139 _ (by kernel_rfl) rfl rfl
                      have hv : (#[Operand.tmp 139] : Array Operand).map fa.eval = #[(.pointer (some ⟨g, 0, none⟩))] := by simp only [List.map_toArray, List.map_cons, List.map_nil, p139]
                      exact ⟨_, _, rfl, rfl, .inl ⟨RV.wanted_at (d := 138) rfl fr (by rfl) (hp 47 138 _ (by kernel_rfl) rfl rfl) rfl, RV.yields_call_g hv Tryd.func17 (by kernel_rfl) rfl (at_any (hG.get 0 rfl)) (fun e w2 h => ⟨h.1, hG.below h.2⟩)⟩⟩
                    | 50, _ =>
                      have p140 : fa.eval (.tmp 140) = .int .i64 ((a : Nat)) := hp 49 140 _ (by kernel_rfl) rfl rfl
                      simp only [Act.eval] at p140
                      refine ⟨_, _, rfl, rfl, .inl ⟨RV.wanted_at (d := 138) rfl fr (by rfl) (hp 47 138 _ (by kernel_rfl) rfl rfl) rfl, .inl ⟨fw, ?_, hG⟩⟩⟩
                      simp only [execOp, Act.eval]
                      go_simp
                      all_goals (first | done | omega | (simp; omega))
                    | 51, _ =>
                      have p138 : fa.eval (.tmp 138) = .bool false := hp 47 138 _ (by kernel_rfl) rfl rfl
                      have p141 : fa.eval (.tmp 141) = .bool false := hp 50 141 _ (by kernel_rfl) rfl rfl
                      simp only [Act.eval] at p138 p141
                      refine ⟨_, _, rfl, rfl, .inl ⟨RV.wanted_none rfl, .inl ⟨fw, ?_, hG⟩⟩⟩
                      simp only [execOp, Act.eval]
                      go_simp
                      all_goals first | omega | (intro hh; omega) | (rw [IntKind.wrap_i64]; omega)
                    | 52, _ =>
                      have p142 : fa.eval (.tmp 142) = .bool false := hp 51 142 _ (by kernel_rfl) rfl rfl
                      simp only [Act.eval] at p142
                      refine ⟨_, _, rfl, rfl, .inl ⟨RV.wanted_none rfl, .inl ⟨fw, ?_, hG⟩⟩⟩
                      simp only [execOp, Act.eval]
                      go_simp
                      all_goals first | omega | (intro hh; omega) | (rw [IntKind.wrap_i64]; omega)
                    | 53, _ =>
                      have p5 : fa.eval (.tmp 5) = .pointer (some ⟨g, 0, none⟩) := (fr.out 5 (by decide)).trans rfl
                      simp only [Act.eval] at p5
                      refine ⟨_, _, rfl, rfl, .inl ⟨RV.wanted_at (d := 143) rfl fr (by rfl) (hp 52 143 _ (by kernel_rfl) rfl rfl) rfl, .inl ⟨fw, ?_, hG⟩⟩⟩
                      simp only [execOp, Act.eval]
                      go_simp
                      all_goals first | omega | (intro hh; omega) | (rw [IntKind.wrap_i64]; omega)
                    | 54, _ =>
                      have p144 : fa.eval (.tmp 144) = .pointer (some ⟨g, 0, none⟩) := hp 53 144 _ (by kernel_rfl) rfl rfl
                      have hv : (#[Operand.tmp 144] : Array Operand).map fa.eval = #[(.pointer (some ⟨g, 0, none⟩))] := by simp only [List.map_toArray, List.map_cons, List.map_nil, p144]
                      exact ⟨_, _, rfl, rfl, .inl ⟨RV.wanted_at (d := 143) rfl fr (by rfl) (hp 52 143 _ (by kernel_rfl) rfl rfl) rfl, RV.yields_call_g hv Tryd.func17 (by kernel_rfl) rfl (at_any (hG.get 0 rfl)) (fun e w2 h => ⟨h.1, hG.below h.2⟩)⟩⟩
                    | 55, _ =>
                      have p0 : fa.eval (.tmp 0) = .string ⟨(b0).toArray⟩ := (fr.out 0 (by decide)).trans rfl
                      simp only [Act.eval] at p0
                      refine ⟨_, _, rfl, rfl, .inl ⟨RV.wanted_at (d := 143) rfl fr (by rfl) (hp 52 143 _ (by kernel_rfl) rfl rfl) rfl, .inl ⟨fw, ?_, hG⟩⟩⟩
                      simp only [execOp, Act.eval]
                      go_simp
                      all_goals first | omega | (intro hh; omega) | (rw [IntKind.wrap_i64]; omega)
                    | 56, _ =>
                      have p146 : fa.eval (.tmp 146) = .string ⟨(b0).toArray⟩ := hp 55 146 _ (by kernel_rfl) rfl rfl
                      simp only [Act.eval] at p146
                      refine ⟨_, _, rfl, rfl, .inl ⟨RV.wanted_at (d := 143) rfl fr (by rfl) (hp 52 143 _ (by kernel_rfl) rfl rfl) rfl, .inl ⟨fw, ?_, hG⟩⟩⟩
                      simp only [execOp, Act.eval]
                      go_simp
                      all_goals first | omega | (intro hh; omega) | (rw [IntKind.wrap_i64]; omega)
                    | 57, _ =>
                      have p145 : fa.eval (.tmp 145) = .int .i64 ((a : Nat)) := hp 54 145 _ (by kernel_rfl) rfl rfl
                      have p147 : fa.eval (.tmp 147) = .int .i64 (b0.length : Nat) := hp 56 147 _ (by kernel_rfl) rfl rfl
                      simp only [Act.eval] at p145 p147
                      have hal := HA2.out
                      refine ⟨_, _, rfl, rfl, .inl ⟨RV.wanted_at (d := 143) rfl fr (by rfl) (hp 52 143 _ (by kernel_rfl) rfl rfl) rfl, .inl ⟨fw, ?_, hG⟩⟩⟩
                      simp only [execOp, Act.eval]
                      go_simp
                      all_goals (first | done | omega | (simp; omega))
                    | 58, _ =>
                      have p143 : fa.eval (.tmp 143) = .bool false := hp 52 143 _ (by kernel_rfl) rfl rfl
                      have p148 : fa.eval (.tmp 148) = .bool false := hp 57 148 _ (by kernel_rfl) rfl rfl
                      simp only [Act.eval] at p143 p148
                      refine ⟨_, _, rfl, rfl, .inl ⟨RV.wanted_none rfl, .inl ⟨fw, ?_, hG⟩⟩⟩
                      simp only [execOp, Act.eval]
                      go_simp
                      all_goals first | omega | (intro hh; omega) | (rw [IntKind.wrap_i64]; omega)
                    | 59, _ =>
                      have p149 : fa.eval (.tmp 149) = .bool false := hp 58 149 _ (by kernel_rfl) rfl rfl
                      simp only [Act.eval] at p149
                      refine ⟨_, _, rfl, rfl, .inl ⟨RV.wanted_none rfl, .inl ⟨fw, ?_, hG⟩⟩⟩
                      simp only [execOp, Act.eval]
                      go_simp
                      all_goals first | omega | (intro hh; omega) | (rw [IntKind.wrap_i64]; omega)
                    | 60, _ =>
                      have p5 : fa.eval (.tmp 5) = .pointer (some ⟨g, 0, none⟩) := (fr.out 5 (by decide)).trans rfl
                      simp only [Act.eval] at p5
                      refine ⟨_, _, rfl, rfl, .inl ⟨RV.wanted_at (d := 150) rfl fr (by rfl) (hp 59 150 _ (by kernel_rfl) rfl rfl) rfl, .inl ⟨fw, ?_, hG⟩⟩⟩
                      simp only [execOp, Act.eval]
                      go_simp
                      all_goals first | omega | (intro hh; omega) | (rw [IntKind.wrap_i64]; omega)
                    | 61, _ =>
                      have p151 : fa.eval (.tmp 151) = .pointer (some ⟨g, 0, none⟩) := hp 60 151 _ (by kernel_rfl) rfl rfl
                      have hv : (#[Operand.tmp 151] : Array Operand).map fa.eval = #[(.pointer (some ⟨g, 0, none⟩))] := by simp only [List.map_toArray, List.map_cons, List.map_nil, p151]
                      exact ⟨_, _, rfl, rfl, .inl ⟨RV.wanted_at (d := 150) rfl fr (by rfl) (hp 59 150 _ (by kernel_rfl) rfl rfl) rfl, RV.yields_call_g hv Tryd.func20 (by kernel_rfl) rfl (HRS.out _ (hG.get 0 rfl)) (fun e w2 h => ⟨h.1, hG.below h.2⟩)⟩⟩
                    | 62, _ =>
                      have p0 : fa.eval (.tmp 0) = .string ⟨(b0).toArray⟩ := (fr.out 0 (by decide)).trans rfl
                      simp only [Act.eval] at p0
                      refine ⟨_, _, rfl, rfl, .inl ⟨RV.wanted_at (d := 150) rfl fr (by rfl) (hp 59 150 _ (by kernel_rfl) rfl rfl) rfl, .inl ⟨fw, ?_, hG⟩⟩⟩
                      simp only [execOp, Act.eval]
                      go_simp
                      all_goals first | omega | (intro hh; omega) | (rw [IntKind.wrap_i64]; omega)
                    | 63, _ =>
                      have p5 : fa.eval (.tmp 5) = .pointer (some ⟨g, 0, none⟩) := (fr.out 5 (by decide)).trans rfl
                      simp only [Act.eval] at p5
                      refine ⟨_, _, rfl, rfl, .inl ⟨RV.wanted_at (d := 150) rfl fr (by rfl) (hp 59 150 _ (by kernel_rfl) rfl rfl) rfl, .inl ⟨fw, ?_, hG⟩⟩⟩
                      simp only [execOp, Act.eval]
                      go_simp
                      all_goals first | omega | (intro hh; omega) | (rw [IntKind.wrap_i64]; omega)
                    | 64, _ =>
                      have p154 : fa.eval (.tmp 154) = .pointer (some ⟨g, 0, none⟩) := hp 63 154 _ (by kernel_rfl) rfl rfl
                      have hv : (#[Operand.tmp 154] : Array Operand).map fa.eval = #[(.pointer (some ⟨g, 0, none⟩))] := by simp only [List.map_toArray, List.map_cons, List.map_nil, p154]
                      exact ⟨_, _, rfl, rfl, .inl ⟨RV.wanted_at (d := 150) rfl fr (by rfl) (hp 59 150 _ (by kernel_rfl) rfl rfl) rfl, RV.yields_call_g hv Tryd.func17 (by kernel_rfl) rfl (at_any (hG.get 0 rfl)) (fun e w2 h => ⟨h.1, hG.below h.2⟩)⟩⟩
                    | 65, _ =>
                      have p153 : fa.eval (.tmp 153) = .string ⟨(b0).toArray⟩ := hp 62 153 _ (by kernel_rfl) rfl rfl
                      have p155 : fa.eval (.tmp 155) = .int .i64 ((a : Nat)) := hp 64 155 _ (by kernel_rfl) rfl rfl
                      simp only [Act.eval] at p153 p155
                      have hex := HEX.out
                      have hal := HA2.out
                      refine ⟨_, _, rfl, rfl, .inl ⟨RV.wanted_at (d := 150) rfl fr (by rfl) (hp 59 150 _ (by kernel_rfl) rfl rfl) rfl, .inl ⟨fw, ?_, hG⟩⟩⟩
                      simp only [execOp, Act.eval]
                      go_simp
                      all_goals first | omega | (intro hh; omega) | (rw [IntKind.wrap_i64]; omega)
                    | 66, _ =>
                      have p152 : fa.eval (.tmp 152) = .string ⟨(r0).toArray⟩ := hp 61 152 _ (by kernel_rfl) rfl rfl
                      have p156 : fa.eval (.tmp 156) = .string ⟨(r0).toArray⟩ := hp 65 156 _ (by kernel_rfl) rfl rfl
                      simp only [Act.eval] at p152 p156
                      refine ⟨_, _, rfl, rfl, .inl ⟨RV.wanted_at (d := 150) rfl fr (by rfl) (hp 59 150 _ (by kernel_rfl) rfl rfl) rfl, .inl ⟨fw, ?_, hG⟩⟩⟩
                      simp only [execOp, Act.eval]
                      go_simp
                      all_goals first | omega | (intro hh; omega) | (rw [IntKind.wrap_i64]; omega)
                    | 67, _ =>
                      have p150 : fa.eval (.tmp 150) = .bool false := hp 59 150 _ (by kernel_rfl) rfl rfl
                      have p157 : fa.eval (.tmp 157) = .bool false := hp 66 157 _ (by kernel_rfl) rfl rfl
                      simp only [Act.eval] at p150 p157
                      refine ⟨_, _, rfl, rfl, .inl ⟨RV.wanted_none rfl, .inl ⟨fw, ?_, hG⟩⟩⟩
                      simp only [execOp, Act.eval]
                      go_simp
                      all_goals first | omega | (intro hh; omega) | (rw [IntKind.wrap_i64]; omega)
                    | i + 68, hi => exact absurd hi (by show ¬ (i + 68 < 68); omega)
                  · intro w2 hG
                    simp only [RV.putAll, List.zip_cons_cons, List.zip_nil_left, List.zip_nil_right, List.foldl_cons, List.foldl_nil, Act.put, List.setIfInBounds_toArray, List.set_cons_zero, List.set_cons_succ]
                    go_wp2
                    go_roundw
                    case rel => exact ⟨k + 1, a, true, by omega, HA2.out, rfl, by go_num, hG⟩
                    case measure => simp [intOf]; omega
                · have d1 : decide (0 ≤ z) = true := by simp; omega
                  have d2 : decide (z ≤ 64) = true := by simp; omega
                  have HK := Lib.hid (Tk.bad (l := b0) (a := a) (o := true) (n := z) (.inl rfl))
                  have HA2 := Lib.hid (show a ≤ b0.length by have := HA.out; omega)
                  obtain ⟨r0, hr0⟩ : ∃ r, b0.drop a = r := ⟨_, rfl⟩
                  have HRS := Lib.hid (fun (W : World) (hq : CuOk W g b0 a true) => (by have h := rest_any hq (by have := HLN.out; omega) HA2.out; rwa [hr0] at h : Calls Tryd.prog 20 #[.pointer (some ⟨g, 0, none⟩)] W fun e w' => e = .returned (.string ⟨r0.toArray⟩) ∧ Below W.heap.size W w'))
                  have HEX := Lib.hid (show (⟨b0.toArray⟩ : ByteArray).extract a b0.length = ⟨r0.toArray⟩ by
                    rw [← hr0]; apply ByteArray.ext; simp; exact List.take_of_length_le (by simp))
                  clear hr0
                  have HWL := Lib.hid (show IntKind.i64.wrap (((a : Nat) : Int) + ((b0.length : Int) - ((a : Nat) : Int))) = (b0.length : Int) by have := HLN.out; rw [IntKind.wrap_i64]; omega)
                  go_wp2_with fail
                  go_at_call 17
                  refine (at_s hS.out 0 rfl).mono ?_
                  rintro e v3 ⟨rfl, h1⟩
                  have h2 : CS w v3 [K g b0 a true] := h1
                  clear hS h1; have hS := Lib.hid h2; clear h2
                  clear hcell
                  have hcell := HE.out _ hS.out.bl
                  go_wp2_with fail
                  go_at_call 19
                  refine (left_s hS.out 0 rfl HB.out HA.out).mono ?_
                  rintro e v4 ⟨rfl, h1⟩
                  have h2 : CS w v4 [K g b0 a true] := h1
                  clear hS h1; have hS := Lib.hid h2; clear h2
                  clear hcell
                  have hcell := HE.out _ hS.out.bl
                  go_wp2_with fail
                  go_at_call 12
                  refine (take_n hS.out 0 rfl HB.out HA.out HK.out).mono ?_
                  rintro e v5 ⟨rfl, h1⟩
                  have h2 : CS w v5 [K g b0 a true] := h1
                  clear hS h1; have hS := Lib.hid h2; clear h2
                  clear hcell
                  have hcell := HE.out _ hS.out.bl
                  go_wp2_with fail
                  refine RV.wp_region_g (by kernel_rfl) [91, 92, 93, 94, 95, 96, 97, 98, 99, 100, 101, 102, 103, 104, 105, 106, 107, 108, 109, 110, 111, 112, 113, 114, 115, 116, 117, 118, 119, 120, 121, 122, 123, 124, 125, 126, 127, 128, 129, 130, 131, 132, 133, 134, 135, 136, 137, 138, 139, 140, 141, 142, 143, 144, 145, 146, 147, 148, 149, 150, 151, 152, 153, 154, 155, 156, 157, 158] [.bool false, .bool false, .bool false, .bool false, .bool false, .bool true, .bool true, .int .u64 0, .bool false, .bool false, .pointer (some ⟨g, 0, none⟩), .int .i64 ((a : Nat)), .int .i64 (a : Nat), .bool false, .bool false, .bool false, .bool false, .bool false, .bool false, .bool false, undef, undef, undef, undef, undef, undef, undef, undef, undef, .bool false, .bool false, .bool false, .pointer (some ⟨g, 0, none⟩), .bool true, .bool true, .bool false, .bool false, .bool false, .pointer (some ⟨g, 0, none⟩), .int .i64 ((a : Nat)), .pointer (some ⟨g, 0, none⟩), .int .i64 ((b0.length : Int) - ((a : Nat) : Int)), .int .i64 (b0.length : Nat), .string ⟨(b0).toArray⟩, .int .i64 (b0.length : Nat), .bool false, .bool false, .bool false, .pointer (some ⟨g, 0, none⟩), .int .i64 ((a : Nat)), .bool false, .bool false, .bool false, .pointer (some ⟨g, 0, none⟩), .int .i64 ((a : Nat)), .string ⟨(b0).toArray⟩, .int .i64 (b0.length : Nat), .bool false, .bool false, .bool false, .pointer (some ⟨g, 0, none⟩), .string ⟨(r0).toArray⟩, .string ⟨(b0).toArray⟩, .pointer (some ⟨g, 0, none⟩), .int .i64 ((a : Nat)), .string ⟨(r0).toArray⟩, .bool false, .bool false] (fun W => CS w W [K g b0 a true]) (by kernel_rfl) rfl (by decide) rfl (by kernel_rfl) (hS.out.drew) ?_ ?_
                  · intro ii hii fa fw fr hp hG
                    match ii, hii with
                    | 0, _ =>
                      have p13 : fa.eval (.tmp 13) = .bool false := (fr.out 13 (by decide)).trans rfl
                      simp only [Act.eval] at p13
                      refine ⟨_, _, rfl, rfl, .inl ⟨RV.wanted_none rfl, .inl ⟨fw, ?_, hG⟩⟩⟩
                      simp only [execOp, Act.eval]
                      go_simp
                      all_goals first | omega | (intro hh; omega) | (rw [IntKind.wrap_i64]; omega)
                    | 1, _ =>
                      have p14 : fa.eval (.tmp 14) = .bool false := (fr.out 14 (by decide)).trans rfl
                      simp only [Act.eval] at p14
                      refine ⟨_, _, rfl, rfl, .inl ⟨RV.wanted_none rfl, .inl ⟨fw, ?_, hG⟩⟩⟩
                      simp only [execOp, Act.eval]
                      go_simp
                      all_goals first | omega | (intro hh; omega) | (rw [IntKind.wrap_i64]; omega)
                    | 2, _ =>
                      have p91 : fa.eval (.tmp 91) = .bool false := hp 0 91 _ (by kernel_rfl) rfl rfl
                      have p92 : fa.eval (.tmp 92) = .bool false := hp 1 92 _ (by kernel_rfl) rfl rfl
                      simp only [Act.eval] at p91 p92
                      refine ⟨_, _, rfl, rfl, .inl ⟨RV.wanted_none rfl, .inl ⟨fw, ?_, hG⟩⟩⟩
                      simp only [execOp, Act.eval]
                      go_simp
                      all_goals first | omega | (intro hh; omega) | (rw [IntKind.wrap_i64]; omega)
                    | 3, _ =>
                      have p93 : fa.eval (.tmp 93) = .bool false := hp 2 93 _ (by kernel_rfl) rfl rfl
                      simp only [Act.eval] at p93
                      refine ⟨_, _, rfl, rfl, .inl ⟨RV.wanted_none rfl, .inl ⟨fw, ?_, hG⟩⟩⟩
                      simp only [execOp, Act.eval]
                      go_simp
                      all_goals first | omega | (intro hh; omega) | (rw [IntKind.wrap_i64]; omega)
                    | 4, _ =>
                      have p13 : fa.eval (.tmp 13) = .bool false := (fr.out 13 (by decide)).trans rfl
                      simp only [Act.eval] at p13
                      refine ⟨_, _, rfl, rfl, .inl ⟨RV.wanted_at (d := 94) rfl fr (by rfl) (hp 3 94 _ (by kernel_rfl) rfl rfl) rfl, .inl ⟨fw, ?_, hG⟩⟩⟩
                      simp only [execOp, Act.eval]
                      go_simp
                      all_goals first | omega | (intro hh; omega) | (rw [IntKind.wrap_i64]; omega)
                    | 5, _ =>
                      have p95 : fa.eval (.tmp 95) = .bool false := hp 4 95 _ (by kernel_rfl) rfl rfl
                      simp only [Act.eval] at p95
                      refine ⟨_, _, rfl, rfl, .inl ⟨RV.wanted_at (d := 94) rfl fr (by rfl) (hp 3 94 _ (by kernel_rfl) rfl rfl) rfl, .inl ⟨fw, ?_, hG⟩⟩⟩
                      simp only [execOp, Act.eval]
                      go_simp
                      all_goals first | omega | (intro hh; omega) | (rw [IntKind.wrap_i64]; omega)
                    | 6, _ =>
                      have p96 : fa.eval (.tmp 96) = .bool true := hp 5 96 _ (by kernel_rfl) rfl rfl
                      simp only [Act.eval] at p96
                      refine ⟨_, _, rfl, rfl, .inl ⟨RV.wanted_at (d := 94) rfl fr (by rfl) (hp 3 94 _ (by kernel_rfl) rfl rfl) rfl, .inl ⟨fw, ?_, hG⟩⟩⟩
                      simp only [execOp, Act.eval]
                      go_simp
                      all_goals first | omega | (intro hh; omega) | (rw [IntKind.wrap_i64]; omega)
                    | 7, _ =>
                      have p12 : fa.eval (.tmp 12) = .int .u64 0 := (fr.out 12 (by decide)).trans rfl
                      simp only [Act.eval] at p12
                      refine ⟨_, _, rfl, rfl, .inl ⟨RV.wanted_at (d := 97) rfl fr (by rfl) (hp 6 97 _ (by kernel_rfl) rfl rfl) rfl, .inl ⟨fw, ?_, hG⟩⟩⟩
                      simp only [execOp, Act.eval]
                      go_simp
                      all_goals first | omega | (intro hh; omega) | (rw [IntKind.wrap_i64]; omega)
                    | 8, _ =>
                      have p98 : fa.eval (.tmp 98) = .int .u64 0 := hp 7 98 _ (by kernel_rfl) rfl rfl
                      simp only [Act.eval] at p98
                      refine ⟨_, _, rfl, rfl, .inl ⟨RV.wanted_at (d := 97) rfl fr (by rfl) (hp 6 97 _ (by kernel_rfl) rfl rfl) rfl, .inl ⟨fw, ?_, hG⟩⟩⟩
                      simp only [execOp, Act.eval]
                      go_simp
                      all_goals first | omega | (intro hh; omega) | (rw [IntKind.wrap_i64]; omega)
                    | 9, _ =>
                      have p99 : fa.eval (.tmp 99) = .bool false := hp 8 99 _ (by kernel_rfl) rfl rfl
                      simp only [Act.eval] at p99
                      refine ⟨_, _, rfl, rfl, .inl ⟨RV.wanted_at (d := 97) rfl fr (by rfl) (hp 6 97 _ (by kernel_rfl) rfl rfl) rfl, .inl ⟨fw, ?_, hG⟩⟩⟩
                      simp only [execOp, Act.eval]
                      go_simp
                      all_goals first | omega | (intro hh; omega) | (rw [IntKind.wrap_i64]; omega)
                    | 10, _ =>
                      have p5 : fa.eval (.tmp 5) = .pointer (some ⟨g, 0, none⟩) := (fr.out 5 (by decide)).trans rfl
                      simp only [Act.eval] at p5
                      refine ⟨_, _, rfl, rfl, .inl ⟨RV.wanted_at (d := 100) rfl fr (by rfl) (hp 9 100 _ (by kernel_rfl) rfl rfl) rfl, .inl ⟨fw, ?_, hG⟩⟩⟩
                      simp only [execOp, Act.eval]
                      go_simp
                      all_goals first | omega | (intro hh; omega) | (rw [IntKind.wrap_i64]; omega)
                    | 11, _ =>
                      have p101 : fa.eval (.tmp 101) = .pointer (some ⟨g, 0, none⟩) := hp 10 101 _ (by kernel_rfl) rfl rfl
                      have hv : (#[Operand.tmp 101] : Array Operand).map fa.eval = #[(.pointer (some ⟨g, 0, none⟩))] := by simp only [List.map_toArray, List.map_cons, List.map_nil, p101]
                      exact ⟨_, _, rfl, rfl, .inl ⟨RV.wanted_at (d := 100) rfl fr (by rfl) (hp 9 100 _ (by kernel_rfl) rfl rfl) rfl, RV.yields_call_g hv Tryd.func17 (by kernel_rfl) rfl (at_any (hG.get 0 rfl)) (fun e w2 h => ⟨h.1, hG.below h.2⟩)⟩⟩
                    | 12, _ =>
                      have p9 : fa.eval (.tmp 9) = .int .i64 (a : Nat) := (fr.out 9 (by decide)).trans rfl
                      simp only [Act.eval] at p9
                      refine ⟨_, _, rfl, rfl, .inl ⟨RV.wanted_at (d := 100) rfl fr (by rfl) (hp 9 100 _ (by kernel_rfl) rfl rfl) rfl, .inl ⟨fw, ?_, hG⟩⟩⟩
                      simp only [execOp, Act.eval]
                      go_simp
                      all_goals first | omega | (intro hh; omega) | (rw [IntKind.wrap_i64]; omega)
                    | 13, _ =>
                      have p102 : fa.eval (.tmp 102) = .int .i64 ((a : Nat)) := hp 11 102 _ (by kernel_rfl) rfl rfl
                      have p103 : fa.eval (.tmp 103) = .int .i64 (a : Nat) := hp 12 103 _ (by kernel_rfl) rfl rfl
                      simp only [Act.eval] at p102 p103
                      refine ⟨_, _, rfl, rfl, .inl ⟨RV.wanted_at (d := 100) rfl fr (by rfl) (hp 9 100 _ (by kernel_rfl) rfl rfl) rfl, .inl ⟨fw, ?_, hG⟩⟩⟩
                      simp only [execOp, Act.eval]
                      go_simp
                      all_goals first | omega | (intro hh; omega) | (rw [IntKind.wrap_i64]; omega)
                    | 14, _ =>
                      have p100 : fa.eval (.tmp 100) = .bool false := hp 9 100 _ (by kernel_rfl) rfl rfl
                      have p104 : fa.eval (.tmp 104) = .bool false := hp 13 104 _ (by kernel_rfl) rfl rfl
                      simp only [Act.eval] at p100 p104
                      refine ⟨_, _, rfl, rfl, .inl ⟨RV.wanted_at (d := 97) rfl fr (by rfl) (hp 6 97 _ (by kernel_rfl) rfl rfl) rfl, .inl ⟨fw, ?_, hG⟩⟩⟩
                      simp only [execOp, Act.eval]
                      go_simp
                      all_goals first | omega | (intro hh; omega) | (rw [IntKind.wrap_i64]; omega)
                    | 15, _ =>
                      have p97 : fa.eval (.tmp 97) = .bool true := hp 6 97 _ (by kernel_rfl) rfl rfl
                      have p105 : fa.eval (.tmp 105) = .bool false := hp 14 105 _ (by kernel_rfl) rfl rfl
                      simp only [Act.eval] at p97 p105
                      refine ⟨_, _, rfl, rfl, .inl ⟨RV.wanted_at (d := 94) rfl fr (by rfl) (hp 3 94 _ (by kernel_rfl) rfl rfl) rfl, .inl ⟨fw, ?_, hG⟩⟩⟩
                      simp only [execOp, Act.eval]
                      go_simp
                      all_goals first | omega | (intro hh; omega) | (rw [IntKind.wrap_i64]; omega)
                    | 16, _ =>
                      have p94 : fa.eval (.tmp 94) = .bool false := hp 3 94 _ (by kernel_rfl) rfl rfl
                      have p106 : fa.eval (.tmp 106) = .bool false := hp 15 106 _ (by kernel_rfl) rfl rfl
                      simp only [Act.eval] at p94 p106
                      refine ⟨_, _, rfl, rfl, .inl ⟨RV.wanted_none rfl, .inl ⟨fw, ?_, hG⟩⟩⟩
                      simp only [execOp, Act.eval]
                      go_simp
                      all_goals first | omega | (intro hh; omega) | (rw [IntKind.wrap_i64]; omega)
                    | 17, _ =>
                      have p107 : fa.eval (.tmp 107) = .bool false := hp 16 107 _ (by kernel_rfl) rfl rfl
                      simp only [Act.eval] at p107
                      refine ⟨_, _, rfl, rfl, .inl ⟨RV.wanted_none rfl, .inl ⟨fw, ?_, hG⟩⟩⟩
                      simp only [execOp, Act.eval]
                      go_simp
                      all_goals first | omega | (intro hh; omega) | (rw [IntKind.wrap_i64]; omega)
                    | 18, _ =>
                      have p13 : fa.eval (.tmp 13) = .bool false := (fr.out 13 (by decide)).trans rfl
                      simp only [Act.eval] at p13
                      refine ⟨_, _, rfl, rfl, .inl ⟨RV.wanted_at (d := 108) rfl fr (by rfl) (hp 17 108 _ (by kernel_rfl) rfl rfl) rfl, .inl ⟨fw, ?_, hG⟩⟩⟩
                      simp only [execOp, Act.eval]
                      go_simp
                      all_goals first | omega | (intro hh; omega) | (rw [IntKind.wrap_i64]; omega)
                    | 19, _ =>
                      have p109 : fa.eval (.tmp 109) = .bool false := hp 18 109 _ (by kernel_rfl) rfl rfl
                      simp only [Act.eval] at p109
                      refine ⟨_, _, rfl, rfl, .inl ⟨RV.wanted_at (d := 108) rfl fr (by rfl) (hp 17 108 _ (by kernel_rfl) rfl rfl) rfl, .inl ⟨fw, ?_, hG⟩⟩⟩
                      simp only [execOp, Act.eval]
                      go_simp
                      all_goals first | omega | (intro hh; omega) | (rw [IntKind.wrap_i64]; omega)
                    | 20, _ =>
                      exact ⟨_, _, rfl, rfl, .inr ⟨RV.wanted_no (d := 110) rfl fr (by rfl) (hp 19 110 _ (by kernel_rfl) rfl rfl) (.inl rfl) rfl, rfl⟩⟩
                    | 21, _ =>
                      exact ⟨_, _, rfl, rfl, .inr ⟨RV.wanted_no (d := 110) rfl fr (by rfl) (hp 19 110 _ (by kernel_rfl) rfl rfl) (.inl rfl) rfl, rfl⟩⟩
                    | 22, _ =>
                      exact ⟨_, _, rfl, rfl, .inr ⟨RV.wanted_no (d := 110) rfl fr (by rfl) (hp 19 110 _ (by kernel_rfl) rfl rfl) (.inl rfl) rfl, rfl⟩⟩
                    | 23, _ =>
                      exact ⟨_, _, rfl, rfl, .inr ⟨RV.wanted_no (d := 110) rfl fr (by rfl) (hp 19 110 _ (by kernel_rfl) rfl rfl) (.inl rfl) rfl, rfl⟩⟩
                    | 24, _ =>
                      exact ⟨_, _, rfl, rfl, .inr ⟨RV.wanted_no (d := 110) rfl fr (by rfl) (hp 19 110 _ (by kernel_rfl) rfl rfl) (.inl rfl) rfl, rfl⟩⟩
                    | 25, _ =>
                      exact ⟨_, _, rfl, rfl, .inr ⟨RV.wanted_no (d := 110) rfl fr (by rfl) (hp 19 110 _ (by kernel_rfl) rfl rfl) (.inl rfl) rfl, rfl⟩⟩
                    | 26, _ =>
                      exact ⟨_, _, rfl, rfl, .inr ⟨RV.wanted_no (d := 110) rfl fr (by rfl) (hp 19 110 _ (by kernel_rfl) rfl rfl) (.inl rfl) rfl, rfl⟩⟩
                    | 27, _ =>
                      exact ⟨_, _, rfl, rfl, .inr ⟨RV.wanted_no (d := 110) rfl fr (by rfl) (hp 19 110 _ (by kernel_rfl) rfl rfl) (.inl rfl) rfl, rfl⟩⟩
                    | 28, _ =>
                      exact ⟨_, _, rfl, rfl, .inr ⟨RV.wanted_no (d := 110) rfl fr (by rfl) (hp 19 110 _ (by kernel_rfl) rfl rfl) (.inl rfl) rfl, rfl⟩⟩
                    | 29, _ =>
                      have p110 : fa.eval (.tmp 110) = .bool false := hp 19 110 _ (by kernel_rfl) rfl rfl
                      have p119 : fa.eval (.tmp 119) = undef := hp 28 119 _ (by kernel_rfl) rfl rfl
                      simp only [Act.eval] at p110 p119
                      refine ⟨_, _, rfl, rfl, .inl ⟨RV.wanted_at (d := 108) rfl fr (by rfl) (hp 17 108 _ (by kernel_rfl) rfl rfl) rfl, .inl ⟨fw, ?_, hG⟩⟩⟩
                      simp only [execOp, Act.eval]
                      go_simp
                      all_goals first | omega | (intro hh; omega) | (rw [IntKind.wrap_i64]; omega)
                    | 30, _ =>
                      have p108 : fa.eval (.tmp 108) = .bool false := hp 17 108 _ (by kernel_rfl) rfl rfl
                      have p120 : fa.eval (.tmp 120) = .bool false := hp 29 120 _ (by kernel_rfl) rfl rfl
                      simp only [Act.eval] at p108 p120
                      refine ⟨_, _, rfl, rfl, .inl ⟨RV.wanted_none rfl, .inl ⟨fw, ?_, hG⟩⟩⟩
                      simp only [execOp, Act.eval]
                      go_simp
                      all_goals first | omega | (intro hh; omega) | (rw [IntKind.wrap_i64]; omega)
                    | 31, _ =>
                      have p121 : fa.eval (.tmp 121) = .bool false := hp 30 121 _ (by kernel_rfl) rfl rfl
                      simp only [Act.eval] at p121
                      refine ⟨_, _, rfl, rfl, .inl ⟨RV.wanted_none rfl, .inl ⟨fw, ?_, hG⟩⟩⟩
                      simp only [execOp, Act.eval]
                      go_simp
                      all_goals first | omega | (intro hh; omega) | (rw [IntKind.wrap_i64]; omega)
                    | 32, _ =>
                      have p5 : fa.eval (.tmp 5) = .pointer (some ⟨g, 0, none⟩) := (fr.out 5 (by decide)).trans rfl
                      simp only [Act.eval] at p5
                      refine ⟨_, _, rfl, rfl, .inl ⟨RV.wanted_at (d := 122) rfl fr (by rfl) (hp 31 122 _ (by kernel_rfl) rfl rfl) rfl, .inl ⟨fw, ?_, hG⟩⟩⟩
                      simp only [execOp, Act.eval]
                      go_simp
                      all_goals first | omega | (intro hh; omega) | (rw [IntKind.wrap_i64]; omega)
                    | 33, _ =>
                      have p123 : fa.eval (.tmp 123) = .pointer (some ⟨g, 0, none⟩) := hp 32 123 _ (by kernel_rfl) rfl rfl
                      have hv : (#[Operand.tmp 123] : Array Operand).map fa.eval = #[(.pointer (some ⟨g, 0, none⟩))] := by simp only [List.map_toArray, List.map_cons, List.map_nil, p123]
                      exact ⟨_, _, rfl, rfl, .inl ⟨RV.wanted_at (d := 122) rfl fr (by rfl) (hp 31 122 _ (by kernel_rfl) rfl rfl) rfl, RV.yields_call_g hv Tryd.func18 (by kernel_rfl) rfl (over_any (hG.get 0 rfl)) (fun e w2 h => ⟨h.1, hG.below h.2⟩)⟩⟩
                    | 34, _ =>
                      have p7 : fa.eval (.tmp 7) = .bool true := (fr.out 7 (by decide)).trans rfl
                      simp only [Act.eval] at p7
                      refine ⟨_, _, rfl, rfl, .inl ⟨RV.wanted_at (d := 122) rfl fr (by rfl) (hp 31 122 _ (by kernel_rfl) rfl rfl) rfl, .inl ⟨fw, ?_, hG⟩⟩⟩
                      simp only [execOp, Act.eval]
                      go_simp
                      all_goals first | omega | (intro hh; omega) | (rw [IntKind.wrap_i64]; omega)
                    | 35, _ =>
                      have p124 : fa.eval (.tmp 124) = .bool true := hp 33 124 _ (by kernel_rfl) rfl rfl
                      have p125 : fa.eval (.tmp 125) = .bool true := hp 34 125 _ (by kernel_rfl) rfl rfl
                      simp only [Act.eval] at p124 p125
                      refine ⟨_, _, rfl, rfl, .inl ⟨RV.wanted_at (d := 122) rfl fr (by rfl) (hp 31 122 _ (by kernel_rfl) rfl rfl) rfl, .inl ⟨fw, ?_, hG⟩⟩⟩
                      simp only [execOp, Act.eval]
                      go_simp
                      all_goals first | omega | (intro hh; omega) | (rw [IntKind.wrap_i64]; omega)
                    | 36, _ =>
                      have p122 : fa.eval (.tmp 122) = .bool false := hp 31 122 _ (by kernel_rfl) rfl rfl
                      have p126 : fa.eval (.tmp 126) = .bool false := hp 35 126 _ (by kernel_rfl) rfl rfl
                      simp only [Act.eval] at p122 p126
                      refine ⟨_, _, rfl, rfl, .inl ⟨RV.wanted_none rfl, .inl ⟨fw, ?_, hG⟩⟩⟩
                      simp only [execOp, Act.eval]
                      go_simp
                      all_goals first | omega | (intro hh; omega) | (rw [IntKind.wrap_i64]; omega)
                    | 37, _ =>
                      have p127 : fa.eval (.tmp 127) = .bool false := hp 36 127 _ (by kernel_rfl) rfl rfl
                      simp only [Act.eval] at p127
                      refine ⟨_, _, rfl, rfl, .inl ⟨RV.wanted_none rfl, .inl ⟨fw, ?_, hG⟩⟩⟩
                      simp only [execOp, Act.eval]
                      go_simp
                      all_goals first | omega | (intro hh; omega) | (rw [IntKind.wrap_i64]; omega)
                    | 38, _ =>
                      have p5 : fa.eval (.tmp 5) = .pointer (some ⟨g, 0, none⟩) := (fr.out 5 (by decide)).trans rfl
                      simp only [Act.eval] at p5
                      refine ⟨_, _, rfl, rfl, .inl ⟨RV.wanted_at (d := 128) rfl fr (by rfl) (hp 37 128 _ (by kernel_rfl) rfl rfl) rfl, .inl ⟨fw, ?_, hG⟩⟩⟩
                      simp only [execOp, Act.eval]
                      go_simp
                      all_goals first | omega | (intro hh; omega) | (rw [IntKind.wrap_i64]; omega)
                    | 39, _ =>
                      have p129 : fa.eval (.tmp 129) = .pointer (some ⟨g, 0, none⟩) := hp 38 129 _ (by kernel_rfl) rfl rfl
                      have hv : (#[Operand.tmp 129] : Array Operand).map fa.eval = #[(.pointer (some ⟨g, 0, none⟩))] := by simp only [List.map_toArray, List.map_cons, List.map_nil, p129]
                      exact ⟨_, _, rfl, rfl, .inl ⟨RV.wanted_at (d := 128) rfl fr (by rfl) (hp 37 128 _ (by kernel_rfl) rfl rfl) rfl, RV.yields_call_g hv Tryd.func17 (by kernel_rfl) rfl (at_any (hG.get 0 rfl)) (fun e w2 h => ⟨h.1, hG.below h.2⟩)⟩⟩
                    | 40, _ =>
                      have p5 : fa.eval (.tmp 5) = .pointer (some ⟨g, 0, none⟩) := (fr.out 5 (by decide)).trans rfl
                      simp only [Act.eval] at p5
                      refine ⟨_, _, rfl, rfl, .inl ⟨RV.wanted_at (d := 128) rfl fr (by rfl) (hp 37 128 _ (by kernel_rfl) rfl rfl) rfl, .inl ⟨fw, ?_, hG⟩⟩⟩
                      simp only [execOp, Act.eval]
                      go_simp
                      all_goals first | omega | (intro hh; omega) | (rw [IntKind.wrap_i64]; omega)
                    | 41, _ =>
                      have p131 : fa.eval (.tmp 131) = .pointer (some ⟨g, 0, none⟩) := hp 40 131 _ (by kernel_rfl) rfl rfl
                      have hv : (#[Operand.tmp 131] : Array Operand).map fa.eval = #[(.pointer (some ⟨g, 0, none⟩))] := by simp only [List.map_toArray, List.map_cons, List.map_nil, p131]
                      exact ⟨_, _, rfl, rfl, .inl ⟨RV.wanted_at (d := 128) rfl fr (by rfl) (hp 37 128 _ (by kernel_rfl) rfl rfl) rfl, RV.yields_call_g hv Tryd.func19 (by kernel_rfl) rfl (left_any (hG.get 0 rfl) (by have := HLN.out; unfold maxLen; omega) HA2.out) (fun e w2 h => ⟨h.1, hG.below h.2⟩)⟩⟩
                    | 42, _ =>
                      have p130 : fa.eval (.tmp 130) = .int .i64 ((a : Nat)) := hp 39 130 _ (by kernel_rfl) rfl rfl
                      have p132 : fa.eval (.tmp 132) = .int .i64 ((b0.length : Int) - ((a : Nat) : Int)) := hp 41 132 _ (by kernel_rfl) rfl rfl
                      simp only [Act.eval] at p130 p132
                      have hwl := HWL.out
                      refine ⟨_, _, rfl, rfl, .inl ⟨RV.wanted_at (d := 128) rfl fr (by rfl) (hp 37 128 _ (by kernel_rfl) rfl rfl) rfl, .inl ⟨fw, ?_, hG⟩⟩⟩
                      simp only [execOp, Act.eval]
                      go_simp
                      all_goals first | omega | (intro hh; omega) | (rw [IntKind.wrap_i64]; omega)
                    | 43, _ =>
                      have p0 : fa.eval (.tmp 0) = .string ⟨(b0).toArray⟩ := (fr.out 0 (by decide)).trans rfl
                      simp only [Act.eval] at p0
                      refine ⟨_, _, rfl, rfl, .inl ⟨RV.wanted_at (d := 128) rfl fr (by rfl) (hp 37 128 _ (by kernel_rfl) rfl rfl) rfl, .inl ⟨fw, ?_, hG⟩⟩⟩
                      simp only [execOp, Act.eval]
                      go_simp
                      all_goals first | omega | (intro hh; omega) | (rw [IntKind.wrap_i64]; omega)
                    | 44, _ =>
                      have p134 : fa.eval (.tmp 134) = .string ⟨(b0).toArray⟩ := hp 43 134 _ (by kernel_rfl) rfl rfl
                      simp only [Act.eval] at p134
                      refine ⟨_, _, rfl, rfl, .inl ⟨RV.wanted_at (d := 128) rfl fr (by rfl) (hp 37 128 _ (by kernel_rfl) rfl rfl) rfl, .inl ⟨fw, ?_, hG⟩⟩⟩
                      simp only [execOp, Act.eval]
                      go_simp
                      all_goals first | omega | (intro hh; omega) | (rw [IntKind.wrap_i64]; omega)
                    | 45, _ =>
                      have p133 : fa.eval (.tmp 133) = .int .i64 (b0.length : Nat) := hp 42 133 _ (by kernel_rfl) rfl rfl
                      have p135 : fa.eval (.tmp 135) = .int .i64 (b0.length : Nat) := hp 44 135 _ (by kernel_rfl) rfl rfl
                      simp only [Act.eval] at p133 p135
                      refine ⟨_, _, rfl, rfl, .inl ⟨RV.wanted_at (d := 128) rfl fr (by rfl) (hp 37 128 _ (by kernel_rfl) rfl rfl) rfl, .inl ⟨fw, ?_, hG⟩⟩⟩
                      simp only [execOp, Act.eval]
                      go_simp
                      all_goals first | omega | (intro hh; omega) | (rw [IntKind.wrap_i64]; omega)
                    | 46, _ =>
                      have p128 : fa.eval (.tmp 128) = .bool false := hp 37 128 _ (by kernel_rfl) rfl rfl
                      have p136 : fa.eval (.tmp 136) = .bool false := hp 45 136 _ (by kernel_rfl) rfl rfl
                      simp only [Act.eval] at p128 p136
                      refine ⟨_, _, rfl, rfl, .inl ⟨RV.wanted_none rfl, .inl ⟨fw, ?_, hG⟩⟩⟩
                      simp only [execOp, Act.eval]
                      go_simp
                      all_goals first | omega | (intro hh; omega) | (rw [IntKind.wrap_i64]; omega)
                    | 47, _ =>
                      have p137 : fa.eval (.tmp 137) = .bool false := hp 46 137 _ (by kernel_rfl) rfl rfl
                      simp only [Act.eval] at p137
                      refine ⟨_, _, rfl, rfl, .inl ⟨RV.wanted_none rfl, .inl ⟨fw, ?_, hG⟩⟩⟩
                      simp only [execOp, Act.eval]
                      go_simp
                      all_goals first | omega | (intro hh; omega) | (rw [IntKind.wrap_i64]; omega)
                    | 48, _ =>
                      have p5 : fa.eval (.tmp 5) = .pointer (some ⟨g, 0, none⟩) := (fr.out 5 (by decide)).trans rfl
                      simp only [Act.eval] at p5
                      refine ⟨_, _, rfl, rfl, .inl ⟨RV.wanted_at (d := 138) rfl fr (by rfl) (hp 47 138 _ (by kernel_rfl) rfl rfl) rfl, .inl ⟨fw, ?_, hG⟩⟩⟩
                      simp only [execOp, Act.eval]
                      go_simp
                      all_goals first | omega | (intro hh; omega) | (rw [IntKind.wrap_i64]; omega)
                    | 49, _ =>
                      have p139 : fa.eval (.tmp 139) = .pointer (some ⟨g, 0, none⟩) := hp 48 139 _ (by kernel_rfl) rfl rfl
                      have hv : (#[Operand.tmp 139] : Array Operand).map fa.eval = #[(.pointer (some ⟨g, 0, none⟩))] := by simp only [List.map_toArray, List.map_cons, List.map_nil, p139]
                      exact ⟨_, _, rfl, rfl, .inl ⟨RV.wanted_at (d := 138) rfl fr (by rfl) (hp 47 138 _ (by kernel_rfl) rfl rfl) rfl, RV.yields_call_g hv Tryd.func17 (by kernel_rfl) rfl (at_any (hG.get 0 rfl)) (fun e w2 h => ⟨h.1, hG.below h.2⟩)⟩⟩
                    | 50, _ =>
                      have p140 : fa.eval (.tmp 140) = .int .i64 ((a : Nat)) := hp 49 140 _ (by kernel_rfl) rfl rfl
                      simp only [Act.eval] at p140
                      refine ⟨_, _, rfl, rfl, .inl ⟨RV.wanted_at (d := 138) rfl fr (by rfl) (hp 47 138 _ (by kernel_rfl) rfl rfl) rfl, .inl ⟨fw, ?_, hG⟩⟩⟩
                      simp only [execOp, Act.eval]
                      go_simp
                      all_goals (first | done | omega | (simp; omega))
                    | 51, _ =>
                      have p138 : fa.eval (.tmp 138) = .bool false := hp 47 138 _ (by kernel_rfl) rfl rfl
                      have p141 : fa.eval (.tmp 141) = .bool false := hp 50 141 _ (by kernel_rfl) rfl rfl
                      simp only [Act.eval] at p138 p141
                      refine ⟨_, _, rfl, rfl, .inl ⟨RV.wanted_none rfl, .inl ⟨fw, ?_, hG⟩⟩⟩
                      simp only [execOp, Act.eval]
                      go_simp
                      all_goals first | omega | (intro hh; omega) | (rw [IntKind.wrap_i64]; omega)
                    | 52, _ =>
                      have p142 : fa.eval (.tmp 142) = .bool false := hp 51 142 _ (by kernel_rfl) rfl rfl
                      simp only [Act.eval] at p142
                      refine ⟨_, _, rfl, rfl, .inl ⟨RV.wanted_none rfl, .inl ⟨fw, ?_, hG⟩⟩⟩
                      simp only [execOp, Act.eval]
                      go_simp
                      all_goals first | omega | (intro hh; omega) | (rw [IntKind.wrap_i64]; omega)
                    | 53, _ =>
                      have p5 : fa.eval (.tmp 5) = .pointer (some ⟨g, 0, none⟩) := (fr.out 5 (by decide)).trans rfl
                      simp only [Act.eval] at p5
                      refine ⟨_, _, rfl, rfl, .inl ⟨RV.wanted_at (d := 143) rfl fr (by rfl) (hp 52 143 _ (by kernel_rfl) rfl rfl) rfl, .inl ⟨fw, ?_, hG⟩⟩⟩
                      simp only [execOp, Act.eval]
                      go_simp
                      all_goals first | omega | (intro hh; omega) | (rw [IntKind.wrap_i64]; omega)
                    | 54, _ =>
                      have p144 : fa.eval (.tmp 144) = .pointer (some ⟨g, 0, none⟩) := hp 53 144 _ (by kernel_rfl) rfl rfl
                      have hv : (#[Operand.tmp 144] : Array Operand).map fa.eval = #[(.pointer (some ⟨g, 0, none⟩))] := by simp only [List.map_toArray, List.map_cons, List.map_nil, p144]
                      exact ⟨_, _, rfl, rfl, .inl ⟨RV.wanted_at (d := 143) rfl fr (by rfl) (hp 52 143 _ (by kernel_rfl) rfl rfl) rfl, RV.yields_call_g hv Tryd.func17 (by kernel_rfl) rfl (at_any (hG.get 0 rfl)) (fun e w2 h => ⟨h.1, hG.below h.2⟩)⟩⟩
                    | 55, _ =>
                      have p0 : fa.eval (.tmp 0) = .string ⟨(b0).toArray⟩ := (fr.out 0 (by decide)).trans rfl
                      simp only [Act.eval] at p0
                      refine ⟨_, _, rfl, rfl, .inl ⟨RV.wanted_at (d := 143) rfl fr (by rfl) (hp 52 143 _ (by kernel_rfl) rfl rfl) rfl, .inl ⟨fw, ?_, hG⟩⟩⟩
                      simp only [execOp, Act.eval]
                      go_simp
                      all_goals first | omega | (intro hh; omega) | (rw [IntKind.wrap_i64]; omega)
                    | 56, _ =>
                      have p146 : fa.eval (.tmp 146) = .string ⟨(b0).toArray⟩ := hp 55 146 _ (by kernel_rfl) rfl rfl
                      simp only [Act.eval] at p146
                      refine ⟨_, _, rfl, rfl, .inl ⟨RV.wanted_at (d := 143) rfl fr (by rfl) (hp 52 143 _ (by kernel_rfl) rfl rfl) rfl, .inl ⟨fw, ?_, hG⟩⟩⟩
                      simp only [execOp, Act.eval]
                      go_simp
                      all_goals first | omega | (intro hh; omega) | (rw [IntKind.wrap_i64]; omega)
                    | 57, _ =>
                      have p145 : fa.eval (.tmp 145) = .int .i64 ((a : Nat)) := hp 54 145 _ (by kernel_rfl) rfl rfl
                      have p147 : fa.eval (.tmp 147) = .int .i64 (b0.length : Nat) := hp 56 147 _ (by kernel_rfl) rfl rfl
                      simp only [Act.eval] at p145 p147
                      have hal := HA2.out
                      refine ⟨_, _, rfl, rfl, .inl ⟨RV.wanted_at (d := 143) rfl fr (by rfl) (hp 52 143 _ (by kernel_rfl) rfl rfl) rfl, .inl ⟨fw, ?_, hG⟩⟩⟩
                      simp only [execOp, Act.eval]
                      go_simp
                      all_goals (first | done | omega | (simp; omega))
                    | 58, _ =>
                      have p143 : fa.eval (.tmp 143) = .bool false := hp 52 143 _ (by kernel_rfl) rfl rfl
                      have p148 : fa.eval (.tmp 148) = .bool false := hp 57 148 _ (by kernel_rfl) rfl rfl
                      simp only [Act.eval] at p143 p148
                      refine ⟨_, _, rfl, rfl, .inl ⟨RV.wanted_none rfl, .inl ⟨fw, ?_, hG⟩⟩⟩
                      simp only [execOp, Act.eval]
                      go_simp
                      all_goals first | omega | (intro hh; omega) | (rw [IntKind.wrap_i64]; omega)
                    | 59, _ =>
                      have p149 : fa.eval (.tmp 149) = .bool false := hp 58 149 _ (by kernel_rfl) rfl rfl
                      simp only [Act.eval] at p149
                      refine ⟨_, _, rfl, rfl, .inl ⟨RV.wanted_none rfl, .inl ⟨fw, ?_, hG⟩⟩⟩
                      simp only [execOp, Act.eval]
                      go_simp
                      all_goals first | omega | (intro hh; omega) | (rw [IntKind.wrap_i64]; omega)
                    | 60, _ =>
                      have p5 : fa.eval (.tmp 5) = .pointer (some ⟨g, 0, none⟩) := (fr.out 5 (by decide)).trans rfl
                      simp only [Act.eval] at p5
                      refine ⟨_, _, rfl, rfl, .inl ⟨RV.wanted_at (d := 150) rfl fr (by rfl) (hp 59 150 _ (by kernel_rfl) rfl rfl) rfl, .inl ⟨fw, ?_, hG⟩⟩⟩
                      simp only [execOp, Act.eval]
                      go_simp
                      all_goals first | omega | (intro hh; omega) | (rw [IntKind.wrap_i64]; omega)
                    | 61, _ =>
                      have p151 : fa.eval (.tmp 151) = .pointer (some ⟨g, 0, none⟩) := hp 60 151 _ (by kernel_rfl) rfl rfl
                      have hv : (#[Operand.tmp 151] : Array Operand).map fa.eval = #[(.pointer (some ⟨g, 0, none⟩))] := by simp only [List.map_toArray, List.map_cons, List.map_nil, p151]
                      exact ⟨_, _, rfl, rfl, .inl ⟨RV.wanted_at (d := 150) rfl fr (by rfl) (hp 59 150 _ (by kernel_rfl) rfl rfl) rfl, RV.yields_call_g hv Tryd.func20 (by kernel_rfl) rfl (HRS.out _ (hG.get 0 rfl)) (fun e w2 h => ⟨h.1, hG.below h.2⟩)⟩⟩
                    | 62, _ =>
                      have p0 : fa.eval (.tmp 0) = .string ⟨(b0).toArray⟩ := (fr.out 0 (by decide)).trans rfl
                      simp only [Act.eval] at p0
                      refine ⟨_, _, rfl, rfl, .inl ⟨RV.wanted_at (d := 150) rfl fr (by rfl) (hp 59 150 _ (by kernel_rfl) rfl rfl) rfl, .inl ⟨fw, ?_, hG⟩⟩⟩
                      simp only [execOp, Act.eval]
                      go_simp
                      all_goals first | omega | (intro hh; omega) | (rw [IntKind.wrap_i64]; omega)
                    | 63, _ =>
                      have p5 : fa.eval (.tmp 5) = .pointer (some ⟨g, 0, none⟩) := (fr.out 5 (by decide)).trans rfl
                      simp only [Act.eval] at p5
                      refine ⟨_, _, rfl, rfl, .inl ⟨RV.wanted_at (d := 150) rfl fr (by rfl) (hp 59 150 _ (by kernel_rfl) rfl rfl) rfl, .inl ⟨fw, ?_, hG⟩⟩⟩
                      simp only [execOp, Act.eval]
                      go_simp
                      all_goals first | omega | (intro hh; omega) | (rw [IntKind.wrap_i64]; omega)
                    | 64, _ =>
                      have p154 : fa.eval (.tmp 154) = .pointer (some ⟨g, 0, none⟩) := hp 63 154 _ (by kernel_rfl) rfl rfl
                      have hv : (#[Operand.tmp 154] : Array Operand).map fa.eval = #[(.pointer (some ⟨g, 0, none⟩))] := by simp only [List.map_toArray, List.map_cons, List.map_nil, p154]
                      exact ⟨_, _, rfl, rfl, .inl ⟨RV.wanted_at (d := 150) rfl fr (by rfl) (hp 59 150 _ (by kernel_rfl) rfl rfl) rfl, RV.yields_call_g hv Tryd.func17 (by kernel_rfl) rfl (at_any (hG.get 0 rfl)) (fun e w2 h => ⟨h.1, hG.below h.2⟩)⟩⟩
                    | 65, _ =>
                      have p153 : fa.eval (.tmp 153) = .string ⟨(b0).toArray⟩ := hp 62 153 _ (by kernel_rfl) rfl rfl
                      have p155 : fa.eval (.tmp 155) = .int .i64 ((a : Nat)) := hp 64 155 _ (by kernel_rfl) rfl rfl
                      simp only [Act.eval] at p153 p155
                      have hex := HEX.out
                      have hal := HA2.out
                      refine ⟨_, _, rfl, rfl, .inl ⟨RV.wanted_at (d := 150) rfl fr (by rfl) (hp 59 150 _ (by kernel_rfl) rfl rfl) rfl, .inl ⟨fw, ?_, hG⟩⟩⟩
                      simp only [execOp, Act.eval]
                      go_simp
                      all_goals first | omega | (intro hh; omega) | (rw [IntKind.wrap_i64]; omega)
                    | 66, _ =>
                      have p152 : fa.eval (.tmp 152) = .string ⟨(r0).toArray⟩ := hp 61 152 _ (by kernel_rfl) rfl rfl
                      have p156 : fa.eval (.tmp 156) = .string ⟨(r0).toArray⟩ := hp 65 156 _ (by kernel_rfl) rfl rfl
                      simp only [Act.eval] at p152 p156
                      refine ⟨_, _, rfl, rfl, .inl ⟨RV.wanted_at (d := 150) rfl fr (by rfl) (hp 59 150 _ (by kernel_rfl) rfl rfl) rfl, .inl ⟨fw, ?_, hG⟩⟩⟩
                      simp only [execOp, Act.eval]
                      go_simp
                      all_goals first | omega | (intro hh; omega) | (rw [IntKind.wrap_i64]; omega)
                    | 67, _ =>
                      have p150 : fa.eval (.tmp 150) = .bool false := hp 59 150 _ (by kernel_rfl) rfl rfl
                      have p157 : fa.eval (.tmp 157) = .bool false := hp 66 157 _ (by kernel_rfl) rfl rfl
                      simp only [Act.eval] at p150 p157
                      refine ⟨_, _, rfl, rfl, .inl ⟨RV.wanted_none rfl, .inl ⟨fw, ?_, hG⟩⟩⟩
                      simp only [execOp, Act.eval]
                      go_simp
                      all_goals first | omega | (intro hh; omega) | (rw [IntKind.wrap_i64]; omega)
                    | i + 68, hi => exact absurd hi (by show ¬ (i + 68 < 68); omega)
                  · intro w2 hG
                    simp only [RV.putAll, List.zip_cons_cons, List.zip_nil_left, List.zip_nil_right, List.foldl_cons, List.foldl_nil, Act.put, List.setIfInBounds_toArray, List.set_cons_zero, List.set_cons_succ]
                    go_wp2
                    go_roundw
                    case rel => exact ⟨k + 1, a, true, by omega, HA2.out, rfl, by go_num, hG⟩
                    case measure => simp [intOf]; omega
            · obtain rfl : o = false := by simpa using ho
              by_cases q1 : z < 0
              · have d1 : decide (0 ≤ z) = false := by simp; omega
                have HK := Lib.hid (Tk.bad (l := b0) (a := a) (o := false) (n := z) (.inr (.inl q1)))
                have HA2 := Lib.hid (show a ≤ b0.length by have := HA.out; omega)
                obtain ⟨r0, hr0⟩ : ∃ r, b0.drop a = r := ⟨_, rfl⟩
                have HRS := Lib.hid (fun (W : World) (hq : CuOk W g b0 a false) => (by have h := rest_any hq (by have := HLN.out; omega) HA2.out; rwa [hr0] at h : Calls Tryd.prog 20 #[.pointer (some ⟨g, 0, none⟩)] W fun e w' => e = .returned (.string ⟨r0.toArray⟩) ∧ Below W.heap.size W w'))
                have HEX := Lib.hid (show (⟨b0.toArray⟩ : ByteArray).extract a b0.length = ⟨r0.toArray⟩ by
                  rw [← hr0]; apply ByteArray.ext; simp; exact List.take_of_length_le (by simp))
                clear hr0
                have HWL := Lib.hid (show IntKind.i64.wrap (((a : Nat) : Int) + ((b0.length : Int) - ((a : Nat) : Int))) = (b0.length : Int) by have := HLN.out; rw [IntKind.wrap_i64]; omega)
                go_wp2_with fail
                go_at_call 17
                refine (at_s hS.out 0 rfl).mono ?_
                rintro e v3 ⟨rfl, h1⟩
                have h2 : CS w v3 [K g b0 a false] := h1
                clear hS h1; have hS := Lib.hid h2; clear h2
                clear hcell
                have hcell := HE.out _ hS.out.bl
                go_wp2_with fail
                go_at_call 19
                refine (left_s hS.out 0 rfl HB.out HA.out).mono ?_
                rintro e v4 ⟨rfl, h1⟩
                have h2 : CS w v4 [K g b0 a false] := h1
                clear hS h1; have hS := Lib.hid h2; clear h2
                clear hcell
                have hcell := HE.out _ hS.out.bl
                go_wp2_with fail
                go_at_call 12
                refine (take_n hS.out 0 rfl HB.out HA.out HK.out).mono ?_
                rintro e v5 ⟨rfl, h1⟩
                have h2 : CS w v5 [K g b0 a false] := h1
                clear hS h1; have hS := Lib.hid h2; clear h2
                clear hcell
                have hcell := HE.out _ hS.out.bl
                go_wp2_with fail
                refine RV.wp_region_g (by kernel_rfl) [91, 92, 93, 94, 95, 96, 97, 98, 99, 100, 101, 102, 103, 104, 105, 106, 107, 108, 109, 110, 111, 112, 113, 114, 115, 116, 117, 118, 119, 120, 121, 122, 123, 124, 125, 126, 127, 128, 129, 130, 131, 132, 133, 134, 135, 136, 137, 138, 139, 140, 141, 142, 143, 144, 145, 146, 147, 148, 149, 150, 151, 152, 153, 154, 155, 156, 157, 158] [.bool false, .bool false, .bool false, .bool false, .bool false, .bool true, .bool true, .int .u64 0, .bool false, .bool false, .pointer (some ⟨g, 0, none⟩), .int .i64 ((a : Nat)), .int .i64 (a : Nat), .bool false, .bool false, .bool false, .bool false, .bool false, .bool false, .bool false, undef, undef, undef, undef, undef, undef, undef, undef, undef, .bool false, .bool false, .bool false, .pointer (some ⟨g, 0, none⟩), .bool false, .bool false, .bool false, .bool false, .bool false, .pointer (some ⟨g, 0, none⟩), .int .i64 ((a : Nat)), .pointer (some ⟨g, 0, none⟩), .int .i64 ((b0.length : Int) - ((a : Nat) : Int)), .int .i64 (b0.length : Nat), .string ⟨(b0).toArray⟩, .int .i64 (b0.length : Nat), .bool false, .bool false, .bool false, .pointer (some ⟨g, 0, none⟩), .int .i64 ((a : Nat)), .bool false, .bool false, .bool false, .pointer (some ⟨g, 0, none⟩), .int .i64 ((a : Nat)), .string ⟨(b0).toArray⟩, .int .i64 (b0.length : Nat), .bool false, .bool false, .bool false, .pointer (some ⟨g, 0, none⟩), .string ⟨(r0).toArray⟩, .string ⟨(b0).toArray⟩, .pointer (some ⟨g, 0, none⟩), .int .i64 ((a : Nat)), .string ⟨(r0).toArray⟩, .bool false, .bool false] (fun W => CS w W [K g b0 a false]) (by kernel_rfl) rfl (by decide) rfl (by kernel_rfl) (hS.out.drew) ?_ ?_
                · intro ii hii fa fw fr hp hG
                  match ii, hii with
                  | 0, _ =>
                    have p13 : fa.eval (.tmp 13) = .bool false := (fr.out 13 (by decide)).trans rfl
                    simp only [Act.eval] at p13
                    refine ⟨_, _, rfl, rfl, .inl ⟨RV.wanted_none rfl, .inl ⟨fw, ?_, hG⟩⟩⟩
                    simp only [execOp, Act.eval]
                    go_simp
                    all_goals first | omega | (intro hh; omega) | (rw [IntKind.wrap_i64]; omega)
                  | 1, _ =>
                    have p14 : fa.eval (.tmp 14) = .bool false := (fr.out 14 (by decide)).trans rfl
                    simp only [Act.eval] at p14
                    refine ⟨_, _, rfl, rfl, .inl ⟨RV.wanted_none rfl, .inl ⟨fw, ?_, hG⟩⟩⟩
                    simp only [execOp, Act.eval]
                    go_simp
                    all_goals first | omega | (intro hh; omega) | (rw [IntKind.wrap_i64]; omega)
                  | 2, _ =>
                    have p91 : fa.eval (.tmp 91) = .bool false := hp 0 91 _ (by kernel_rfl) rfl rfl
                    have p92 : fa.eval (.tmp 92) = .bool false := hp 1 92 _ (by kernel_rfl) rfl rfl
                    simp only [Act.eval] at p91 p92
                    refine ⟨_, _, rfl, rfl, .inl ⟨RV.wanted_none rfl, .inl ⟨fw, ?_, hG⟩⟩⟩
                    simp only [execOp, Act.eval]
                    go_simp
                    all_goals first | omega | (intro hh; omega) | (rw [IntKind.wrap_i64]; omega)
                  | 3, _ =>
                    have p93 : fa.eval (.tmp 93) = .bool false := hp 2 93 _ (by kernel_rfl) rfl rfl
                    simp only [Act.eval] at p93
                    refine ⟨_, _, rfl, rfl, .inl ⟨RV.wanted_none rfl, .inl ⟨fw, ?_, hG⟩⟩⟩
                    simp only [execOp, Act.eval]
                    go_simp
                    all_goals first | omega | (intro hh; omega) | (rw [IntKind.wrap_i64]; omega)
                  | 4, _ =>
                    have p13 : fa.eval (.tmp 13) = .bool false := (fr.out 13 (by decide)).trans rfl
                    simp only [Act.eval] at p13
                    refine ⟨_, _, rfl, rfl, .inl ⟨RV.wanted_at (d := 94) rfl fr (by rfl) (hp 3 94 _ (by kernel_rfl) rfl rfl) rfl, .inl ⟨fw, ?_, hG⟩⟩⟩
                    simp only [execOp, Act.eval]
                    go_simp
                    all_goals first | omega | (intro hh; omega) | (rw [IntKind.wrap_i64]; omega)
                  | 5, _ =>
                    have p95 : fa.eval (.tmp 95) = .bool false := hp 4 95 _ (by kernel_rfl) rfl rfl
                    simp only [Act.eval] at p95
                    refine ⟨_, _, rfl, rfl, .inl ⟨RV.wanted_at (d := 94) rfl fr (by rfl) (hp 3 94 _ (by kernel_rfl) rfl rfl) rfl, .inl ⟨fw, ?_, hG⟩⟩⟩
                    simp only [execOp, Act.eval]
                    go_simp
                    all_goals first | omega | (intro hh; omega) | (rw [IntKind.wrap_i64]; omega)
                  | 6, _ =>
                    have p96 : fa.eval (.tmp 96) = .bool true := hp 5 96 _ (by kernel_rfl) rfl rfl
                    simp only [Act.eval] at p96
                    refine ⟨_, _, rfl, rfl, .inl ⟨RV.wanted_at (d := 94) rfl fr (by rfl) (hp 3 94 _ (by kernel_rfl) rfl rfl) rfl, .inl ⟨fw, ?_, hG⟩⟩⟩
                    simp only [execOp, Act.eval]
                    go_simp
                    all_goals first | omega | (intro hh; omega) | (rw [IntKind.wrap_i64]; omega)
                  | 7, _ =>
                    have p12 : fa.eval (.tmp 12) = .int .u64 0 := (fr.out 12 (by decide)).trans rfl
                    simp only [Act.eval] at p12
                    refine ⟨_, _, rfl, rfl, .inl ⟨RV.wanted_at (d := 97) rfl fr (by rfl) (hp 6 97 _ (by kernel_rfl) rfl rfl) rfl, .inl ⟨fw, ?_, hG⟩⟩⟩
                    simp only [execOp, Act.eval]
                    go_simp
                    all_goals first | omega | (intro hh; omega) | (rw [IntKind.wrap_i64]; omega)
                  | 8, _ =>
                    have p98 : fa.eval (.tmp 98) = .int .u64 0 := hp 7 98 _ (by kernel_rfl) rfl rfl
                    simp only [Act.eval] at p98
                    refine ⟨_, _, rfl, rfl, .inl ⟨RV.wanted_at (d := 97) rfl fr (by rfl) (hp 6 97 _ (by kernel_rfl) rfl rfl) rfl, .inl ⟨fw, ?_, hG⟩⟩⟩
                    simp only [execOp, Act.eval]
                    go_simp
                    all_goals first | omega | (intro hh; omega) | (rw [IntKind.wrap_i64]; omega)
                  | 9, _ =>
                    have p99 : fa.eval (.tmp 99) = .bool false := hp 8 99 _ (by kernel_rfl) rfl rfl
                    simp only [Act.eval] at p99
                    refine ⟨_, _, rfl, rfl, .inl ⟨RV.wanted_at (d := 97) rfl fr (by rfl) (hp 6 97 _ (by kernel_rfl) rfl rfl) rfl, .inl ⟨fw, ?_, hG⟩⟩⟩
                    simp only [execOp, Act.eval]
                    go_simp
                    all_goals first | omega | (intro hh; omega) | (rw [IntKind.wrap_i64]; omega)
                  | 10, _ =>
                    have p5 : fa.eval (.tmp 5) = .pointer (some ⟨g, 0, none⟩) := (fr.out 5 (by decide)).trans rfl
                    simp only [Act.eval] at p5
                    refine ⟨_, _, rfl, rfl, .inl ⟨RV.wanted_at (d := 100) rfl fr (by rfl) (hp 9 100 _ (by kernel_rfl) rfl rfl) rfl, .inl ⟨fw, ?_, hG⟩⟩⟩
                    simp only [execOp, Act.eval]
                    go_simp
                    all_goals first | omega | (intro hh; omega) | (rw [IntKind.wrap_i64]; omega)
                  | 11, _ =>
                    have p101 : fa.eval (.tmp 101) = .pointer (some ⟨g, 0, none⟩) := hp 10 101 _ (by kernel_rfl) rfl rfl
                    have hv : (#[Operand.tmp 101] : Array Operand).map fa.eval = #[(.pointer (some ⟨g, 0, none⟩))] := by simp only [List.map_toArray, List.map_cons, List.map_nil, p101]
                    exact ⟨_, _, rfl, rfl, .inl ⟨RV.wanted_at (d := 100) rfl fr (by rfl) (hp 9 100 _ (by kernel_rfl) rfl rfl) rfl, RV.yields_call_g hv Tryd.func17 (by kernel_rfl) rfl (at_any (hG.get 0 rfl)) (fun e w2 h => ⟨h.1, hG.below h.2⟩)⟩⟩
                  | 12, _ =>
                    have p9 : fa.eval (.tmp 9) = .int .i64 (a : Nat) := (fr.out 9 (by decide)).trans rfl
                    simp only [Act.eval] at p9
                    refine ⟨_, _, rfl, rfl, .inl ⟨RV.wanted_at (d := 100) rfl fr (by rfl) (hp 9 100 _ (by kernel_rfl) rfl rfl) rfl, .inl ⟨fw, ?_, hG⟩⟩⟩
                    simp only [execOp, Act.eval]
                    go_simp
                    all_goals first | omega | (intro hh; omega) | (rw [IntKind.wrap_i64]; omega)
                  | 13, _ =>
                    have p102 : fa.eval (.tmp 102) = .int .i64 ((a : Nat)) := hp 11 102 _ (by kernel_rfl) rfl rfl
                    have p103 : fa.eval (.tmp 103) = .int .i64 (a : Nat) := hp 12 103 _ (by kernel_rfl) rfl rfl
                    simp only [Act.eval] at p102 p103
                    refine ⟨_, _, rfl, rfl, .inl ⟨RV.wanted_at (d := 100) rfl fr (by rfl) (hp 9 100 _ (by kernel_rfl) rfl rfl) rfl, .inl ⟨fw, ?_, hG⟩⟩⟩
                    simp only [execOp, Act.eval]
                    go_simp
                    all_goals first | omega | (intro hh; omega) | (rw [IntKind.wrap_i64]; omega)
                  | 14, _ =>
                    have p100 : fa.eval (.tmp 100) = .bool false := hp 9 100 _ (by kernel_rfl) rfl rfl
                    have p104 : fa.eval (.tmp 104) = .bool false := hp 13 104 _ (by kernel_rfl) rfl rfl
                    simp only [Act.eval] at p100 p104
                    refine ⟨_, _, rfl, rfl, .inl ⟨RV.wanted_at (d := 97) rfl fr (by rfl) (hp 6 97 _ (by kernel_rfl) rfl rfl) rfl, .inl ⟨fw, ?_, hG⟩⟩⟩
                    simp only [execOp, Act.eval]
                    go_simp
                    all_goals first | omega | (intro hh; omega) | (rw [IntKind.wrap_i64]; omega)
                  | 15, _ =>
                    have p97 : fa.eval (.tmp 97) = .bool true := hp 6 97 _ (by kernel_rfl) rfl rfl
                    have p105 : fa.eval (.tmp 105) = .bool false := hp 14 105 _ (by kernel_rfl) rfl rfl
                    simp only [Act.eval] at p97 p105
                    refine ⟨_, _, rfl, rfl, .inl ⟨RV.wanted_at (d := 94) rfl fr (by rfl) (hp 3 94 _ (by kernel_rfl) rfl rfl) rfl, .inl ⟨fw, ?_, hG⟩⟩⟩
                    simp only [execOp, Act.eval]
                    go_simp
                    all_goals first | omega | (intro hh; omega) | (rw [IntKind.wrap_i64]; omega)
                  | 16, _ =>
                    have p94 : fa.eval (.tmp 94) = .bool false := hp 3 94 _ (by kernel_rfl) rfl rfl
                    have p106 : fa.eval (.tmp 106) = .bool false := hp 15 106 _ (by kernel_rfl) rfl rfl
                    simp only [Act.eval] at p94 p106
                    refine ⟨_, _, rfl, rfl, .inl ⟨RV.wanted_none rfl, .inl ⟨fw, ?_, hG⟩⟩⟩
                    simp only [execOp, Act.eval]
                    go_simp
                    all_goals first | omega | (intro hh; omega) | (rw [IntKind.wrap_i64]; omega)
                  | 17, _ =>
                    have p107 : fa.eval (.tmp 107) = .bool false := hp 16 107 _ (by kernel_rfl) rfl rfl
                    simp only [Act.eval] at p107
                    refine ⟨_, _, rfl, rfl, .inl ⟨RV.wanted_none rfl, .inl ⟨fw, ?_, hG⟩⟩⟩
                    simp only [execOp, Act.eval]
                    go_simp
                    all_goals first | omega | (intro hh; omega) | (rw [IntKind.wrap_i64]; omega)
                  | 18, _ =>
                    have p13 : fa.eval (.tmp 13) = .bool false := (fr.out 13 (by decide)).trans rfl
                    simp only [Act.eval] at p13
                    refine ⟨_, _, rfl, rfl, .inl ⟨RV.wanted_at (d := 108) rfl fr (by rfl) (hp 17 108 _ (by kernel_rfl) rfl rfl) rfl, .inl ⟨fw, ?_, hG⟩⟩⟩
                    simp only [execOp, Act.eval]
                    go_simp
                    all_goals first | omega | (intro hh; omega) | (rw [IntKind.wrap_i64]; omega)
                  | 19, _ =>
                    have p109 : fa.eval (.tmp 109) = .bool false := hp 18 109 _ (by kernel_rfl) rfl rfl
                    simp only [Act.eval] at p109
                    refine ⟨_, _, rfl, rfl, .inl ⟨RV.wanted_at (d := 108) rfl fr (by rfl) (hp 17 108 _ (by kernel_rfl) rfl rfl) rfl, .inl ⟨fw, ?_, hG⟩⟩⟩
                    simp only [execOp, Act.eval]
                    go_simp
                    all_goals first | omega | (intro hh; omega) | (rw [IntKind.wrap_i64]; omega)
                  | 20, _ =>
                    exact ⟨_, _, rfl, rfl, .inr ⟨RV.wanted_no (d := 110) rfl fr (by rfl) (hp 19 110 _ (by kernel_rfl) rfl rfl) (.inl rfl) rfl, rfl⟩⟩
                  | 21, _ =>
                    exact ⟨_, _, rfl, rfl, .inr ⟨RV.wanted_no (d := 110) rfl fr (by rfl) (hp 19 110 _ (by kernel_rfl) rfl rfl) (.inl rfl) rfl, rfl⟩⟩
                  | 22, _ =>
                    exact ⟨_, _, rfl, rfl, .inr ⟨RV.wanted_no (d := 110) rfl fr (by rfl) (hp 19 110 _ (by kernel_rfl) rfl rfl) (.inl rfl) rfl, rfl⟩⟩
                  | 23, _ =>
                    exact ⟨_, _, rfl, rfl, .inr ⟨RV.wanted_no (d := 110) rfl fr (by rfl) (hp 19 110 _ (by kernel_rfl) rfl rfl) (.inl rfl) rfl, rfl⟩⟩
                  | 24, _ =>
                    exact ⟨_, _, rfl, rfl, .inr ⟨RV.wanted_no (d := 110) rfl fr (by rfl) (hp 19 110 _ (by kernel_rfl) rfl rfl) (.inl rfl) rfl, rfl⟩⟩
                  | 25, _ =>
                    exact ⟨_, _, rfl, rfl, .inr ⟨RV.wanted_no (d := 110) rfl fr (by rfl) (hp 19 110 _ (by kernel_rfl) rfl rfl) (.inl rfl) rfl, rfl⟩⟩
                  | 26, _ =>
                    exact ⟨_, _, rfl, rfl, .inr ⟨RV.wanted_no (d := 110) rfl fr (by rfl) (hp 19 110 _ (by kernel_rfl) rfl rfl) (.inl rfl) rfl, rfl⟩⟩
                  | 27, _ =>
                    exact ⟨_, _, rfl, rfl, .inr ⟨RV.wanted_no (d := 110) rfl fr (by rfl) (hp 19 110 _ (by kernel_rfl) rfl rfl) (.inl rfl) rfl, rfl⟩⟩
                  | 28, _ =>
                    exact ⟨_, _, rfl, rfl, .inr ⟨RV.wanted_no (d := 110) rfl fr (by rfl) (hp 19 110 _ (by kernel_rfl) rfl rfl) (.inl rfl) rfl, rfl⟩⟩
                  | 29, _ =>
                    have p110 : fa.eval (.tmp 110) = .bool false := hp 19 110 _ (by kernel_rfl) rfl rfl
                    have p119 : fa.eval (.tmp 119) = undef := hp 28 119 _ (by kernel_rfl) rfl rfl
                    simp only [Act.eval] at p110 p119
                    refine ⟨_, _, rfl, rfl, .inl ⟨RV.wanted_at (d := 108) rfl fr (by rfl) (hp 17 108 _ (by kernel_rfl) rfl rfl) rfl, .inl ⟨fw, ?_, hG⟩⟩⟩
                    simp only [execOp, Act.eval]
                    go_simp
                    all_goals first | omega | (intro hh; omega) | (rw [IntKind.wrap_i64]; omega)
                  | 30, _ =>
                    have p108 : fa.eval (.tmp 108) = .bool false := hp 17 108 _ (by kernel_rfl) rfl rfl
                    have p120 : fa.eval (.tmp 120) = .bool false := hp 29 120 _ (by kernel_rfl) rfl rfl
                    simp only [Act.eval] at p108 p120
                    refine ⟨_, _, rfl, rfl, .inl ⟨RV.wanted_none rfl, .inl ⟨fw, ?_, hG⟩⟩⟩
                    simp only [execOp, Act.eval]
                    go_simp
                    all_goals first | omega | (intro hh; omega) | (rw [IntKind.wrap_i64]; omega)
                  | 31, _ =>
                    have p121 : fa.eval (.tmp 121) = .bool false := hp 30 121 _ (by kernel_rfl) rfl rfl
                    simp only [Act.eval] at p121
                    refine ⟨_, _, rfl, rfl, .inl ⟨RV.wanted_none rfl, .inl ⟨fw, ?_, hG⟩⟩⟩
                    simp only [execOp, Act.eval]
                    go_simp
                    all_goals first | omega | (intro hh; omega) | (rw [IntKind.wrap_i64]; omega)
                  | 32, _ =>
                    have p5 : fa.eval (.tmp 5) = .pointer (some ⟨g, 0, none⟩) := (fr.out 5 (by decide)).trans rfl
                    simp only [Act.eval] at p5
                    refine ⟨_, _, rfl, rfl, .inl ⟨RV.wanted_at (d := 122) rfl fr (by rfl) (hp 31 122 _ (by kernel_rfl) rfl rfl) rfl, .inl ⟨fw, ?_, hG⟩⟩⟩
                    simp only [execOp, Act.eval]
                    go_simp
                    all_goals first | omega | (intro hh; omega) | (rw [IntKind.wrap_i64]; omega)
                  | 33, _ =>
                    have p123 : fa.eval (.tmp 123) = .pointer (some ⟨g, 0, none⟩) := hp 32 123 _ (by kernel_rfl) rfl rfl
                    have hv : (#[Operand.tmp 123] : Array Operand).map fa.eval = #[(.pointer (some ⟨g, 0, none⟩))] := by simp only [List.map_toArray, List.map_cons, List.map_nil, p123]
                    exact ⟨_, _, rfl, rfl, .inl ⟨RV.wanted_at (d := 122) rfl fr (by rfl) (hp 31 122 _ (by kernel_rfl) rfl rfl) rfl, RV.yields_call_g hv Tryd.func18 (by kernel_rfl) rfl (over_any (hG.get 0 rfl)) (fun e w2 h => ⟨h.1, hG.below h.2⟩)⟩⟩
                  | 34, _ =>
                    have p7 : fa.eval (.tmp 7) = .bool false := (fr.out 7 (by decide)).trans rfl
                    simp only [Act.eval] at p7
                    refine ⟨_, _, rfl, rfl, .inl ⟨RV.wanted_at (d := 122) rfl fr (by rfl) (hp 31 122 _ (by kernel_rfl) rfl rfl) rfl, .inl ⟨fw, ?_, hG⟩⟩⟩
                    simp only [execOp, Act.eval]
                    go_simp
                    all_goals first | omega | (intro hh; omega) | (rw [IntKind.wrap_i64]; omega)
                  | 35, _ =>
                    have p124 : fa.eval (.tmp 124) = .bool false := hp 33 124 _ (by kernel_rfl) rfl rfl
                    have p125 : fa.eval (.tmp 125) = .bool false := hp 34 125 _ (by kernel_rfl) rfl rfl
                    simp only [Act.eval] at p124 p125
                    refine ⟨_, _, rfl, rfl, .inl ⟨RV.wanted_at (d := 122) rfl fr (by rfl) (hp 31 122 _ (by kernel_rfl) rfl rfl) rfl, .inl ⟨fw, ?_, hG⟩⟩⟩
                    simp only [execOp, Act.eval]
                    go_simp
                    all_goals first | omega | (intro hh; omega) | (rw [IntKind.wrap_i64]; omega)
                  | 36, _ =>
                    have p122 : fa.eval (.tmp 122) = .bool false := hp 31 122 _ (by kernel_rfl) rfl rfl
                    have p126 : fa.eval (.tmp 126) = .bool false := hp 35 126 _ (by kernel_rfl) rfl rfl
                    simp only [Act.eval] at p122 p126
                    refine ⟨_, _, rfl, rfl, .inl ⟨RV.wanted_none rfl, .inl ⟨fw, ?_, hG⟩⟩⟩
                    simp only [execOp, Act.eval]
                    go_simp
                    all_goals first | omega | (intro hh; omega) | (rw [IntKind.wrap_i64]; omega)
                  | 37, _ =>
                    have p127 : fa.eval (.tmp 127) = .bool false := hp 36 127 _ (by kernel_rfl) rfl rfl
                    simp only [Act.eval] at p127
                    refine ⟨_, _, rfl, rfl, .inl ⟨RV.wanted_none rfl, .inl ⟨fw, ?_, hG⟩⟩⟩
                    simp only [execOp, Act.eval]
                    go_simp
                    all_goals first | omega | (intro hh; omega) | (rw [IntKind.wrap_i64]; omega)
                  | 38, _ =>
                    have p5 : fa.eval (.tmp 5) = .pointer (some ⟨g, 0, none⟩) := (fr.out 5 (by decide)).trans rfl
                    simp only [Act.eval] at p5
                    refine ⟨_, _, rfl, rfl, .inl ⟨RV.wanted_at (d := 128) rfl fr (by rfl) (hp 37 128 _ (by kernel_rfl) rfl rfl) rfl, .inl ⟨fw, ?_, hG⟩⟩⟩
                    simp only [execOp, Act.eval]
                    go_simp
                    all_goals first | omega | (intro hh; omega) | (rw [IntKind.wrap_i64]; omega)
                  | 39, _ =>
                    have p129 : fa.eval (.tmp 129) = .pointer (some ⟨g, 0, none⟩) := hp 38 129 _ (by kernel_rfl) rfl rfl
                    have hv : (#[Operand.tmp 129] : Array Operand).map fa.eval = #[(.pointer (some ⟨g, 0, none⟩))] := by simp only [List.map_toArray, List.map_cons, List.map_nil, p129]
                    exact ⟨_, _, rfl, rfl, .inl ⟨RV.wanted_at (d := 128) rfl fr (by rfl) (hp 37 128 _ (by kernel_rfl) rfl rfl) rfl, RV.yields_call_g hv Tryd.func17 (by kernel_rfl) rfl (at_any (hG.get 0 rfl)) (fun e w2 h => ⟨h.1, hG.below h.2⟩)⟩⟩
                  | 40, _ =>
                    have p5 : fa.eval (.tmp 5) = .pointer (some ⟨g, 0, none⟩) := (fr.out 5 (by decide)).trans rfl
                    simp only [Act.eval] at p5
                    refine ⟨_, _, rfl, rfl, .inl ⟨RV.wanted_at (d := 128) rfl fr (by rfl) (hp 37 128 _ (by kernel_rfl) rfl rfl) rfl, .inl ⟨fw, ?_, hG⟩⟩⟩
                    simp only [execOp, Act.eval]
                    go_simp
                    all_goals first | omega | (intro hh; omega) | (rw [IntKind.wrap_i64]; omega)
                  | 41, _ =>
                    have p131 : fa.eval (.tmp 131) = .pointer (some ⟨g, 0, none⟩) := hp 40 131 _ (by kernel_rfl) rfl rfl
                    have hv : (#[Operand.tmp 131] : Array Operand).map fa.eval = #[(.pointer (some ⟨g, 0, none⟩))] := by simp only [List.map_toArray, List.map_cons, List.map_nil, p131]
                    exact ⟨_, _, rfl, rfl, .inl ⟨RV.wanted_at (d := 128) rfl fr (by rfl) (hp 37 128 _ (by kernel_rfl) rfl rfl) rfl, RV.yields_call_g hv Tryd.func19 (by kernel_rfl) rfl (left_any (hG.get 0 rfl) (by have := HLN.out; unfold maxLen; omega) HA2.out) (fun e w2 h => ⟨h.1, hG.below h.2⟩)⟩⟩
                  | 42, _ =>
                    have p130 : fa.eval (.tmp 130) = .int .i64 ((a : Nat)) := hp 39 130 _ (by kernel_rfl) rfl rfl
                    have p132 : fa.eval (.tmp 132) = .int .i64 ((b0.length : Int) - ((a : Nat) : Int)) := hp 41 132 _ (by kernel_rfl) rfl rfl
                    simp only [Act.eval] at p130 p132
                    have hwl := HWL.out
                    refine ⟨_, _, rfl, rfl, .inl ⟨RV.wanted_at (d := 128) rfl fr (by rfl) (hp 37 128 _ (by kernel_rfl) rfl rfl) rfl, .inl ⟨fw, ?_, hG⟩⟩⟩
                    simp only [execOp, Act.eval]
                    go_simp
                    all_goals first | omega | (intro hh; omega) | (rw [IntKind.wrap_i64]; omega)
                  | 43, _ =>
                    have p0 : fa.eval (.tmp 0) = .string ⟨(b0).toArray⟩ := (fr.out 0 (by decide)).trans rfl
                    simp only [Act.eval] at p0
                    refine ⟨_, _, rfl, rfl, .inl ⟨RV.wanted_at (d := 128) rfl fr (by rfl) (hp 37 128 _ (by kernel_rfl) rfl rfl) rfl, .inl ⟨fw, ?_, hG⟩⟩⟩
                    simp only [execOp, Act.eval]
                    go_simp
                    all_goals first | omega | (intro hh; omega) | (rw [IntKind.wrap_i64]; omega)
                  | 44, _ =>
                    have p134 : fa.eval (.tmp 134) = .string ⟨(b0).toArray⟩ := hp 43 134 _ (by kernel_rfl) rfl rfl
                    simp only [Act.eval] at p134
                    refine ⟨_, _, rfl, rfl, .inl ⟨RV.wanted_at (d := 128) rfl fr (by rfl) (hp 37 128 _ (by kernel_rfl) rfl rfl) rfl, .inl ⟨fw, ?_, hG⟩⟩⟩
                    simp only [execOp, Act.eval]
                    go_simp
                    all_goals first | omega | (intro hh; omega) | (rw [IntKind.wrap_i64]; omega)
                  | 45, _ =>
                    have p133 : fa.eval (.tmp 133) = .int .i64 (b0.length : Nat) := hp 42 133 _ (by kernel_rfl) rfl rfl
                    have p135 : fa.eval (.tmp 135) = .int .i64 (b0.length : Nat) := hp 44 135 _ (by kernel_rfl) rfl rfl
                    simp only [Act.eval] at p133 p135
                    refine ⟨_, _, rfl, rfl, .inl ⟨RV.wanted_at (d := 128) rfl fr (by rfl) (hp 37 128 _ (by kernel_rfl) rfl rfl) rfl, .inl ⟨fw, ?_, hG⟩⟩⟩
                    simp only [execOp, Act.eval]
                    go_simp
                    all_goals first | omega | (intro hh; omega) | (rw [IntKind.wrap_i64]; omega)
                  | 46, _ =>
                    have p128 : fa.eval (.tmp 128) = .bool false := hp 37 128 _ (by kernel_rfl) rfl rfl
                    have p136 : fa.eval (.tmp 136) = .bool false := hp 45 136 _ (by kernel_rfl) rfl rfl
                    simp only [Act.eval] at p128 p136
                    refine ⟨_, _, rfl, rfl, .inl ⟨RV.wanted_none rfl, .inl ⟨fw, ?_, hG⟩⟩⟩
                    simp only [execOp, Act.eval]
                    go_simp
                    all_goals first | omega | (intro hh; omega) | (rw [IntKind.wrap_i64]; omega)
                  | 47, _ =>
                    have p137 : fa.eval (.tmp 137) = .bool false := hp 46 137 _ (by kernel_rfl) rfl rfl
                    simp only [Act.eval] at p137
                    refine ⟨_, _, rfl, rfl, .inl ⟨RV.wanted_none rfl, .inl ⟨fw, ?_, hG⟩⟩⟩
                    simp only [execOp, Act.eval]
                    go_simp
                    all_goals first | omega | (intro hh; omega) | (rw [IntKind.wrap_i64]; omega)
                  | 48, _ =>
                    have p5 : fa.eval (.tmp 5) = .pointer (some ⟨g, 0, none⟩) := (fr.out 5 (by decide)).trans rfl
                    simp only [Act.eval] at p5
                    refine ⟨_, _, rfl, rfl, .inl ⟨RV.wanted_at (d := 138) rfl fr (by rfl) (hp 47 138 _ (by kernel_rfl) rfl rfl) rfl, .inl ⟨fw, ?_, hG⟩⟩⟩
                    simp only [execOp, Act.eval]
                    go_simp
                    all_goals first | omega | (intro hh; omega) | (rw [IntKind.wrap_i64]; omega)
                  | 49, _ =>
                    have p139 : fa.eval (.tmp 139) = .pointer (some ⟨g, 0, none⟩) := hp 48 139 _ (by kernel_rfl) rfl rfl
                    have hv : (#[Operand.tmp 139] : Array Operand).map fa.eval = #[(.pointer (some ⟨g, 0, none⟩))] := by simp only [List.map_toArray, List.map_cons, List.map_nil, p139]
                    exact ⟨_, _, rfl, rfl, .inl ⟨RV.wanted_at (d := 138) rfl fr (by rfl) (hp 47 138 _ (by kernel_rfl) rfl rfl) rfl, RV.yields_call_g hv Tryd.func17 (by kernel_rfl) rfl (at_any (hG.get 0 rfl)) (fun e w2 h => ⟨h.1, hG.below h.2⟩)⟩⟩
                  | 50, _ =>
                    have p140 : fa.eval (.tmp 140) = .int .i64 ((a : Nat)) := hp 49 140 _ (by kernel_rfl) rfl rfl
                    simp only [Act.eval] at p140
                    refine ⟨_, _, rfl, rfl, .inl ⟨RV.wanted_at (d := 138) rfl fr (by rfl) (hp 47 138 _ (by kernel_rfl) rfl rfl) rfl, .inl ⟨fw, ?_, hG⟩⟩⟩
                    simp only [execOp, Act.eval]
                    go_simp
                    all_goals (first | done | omega | (simp; omega))
                  | 51, _ =>
                    have p138 : fa.eval (.tmp 138) = .bool false := hp 47 138 _ (by kernel_rfl) rfl rfl
                    have p141 : fa.eval (.tmp 141) = .bool false := hp 50 141 _ (by kernel_rfl) rfl rfl
                    simp only [Act.eval] at p138 p141
                    refine ⟨_, _, rfl, rfl, .inl ⟨RV.wanted_none rfl, .inl ⟨fw, ?_, hG⟩⟩⟩
                    simp only [execOp, Act.eval]
                    go_simp
                    all_goals first | omega | (intro hh; omega) | (rw [IntKind.wrap_i64]; omega)
                  | 52, _ =>
                    have p142 : fa.eval (.tmp 142) = .bool false := hp 51 142 _ (by kernel_rfl) rfl rfl
                    simp only [Act.eval] at p142
                    refine ⟨_, _, rfl, rfl, .inl ⟨RV.wanted_none rfl, .inl ⟨fw, ?_, hG⟩⟩⟩
                    simp only [execOp, Act.eval]
                    go_simp
                    all_goals first | omega | (intro hh; omega) | (rw [IntKind.wrap_i64]; omega)
                  | 53, _ =>
                    have p5 : fa.eval (.tmp 5) = .pointer (some ⟨g, 0, none⟩) := (fr.out 5 (by decide)).trans rfl
                    simp only [Act.eval] at p5
                    refine ⟨_, _, rfl, rfl, .inl ⟨RV.wanted_at (d := 143) rfl fr (by rfl) (hp 52 143 _ (by kernel_rfl) rfl rfl) rfl, .inl ⟨fw, ?_, hG⟩⟩⟩
                    simp only [execOp, Act.eval]
                    go_simp
                    all_goals first | omega | (intro hh; omega) | (rw [IntKind.wrap_i64]; omega)
                  | 54, _ =>
                    have p144 : fa.eval (.tmp 144) = .pointer (some ⟨g, 0, none⟩) := hp 53 144 _ (by kernel_rfl) rfl rfl
                    have hv : (#[Operand.tmp 144] : Array Operand).map fa.eval = #[(.pointer (some ⟨g, 0, none⟩))] := by simp only [List.map_toArray, List.map_cons, List.map_nil, p144]
                    exact ⟨_, _, rfl, rfl, .inl ⟨RV.wanted_at (d := 143) rfl fr (by rfl) (hp 52 143 _ (by kernel_rfl) rfl rfl) rfl, RV.yields_call_g hv Tryd.func17 (by kernel_rfl) rfl (at_any (hG.get 0 rfl)) (fun e w2 h => ⟨h.1, hG.below h.2⟩)⟩⟩
                  | 55, _ =>
                    have p0 : fa.eval (.tmp 0) = .string ⟨(b0).toArray⟩ := (fr.out 0 (by decide)).trans rfl
                    simp only [Act.eval] at p0
                    refine ⟨_, _, rfl, rfl, .inl ⟨RV.wanted_at (d := 143) rfl fr (by rfl) (hp 52 143 _ (by kernel_rfl) rfl rfl) rfl, .inl ⟨fw, ?_, hG⟩⟩⟩
                    simp only [execOp, Act.eval]
                    go_simp
                    all_goals first | omega | (intro hh; omega) | (rw [IntKind.wrap_i64]; omega)
                  | 56, _ =>
                    have p146 : fa.eval (.tmp 146) = .string ⟨(b0).toArray⟩ := hp 55 146 _ (by kernel_rfl) rfl rfl
                    simp only [Act.eval] at p146
                    refine ⟨_, _, rfl, rfl, .inl ⟨RV.wanted_at (d := 143) rfl fr (by rfl) (hp 52 143 _ (by kernel_rfl) rfl rfl) rfl, .inl ⟨fw, ?_, hG⟩⟩⟩
                    simp only [execOp, Act.eval]
                    go_simp
                    all_goals first | omega | (intro hh; omega) | (rw [IntKind.wrap_i64]; omega)
                  | 57, _ =>
                    have p145 : fa.eval (.tmp 145) = .int .i64 ((a : Nat)) := hp 54 145 _ (by kernel_rfl) rfl rfl
                    have p147 : fa.eval (.tmp 147) = .int .i64 (b0.length : Nat) := hp 56 147 _ (by kernel_rfl) rfl rfl
                    simp only [Act.eval] at p145 p147
                    have hal := HA2.out
                    refine ⟨_, _, rfl, rfl, .inl ⟨RV.wanted_at (d := 143) rfl fr (by rfl) (hp 52 143 _ (by kernel_rfl) rfl rfl) rfl, .inl ⟨fw, ?_, hG⟩⟩⟩
                    simp only [execOp, Act.eval]
                    go_simp
                    all_goals (first | done | omega | (simp; omega))
                  | 58, _ =>
                    have p143 : fa.eval (.tmp 143) = .bool false := hp 52 143 _ (by kernel_rfl) rfl rfl
                    have p148 : fa.eval (.tmp 148) = .bool false := hp 57 148 _ (by kernel_rfl) rfl rfl
                    simp only [Act.eval] at p143 p148
                    refine ⟨_, _, rfl, rfl, .inl ⟨RV.wanted_none rfl, .inl ⟨fw, ?_, hG⟩⟩⟩
                    simp only [execOp, Act.eval]
                    go_simp
                    all_goals first | omega | (intro hh; omega) | (rw [IntKind.wrap_i64]; omega)
                  | 59, _ =>
                    have p149 : fa.eval (.tmp 149) = .bool false := hp 58 149 _ (by kernel_rfl) rfl rfl
                    simp only [Act.eval] at p149
                    refine ⟨_, _, rfl, rfl, .inl ⟨RV.wanted_none rfl, .inl ⟨fw, ?_, hG⟩⟩⟩
                    simp only [execOp, Act.eval]
                    go_simp
                    all_goals first | omega | (intro hh; omega) | (rw [IntKind.wrap_i64]; omega)
                  | 60, _ =>
                    have p5 : fa.eval (.tmp 5) = .pointer (some ⟨g, 0, none⟩) := (fr.out 5 (by decide)).trans rfl
                    simp only [Act.eval] at p5
                    refine ⟨_, _, rfl, rfl, .inl ⟨RV.wanted_at (d := 150) rfl fr (by rfl) (hp 59 150 _ (by kernel_rfl) rfl rfl) rfl, .inl ⟨fw, ?_, hG⟩⟩⟩
                    simp only [execOp, Act.eval]
                    go_simp
                    all_goals first | omega | (intro hh; omega) | (rw [IntKind.wrap_i64]; omega)
                  | 61, _ =>
                    have p151 : fa.eval (.tmp 151) = .pointer (some ⟨g, 0, none⟩) := hp 60 151 _ (by kernel_rfl) rfl rfl
                    have hv : (#[Operand.tmp 151] : Array Operand).map fa.eval = #[(.pointer (some ⟨g, 0, none⟩))] := by simp only [List.map_toArray, List.map_cons, List.map_nil, p151]
                    exact ⟨_, _, rfl, rfl, .inl ⟨RV.wanted_at (d := 150) rfl fr (by rfl) (hp 59 150 _ (by kernel_rfl) rfl rfl) rfl, RV.yields_call_g hv Tryd.func20 (by kernel_rfl) rfl (HRS.out _ (hG.get 0 rfl)) (fun e w2 h => ⟨h.1, hG.below h.2⟩)⟩⟩
                  | 62, _ =>
                    have p0 : fa.eval (.tmp 0) = .string ⟨(b0).toArray⟩ := (fr.out 0 (by decide)).trans rfl
                    simp only [Act.eval] at p0
                    refine ⟨_, _, rfl, rfl, .inl ⟨RV.wanted_at (d := 150) rfl fr (by rfl) (hp 59 150 _ (by kernel_rfl) rfl rfl) rfl, .inl ⟨fw, ?_, hG⟩⟩⟩
                    simp only [execOp, Act.eval]
                    go_simp
                    all_goals first | omega | (intro hh; omega) | (rw [IntKind.wrap_i64]; omega)
                  | 63, _ =>
                    have p5 : fa.eval (.tmp 5) = .pointer (some ⟨g, 0, none⟩) := (fr.out 5 (by decide)).trans rfl
                    simp only [Act.eval] at p5
                    refine ⟨_, _, rfl, rfl, .inl ⟨RV.wanted_at (d := 150) rfl fr (by rfl) (hp 59 150 _ (by kernel_rfl) rfl rfl) rfl, .inl ⟨fw, ?_, hG⟩⟩⟩
                    simp only [execOp, Act.eval]
                    go_simp
                    all_goals first | omega | (intro hh; omega) | (rw [IntKind.wrap_i64]; omega)
                  | 64, _ =>
                    have p154 : fa.eval (.tmp 154) = .pointer (some ⟨g, 0, none⟩) := hp 63 154 _ (by kernel_rfl) rfl rfl
                    have hv : (#[Operand.tmp 154] : Array Operand).map fa.eval = #[(.pointer (some ⟨g, 0, none⟩))] := by simp only [List.map_toArray, List.map_cons, List.map_nil, p154]
                    exact ⟨_, _, rfl, rfl, .inl ⟨RV.wanted_at (d := 150) rfl fr (by rfl) (hp 59 150 _ (by kernel_rfl) rfl rfl) rfl, RV.yields_call_g hv Tryd.func17 (by kernel_rfl) rfl (at_any (hG.get 0 rfl)) (fun e w2 h => ⟨h.1, hG.below h.2⟩)⟩⟩
                  | 65, _ =>
                    have p153 : fa.eval (.tmp 153) = .string ⟨(b0).toArray⟩ := hp 62 153 _ (by kernel_rfl) rfl rfl
                    have p155 : fa.eval (.tmp 155) = .int .i64 ((a : Nat)) := hp 64 155 _ (by kernel_rfl) rfl rfl
                    simp only [Act.eval] at p153 p155
                    have hex := HEX.out
                    have hal := HA2.out
                    refine ⟨_, _, rfl, rfl, .inl ⟨RV.wanted_at (d := 150) rfl fr (by rfl) (hp 59 150 _ (by kernel_rfl) rfl rfl) rfl, .inl ⟨fw, ?_, hG⟩⟩⟩
                    simp only [execOp, Act.eval]
                    go_simp
                    all_goals first | omega | (intro hh; omega) | (rw [IntKind.wrap_i64]; omega)
                  | 66, _ =>
                    have p152 : fa.eval (.tmp 152) = .string ⟨(r0).toArray⟩ := hp 61 152 _ (by kernel_rfl) rfl rfl
                    have p156 : fa.eval (.tmp 156) = .string ⟨(r0).toArray⟩ := hp 65 156 _ (by kernel_rfl) rfl rfl
                    simp only [Act.eval] at p152 p156
                    refine ⟨_, _, rfl, rfl, .inl ⟨RV.wanted_at (d := 150) rfl fr (by rfl) (hp 59 150 _ (by kernel_rfl) rfl rfl) rfl, .inl ⟨fw, ?_, hG⟩⟩⟩
                    simp only [execOp, Act.eval]
                    go_simp
                    all_goals first | omega | (intro hh; omega) | (rw [IntKind.wrap_i64]; omega)
                  | 67, _ =>
                    have p150 : fa.eval (.tmp 150) = .bool false := hp 59 150 _ (by kernel_rfl) rfl rfl
                    have p157 : fa.eval (.tmp 157) = .bool false := hp 66 157 _ (by kernel_rfl) rfl rfl
                    simp only [Act.eval] at p150 p157
                    refine ⟨_, _, rfl, rfl, .inl ⟨RV.wanted_none rfl, .inl ⟨fw, ?_, hG⟩⟩⟩
                    simp only [execOp, Act.eval]
                    go_simp
                    all_goals first | omega | (intro hh; omega) | (rw [IntKind.wrap_i64]; omega)
                  | i + 68, hi => exact absurd hi (by show ¬ (i + 68 < 68); omega)
                · intro w2 hG
                  simp only [RV.putAll, List.zip_cons_cons, List.zip_nil_left, List.zip_nil_right, List.foldl_cons, List.foldl_nil, Act.put, List.setIfInBounds_toArray, List.set_cons_zero, List.set_cons_succ]
                  go_wp2
                  go_roundw
                  case rel => exact ⟨k + 1, a, false, by omega, HA2.out, rfl, by go_num, hG⟩
                  case measure => simp [intOf]; omega
              · by_cases q2 : 64 < z
                · have d1 : decide (0 ≤ z) = true := by simp; omega
                  have d2 : decide (z ≤ 64) = false := by simp; omega
                  have HK := Lib.hid (Tk.bad (l := b0) (a := a) (o := false) (n := z) (.inr (.inr q2)))
                  have HA2 := Lib.hid (show a ≤ b0.length by have := HA.out; omega)
                  obtain ⟨r0, hr0⟩ : ∃ r, b0.drop a = r := ⟨_, rfl⟩
                  have HRS := Lib.hid (fun (W : World) (hq : CuOk W g b0 a false) => (by have h := rest_any hq (by have := HLN.out; omega) HA2.out; rwa [hr0] at h : Calls Tryd.prog 20 #[.pointer (some ⟨g, 0, none⟩)] W fun e w' => e = .returned (.string ⟨r0.toArray⟩) ∧ Below W.heap.size W w'))
                  have HEX := Lib.hid (show (⟨b0.toArray⟩ : ByteArray).extract a b0.length = ⟨r0.toArray⟩ by
                    rw [← hr0]; apply ByteArray.ext; simp; exact List.take_of_length_le (by simp))
                  clear hr0
                  have HWL := Lib.hid (show IntKind.i64.wrap (((a : Nat) : Int) + ((b0.length : Int) - ((a : Nat) : Int))) = (b0.length : Int) by have := HLN.out; rw [IntKind.wrap_i64]; omega)
                  go_wp2_with fail
                  go_at_call 17
                  refine (at_s hS.out 0 rfl).mono ?_
                  rintro e v3 ⟨rfl, h1⟩
                  have h2 : CS w v3 [K g b0 a false] := h1
                  clear hS h1; have hS := Lib.hid h2; clear h2
                  clear hcell
                  have hcell := HE.out _ hS.out.bl
                  go_wp2_with fail
                  go_at_call 19
                  refine (left_s hS.out 0 rfl HB.out HA.out).mono ?_
                  rintro e v4 ⟨rfl, h1⟩
                  have h2 : CS w v4 [K g b0 a false] := h1
                  clear hS h1; have hS := Lib.hid h2; clear h2
                  clear hcell
                  have hcell := HE.out _ hS.out.bl
                  go_wp2_with fail
                  go_at_call 12
                  refine (take_n hS.out 0 rfl HB.out HA.out HK.out).mono ?_
                  rintro e v5 ⟨rfl, h1⟩
                  have h2 : CS w v5 [K g b0 a false] := h1
                  clear hS h1; have hS := Lib.hid h2; clear h2
                  clear hcell
                  have hcell := HE.out _ hS.out.bl
                  go_wp2_with fail
                  refine RV.wp_region_g (by kernel_rfl) [91, 92, 93, 94, 95, 96, 97, 98, 99, 100, 101, 102, 103, 104, 105, 106, 107, 108, 109, 110, 111, 112, 113, 114, 115, 116, 117, 118, 119, 120, 121, 122, 123, 124, 125, 126, 127, 128, 129, 130, 131, 132, 133, 134, 135, 136, 137, 138, 139, 140, 141, 142, 143, 144, 145, 146, 147, 148, 149, 150, 151, 152, 153, 154, 155, 156, 157, 158] [.bool false, .bool false, .bool false, .bool false, .bool false, .bool true, .bool true, .int .u64 0, .bool false, .bool false, .pointer (some ⟨g, 0, none⟩), .int .i64 ((a : Nat)), .int .i64 (a : Nat), .bool false, .bool false, .bool false, .bool false, .bool false, .bool false, .bool false, undef, undef, undef, undef, undef, undef, undef, undef, undef, .bool false, .bool false, .bool false, .pointer (some ⟨g, 0, none⟩), .bool false, .bool false, .bool false, .bool false, .bool false, .pointer (some ⟨g, 0, none⟩), .int .i64 ((a : Nat)), .pointer (some ⟨g, 0, none⟩), .int .i64 ((b0.length : Int) - ((a : Nat) : Int)), .int .i64 (b0.length : Nat), .string ⟨(b0).toArray⟩, .int .i64 (b0.length : Nat), .bool false, .bool false, .bool false, .pointer (some ⟨g, 0, none⟩), .int .i64 ((a : Nat)), .bool false, .bool false, .bool false, .pointer (some ⟨g, 0, none⟩), .int .i64 ((a : Nat)), .string ⟨(b0).toArray⟩, .int .i64 (b0.length : Nat), .bool false, .bool false, .bool false, .pointer (some ⟨g, 0, none⟩), .string ⟨(r0).toArray⟩, .string ⟨(b0).toArray⟩, .pointer (some ⟨g, 0, none⟩), .int .i64 ((a : Nat)), .string ⟨(r0).toArray⟩, .bool false, .bool false] (fun W => CS w W [K g b0 a false]) (by kernel_rfl) rfl (by decide) rfl (by kernel_rfl) (hS.out.drew) ?_ ?_
                  · intro ii hii fa fw fr hp hG
                    match ii, hii with
                    | 0, _ =>
                      have p13 : fa.eval (.tmp 13) = .bool false := (fr.out 13 (by decide)).trans rfl
                      simp only [Act.eval] at p13
                      refine ⟨_, _, rfl, rfl, .inl ⟨RV.wanted_none rfl, .inl ⟨fw, ?_, hG⟩⟩⟩
                      simp only [execOp, Act.eval]
                      go_simp
                      all_goals first | omega | (intro hh; omega) | (rw [IntKind.wrap_i64]; omega)
                    | 1, _ =>
                      have p14 : fa.eval (.tmp 14) = .bool false := (fr.out 14 (by decide)).trans rfl
                      simp only [Act.eval] at p14
                      refine ⟨_, _, rfl, rfl, .inl ⟨RV.wanted_none rfl, .inl ⟨fw, ?_, hG⟩⟩⟩
                      simp only [execOp, Act.eval]
                      go_simp
                      all_goals first | omega | (intro hh; omega) | (rw [IntKind.wrap_i64]; omega)
                    | 2, _ =>
                      have p91 : fa.eval (.tmp 91) = .bool false := hp 0 91 _ (by kernel_rfl) rfl rfl
                      have p92 : fa.eval (.tmp 92) = .bool false := hp 1 92 _ (by kernel_rfl) rfl rfl
                      simp only [Act.eval] at p91 p92
                      refine ⟨_, _, rfl, rfl, .inl ⟨RV.wanted_none rfl, .inl ⟨fw, ?_, hG⟩⟩⟩
                      simp only [execOp, Act.eval]
                      go_simp
                      all_goals first | omega | (intro hh; omega) | (rw [IntKind.wrap_i64]; omega)
                    | 3, _ =>
                      have p93 : fa.eval (.tmp 93) = .bool false := hp 2 93 _ (by kernel_rfl) rfl rfl
                      simp only [Act.eval] at p93
                      refine ⟨_, _, rfl, rfl, .inl ⟨RV.wanted_none rfl, .inl ⟨fw, ?_, hG⟩⟩⟩
                      simp only [execOp, Act.eval]
                      go_simp
                      all_goals first | omega | (intro hh; omega) | (rw [IntKind.wrap_i64]; omega)
                    | 4, _ =>
                      have p13 : fa.eval (.tmp 13) = .bool false := (fr.out 13 (by decide)).trans rfl
                      simp only [Act.eval] at p13
                      refine ⟨_, _, rfl, rfl, .inl ⟨RV.wanted_at (d := 94) rfl fr (by rfl) (hp 3 94 _ (by kernel_rfl) rfl rfl) rfl, .inl ⟨fw, ?_, hG⟩⟩⟩
                      simp only [execOp, Act.eval]
                      go_simp
                      all_goals first | omega | (intro hh; omega) | (rw [IntKind.wrap_i64]; omega)
                    | 5, _ =>
                      have p95 : fa.eval (.tmp 95) = .bool false := hp 4 95 _ (by kernel_rfl) rfl rfl
                      simp only [Act.eval] at p95
                      refine ⟨_, _, rfl, rfl, .inl ⟨RV.wanted_at (d := 94) rfl fr (by rfl) (hp 3 94 _ (by kernel_rfl) rfl rfl) rfl, .inl ⟨fw, ?_, hG⟩⟩⟩
                      simp only [execOp, Act.eval]
                      go_simp
                      all_goals first | omega | (intro hh; omega) | (rw [IntKind.wrap_i64]; omega)
                    | 6, _ =>
                      have p96 : fa.eval (.tmp 96) = .bool true := hp 5 96 _ (by kernel_rfl) rfl rfl
                      simp only [Act.eval] at p96
                      refine ⟨_, _, rfl, rfl, .inl ⟨RV.wanted_at (d := 94) rfl fr (by rfl) (hp 3 94 _ (by kernel_rfl) rfl rfl) rfl, .inl ⟨fw, ?_, hG⟩⟩⟩
                      simp only [execOp, Act.eval]
                      go_simp
                      all_goals first | omega | (intro hh; omega) | (rw [IntKind.wrap_i64]; omega)
                    | 7, _ =>
                      have p12 : fa.eval (.tmp 12) = .int .u64 0 := (fr.out 12 (by decide)).trans rfl
                      simp only [Act.eval] at p12
                      refine ⟨_, _, rfl, rfl, .inl ⟨RV.wanted_at (d := 97) rfl fr (by rfl) (hp 6 97 _ (by kernel_rfl) rfl rfl) rfl, .inl ⟨fw, ?_, hG⟩⟩⟩
                      simp only [execOp, Act.eval]
                      go_simp
                      all_goals first | omega | (intro hh; omega) | (rw [IntKind.wrap_i64]; omega)
                    | 8, _ =>
                      have p98 : fa.eval (.tmp 98) = .int .u64 0 := hp 7 98 _ (by kernel_rfl) rfl rfl
                      simp only [Act.eval] at p98
                      refine ⟨_, _, rfl, rfl, .inl ⟨RV.wanted_at (d := 97) rfl fr (by rfl) (hp 6 97 _ (by kernel_rfl) rfl rfl) rfl, .inl ⟨fw, ?_, hG⟩⟩⟩
                      simp only [execOp, Act.eval]
                      go_simp
                      all_goals first | omega | (intro hh; omega) | (rw [IntKind.wrap_i64]; omega)
                    | 9, _ =>
                      have p99 : fa.eval (.tmp 99) = .bool false := hp 8 99 _ (by kernel_rfl) rfl rfl
                      simp only [Act.eval] at p99
                      refine ⟨_, _, rfl, rfl, .inl ⟨RV.wanted_at (d := 97) rfl fr (by rfl) (hp 6 97 _ (by kernel_rfl) rfl rfl) rfl, .inl ⟨fw, ?_, hG⟩⟩⟩
                      simp only [execOp, Act.eval]
                      go_simp
                      all_goals first | omega | (intro hh; omega) | (rw [IntKind.wrap_i64]; omega)
                    | 10, _ =>
                      have p5 : fa.eval (.tmp 5) = .pointer (some ⟨g, 0, none⟩) := (fr.out 5 (by decide)).trans rfl
                      simp only [Act.eval] at p5
                      refine ⟨_, _, rfl, rfl, .inl ⟨RV.wanted_at (d := 100) rfl fr (by rfl) (hp 9 100 _ (by kernel_rfl) rfl rfl) rfl, .inl ⟨fw, ?_, hG⟩⟩⟩
                      simp only [execOp, Act.eval]
                      go_simp
                      all_goals first | omega | (intro hh; omega) | (rw [IntKind.wrap_i64]; omega)
                    | 11, _ =>
                      have p101 : fa.eval (.tmp 101) = .pointer (some ⟨g, 0, none⟩) := hp 10 101 _ (by kernel_rfl) rfl rfl
                      have hv : (#[Operand.tmp 101] : Array Operand).map fa.eval = #[(.pointer (some ⟨g, 0, none⟩))] := by simp only [List.map_toArray, List.map_cons, List.map_nil, p101]
                      exact ⟨_, _, rfl, rfl, .inl ⟨RV.wanted_at (d := 100) rfl fr (by rfl) (hp 9 100 _ (by kernel_rfl) rfl rfl) rfl, RV.yields_call_g hv Tryd.func17 (by kernel_rfl) rfl (at_any (hG.get 0 rfl)) (fun e w2 h => ⟨h.1, hG.below h.2⟩)⟩⟩
                    | 12, _ =>
                      have p9 : fa.eval (.tmp 9) = .int .i64 (a : Nat) := (fr.out 9 (by decide)).trans rfl
                      simp only [Act.eval] at p9
                      refine ⟨_, _, rfl, rfl, .inl ⟨RV.wanted_at (d := 100) rfl fr (by rfl) (hp 9 100 _ (by kernel_rfl) rfl rfl) rfl, .inl ⟨fw, ?_, hG⟩⟩⟩
                      simp only [execOp, Act.eval]
                      go_simp
                      all_goals first | omega | (intro hh; omega) | (rw [IntKind.wrap_i64]; omega)
                    | 13, _ =>
                      have p102 : fa.eval (.tmp 102) = .int .i64 ((a : Nat)) := hp 11 102 _ (by kernel_rfl) rfl rfl
                      have p103 : fa.eval (.tmp 103) = .int .i64 (a : Nat) := hp 12 103 _ (by kernel_rfl) rfl rfl
                      simp only [Act.eval] at p102 p103
                      refine ⟨_, _, rfl, rfl, .inl ⟨RV.wanted_at (d := 100) rfl fr (by rfl) (hp 9 100 _ (by kernel_rfl) rfl rfl) rfl, .inl ⟨fw, ?_, hG⟩⟩⟩
                      simp only [execOp, Act.eval]
                      go_simp
                      all_goals first | omega | (intro hh; omega) | (rw [IntKind.wrap_i64]; omega)
                    | 14, _ =>
                      have p100 : fa.eval (.tmp 100) = .bool false := hp 9 100 _ (by kernel_rfl) rfl rfl
                      have p104 : fa.eval (.tmp 104) = .bool false := hp 13 104 _ (by kernel_rfl) rfl rfl
                      simp only [Act.eval] at p100 p104
                      refine ⟨_, _, rfl, rfl, .inl ⟨RV.wanted_at (d := 97) rfl fr (by rfl) (hp 6 97 _ (by kernel_rfl) rfl rfl) rfl, .inl ⟨fw, ?_, hG⟩⟩⟩
                      simp only [execOp, Act.eval]
                      go_simp
                      all_goals first | omega | (intro hh; omega) | (rw [IntKind.wrap_i64]; omega)
                    | 15, _ =>
                      have p97 : fa.eval (.tmp 97) = .bool true := hp 6 97 _ (by kernel_rfl) rfl rfl
                      have p105 : fa.eval (.tmp 105) = .bool false := hp 14 105 _ (by kernel_rfl) rfl rfl
                      simp only [Act.eval] at p97 p105
                      refine ⟨_, _, rfl, rfl, .inl ⟨RV.wanted_at (d := 94) rfl fr (by rfl) (hp 3 94 _ (by kernel_rfl) rfl rfl) rfl, .inl ⟨fw, ?_, hG⟩⟩⟩
                      simp only [execOp, Act.eval]
                      go_simp
                      all_goals first | omega | (intro hh; omega) | (rw [IntKind.wrap_i64]; omega)
                    | 16, _ =>
                      have p94 : fa.eval (.tmp 94) = .bool false := hp 3 94 _ (by kernel_rfl) rfl rfl
                      have p106 : fa.eval (.tmp 106) = .bool false := hp 15 106 _ (by kernel_rfl) rfl rfl
                      simp only [Act.eval] at p94 p106
                      refine ⟨_, _, rfl, rfl, .inl ⟨RV.wanted_none rfl, .inl ⟨fw, ?_, hG⟩⟩⟩
                      simp only [execOp, Act.eval]
                      go_simp
                      all_goals first | omega | (intro hh; omega) | (rw [IntKind.wrap_i64]; omega)
                    | 17, _ =>
                      have p107 : fa.eval (.tmp 107) = .bool false := hp 16 107 _ (by kernel_rfl) rfl rfl
                      simp only [Act.eval] at p107
                      refine ⟨_, _, rfl, rfl, .inl ⟨RV.wanted_none rfl, .inl ⟨fw, ?_, hG⟩⟩⟩
                      simp only [execOp, Act.eval]
                      go_simp
                      all_goals first | omega | (intro hh; omega) | (rw [IntKind.wrap_i64]; omega)
                    | 18, _ =>
                      have p13 : fa.eval (.tmp 13) = .bool false := (fr.out 13 (by decide)).trans rfl
                      simp only [Act.eval] at p13
                      refine ⟨_, _, rfl, rfl, .inl ⟨RV.wanted_at (d := 108) rfl fr (by rfl) (hp 17 108 _ (by kernel_rfl) rfl rfl) rfl, .inl ⟨fw, ?_, hG⟩⟩⟩
                      simp only [execOp, Act.eval]
                      go_simp
                      all_goals first | omega | (intro hh; omega) | (rw [IntKind.wrap_i64]; omega)
                    | 19, _ =>
                      have p109 : fa.eval (.tmp 109) = .bool false := hp 18 109 _ (by kernel_rfl) rfl rfl
                      simp only [Act.eval] at p109
                      refine ⟨_, _, rfl, rfl, .inl ⟨RV.wanted_at (d := 108) rfl fr (by rfl) (hp 17 108 _ (by kernel_rfl) rfl rfl) rfl, .inl ⟨fw, ?_, hG⟩⟩⟩
                      simp only [execOp, Act.eval]
                      go_simp
                      all_goals first | omega | (intro hh; omega) | (rw [IntKind.wrap_i64]; omega)
                    | 20, _ =>
                      exact ⟨_, _, rfl, rfl, .inr ⟨RV.wanted_no (d := 110) rfl fr (by rfl) (hp 19 110 _ (by kernel_rfl) rfl rfl) (.inl rfl) rfl, rfl⟩⟩
                    | 21, _ =>
                      exact ⟨_, _, rfl, rfl, .inr ⟨RV.wanted_no (d := 110) rfl fr (by rfl) (hp 19 110 _ (by kernel_rfl) rfl rfl) (.inl rfl) rfl, rfl⟩⟩
                    | 22, _ =>
                      exact ⟨_, _, rfl, rfl, .inr ⟨RV.wanted_no (d := 110) rfl fr (by rfl) (hp 19 110 _ (by kernel_rfl) rfl rfl) (.inl rfl) rfl, rfl⟩⟩
                    | 23, _ =>
                      exact ⟨_, _, rfl, rfl, .inr ⟨RV.wanted_no (d := 110) rfl fr (by rfl) (hp 19 110 _ (by kernel_rfl) rfl rfl) (.inl rfl) rfl, rfl⟩⟩
                    | 24, _ =>
                      exact ⟨_, _, rfl, rfl, .inr ⟨RV.wanted_no (d := 110) rfl fr (by rfl) (hp 19 110 _ (by kernel_rfl) rfl rfl) (.inl rfl) rfl, rfl⟩⟩
                    | 25, _ =>
                      exact ⟨_, _, rfl, rfl, .inr ⟨RV.wanted_no (d := 110) rfl fr (by rfl) (hp 19 110 _ (by kernel_rfl) rfl rfl) (.inl rfl) rfl, rfl⟩⟩
                    | 26, _ =>
                      exact ⟨_, _, rfl, rfl, .inr ⟨RV.wanted_no (d := 110) rfl fr (by rfl) (hp 19 110 _ (by kernel_rfl) rfl rfl) (.inl rfl) rfl, rfl⟩⟩
                    | 27, _ =>
                      exact ⟨_, _, rfl, rfl, .inr ⟨RV.wanted_no (d := 110) rfl fr (by rfl) (hp 19 110 _ (by kernel_rfl) rfl rfl) (.inl rfl) rfl, rfl⟩⟩
                    | 28, _ =>
                      exact ⟨_, _, rfl, rfl, .inr ⟨RV.wanted_no (d := 110) rfl fr (by rfl) (hp 19 110 _ (by kernel_rfl) rfl rfl) (.inl rfl) rfl, rfl⟩⟩
                    | 29, _ =>
                      have p110 : fa.eval (.tmp 110) = .bool false := hp 19 110 _ (by kernel_rfl) rfl rfl
                      have p119 : fa.eval (.tmp 119) = undef := hp 28 119 _ (by kernel_rfl) rfl rfl
                      simp only [Act.eval] at p110 p119
                      refine ⟨_, _, rfl, rfl, .inl ⟨RV.wanted_at (d := 108) rfl fr (by rfl) (hp 17 108 _ (by kernel_rfl) rfl rfl) rfl, .inl ⟨fw, ?_, hG⟩⟩⟩
                      simp only [execOp, Act.eval]
                      go_simp
                      all_goals first | omega | (intro hh; omega) | (rw [IntKind.wrap_i64]; omega)
                    | 30, _ =>
                      have p108 : fa.eval (.tmp 108) = .bool false := hp 17 108 _ (by kernel_rfl) rfl rfl
                      have p120 : fa.eval (.tmp 120) = .bool false := hp 29 120 _ (by kernel_rfl) rfl rfl
                      simp only [Act.eval] at p108 p120
                      refine ⟨_, _, rfl, rfl, .inl ⟨RV.wanted_none rfl, .inl ⟨fw, ?_, hG⟩⟩⟩
                      simp only [execOp, Act.eval]
                      go_simp
                      all_goals first | omega | (intro hh; omega) | (rw [IntKind.wrap_i64]; omega)
                    | 31, _ =>
                      have p121 : fa.eval (.tmp 121) = .bool false := hp 30 121 _ (by kernel_rfl) rfl rfl
                      simp only [Act.eval] at p121
                      refine ⟨_, _, rfl, rfl, .inl ⟨RV.wanted_none rfl, .inl ⟨fw, ?_, hG⟩⟩⟩
                      simp only [execOp, Act.eval]
                      go_simp
                      all_goals first | omega | (intro hh; omega) | (rw [IntKind.wrap_i64]; omega)
                    | 32, _ =>
                      have p5 : fa.eval (.tmp 5) = .pointer (some ⟨g, 0, none⟩) := (fr.out 5 (by decide)).trans rfl
                      simp only [Act.eval] at p5
                      refine ⟨_, _, rfl, rfl, .inl ⟨RV.wanted_at (d := 122) rfl fr (by rfl) (hp 31 122 _ (by kernel_rfl) rfl rfl) rfl, .inl ⟨fw, ?_, hG⟩⟩⟩
                      simp only [execOp, Act.eval]
                      go_simp
                      all_goals first | omega | (intro hh; omega) | (rw [IntKind.wrap_i64]; omega)
                    | 33, _ =>
                      have p123 : fa.eval (.tmp 123) = .pointer (some ⟨g, 0, none⟩) := hp 32 123 _ (by kernel_rfl) rfl rfl
                      have hv : (#[Operand.tmp 123] : Array Operand).map fa.eval = #[(.pointer (some ⟨g, 0, none⟩))] := by simp only [List.map_toArray, List.map_cons, List.map_nil, p123]
                      exact ⟨_, _, rfl, rfl, .inl ⟨RV.wanted_at (d := 122) rfl fr (by rfl) (hp 31 122 _ (by kernel_rfl) rfl rfl) rfl, RV.yields_call_g hv Tryd.func18 (by kernel_rfl) rfl (over_any (hG.get 0 rfl)) (fun e w2 h => ⟨h.1, hG.below h.2⟩)⟩⟩
                    | 34, _ =>
                      have p7 : fa.eval (.tmp 7) = .bool false := (fr.out 7 (by decide)).trans rfl
                      simp only [Act.eval] at p7
                      refine ⟨_, _, rfl, rfl, .inl ⟨RV.wanted_at (d := 122) rfl fr (by rfl) (hp 31 122 _ (by kernel_rfl) rfl rfl) rfl, .inl ⟨fw, ?_, hG⟩⟩⟩
                      simp only [execOp, Act.eval]
                      go_simp
                      all_goals first | omega | (intro hh; omega) | (rw [IntKind.wrap_i64]; omega)
                    | 35, _ =>
                      have p124 : fa.eval (.tmp 124) = .bool false := hp 33 124 _ (by kernel_rfl) rfl rfl
                      have p125 : fa.eval (.tmp 125) = .bool false := hp 34 125 _ (by kernel_rfl) rfl rfl
                      simp only [Act.eval] at p124 p125
                      refine ⟨_, _, rfl, rfl, .inl ⟨RV.wanted_at (d := 122) rfl fr (by rfl) (hp 31 122 _ (by kernel_rfl) rfl rfl) rfl, .inl ⟨fw, ?_, hG⟩⟩⟩
                      simp only [execOp, Act.eval]
                      go_simp
                      all_goals first | omega | (intro hh; omega) | (rw [IntKind.wrap_i64]; omega)
                    | 36, _ =>
                      have p122 : fa.eval (.tmp 122) = .bool false := hp 31 122 _ (by kernel_rfl) rfl rfl
                      have p126 : fa.eval (.tmp 126) = .bool false := hp 35 126 _ (by kernel_rfl) rfl rfl
                      simp only [Act.eval] at p122 p126
                      refine ⟨_, _, rfl, rfl, .inl ⟨RV.wanted_none rfl, .inl ⟨fw, ?_, hG⟩⟩⟩
                      simp only [execOp, Act.eval]
                      go_simp
                      all_goals first | omega | (intro hh; omega) | (rw [IntKind.wrap_i64]; omega)
                    | 37, _ =>
                      have p127 : fa.eval (.tmp 127) = .bool false := hp 36 127 _ (by kernel_rfl) rfl rfl
                      simp only [Act.eval] at p127
                      refine ⟨_, _, rfl, rfl, .inl ⟨RV.wanted_none rfl, .inl ⟨fw, ?_, hG⟩⟩⟩
                      simp only [execOp, Act.eval]
                      go_simp
                      all_goals first | omega | (intro hh; omega) | (rw [IntKind.wrap_i64]; omega)
                    | 38, _ =>
                      have p5 : fa.eval (.tmp 5) = .pointer (some ⟨g, 0, none⟩) := (fr.out 5 (by decide)).trans rfl
                      simp only [Act.eval] at p5
                      refine ⟨_, _, rfl, rfl, .inl ⟨RV.wanted_at (d := 128) rfl fr (by rfl) (hp 37 128 _ (by kernel_rfl) rfl rfl) rfl, .inl ⟨fw, ?_, hG⟩⟩⟩
                      simp only [execOp, Act.eval]
                      go_simp
                      all_goals first | omega | (intro hh; omega) | (rw [IntKind.wrap_i64]; omega)
                    | 39, _ =>
                      have p129 : fa.eval (.tmp 129) = .pointer (some ⟨g, 0, none⟩) := hp 38 129 _ (by kernel_rfl) rfl rfl
                      have hv : (#[Operand.tmp 129] : Array Operand).map fa.eval = #[(.pointer (some ⟨g, 0, none⟩))] := by simp only [List.map_toArray, List.map_cons, List.map_nil, p129]
                      exact ⟨_, _, rfl, rfl, .inl ⟨RV.wanted_at (d := 128) rfl fr (by rfl) (hp 37 128 _ (by kernel_rfl) rfl rfl) rfl, RV.yields_call_g hv Tryd.func17 (by kernel_rfl) rfl (at_any (hG.get 0 rfl)) (fun e w2 h => ⟨h.1, hG.below h.2⟩)⟩⟩
                    | 40, _ =>
                      have p5 : fa.eval (.tmp 5) = .pointer (some ⟨g, 0, none⟩) := (fr.out 5 (by decide)).trans rfl
                      simp only [Act.eval] at p5
                      refine ⟨_, _, rfl, rfl, .inl ⟨RV.wanted_at (d := 128) rfl fr (by rfl) (hp 37 128 _ (by kernel_rfl) rfl rfl) rfl, .inl ⟨fw, ?_, hG⟩⟩⟩
                      simp only [execOp, Act.eval]
                      go_simp
                      all_goals first | omega | (intro hh; omega) | (rw [IntKind.wrap_i64]; omega)
                    | 41, _ =>
                      have p131 : fa.eval (.tmp 131) = .pointer (some ⟨g, 0, none⟩) := hp 40 131 _ (by kernel_rfl) rfl rfl
                      have hv : (#[Operand.tmp 131] : Array Operand).map fa.eval = #[(.pointer (some ⟨g, 0, none⟩))] := by simp only [List.map_toArray, List.map_cons, List.map_nil, p131]
                      exact ⟨_, _, rfl, rfl, .inl ⟨RV.wanted_at (d := 128) rfl fr (by rfl) (hp 37 128 _ (by kernel_rfl) rfl rfl) rfl, RV.yields_call_g hv Tryd.func19 (by kernel_rfl) rfl (left_any (hG.get 0 rfl) (by have := HLN.out; unfold maxLen; omega) HA2.out) (fun e w2 h => ⟨h.1, hG.below h.2⟩)⟩⟩
                    | 42, _ =>
                      have p130 : fa.eval (.tmp 130) = .int .i64 ((a : Nat)) := hp 39 130 _ (by kernel_rfl) rfl rfl
                      have p132 : fa.eval (.tmp 132) = .int .i64 ((b0.length : Int) - ((a : Nat) : Int)) := hp 41 132 _ (by kernel_rfl) rfl rfl
                      simp only [Act.eval] at p130 p132
                      have hwl := HWL.out
                      refine ⟨_, _, rfl, rfl, .inl ⟨RV.wanted_at (d := 128) rfl fr (by rfl) (hp 37 128 _ (by kernel_rfl) rfl rfl) rfl, .inl ⟨fw, ?_, hG⟩⟩⟩
                      simp only [execOp, Act.eval]
                      go_simp
                      all_goals first | omega | (intro hh; omega) | (rw [IntKind.wrap_i64]; omega)
                    | 43, _ =>
                      have p0 : fa.eval (.tmp 0) = .string ⟨(b0).toArray⟩ := (fr.out 0 (by decide)).trans rfl
                      simp only [Act.eval] at p0
                      refine ⟨_, _, rfl, rfl, .inl ⟨RV.wanted_at (d := 128) rfl fr (by rfl) (hp 37 128 _ (by kernel_rfl) rfl rfl) rfl, .inl ⟨fw, ?_, hG⟩⟩⟩
                      simp only [execOp, Act.eval]
                      go_simp
                      all_goals first | omega | (intro hh; omega) | (rw [IntKind.wrap_i64]; omega)
                    | 44, _ =>
                      have p134 : fa.eval (.tmp 134) = .string ⟨(b0).toArray⟩ := hp 43 134 _ (by kernel_rfl) rfl rfl
                      simp only [Act.eval] at p134
                      refine ⟨_, _, rfl, rfl, .inl ⟨RV.wanted_at (d := 128) rfl fr (by rfl) (hp 37 128 _ (by kernel_rfl) rfl rfl) rfl, .inl ⟨fw, ?_, hG⟩⟩⟩
                      simp only [execOp, Act.eval]
                      go_simp
                      all_goals first | omega | (intro hh; omega) | (rw [IntKind.wrap_i64]; omega)
                    | 45, _ =>
                      have p133 : fa.eval (.tmp 133) = .int .i64 (b0.length : Nat) := hp 42 133 _ (by kernel_rfl) rfl rfl
                      have p135 : fa.eval (.tmp 135) = .int .i64 (b0.length : Nat) := hp 44 135 _ (by kernel_rfl) rfl rfl
                      simp only [Act.eval] at p133 p135
                      refine ⟨_, _, rfl, rfl, .inl ⟨RV.wanted_at (d := 128) rfl fr (by rfl) (hp 37 128 _ (by kernel_rfl) rfl rfl) rfl, .inl ⟨fw, ?_, hG⟩⟩⟩
                      simp only [execOp, Act.eval]
                      go_simp
                      all_goals first | omega | (intro hh; omega) | (rw [IntKind.wrap_i64]; omega)
                    | 46, _ =>
                      have p128 : fa.eval (.tmp 128) = .bool false := hp 37 128 _ (by kernel_rfl) rfl rfl
                      have p136 : fa.eval (.tmp 136) = .bool false := hp 45 136 _ (by kernel_rfl) rfl rfl
                      simp only [Act.eval] at p128 p136
                      refine ⟨_, _, rfl, rfl, .inl ⟨RV.wanted_none rfl, .inl ⟨fw, ?_, hG⟩⟩⟩
                      simp only [execOp, Act.eval]
                      go_simp
                      all_goals first | omega | (intro hh; omega) | (rw [IntKind.wrap_i64]; omega)
                    | 47, _ =>
                      have p137 : fa.eval (.tmp 137) = .bool false := hp 46 137 _ (by kernel_rfl) rfl rfl
                      simp only [Act.eval] at p137
                      refine ⟨_, _, rfl, rfl, .inl ⟨RV.wanted_none rfl, .inl ⟨fw, ?_, hG⟩⟩⟩
                      simp only [execOp, Act.eval]
                      go_simp
                      all_goals first | omega | (intro hh; omega) | (rw [IntKind.wrap_i64]; omega)
                    | 48, _ =>
                      have p5 : fa.eval (.tmp 5) = .pointer (some ⟨g, 0, none⟩) := (fr.out 5 (by decide)).trans rfl
                      simp only [Act.eval] at p5
                      refine ⟨_, _, rfl, rfl, .inl ⟨RV.wanted_at (d := 138) rfl fr (by rfl) (hp 47 138 _ (by kernel_rfl) rfl rfl) rfl, .inl ⟨fw, ?_, hG⟩⟩⟩
                      simp only [execOp, Act.eval]
                      go_simp
                      all_goals first | omega | (intro hh; omega) | (rw [IntKind.wrap_i64]; omega)
                    | 49, _ =>
                      have p139 : fa.eval (.tmp 139) = .pointer (some ⟨g, 0, none⟩) := hp 48 139 _ (by kernel_rfl) rfl rfl
                      have hv : (#[Operand.tmp 139] : Array Operand).map fa.eval = #[(.pointer (some ⟨g, 0, none⟩))] := by simp only [List.map_toArray, List.map_cons, List.map_nil, p139]
                      exact ⟨_, _, rfl, rfl, .inl ⟨RV.wanted_at (d := 138) rfl fr (by rfl) (hp 47 138 _ (by kernel_rfl) rfl rfl) rfl, RV.yields_call_g hv Tryd.func17 (by kernel_rfl) rfl (at_any (hG.get 0 rfl)) (fun e w2 h => ⟨h.1, hG.below h.2⟩)⟩⟩
                    | 50, _ =>
                      have p140 : fa.eval (.tmp 140) = .int .i64 ((a : Nat)) := hp 49 140 _ (by kernel_rfl) rfl rfl
                      simp only [Act.eval] at p140
                      refine ⟨_, _, rfl, rfl, .inl ⟨RV.wanted_at (d := 138) rfl fr (by rfl) (hp 47 138 _ (by kernel_rfl) rfl rfl) rfl, .inl ⟨fw, ?_, hG⟩⟩⟩
                      simp only [execOp, Act.eval]
                      go_simp
                      all_goals (first | done | omega | (simp; omega))
                    | 51, _ =>
                      have p138 : fa.eval (.tmp 138) = .bool false := hp 47 138 _ (by kernel_rfl) rfl rfl
                      have p141 : fa.eval (.tmp 141) = .bool false := hp 50 141 _ (by kernel_rfl) rfl rfl
                      simp only [Act.eval] at p138 p141
                      refine ⟨_, _, rfl, rfl, .inl ⟨RV.wanted_none rfl, .inl ⟨fw, ?_, hG⟩⟩⟩
                      simp only [execOp, Act.eval]
                      go_simp
                      all_goals first | omega | (intro hh; omega) | (rw [IntKind.wrap_i64]; omega)
                    | 52, _ =>
                      have p142 : fa.eval (.tmp 142) = .bool false := hp 51 142 _ (by kernel_rfl) rfl rfl
                      simp only [Act.eval] at p142
                      refine ⟨_, _, rfl, rfl, .inl ⟨RV.wanted_none rfl, .inl ⟨fw, ?_, hG⟩⟩⟩
                      simp only [execOp, Act.eval]
                      go_simp
                      all_goals first | omega | (intro hh; omega) | (rw [IntKind.wrap_i64]; omega)
                    | 53, _ =>
                      have p5 : fa.eval (.tmp 5) = .pointer (some ⟨g, 0, none⟩) := (fr.out 5 (by decide)).trans rfl
                      simp only [Act.eval] at p5
                      refine ⟨_, _, rfl, rfl, .inl ⟨RV.wanted_at (d := 143) rfl fr (by rfl) (hp 52 143 _ (by kernel_rfl) rfl rfl) rfl, .inl ⟨fw, ?_, hG⟩⟩⟩
                      simp only [execOp, Act.eval]
                      go_simp
                      all_goals first | omega | (intro hh; omega) | (rw [IntKind.wrap_i64]; omega)
                    | 54, _ =>
                      have p144 : fa.eval (.tmp 144) = .pointer (some ⟨g, 0, none⟩) := hp 53 144 _ (by kernel_rfl) rfl rfl
                      have hv : (#[Operand.tmp 144] : Array Operand).map fa.eval = #[(.pointer (some ⟨g, 0, none⟩))] := by simp only [List.map_toArray, List.map_cons, List.map_nil, p144]
                      exact ⟨_, _, rfl, rfl, .inl ⟨RV.wanted_at (d := 143) rfl fr (by rfl) (hp 52 143 _ (by kernel_rfl) rfl rfl) rfl, RV.yields_call_g hv Tryd.func17 (by kernel_rfl) rfl (at_any (hG.get 0 rfl)) (fun e w2 h => ⟨h.1, hG.below h.2⟩)⟩⟩
                    | 55, _ =>
                      have p0 : fa.eval (.tmp 0) = .string ⟨(b0).toArray⟩ := (fr.out 0 (by decide)).trans rfl
                      simp only [Act.eval] at p0
                      refine ⟨_, _, rfl, rfl, .inl ⟨RV.wanted_at (d := 143) rfl fr (by rfl) (hp 52 143 _ (by kernel_rfl) rfl rfl) rfl, .inl ⟨fw, ?_, hG⟩⟩⟩
                      simp only [execOp, Act.eval]
                      go_simp
                      all_goals first | omega | (intro hh; omega) | (rw [IntKind.wrap_i64]; omega)
                    | 56, _ =>
                      have p146 : fa.eval (.tmp 146) = .string ⟨(b0).toArray⟩ := hp 55 146 _ (by kernel_rfl) rfl rfl
                      simp only [Act.eval] at p146
                      refine ⟨_, _, rfl, rfl, .inl ⟨RV.wanted_at (d := 143) rfl fr (by rfl) (hp 52 143 _ (by kernel_rfl) rfl rfl) rfl, .inl ⟨fw, ?_, hG⟩⟩⟩
                      simp only [execOp, Act.eval]
                      go_simp
                      all_goals first | omega | (intro hh; omega) | (rw [IntKind.wrap_i64]; omega)
                    | 57, _ =>
                      have p145 : fa.eval (.tmp 145) = .int .i64 ((a : Nat)) := hp 54 145 _ (by kernel_rfl) rfl rfl
                      have p147 : fa.eval (.tmp 147) = .int .i64 (b0.length : Nat) := hp 56 147 _ (by kernel_rfl) rfl rfl
                      simp only [Act.eval] at p145 p147
                      have hal := HA2.out
                      refine ⟨_, _, rfl, rfl, .inl ⟨RV.wanted_at (d := 143) rfl fr (by rfl) (hp 52 143 _ (by kernel_rfl) rfl rfl) rfl, .inl ⟨fw, ?_, hG⟩⟩⟩
                      simp only [execOp, Act.eval]
                      go_simp
                      all_goals (first | done | omega | (simp; omega))
                    | 58, _ =>
                      have p143 : fa.eval (.tmp 143) = .bool false := hp 52 143 _ (by kernel_rfl) rfl rfl
                      have p148 : fa.eval (.tmp 148) = .bool false := hp 57 148 _ (by kernel_rfl) rfl rfl
                      simp only [Act.eval] at p143 p148
                      refine ⟨_, _, rfl, rfl, .inl ⟨RV.wanted_none rfl, .inl ⟨fw, ?_, hG⟩⟩⟩
                      simp only [execOp, Act.eval]
                      go_simp
                      all_goals first | omega | (intro hh; omega) | (rw [IntKind.wrap_i64]; omega)
                    | 59, _ =>
                      have p149 : fa.eval (.tmp 149) = .bool false := hp 58 149 _ (by kernel_rfl) rfl rfl
                      simp only [Act.eval] at p149
                      refine ⟨_, _, rfl, rfl, .inl ⟨RV.wanted_none rfl, .inl ⟨fw, ?_, hG⟩⟩⟩
                      simp only [execOp, Act.eval]
                      go_simp
                      all_goals first | omega | (intro hh; omega) | (rw [IntKind.wrap_i64]; omega)
                    | 60, _ =>
                      have p5 : fa.eval (.tmp 5) = .pointer (some ⟨g, 0, none⟩) := (fr.out 5 (by decide)).trans rfl
                      simp only [Act.eval] at p5
                      refine ⟨_, _, rfl, rfl, .inl ⟨RV.wanted_at (d := 150) rfl fr (by rfl) (hp 59 150 _ (by kernel_rfl) rfl rfl) rfl, .inl ⟨fw, ?_, hG⟩⟩⟩
                      simp only [execOp, Act.eval]
                      go_simp
                      all_goals first | omega | (intro hh; omega) | (rw [IntKind.wrap_i64]; omega)
                    | 61, _ =>
                      have p151 : fa.eval (.tmp 151) = .pointer (some ⟨g, 0, none⟩) := hp 60 151 _ (by kernel_rfl) rfl rfl
                      have hv : (#[Operand.tmp 151] : Array Operand).map fa.eval = #[(.pointer (some ⟨g, 0, none⟩))] := by simp only [List.map_toArray, List.map_cons, List.map_nil, p151]
                      exact ⟨_, _, rfl, rfl, .inl ⟨RV.wanted_at (d := 150) rfl fr (by rfl) (hp 59 150 _ (by kernel_rfl) rfl rfl) rfl, RV.yields_call_g hv Tryd.func20 (by kernel_rfl) rfl (HRS.out _ (hG.get 0 rfl)) (fun e w2 h => ⟨h.1, hG.below h.2⟩)⟩⟩
                    | 62, _ =>
                      have p0 : fa.eval (.tmp 0) = .string ⟨(b0).toArray⟩ := (fr.out 0 (by decide)).trans rfl
                      simp only [Act.eval] at p0
                      refine ⟨_, _, rfl, rfl, .inl ⟨RV.wanted_at (d := 150) rfl fr (by rfl) (hp 59 150 _ (by kernel_rfl) rfl rfl) rfl, .inl ⟨fw, ?_, hG⟩⟩⟩
                      simp only [execOp, Act.eval]
                      go_simp
                      all_goals first | omega | (intro hh; omega) | (rw [IntKind.wrap_i64]; omega)
                    | 63, _ =>
                      have p5 : fa.eval (.tmp 5) = .pointer (some ⟨g, 0, none⟩) := (fr.out 5 (by decide)).trans rfl
                      simp only [Act.eval] at p5
                      refine ⟨_, _, rfl, rfl, .inl ⟨RV.wanted_at (d := 150) rfl fr (by rfl) (hp 59 150 _ (by kernel_rfl) rfl rfl) rfl, .inl ⟨fw, ?_, hG⟩⟩⟩
                      simp only [execOp, Act.eval]
                      go_simp
                      all_goals first | omega | (intro hh; omega) | (rw [IntKind.wrap_i64]; omega)
                    | 64, _ =>
                      have p154 : fa.eval (.tmp 154) = .pointer (some ⟨g, 0, none⟩) := hp 63 154 _ (by kernel_rfl) rfl rfl
                      have hv : (#[Operand.tmp 154] : Array Operand).map fa.eval = #[(.pointer (some ⟨g, 0, none⟩))] := by simp only [List.map_toArray, List.map_cons, List.map_nil, p154]
                      exact ⟨_, _, rfl, rfl, .inl ⟨RV.wanted_at (d := 150) rfl fr (by rfl) (hp 59 150 _ (by kernel_rfl) rfl rfl) rfl, RV.yields_call_g hv Tryd.func17 (by kernel_rfl) rfl (at_any (hG.get 0 rfl)) (fun e w2 h => ⟨h.1, hG.below h.2⟩)⟩⟩
                    | 65, _ =>
                      have p153 : fa.eval (.tmp 153) = .string ⟨(b0).toArray⟩ := hp 62 153 _ (by kernel_rfl) rfl rfl
                      have p155 : fa.eval (.tmp 155) = .int .i64 ((a : Nat)) := hp 64 155 _ (by kernel_rfl) rfl rfl
                      simp only [Act.eval] at p153 p155
                      have hex := HEX.out
                      have hal := HA2.out
                      refine ⟨_, _, rfl, rfl, .inl ⟨RV.wanted_at (d := 150) rfl fr (by rfl) (hp 59 150 _ (by kernel_rfl) rfl rfl) rfl, .inl ⟨fw, ?_, hG⟩⟩⟩
                      simp only [execOp, Act.eval]
                      go_simp
                      all_goals first | omega | (intro hh; omega) | (rw [IntKind.wrap_i64]; omega)
                    | 66, _ =>
                      have p152 : fa.eval (.tmp 152) = .string ⟨(r0).toArray⟩ := hp 61 152 _ (by kernel_rfl) rfl rfl
                      have p156 : fa.eval (.tmp 156) = .string ⟨(r0).toArray⟩ := hp 65 156 _ (by kernel_rfl) rfl rfl
                      simp only [Act.eval] at p152 p156
                      refine ⟨_, _, rfl, rfl, .inl ⟨RV.wanted_at (d := 150) rfl fr (by rfl) (hp 59 150 _ (by kernel_rfl) rfl rfl) rfl, .inl ⟨fw, ?_, hG⟩⟩⟩
                      simp only [execOp, Act.eval]
                      go_simp
                      all_goals first | omega | (intro hh; omega) | (rw [IntKind.wrap_i64]; omega)
                    | 67, _ =>
                      have p150 : fa.eval (.tmp 150) = .bool false := hp 59 150 _ (by kernel_rfl) rfl rfl
                      have p157 : fa.eval (.tmp 157) = .bool false := hp 66 157 _ (by kernel_rfl) rfl rfl
                      simp only [Act.eval] at p150 p157
                      refine ⟨_, _, rfl, rfl, .inl ⟨RV.wanted_none rfl, .inl ⟨fw, ?_, hG⟩⟩⟩
                      simp only [execOp, Act.eval]
                      go_simp
                      all_goals first | omega | (intro hh; omega) | (rw [IntKind.wrap_i64]; omega)
                    | i + 68, hi => exact absurd hi (by show ¬ (i + 68 < 68); omega)
                  · intro w2 hG
                    simp only [RV.putAll, List.zip_cons_cons, List.zip_nil_left, List.zip_nil_right, List.foldl_cons, List.foldl_nil, Act.put, List.setIfInBounds_toArray, List.set_cons_zero, List.set_cons_succ]
                    go_wp2
                    go_roundw
                    case rel => exact ⟨k + 1, a, false, by omega, HA2.out, rfl, by go_num, hG⟩
                    case measure => simp [intOf]; omega
                · by_cases q3 : lf < z
                  · have d1 : decide (0 ≤ z) = true := by simp; omega
                    have d2 : decide (z ≤ 64) = true := by simp; omega
                    have d3 : decide (z ≤ lf) = false := by simp; omega
                    have d4 : decide (lf < z) = true := by simp; omega
                    have HK := Lib.hid (Tk.over (l := b0) (a := a) (n := z) (by omega) (by omega) (by omega))
                    have HA2 := Lib.hid (show a ≤ b0.length by have := HA.out; omega)
                    obtain ⟨r0, hr0⟩ : ∃ r, b0.drop a = r := ⟨_, rfl⟩
                    have HRS := Lib.hid (fun (W : World) (hq : CuOk W g b0 a true) => (by have h := rest_any hq (by have := HLN.out; omega) HA2.out; rwa [hr0] at h : Calls Tryd.prog 20 #[.pointer (some ⟨g, 0, none⟩)] W fun e w' => e = .returned (.string ⟨r0.toArray⟩) ∧ Below W.heap.size W w'))
                    have HEX := Lib.hid (show (⟨b0.toArray⟩ : ByteArray).extract a b0.length = ⟨r0.toArray⟩ by
                      rw [← hr0]; apply ByteArray.ext; simp; exact List.take_of_length_le (by simp))
                    clear hr0
                    have HWL := Lib.hid (show IntKind.i64.wrap (((a : Nat) : Int) + ((b0.length : Int) - ((a : Nat) : Int))) = (b0.length : Int) by have := HLN.out; rw [IntKind.wrap_i64]; omega)
                    go_wp2_with fail
                    go_at_call 17
                    refine (at_s hS.out 0 rfl).mono ?_
                    rintro e v3 ⟨rfl, h1⟩
                    have h2 : CS w v3 [K g b0 a false] := h1
                    clear hS h1; have hS := Lib.hid h2; clear h2
                    clear hcell
                    have hcell := HE.out _ hS.out.bl
                    go_wp2_with fail
                    go_at_call 19
                    refine (left_s hS.out 0 rfl HB.out HA.out).mono ?_
                    rintro e v4 ⟨rfl, h1⟩
                    have h2 : CS w v4 [K g b0 a false] := h1
                    clear hS h1; have hS := Lib.hid h2; clear h2
                    clear hcell
                    have hcell := HE.out _ hS.out.bl
                    go_wp2_with fail
                    go_at_call 12
                    refine (take_n hS.out 0 rfl HB.out HA.out HK.out).mono ?_
                    rintro e v5 ⟨rfl, h1⟩
                    have h2 : CS w v5 [K g b0 a true] := h1
                    clear hS h1; have hS := Lib.hid h2; clear h2
                    clear hcell
                    have hcell := HE.out _ hS.out.bl
                    go_wp2_with fail
                    refine RV.wp_region_g (by kernel_rfl) [91, 92, 93, 94, 95, 96, 97, 98, 99, 100, 101, 102, 103, 104, 105, 106, 107, 108, 109, 110, 111, 112, 113, 114, 115, 116, 117, 118, 119, 120, 121, 122, 123, 124, 125, 126, 127, 128, 129, 130, 131, 132, 133, 134, 135, 136, 137, 138, 139, 140, 141, 142, 143, 144, 145, 146, 147, 148, 149, 150, 151, 152, 153, 154, 155, 156, 157, 158] [.bool false, .bool false, .bool false, .bool false, .bool false, .bool true, .bool true, .int .u64 0, .bool false, .bool false, .pointer (some ⟨g, 0, none⟩), .int .i64 ((a : Nat)), .int .i64 (a : Nat), .bool false, .bool false, .bool false, .bool false, .bool false, .bool false, .bool false, undef, undef, undef, undef, undef, undef, undef, undef, undef, .bool false, .bool false, .bool false, .pointer (some ⟨g, 0, none⟩), .bool true, .bool true, .bool false, .bool false, .bool false, .pointer (some ⟨g, 0, none⟩), .int .i64 ((a : Nat)), .pointer (some ⟨g, 0, none⟩), .int .i64 ((b0.length : Int) - ((a : Nat) : Int)), .int .i64 (b0.length : Nat), .string ⟨(b0).toArray⟩, .int .i64 (b0.length : Nat), .bool false, .bool false, .bool false, .pointer (some ⟨g, 0, none⟩), .int .i64 ((a : Nat)), .bool false, .bool false, .bool false, .pointer (some ⟨g, 0, none⟩), .int .i64 ((a : Nat)), .string ⟨(b0).toArray⟩, .int .i64 (b0.length : Nat), .bool false, .bool false, .bool false, .pointer (some ⟨g, 0, none⟩), .string ⟨(r0).toArray⟩, .string ⟨(b0).toArray⟩, .pointer (some ⟨g, 0, none⟩), .int .i64 ((a : Nat)), .string ⟨(r0).toArray⟩, .bool false, .bool false] (fun W => CS w W [K g b0 a true]) (by kernel_rfl) rfl (by decide) rfl (by kernel_rfl) (hS.out.drew) ?_ ?_
                    · intro ii hii fa fw fr hp hG
                      match ii, hii with
                      | 0, _ =>
                        have p13 : fa.eval (.tmp 13) = .bool false := (fr.out 13 (by decide)).trans rfl
                        simp only [Act.eval] at p13
                        refine ⟨_, _, rfl, rfl, .inl ⟨RV.wanted_none rfl, .inl ⟨fw, ?_, hG⟩⟩⟩
                        simp only [execOp, Act.eval]
                        go_simp
                        all_goals first | omega | (intro hh; omega) | (rw [IntKind.wrap_i64]; omega)
                      | 1, _ =>
                        have p14 : fa.eval (.tmp 14) = .bool false := (fr.out 14 (by decide)).trans rfl
                        simp only [Act.eval] at p14
                        refine ⟨_, _, rfl, rfl, .inl ⟨RV.wanted_none rfl, .inl ⟨fw, ?_, hG⟩⟩⟩
                        simp only [execOp, Act.eval]
                        go_simp
                        all_goals first | omega | (intro hh; omega) | (rw [IntKind.wrap_i64]; omega)
                      | 2, _ =>
                        have p91 : fa.eval (.tmp 91) = .bool false := hp 0 91 _ (by kernel_rfl) rfl rfl
                        have p92 : fa.eval (.tmp 92) = .bool false := hp 1 92 _ (by kernel_rfl) rfl rfl
                        simp only [Act.eval] at p91 p92
                        refine ⟨_, _, rfl, rfl, .inl ⟨RV.wanted_none rfl, .inl ⟨fw, ?_, hG⟩⟩⟩
                        simp only [execOp, Act.eval]
                        go_simp
                        all_goals first | omega | (intro hh; omega) | (rw [IntKind.wrap_i64]; omega)
                      | 3, _ =>
                        have p93 : fa.eval (.tmp 93) = .bool false := hp 2 93 _ (by kernel_rfl) rfl rfl
                        simp only [Act.eval] at p93
                        refine ⟨_, _, rfl, rfl, .inl ⟨RV.wanted_none rfl, .inl ⟨fw, ?_, hG⟩⟩⟩
                        simp only [execOp, Act.eval]
                        go_simp
                        all_goals first | omega | (intro hh; omega) | (rw [IntKind.wrap_i64]; omega)
                      | 4, _ =>
                        have p13 : fa.eval (.tmp 13) = .bool false := (fr.out 13 (by decide)).trans rfl
                        simp only [Act.eval] at p13
                        refine ⟨_, _, rfl, rfl, .inl ⟨RV.wanted_at (d := 94) rfl fr (by rfl) (hp 3 94 _ (by kernel_rfl) rfl rfl) rfl, .inl ⟨fw, ?_, hG⟩⟩⟩
                        simp only [execOp, Act.eval]
                        go_simp
                        all_goals first | omega | (intro hh; omega) | (rw [IntKind.wrap_i64]; omega)
                      | 5, _ =>
                        have p95 : fa.eval (.tmp 95) = .bool false := hp 4 95 _ (by kernel_rfl) rfl rfl
                        simp only [Act.eval] at p95
                        refine ⟨_, _, rfl, rfl, .inl ⟨RV.wanted_at (d := 94) rfl fr (by rfl) (hp 3 94 _ (by kernel_rfl) rfl rfl) rfl, .inl ⟨fw, ?_, hG⟩⟩⟩
                        simp only [execOp, Act.eval]
                        go_simp
                        all_goals first | omega | (intro hh; omega) | (rw [IntKind.wrap_i64]; omega)
                      | 6, _ =>
                        have p96 : fa.eval (.tmp 96) = .bool true := hp 5 96 _ (by kernel_rfl) rfl rfl
                        simp only [Act.eval] at p96
                        refine ⟨_, _, rfl, rfl, .inl ⟨RV.wanted_at (d := 94) rfl fr (by rfl) (hp 3 94 _ (by kernel_rfl) rfl rfl) rfl, .inl ⟨fw, ?_, hG⟩⟩⟩
                        simp only [execOp, Act.eval]
                        go_simp
                        all_goals first | omega | (intro hh; omega) | (rw [IntKind.wrap_i64]; omega)
                      | 7, _ =>
                        have p12 : fa.eval (.tmp 12) = .int .u64 0 := (fr.out 12 (by decide)).trans rfl
                        simp only [Act.eval] at p12
                        refine ⟨_, _, rfl, rfl, .inl ⟨RV.wanted_at (d := 97) rfl fr (by rfl) (hp 6 97 _ (by kernel_rfl) rfl rfl) rfl, .inl ⟨fw, ?_, hG⟩⟩⟩
                        simp only [execOp, Act.eval]
                        go_simp
                        all_goals first | omega | (intro hh; omega) | (rw [IntKind.wrap_i64]; omega)
                      | 8, _ =>
                        have p98 : fa.eval (.tmp 98) = .int .u64 0 := hp 7 98 _ (by kernel_rfl) rfl rfl
                        simp only [Act.eval] at p98
                        refine ⟨_, _, rfl, rfl, .inl ⟨RV.wanted_at (d := 97) rfl fr (by rfl) (hp 6 97 _ (by kernel_rfl) rfl rfl) rfl, .inl ⟨fw, ?_, hG⟩⟩⟩
                        simp only [execOp, Act.eval]
                        go_simp
                        all_goals first | omega | (intro hh; omega) | (rw [IntKind.wrap_i64]; omega)
                      | 9, _ =>
                        have p99 : fa.eval (.tmp 99) = .bool false := hp 8 99 _ (by kernel_rfl) rfl rfl
                        simp only [Act.eval] at p99
                        refine ⟨_, _, rfl, rfl, .inl ⟨RV.wanted_at (d := 97) rfl fr (by rfl) (hp 6 97 _ (by kernel_rfl) rfl rfl) rfl, .inl ⟨fw, ?_, hG⟩⟩⟩
                        simp only [execOp, Act.eval]
                        go_simp
                        all_goals first | omega | (intro hh; omega) | (rw [IntKind.wrap_i64]; omega)
                      | 10, _ =>
                        have p5 : fa.eval (.tmp 5) = .pointer (some ⟨g, 0, none⟩) := (fr.out 5 (by decide)).trans rfl
                        simp only [Act.eval] at p5
                        refine ⟨_, _, rfl, rfl, .inl ⟨RV.wanted_at (d := 100) rfl fr (by rfl) (hp 9 100 _ (by kernel_rfl) rfl rfl) rfl, .inl ⟨fw, ?_, hG⟩⟩⟩
                        simp only [execOp, Act.eval]
                        go_simp
                        all_goals first | omega | (intro hh; omega) | (rw [IntKind.wrap_i64]; omega)
                      | 11, _ =>
                        have p101 : fa.eval (.tmp 101) = .pointer (some ⟨g, 0, none⟩) := hp 10 101 _ (by kernel_rfl) rfl rfl
                        have hv : (#[Operand.tmp 101] : Array Operand).map fa.eval = #[(.pointer (some ⟨g, 0, none⟩))] := by simp only [List.map_toArray, List.map_cons, List.map_nil, p101]
                        exact ⟨_, _, rfl, rfl, .inl ⟨RV.wanted_at (d := 100) rfl fr (by rfl) (hp 9 100 _ (by kernel_rfl) rfl rfl) rfl, RV.yields_call_g hv Tryd.func17 (by kernel_rfl) rfl (at_any (hG.get 0 rfl)) (fun e w2 h => ⟨h.1, hG.below h.2⟩)⟩⟩
                      | 12, _ =>
                        have p9 : fa.eval (.tmp 9) = .int .i64 (a : Nat) := (fr.out 9 (by decide)).trans rfl
                        simp only [Act.eval] at p9
                        refine ⟨_, _, rfl, rfl, .inl ⟨RV.wanted_at (d := 100) rfl fr (by rfl) (hp 9 100 _ (by kernel_rfl) rfl rfl) rfl, .inl ⟨fw, ?_, hG⟩⟩⟩
                        simp only [execOp, Act.eval]
                        go_simp
                        all_goals first | omega | (intro hh; omega) | (rw [IntKind.wrap_i64]; omega)
                      | 13, _ =>
                        have p102 : fa.eval (.tmp 102) = .int .i64 ((a : Nat)) := hp 11 102 _ (by kernel_rfl) rfl rfl
                        have p103 : fa.eval (.tmp 103) = .int .i64 (a : Nat) := hp 12 103 _ (by kernel_rfl) rfl rfl
                        simp only [Act.eval] at p102 p103
                        refine ⟨_, _, rfl, rfl, .inl ⟨RV.wanted_at (d := 100) rfl fr (by rfl) (hp 9 100 _ (by kernel_rfl) rfl rfl) rfl, .inl ⟨fw, ?_, hG⟩⟩⟩
                        simp only [execOp, Act.eval]
                        go_simp
                        all_goals first | omega | (intro hh; omega) | (rw [IntKind.wrap_i64]; omega)
                      | 14, _ =>
                        have p100 : fa.eval (.tmp 100) = .bool false := hp 9 100 _ (by kernel_rfl) rfl rfl
                        have p104 : fa.eval (.tmp 104) = .bool false := hp 13 104 _ (by kernel_rfl) rfl rfl
                        simp only [Act.eval] at p100 p104
                        refine ⟨_, _, rfl, rfl, .inl ⟨RV.wanted_at (d := 97) rfl fr (by rfl) (hp 6 97 _ (by kernel_rfl) rfl rfl) rfl, .inl ⟨fw, ?_, hG⟩⟩⟩
                        simp only [execOp, Act.eval]
                        go_simp
                        all_goals first | omega | (intro hh; omega) | (rw [IntKind.wrap_i64]; omega)
                      | 15, _ =>
                        have p97 : fa.eval (.tmp 97) = .bool true := hp 6 97 _ (by kernel_rfl) rfl rfl
                        have p105 : fa.eval (.tmp 105) = .bool false := hp 14 105 _ (by kernel_rfl) rfl rfl
                        simp only [Act.eval] at p97 p105
                        refine ⟨_, _, rfl, rfl, .inl ⟨RV.wanted_at (d := 94) rfl fr (by rfl) (hp 3 94 _ (by kernel_rfl) rfl rfl) rfl, .inl ⟨fw, ?_, hG⟩⟩⟩
                        simp only [execOp, Act.eval]
                        go_simp
                        all_goals first | omega | (intro hh; omega) | (rw [IntKind.wrap_i64]; omega)
                      | 16, _ =>
                        have p94 : fa.eval (.tmp 94) = .bool false := hp 3 94 _ (by kernel_rfl) rfl rfl
                        have p106 : fa.eval (.tmp 106) = .bool false := hp 15 106 _ (by kernel_rfl) rfl rfl
                        simp only [Act.eval] at p94 p106
                        refine ⟨_, _, rfl, rfl, .inl ⟨RV.wanted_none rfl, .inl ⟨fw, ?_, hG⟩⟩⟩
                        simp only [execOp, Act.eval]
                        go_simp
                        all_goals first | omega | (intro hh; omega) | (rw [IntKind.wrap_i64]; omega)
                      | 17, _ =>
                        have p107 : fa.eval (.tmp 107) = .bool false := hp 16 107 _ (by kernel_rfl) rfl rfl
                        simp only [Act.eval] at p107
                        refine ⟨_, _, rfl, rfl, .inl ⟨RV.wanted_none rfl, .inl ⟨fw, ?_, hG⟩⟩⟩
                        simp only [execOp, Act.eval]
                        go_simp
                        all_goals first | omega | (intro hh; omega) | (rw [IntKind.wrap_i64]; omega)
                      | 18, _ =>
                        have p13 : fa.eval (.tmp 13) = .bool false := (fr.out 13 (by decide)).trans rfl
                        simp only [Act.eval] at p13
                        refine ⟨_, _, rfl, rfl, .inl ⟨RV.wanted_at (d := 108) rfl fr (by rfl) (hp 17 108 _ (by kernel_rfl) rfl rfl) rfl, .inl ⟨fw, ?_, hG⟩⟩⟩
                        simp only [execOp, Act.eval]
                        go_simp
                        all_goals first | omega | (intro hh; omega) | (rw [IntKind.wrap_i64]; omega)
                      | 19, _ =>
                        have p109 : fa.eval (.tmp 109) = .bool false := hp 18 109 _ (by kernel_rfl) rfl rfl
                        simp only [Act.eval] at p109
                        refine ⟨_, _, rfl, rfl, .inl ⟨RV.wanted_at (d := 108) rfl fr (by rfl) (hp 17 108 _ (by kernel_rfl) rfl rfl) rfl, .inl ⟨fw, ?_, hG⟩⟩⟩
                        simp only [execOp, Act.eval]
                        go_simp
                        all_goals first | omega | (intro hh; omega) | (rw [IntKind.wrap_i64]; omega)
                      | 20, _ =>
                        exact ⟨_, _, rfl, rfl, .inr ⟨RV.wanted_no (d := 110) rfl fr (by rfl) (hp 19 110 _ (by kernel_rfl) rfl rfl) (.inl rfl) rfl, rfl⟩⟩
                      | 21, _ =>
                        exact ⟨_, _, rfl, rfl, .inr ⟨RV.wanted_no (d := 110) rfl fr (by rfl) (hp 19 110 _ (by kernel_rfl) rfl rfl) (.inl rfl) rfl, rfl⟩⟩
                      | 22, _ =>
                        exact ⟨_, _, rfl, rfl, .inr ⟨RV.wanted_no (d := 110) rfl fr (by rfl) (hp 19 110 _ (by kernel_rfl) rfl rfl) (.inl rfl) rfl, rfl⟩⟩
                      | 23, _ =>
                        exact ⟨_, _, rfl, rfl, .inr ⟨RV.wanted_no (d := 110) rfl fr (by rfl) (hp 19 110 _ (by kernel_rfl) rfl rfl) (.inl rfl) rfl, rfl⟩⟩
                      | 24, _ =>
                        exact ⟨_, _, rfl, rfl, .inr ⟨RV.wanted_no (d := 110) rfl fr (by rfl) (hp 19 110 _ (by kernel_rfl) rfl rfl) (.inl rfl) rfl, rfl⟩⟩
                      | 25, _ =>
                        exact ⟨_, _, rfl, rfl, .inr ⟨RV.wanted_no (d := 110) rfl fr (by rfl) (hp 19 110 _ (by kernel_rfl) rfl rfl) (.inl rfl) rfl, rfl⟩⟩
                      | 26, _ =>
                        exact ⟨_, _, rfl, rfl, .inr ⟨RV.wanted_no (d := 110) rfl fr (by rfl) (hp 19 110 _ (by kernel_rfl) rfl rfl) (.inl rfl) rfl, rfl⟩⟩
                      | 27, _ =>
                        exact ⟨_, _, rfl, rfl, .inr ⟨RV.wanted_no (d := 110) rfl fr (by rfl) (hp 19 110 _ (by kernel_rfl) rfl rfl) (.inl rfl) rfl, rfl⟩⟩
                      | 28, _ =>
                        exact ⟨_, _, rfl, rfl, .inr ⟨RV.wanted_no (d := 110) rfl fr (by rfl) (hp 19 110 _ (by kernel_rfl) rfl rfl) (.inl rfl) rfl, rfl⟩⟩
                      | 29, _ =>
                        have p110 : fa.eval (.tmp 110) = .bool false := hp 19 110 _ (by kernel_rfl) rfl rfl
                        have p119 : fa.eval (.tmp 119) = undef := hp 28 119 _ (by kernel_rfl) rfl rfl
                        simp only [Act.eval] at p110 p119
                        refine ⟨_, _, rfl, rfl, .inl ⟨RV.wanted_at (d := 108) rfl fr (by rfl) (hp 17 108 _ (by kernel_rfl) rfl rfl) rfl, .inl ⟨fw, ?_, hG⟩⟩⟩
                        simp only [execOp, Act.eval]
                        go_simp
                        all_goals first | omega | (intro hh; omega) | (rw [IntKind.wrap_i64]; omega)
                      | 30, _ =>
                        have p108 : fa.eval (.tmp 108) = .bool false := hp 17 108 _ (by kernel_rfl) rfl rfl
                        have p120 : fa.eval (.tmp 120) = .bool false := hp 29 120 _ (by kernel_rfl) rfl rfl
                        simp only [Act.eval] at p108 p120
                        refine ⟨_, _, rfl, rfl, .inl ⟨RV.wanted_none rfl, .inl ⟨fw, ?_, hG⟩⟩⟩
                        simp only [execOp, Act.eval]
                        go_simp
                        all_goals first | omega | (intro hh; omega) | (rw [IntKind.wrap_i64]; omega)
                      | 31, _ =>
                        have p121 : fa.eval (.tmp 121) = .bool false := hp 30 121 _ (by kernel_rfl) rfl rfl
                        simp only [Act.eval] at p121
                        refine ⟨_, _, rfl, rfl, .inl ⟨RV.wanted_none rfl, .inl ⟨fw, ?_, hG⟩⟩⟩
                        simp only [execOp, Act.eval]
                        go_simp
                        all_goals first | omega | (intro hh; omega) | (rw [IntKind.wrap_i64]; omega)
                      | 32, _ =>
                        have p5 : fa.eval (.tmp 5) = .pointer (some ⟨g, 0, none⟩) := (fr.out 5 (by decide)).trans rfl
                        simp only [Act.eval] at p5
                        refine ⟨_, _, rfl, rfl, .inl ⟨RV.wanted_at (d := 122) rfl fr (by rfl) (hp 31 122 _ (by kernel_rfl) rfl rfl) rfl, .inl ⟨fw, ?_, hG⟩⟩⟩
                        simp only [execOp, Act.eval]
                        go_simp
                        all_goals first | omega | (intro hh; omega) | (rw [IntKind.wrap_i64]; omega)
                      | 33, _ =>
                        have p123 : fa.eval (.tmp 123) = .pointer (some ⟨g, 0, none⟩) := hp 32 123 _ (by kernel_rfl) rfl rfl
                        have hv : (#[Operand.tmp 123] : Array Operand).map fa.eval = #[(.pointer (some ⟨g, 0, none⟩))] := by simp only [List.map_toArray, List.map_cons, List.map_nil, p123]
                        exact ⟨_, _, rfl, rfl, .inl ⟨RV.wanted_at (d := 122) rfl fr (by rfl) (hp 31 122 _ (by kernel_rfl) rfl rfl) rfl, RV.yields_call_g hv Tryd.func18 (by kernel_rfl) rfl (over_any (hG.get 0 rfl)) (fun e w2 h => ⟨h.1, hG.below h.2⟩)⟩⟩
                      | 34, _ =>
                        have p7 : fa.eval (.tmp 7) = .bool true := (fr.out 7 (by decide)).trans rfl
                        simp only [Act.eval] at p7
                        refine ⟨_, _, rfl, rfl, .inl ⟨RV.wanted_at (d := 122) rfl fr (by rfl) (hp 31 122 _ (by kernel_rfl) rfl rfl) rfl, .inl ⟨fw, ?_, hG⟩⟩⟩
                        simp only [execOp, Act.eval]
                        go_simp
                        all_goals first | omega | (intro hh; omega) | (rw [IntKind.wrap_i64]; omega)
                      | 35, _ =>
                        have p124 : fa.eval (.tmp 124) = .bool true := hp 33 124 _ (by kernel_rfl) rfl rfl
                        have p125 : fa.eval (.tmp 125) = .bool true := hp 34 125 _ (by kernel_rfl) rfl rfl
                        simp only [Act.eval] at p124 p125
                        refine ⟨_, _, rfl, rfl, .inl ⟨RV.wanted_at (d := 122) rfl fr (by rfl) (hp 31 122 _ (by kernel_rfl) rfl rfl) rfl, .inl ⟨fw, ?_, hG⟩⟩⟩
                        simp only [execOp, Act.eval]
                        go_simp
                        all_goals first | omega | (intro hh; omega) | (rw [IntKind.wrap_i64]; omega)
                      | 36, _ =>
                        have p122 : fa.eval (.tmp 122) = .bool false := hp 31 122 _ (by kernel_rfl) rfl rfl
                        have p126 : fa.eval (.tmp 126) = .bool false := hp 35 126 _ (by kernel_rfl) rfl rfl
                        simp only [Act.eval] at p122 p126
                        refine ⟨_, _, rfl, rfl, .inl ⟨RV.wanted_none rfl, .inl ⟨fw, ?_, hG⟩⟩⟩
                        simp only [execOp, Act.eval]
                        go_simp
                        all_goals first | omega | (intro hh; omega) | (rw [IntKind.wrap_i64]; omega)
                      | 37, _ =>
                        have p127 : fa.eval (.tmp 127) = .bool false := hp 36 127 _ (by kernel_rfl) rfl rfl
                        simp only [Act.eval] at p127
                        refine ⟨_, _, rfl, rfl, .inl ⟨RV.wanted_none rfl, .inl ⟨fw, ?_, hG⟩⟩⟩
                        simp only [execOp, Act.eval]
                        go_simp
                        all_goals first | omega | (intro hh; omega) | (rw [IntKind.wrap_i64]; omega)
                      | 38, _ =>
                        have p5 : fa.eval (.tmp 5) = .pointer (some ⟨g, 0, none⟩) := (fr.out 5 (by decide)).trans rfl
                        simp only [Act.eval] at p5
                        refine ⟨_, _, rfl, rfl, .inl ⟨RV.wanted_at (d := 128) rfl fr (by rfl) (hp 37 128 _ (by kernel_rfl) rfl rfl) rfl, .inl ⟨fw, ?_, hG⟩⟩⟩
                        simp only [execOp, Act.eval]
                        go_simp
                        all_goals first | omega | (intro hh; omega) | (rw [IntKind.wrap_i64]; omega)
                      | 39, _ =>
                        have p129 : fa.eval (.tmp 129) = .pointer (some ⟨g, 0, none⟩) := hp 38 129 _ (by kernel_rfl) rfl rfl
                        have hv : (#[Operand.tmp 129] : Array Operand).map fa.eval = #[(.pointer (some ⟨g, 0, none⟩))] := by simp only [List.map_toArray, List.map_cons, List.map_nil, p129]
                        exact ⟨_, _, rfl, rfl, .inl ⟨RV.wanted_at (d := 128) rfl fr (by rfl) (hp 37 128 _ (by kernel_rfl) rfl rfl) rfl, RV.yields_call_g hv Tryd.func17 (by kernel_rfl) rfl (at_any (hG.get 0 rfl)) (fun e w2 h => ⟨h.1, hG.below h.2⟩)⟩⟩
                      | 40, _ =>
                        have p5 : fa.eval (.tmp 5) = .pointer (some ⟨g, 0, none⟩) := (fr.out 5 (by decide)).trans rfl
                        simp only [Act.eval] at p5
                        refine ⟨_, _, rfl, rfl, .inl ⟨RV.wanted_at (d := 128) rfl fr (by rfl) (hp 37 128 _ (by kernel_rfl) rfl rfl) rfl, .inl ⟨fw, ?_, hG⟩⟩⟩
                        simp only [execOp, Act.eval]
                        go_simp
                        all_goals first | omega | (intro hh; omega) | (rw [IntKind.wrap_i64]; omega)
                      | 41, _ =>
                        have p131 : fa.eval (.tmp 131) = .pointer (some ⟨g, 0, none⟩) := hp 40 131 _ (by kernel_rfl) rfl rfl
                        have hv : (#[Operand.tmp 131] : Array Operand).map fa.eval = #[(.pointer (some ⟨g, 0, none⟩))] := by simp only [List.map_toArray, List.map_cons, List.map_nil, p131]
                        exact ⟨_, _, rfl, rfl, .inl ⟨RV.wanted_at (d := 128) rfl fr (by rfl) (hp 37 128 _ (by kernel_rfl) rfl rfl) rfl, RV.yields_call_g hv Tryd.func19 (by kernel_rfl) rfl (left_any (hG.get 0 rfl) (by have := HLN.out; unfold maxLen; omega) HA2.out) (fun e w2 h => ⟨h.1, hG.below h.2⟩)⟩⟩
                      | 42, _ =>
                        have p130 : fa.eval (.tmp 130) = .int .i64 ((a : Nat)) := hp 39 130 _ (by kernel_rfl) rfl rfl
                        have p132 : fa.eval (.tmp 132) = .int .i64 ((b0.length : Int) - ((a : Nat) : Int)) := hp 41 132 _ (by kernel_rfl) rfl rfl
                        simp only [Act.eval] at p130 p132
                        have hwl := HWL.out
                        refine ⟨_, _, rfl, rfl, .inl ⟨RV.wanted_at (d := 128) rfl fr (by rfl) (hp 37 128 _ (by kernel_rfl) rfl rfl) rfl, .inl ⟨fw, ?_, hG⟩⟩⟩
                        simp only [execOp, Act.eval]
                        go_simp
                        all_goals first | omega | (intro hh; omega) | (rw [IntKind.wrap_i64]; omega)
                      | 43, _ =>
                        have p0 : fa.eval (.tmp 0) = .string ⟨(b0).toArray⟩ := (fr.out 0 (by decide)).trans rfl
                        simp only [Act.eval] at p0
                        refine ⟨_, _, rfl, rfl, .inl ⟨RV.wanted_at (d := 128) rfl fr (by rfl) (hp 37 128 _ (by kernel_rfl) rfl rfl) rfl, .inl ⟨fw, ?_, hG⟩⟩⟩
                        simp only [execOp, Act.eval]
                        go_simp
                        all_goals first | omega | (intro hh; omega) | (rw [IntKind.wrap_i64]; omega)
                      | 44, _ =>
                        have p134 : fa.eval (.tmp 134) = .string ⟨(b0).toArray⟩ := hp 43 134 _ (by kernel_rfl) rfl rfl
                        simp only [Act.eval] at p134
                        refine ⟨_, _, rfl, rfl, .inl ⟨RV.wanted_at (d := 128) rfl fr (by rfl) (hp 37 128 _ (by kernel_rfl) rfl rfl) rfl, .inl ⟨fw, ?_, hG⟩⟩⟩
                        simp only [execOp, Act.eval]
                        go_simp
                        all_goals first | omega | (intro hh; omega) | (rw [IntKind.wrap_i64]; omega)
                      | 45, _ =>
                        have p133 : fa.eval (.tmp 133) = .int .i64 (b0.length : Nat) := hp 42 133 _ (by kernel_rfl) rfl rfl
                        have p135 : fa.eval (.tmp 135) = .int .i64 (b0.length : Nat) := hp 44 135 _ (by kernel_rfl) rfl rfl
                        simp only [Act.eval] at p133 p135
                        refine ⟨_, _, rfl, rfl, .inl ⟨RV.wanted_at (d := 128) rfl fr (by rfl) (hp 37 128 _ (by kernel_rfl) rfl rfl) rfl, .inl ⟨fw, ?_, hG⟩⟩⟩
                        simp only [execOp, Act.eval]
                        go_simp
                        all_goals first | omega | (intro hh; omega) | (rw [IntKind.wrap_i64]; omega)
                      | 46, _ =>
                        have p128 : fa.eval (.tmp 128) = .bool false := hp 37 128 _ (by kernel_rfl) rfl rfl
                        have p136 : fa.eval (.tmp 136) = .bool false := hp 45 136 _ (by kernel_rfl) rfl rfl
                        simp only [Act.eval] at p128 p136
                        refine ⟨_, _, rfl, rfl, .inl ⟨RV.wanted_none rfl, .inl ⟨fw, ?_, hG⟩⟩⟩
                        simp only [execOp, Act.eval]
                        go_simp
                        all_goals first | omega | (intro hh; omega) | (rw [IntKind.wrap_i64]; omega)
                      | 47, _ =>
                        have p137 : fa.eval (.tmp 137) = .bool false := hp 46 137 _ (by kernel_rfl) rfl rfl
                        simp only [Act.eval] at p137
                        refine ⟨_, _, rfl, rfl, .inl ⟨RV.wanted_none rfl, .inl ⟨fw, ?_, hG⟩⟩⟩
                        simp only [execOp, Act.eval]
                        go_simp
                        all_goals first | omega | (intro hh; omega) | (rw [IntKind.wrap_i64]; omega)
                      | 48, _ =>
                        have p5 : fa.eval (.tmp 5) = .pointer (some ⟨g, 0, none⟩) := (fr.out 5 (by decide)).trans rfl
                        simp only [Act.eval] at p5
                        refine ⟨_, _, rfl, rfl, .inl ⟨RV.wanted_at (d := 138) rfl fr (by rfl) (hp 47 138 _ (by kernel_rfl) rfl rfl) rfl, .inl ⟨fw, ?_, hG⟩⟩⟩
                        simp only [execOp, Act.eval]
                        go_simp
                        all_goals first | omega | (intro hh; omega) | (rw [IntKind.wrap_i64]; omega)
                      | 49, _ =>
                        have p139 : fa.eval (.tmp 139) = .pointer (some ⟨g, 0, none⟩) := hp 48 139 _ (by kernel_rfl) rfl rfl
                        have hv : (#[Operand.tmp 139] : Array Operand).map fa.eval = #[(.pointer (some ⟨g, 0, none⟩))] := by simp only [List.map_toArray, List.map_cons, List.map_nil, p139]
                        exact ⟨_, _, rfl, rfl, .inl ⟨RV.wanted_at (d := 138) rfl fr (by rfl) (hp 47 138 _ (by kernel_rfl) rfl rfl) rfl, RV.yields_call_g hv Tryd.func17 (by kernel_rfl) rfl (at_any (hG.get 0 rfl)) (fun e w2 h => ⟨h.1, hG.below h.2⟩)⟩⟩
                      | 50, _ =>
                        have p140 : fa.eval (.tmp 140) = .int .i64 ((a : Nat)) := hp 49 140 _ (by kernel_rfl) rfl rfl
                        simp only [Act.eval] at p140
                        refine ⟨_, _, rfl, rfl, .inl ⟨RV.wanted_at (d := 138) rfl fr (by rfl) (hp 47 138 _ (by kernel_rfl) rfl rfl) rfl, .inl ⟨fw, ?_, hG⟩⟩⟩
                        simp only [execOp, Act.eval]
                        go_simp
                        all_goals (first | done | omega | (simp; omega))
                      | 51, _ =>
                        have p138 : fa.eval (.tmp 138) = .bool false := hp 47 138 _ (by kernel_rfl) rfl rfl
                        have p141 : fa.eval (.tmp 141) = .bool false := hp 50 141 _ (by kernel_rfl) rfl rfl
                        simp only [Act.eval] at p138 p141
                        refine ⟨_, _, rfl, rfl, .inl ⟨RV.wanted_none rfl, .inl ⟨fw, ?_, hG⟩⟩⟩
                        simp only [execOp, Act.eval]
                        go_simp
                        all_goals first | omega | (intro hh; omega) | (rw [IntKind.wrap_i64]; omega)
                      | 52, _ =>
                        have p142 : fa.eval (.tmp 142) = .bool false := hp 51 142 _ (by kernel_rfl) rfl rfl
                        simp only [Act.eval] at p142
                        refine ⟨_, _, rfl, rfl, .inl ⟨RV.wanted_none rfl, .inl ⟨fw, ?_, hG⟩⟩⟩
                        simp only [execOp, Act.eval]
                        go_simp
                        all_goals first | omega | (intro hh; omega) | (rw [IntKind.wrap_i64]; omega)
                      | 53, _ =>
                        have p5 : fa.eval (.tmp 5) = .pointer (some ⟨g, 0, none⟩) := (fr.out 5 (by decide)).trans rfl
                        simp only [Act.eval] at p5
                        refine ⟨_, _, rfl, rfl, .inl ⟨RV.wanted_at (d := 143) rfl fr (by rfl) (hp 52 143 _ (by kernel_rfl) rfl rfl) rfl, .inl ⟨fw, ?_, hG⟩⟩⟩
                        simp only [execOp, Act.eval]
                        go_simp
                        all_goals first | omega | (intro hh; omega) | (rw [IntKind.wrap_i64]; omega)
                      | 54, _ =>
                        have p144 : fa.eval (.tmp 144) = .pointer (some ⟨g, 0, none⟩) := hp 53 144 _ (by kernel_rfl) rfl rfl
                        have hv : (#[Operand.tmp 144] : Array Operand).map fa.eval = #[(.pointer (some ⟨g, 0, none⟩))] := by simp only [List.map_toArray, List.map_cons, List.map_nil, p144]
                        exact ⟨_, _, rfl, rfl, .inl ⟨RV.wanted_at (d := 143) rfl fr (by rfl) (hp 52 143 _ (by kernel_rfl) rfl rfl) rfl, RV.yields_call_g hv Tryd.func17 (by kernel_rfl) rfl (at_any (hG.get 0 rfl)) (fun e w2 h => ⟨h.1, hG.below h.2⟩)⟩⟩
                      | 55, _ =>
                        have p0 : fa.eval (.tmp 0) = .string ⟨(b0).toArray⟩ := (fr.out 0 (by decide)).trans rfl
                        simp only [Act.eval] at p0
                        refine ⟨_, _, rfl, rfl, .inl ⟨RV.wanted_at (d := 143) rfl fr (by rfl) (hp 52 143 _ (by kernel_rfl) rfl rfl) rfl, .inl ⟨fw, ?_, hG⟩⟩⟩
                        simp only [execOp, Act.eval]
                        go_simp
                        all_goals first | omega | (intro hh; omega) | (rw [IntKind.wrap_i64]; omega)
                      | 56, _ =>
                        have p146 : fa.eval (.tmp 146) = .string ⟨(b0).toArray⟩ := hp 55 146 _ (by kernel_rfl) rfl rfl
                        simp only [Act.eval] at p146
                        refine ⟨_, _, rfl, rfl, .inl ⟨RV.wanted_at (d := 143) rfl fr (by rfl) (hp 52 143 _ (by kernel_rfl) rfl rfl) rfl, .inl ⟨fw, ?_, hG⟩⟩⟩
                        simp only [execOp, Act.eval]
                        go_simp
                        all_goals first | omega | (intro hh; omega) | (rw [IntKind.wrap_i64]; omega)
                      | 57, _ =>
                        have p145 : fa.eval (.tmp 145) = .int .i64 ((a : Nat)) := hp 54 145 _ (by kernel_rfl) rfl rfl
                        have p147 : fa.eval (.tmp 147) = .int .i64 (b0.length : Nat) := hp 56 147 _ (by kernel_rfl) rfl rfl
                        simp only [Act.eval] at p145 p147
                        have hal := HA2.out
                        refine ⟨_, _, rfl, rfl, .inl ⟨RV.wanted_at (d := 143) rfl fr (by rfl) (hp 52 143 _ (by kernel_rfl) rfl rfl) rfl, .inl ⟨fw, ?_, hG⟩⟩⟩
                        simp only [execOp, Act.eval]
                        go_simp
                        all_goals (first | done | omega | (simp; omega))
                      | 58, _ =>
                        have p143 : fa.eval (.tmp 143) = .bool false := hp 52 143 _ (by kernel_rfl) rfl rfl
                        have p148 : fa.eval (.tmp 148) = .bool false := hp 57 148 _ (by kernel_rfl) rfl rfl
                        simp only [Act.eval] at p143 p148
                        refine ⟨_, _, rfl, rfl, .inl ⟨RV.wanted_none rfl, .inl ⟨fw, ?_, hG⟩⟩⟩
                        simp only [execOp, Act.eval]
                        go_simp
                        all_goals first | omega | (intro hh; omega) | (rw [IntKind.wrap_i64]; omega)
                      | 59, _ =>
                        have p149 : fa.eval (.tmp 149) = .bool false := hp 58 149 _ (by kernel_rfl) rfl rfl
                        simp only [Act.eval] at p149
                        refine ⟨_, _, rfl, rfl, .inl ⟨RV.wanted_none rfl, .inl ⟨fw, ?_, hG⟩⟩⟩
                        simp only [execOp, Act.eval]
                        go_simp
                        all_goals first | omega | (intro hh; omega) | (rw [IntKind.wrap_i64]; omega)
                      | 60, _ =>
                        have p5 : fa.eval (.tmp 5) = .pointer (some ⟨g, 0, none⟩) := (fr.out 5 (by decide)).trans rfl
                        simp only [Act.eval] at p5
                        refine ⟨_, _, rfl, rfl, .inl ⟨RV.wanted_at (d := 150) rfl fr (by rfl) (hp 59 150 _ (by kernel_rfl) rfl rfl) rfl, .inl ⟨fw, ?_, hG⟩⟩⟩
                        simp only [execOp, Act.eval]
                        go_simp
                        all_goals first | omega | (intro hh; omega) | (rw [IntKind.wrap_i64]; omega)
                      | 61, _ =>
                        have p151 : fa.eval (.tmp 151) = .pointer (some ⟨g, 0, none⟩) := hp 60 151 _ (by kernel_rfl) rfl rfl
                        have hv : (#[Operand.tmp 151] : Array Operand).map fa.eval = #[(.pointer (some ⟨g, 0, none⟩))] := by simp only [List.map_toArray, List.map_cons, List.map_nil, p151]
                        exact ⟨_, _, rfl, rfl, .inl ⟨RV.wanted_at (d := 150) rfl fr (by rfl) (hp 59 150 _ (by kernel_rfl) rfl rfl) rfl, RV.yields_call_g hv Tryd.func20 (by kernel_rfl) rfl (HRS.out _ (hG.get 0 rfl)) (fun e w2 h => ⟨h.1, hG.below h.2⟩)⟩⟩
                      | 62, _ =>
                        have p0 : fa.eval (.tmp 0) = .string ⟨(b0).toArray⟩ := (fr.out 0 (by decide)).trans rfl
                        simp only [Act.eval] at p0
                        refine ⟨_, _, rfl, rfl, .inl ⟨RV.wanted_at (d := 150) rfl fr (by rfl) (hp 59 150 _ (by kernel_rfl) rfl rfl) rfl, .inl ⟨fw, ?_, hG⟩⟩⟩
                        simp only [execOp, Act.eval]
                        go_simp
                        all_goals first | omega | (intro hh; omega) | (rw [IntKind.wrap_i64]; omega)
                      | 63, _ =>
                        have p5 : fa.eval (.tmp 5) = .pointer (some ⟨g, 0, none⟩) := (fr.out 5 (by decide)).trans rfl
                        simp only [Act.eval] at p5
                        refine ⟨_, _, rfl, rfl, .inl ⟨RV.wanted_at (d := 150) rfl fr (by rfl) (hp 59 150 _ (by kernel_rfl) rfl rfl) rfl, .inl ⟨fw, ?_, hG⟩⟩⟩
                        simp only [execOp, Act.eval]
                        go_simp
                        all_goals first | omega | (intro hh; omega) | (rw [IntKind.wrap_i64]; omega)
                      | 64, _ =>
                        have p154 : fa.eval (.tmp 154) = .pointer (some ⟨g, 0, none⟩) := hp 63 154 _ (by kernel_rfl) rfl rfl
                        have hv : (#[Operand.tmp 154] : Array Operand).map fa.eval = #[(.pointer (some ⟨g, 0, none⟩))] := by simp only [List.map_toArray, List.map_cons, List.map_nil, p154]
                        exact ⟨_, _, rfl, rfl, .inl ⟨RV.wanted_at (d := 150) rfl fr (by rfl) (hp 59 150 _ (by kernel_rfl) rfl rfl) rfl, RV.yields_call_g hv Tryd.func17 (by kernel_rfl) rfl (at_any (hG.get 0 rfl)) (fun e w2 h => ⟨h.1, hG.below h.2⟩)⟩⟩
                      | 65, _ =>
                        have p153 : fa.eval (.tmp 153) = .string ⟨(b0).toArray⟩ := hp 62 153 _ (by kernel_rfl) rfl rfl
                        have p155 : fa.eval (.tmp 155) = .int .i64 ((a : Nat)) := hp 64 155 _ (by kernel_rfl) rfl rfl
                        simp only [Act.eval] at p153 p155
                        have hex := HEX.out
                        have hal := HA2.out
                        refine ⟨_, _, rfl, rfl, .inl ⟨RV.wanted_at (d := 150) rfl fr (by rfl) (hp 59 150 _ (by kernel_rfl) rfl rfl) rfl, .inl ⟨fw, ?_, hG⟩⟩⟩
                        simp only [execOp, Act.eval]
                        go_simp
                        all_goals first | omega | (intro hh; omega) | (rw [IntKind.wrap_i64]; omega)
                      | 66, _ =>
                        have p152 : fa.eval (.tmp 152) = .string ⟨(r0).toArray⟩ := hp 61 152 _ (by kernel_rfl) rfl rfl
                        have p156 : fa.eval (.tmp 156) = .string ⟨(r0).toArray⟩ := hp 65 156 _ (by kernel_rfl) rfl rfl
                        simp only [Act.eval] at p152 p156
                        refine ⟨_, _, rfl, rfl, .inl ⟨RV.wanted_at (d := 150) rfl fr (by rfl) (hp 59 150 _ (by kernel_rfl) rfl rfl) rfl, .inl ⟨fw, ?_, hG⟩⟩⟩
                        simp only [execOp, Act.eval]
                        go_simp
                        all_goals first | omega | (intro hh; omega) | (rw [IntKind.wrap_i64]; omega)
                      | 67, _ =>
                        have p150 : fa.eval (.tmp 150) = .bool false := hp 59 150 _ (by kernel_rfl) rfl rfl
                        have p157 : fa.eval (.tmp 157) = .bool false := hp 66 157 _ (by kernel_rfl) rfl rfl
                        simp only [Act.eval] at p150 p157
                        refine ⟨_, _, rfl, rfl, .inl ⟨RV.wanted_none rfl, .inl ⟨fw, ?_, hG⟩⟩⟩
                        simp only [execOp, Act.eval]
                        go_simp
                        all_goals first | omega | (intro hh; omega) | (rw [IntKind.wrap_i64]; omega)
                      | i + 68, hi => exact absurd hi (by show ¬ (i + 68 < 68); omega)
                    · intro w2 hG
                      simp only [RV.putAll, List.zip_cons_cons, List.zip_nil_left, List.zip_nil_right, List.foldl_cons, List.foldl_nil, Act.put, List.setIfInBounds_toArray, List.set_cons_zero, List.set_cons_succ]
                      go_wp2
                      go_roundw
                      case rel => exact ⟨k + 1, a, true, by omega, HA2.out, rfl, by go_num, hG⟩
                      case measure => simp [intOf]; omega
                  · obtain ⟨j, rfl⟩ := Int.eq_ofNat_of_zero_le (show 0 ≤ z by omega)
                    obtain ⟨nv, hv⟩ : ∃ v, numB ((b0.drop a).take j) = v := ⟨_, rfl⟩
                    obtain ⟨bb, hb2⟩ : ∃ bb, a + j = bb := ⟨_, rfl⟩
                    have d1 : decide (0 ≤ (j : Int)) = true := by simp
                    have d2 : decide ((j : Int) ≤ 64) = true := by simp; omega
                    have d3 : decide ((j : Int) ≤ lf) = true := by simp; omega
                    have d4 : decide (lf < (j : Int)) = false := by simp; omega
                    have HK := Lib.hid (show Tk b0 a false (j : Int) nv true bb false by rw [← hb2]; exact Tk.good (l := b0) (a := a) (k := j) (by omega) (by omega) hv)
                    have HA2 := Lib.hid (show bb ≤ b0.length by have := HA.out; omega)
                    obtain ⟨r0, hr0⟩ : ∃ r, b0.drop bb = r := ⟨_, rfl⟩
                    have HRS := Lib.hid (fun (W : World) (hq : CuOk W g b0 bb false) => (by have h := rest_any hq (by have := HLN.out; omega) HA2.out; rwa [hr0] at h : Calls Tryd.prog 20 #[.pointer (some ⟨g, 0, none⟩)] W fun e w' => e = .returned (.string ⟨r0.toArray⟩) ∧ Below W.heap.size W w'))
                    have HEX := Lib.hid (show (⟨b0.toArray⟩ : ByteArray).extract bb b0.length = ⟨r0.toArray⟩ by
                      rw [← hr0]; apply ByteArray.ext; simp; exact List.take_of_length_le (by simp))
                    clear hr0
                    have HWL := Lib.hid (show IntKind.i64.wrap (((bb : Nat) : Int) + ((b0.length : Int) - ((bb : Nat) : Int))) = (b0.length : Int) by have := HLN.out; rw [IntKind.wrap_i64]; omega)
                    have HWZ := Lib.hid (show IntKind.i64.wrap ((a : Int) + ((j : Nat))) = ((bb : Nat) : Int) by have := HLN.out; have := HA2.out; rw [IntKind.wrap_i64]; omega)
                    have HB2 := Lib.hid hb2
                    clear hb2
                    go_wp2_with fail
                    go_at_call 17
                    refine (at_s hS.out 0 rfl).mono ?_
                    rintro e v3 ⟨rfl, h1⟩
                    have h2 : CS w v3 [K g b0 a false] := h1
                    clear hS h1; have hS := Lib.hid h2; clear h2
                    clear hcell
                    have hcell := HE.out _ hS.out.bl
                    go_wp2_with fail
                    go_at_call 19
                    refine (left_s hS.out 0 rfl HB.out HA.out).mono ?_
                    rintro e v4 ⟨rfl, h1⟩
                    have h2 : CS w v4 [K g b0 a false] := h1
                    clear hS h1; have hS := Lib.hid h2; clear h2
                    clear hcell
                    have hcell := HE.out _ hS.out.bl
                    go_wp2_with fail
                    go_at_call 12
                    refine (take_n hS.out 0 rfl HB.out HA.out HK.out).mono ?_
                    rintro e v5 ⟨rfl, h1⟩
                    have h2 : CS w v5 [K g b0 bb false] := h1
                    clear hS h1; have hS := Lib.hid h2; clear h2
                    clear hcell
                    have hcell := HE.out _ hS.out.bl
                    go_wp2_with fail
                    refine RV.wp_region_g (by kernel_rfl) [91, 92, 93, 94, 95, 96, 97, 98, 99, 100, 101, 102, 103, 104, 105, 106, 107, 108, 109, 110, 111, 112, 113, 114, 115, 116, 117, 118, 119, 120, 121, 122, 123, 124, 125, 126, 127, 128, 129, 130, 131, 132, 133, 134, 135, 136, 137, 138, 139, 140, 141, 142, 143, 144, 145, 146, 147, 148, 149, 150, 151, 152, 153, 154, 155, 156, 157, 158] [.bool true, .bool true, .bool false, .bool false, .bool true, .bool false, .bool false, undef, undef, undef, undef, undef, undef, undef, undef, .bool false, .bool false, .bool false, .bool true, .bool true, .pointer (some ⟨g, 0, none⟩), .int .i64 ((bb : Nat)), .int .i64 (a : Nat), .slice (some ad) n1 c1, .int .i64 (k : Nat), .pointer (some (ad.add k)), .int .i64 ((j : Nat)), .int .i64 (bb : Nat), .bool false, .bool false, .bool false, .bool false, .pointer (some ⟨g, 0, none⟩), .bool false, .bool false, .bool false, .bool false, .bool false, .pointer (some ⟨g, 0, none⟩), .int .i64 ((bb : Nat)), .pointer (some ⟨g, 0, none⟩), .int .i64 ((b0.length : Int) - ((bb : Nat) : Int)), .int .i64 (b0.length : Nat), .string ⟨(b0).toArray⟩, .int .i64 (b0.length : Nat), .bool false, .bool false, .bool false, .pointer (some ⟨g, 0, none⟩), .int .i64 ((bb : Nat)), .bool false, .bool false, .bool false, .pointer (some ⟨g, 0, none⟩), .int .i64 ((bb : Nat)), .string ⟨(b0).toArray⟩, .int .i64 (b0.length : Nat), .bool false, .bool false, .bool false, .pointer (some ⟨g, 0, none⟩), .string ⟨(r0).toArray⟩, .string ⟨(b0).toArray⟩, .pointer (some ⟨g, 0, none⟩), .int .i64 ((bb : Nat)), .string ⟨(r0).toArray⟩, .bool false, .bool false] (fun W => CS w W [K g b0 bb false]) (by kernel_rfl) rfl (by decide) rfl (by kernel_rfl) (hS.out.drew) ?_ ?_
                    · intro ii hii fa fw fr hp hG
                      match ii, hii with
                      | 0, _ =>
                        have p13 : fa.eval (.tmp 13) = .bool true := (fr.out 13 (by decide)).trans rfl
                        simp only [Act.eval] at p13
                        refine ⟨_, _, rfl, rfl, .inl ⟨RV.wanted_none rfl, .inl ⟨fw, ?_, hG⟩⟩⟩
                        simp only [execOp, Act.eval]
                        go_simp
                        all_goals first | omega | (intro hh; omega) | (rw [IntKind.wrap_i64]; omega)
                      | 1, _ =>
                        have p14 : fa.eval (.tmp 14) = .bool true := (fr.out 14 (by decide)).trans rfl
                        simp only [Act.eval] at p14
                        refine ⟨_, _, rfl, rfl, .inl ⟨RV.wanted_none rfl, .inl ⟨fw, ?_, hG⟩⟩⟩
                        simp only [execOp, Act.eval]
                        go_simp
                        all_goals first | omega | (intro hh; omega) | (rw [IntKind.wrap_i64]; omega)
                      | 2, _ =>
                        have p91 : fa.eval (.tmp 91) = .bool true := hp 0 91 _ (by kernel_rfl) rfl rfl
                        have p92 : fa.eval (.tmp 92) = .bool true := hp 1 92 _ (by kernel_rfl) rfl rfl
                        simp only [Act.eval] at p91 p92
                        refine ⟨_, _, rfl, rfl, .inl ⟨RV.wanted_none rfl, .inl ⟨fw, ?_, hG⟩⟩⟩
                        simp only [execOp, Act.eval]
                        go_simp
                        all_goals first | omega | (intro hh; omega) | (rw [IntKind.wrap_i64]; omega)
                      | 3, _ =>
                        have p93 : fa.eval (.tmp 93) = .bool false := hp 2 93 _ (by kernel_rfl) rfl rfl
                        simp only [Act.eval] at p93
                        refine ⟨_, _, rfl, rfl, .inl ⟨RV.wanted_none rfl, .inl ⟨fw, ?_, hG⟩⟩⟩
                        simp only [execOp, Act.eval]
                        go_simp
                        all_goals first | omega | (intro hh; omega) | (rw [IntKind.wrap_i64]; omega)
                      | 4, _ =>
                        have p13 : fa.eval (.tmp 13) = .bool true := (fr.out 13 (by decide)).trans rfl
                        simp only [Act.eval] at p13
                        refine ⟨_, _, rfl, rfl, .inl ⟨RV.wanted_at (d := 94) rfl fr (by rfl) (hp 3 94 _ (by kernel_rfl) rfl rfl) rfl, .inl ⟨fw, ?_, hG⟩⟩⟩
                        simp only [execOp, Act.eval]
                        go_simp
                        all_goals first | omega | (intro hh; omega) | (rw [IntKind.wrap_i64]; omega)
                      | 5, _ =>
                        have p95 : fa.eval (.tmp 95) = .bool true := hp 4 95 _ (by kernel_rfl) rfl rfl
                        simp only [Act.eval] at p95
                        refine ⟨_, _, rfl, rfl, .inl ⟨RV.wanted_at (d := 94) rfl fr (by rfl) (hp 3 94 _ (by kernel_rfl) rfl rfl) rfl, .inl ⟨fw, ?_, hG⟩⟩⟩
                        simp only [execOp, Act.eval]
                        go_simp
                        all_goals first | omega | (intro hh; omega) | (rw [IntKind.wrap_i64]; omega)
                      | 6, _ =>
                        have p96 : fa.eval (.tmp 96) = .bool false := hp 5 96 _ (by kernel_rfl) rfl rfl
                        simp only [Act.eval] at p96
                        refine ⟨_, _, rfl, rfl, .inl ⟨RV.wanted_at (d := 94) rfl fr (by rfl) (hp 3 94 _ (by kernel_rfl) rfl rfl) rfl, .inl ⟨fw, ?_, hG⟩⟩⟩
                        simp only [execOp, Act.eval]
                        go_simp
                        all_goals first | omega | (intro hh; omega) | (rw [IntKind.wrap_i64]; omega)
                      | 7, _ =>
                        exact ⟨_, _, rfl, rfl, .inr ⟨RV.wanted_no (d := 97) rfl fr (by rfl) (hp 6 97 _ (by kernel_rfl) rfl rfl) (.inl rfl) rfl, rfl⟩⟩
                      | 8, _ =>
                        exact ⟨_, _, rfl, rfl, .inr ⟨RV.wanted_no (d := 97) rfl fr (by rfl) (hp 6 97 _ (by kernel_rfl) rfl rfl) (.inl rfl) rfl, rfl⟩⟩
                      | 9, _ =>
                        exact ⟨_, _, rfl, rfl, .inr ⟨RV.wanted_no (d := 97) rfl fr (by rfl) (hp 6 97 _ (by kernel_rfl) rfl rfl) (.inl rfl) rfl, rfl⟩⟩
                      | 10, _ =>
                        exact ⟨_, _, rfl, rfl, .inr ⟨RV.wanted_no (d := 100) rfl fr (by rfl) (hp 9 100 _ (by kernel_rfl) rfl rfl) (.inr rfl) rfl, rfl⟩⟩
                      | 11, _ =>
                        exact ⟨_, _, rfl, rfl, .inr ⟨RV.wanted_no (d := 100) rfl fr (by rfl) (hp 9 100 _ (by kernel_rfl) rfl rfl) (.inr rfl) rfl, rfl⟩⟩
                      | 12, _ =>
                        exact ⟨_, _, rfl, rfl, .inr ⟨RV.wanted_no (d := 100) rfl fr (by rfl) (hp 9 100 _ (by kernel_rfl) rfl rfl) (.inr rfl) rfl, rfl⟩⟩
                      | 13, _ =>
                        exact ⟨_, _, rfl, rfl, .inr ⟨RV.wanted_no (d := 100) rfl fr (by rfl) (hp 9 100 _ (by kernel_rfl) rfl rfl) (.inr rfl) rfl, rfl⟩⟩
                      | 14, _ =>
                        exact ⟨_, _, rfl, rfl, .inr ⟨RV.wanted_no (d := 97) rfl fr (by rfl) (hp 6 97 _ (by kernel_rfl) rfl rfl) (.inl rfl) rfl, rfl⟩⟩
                      | 15, _ =>
                        have p97 : fa.eval (.tmp 97) = .bool false := hp 6 97 _ (by kernel_rfl) rfl rfl
                        have p105 : fa.eval (.tmp 105) = undef := hp 14 105 _ (by kernel_rfl) rfl rfl
                        simp only [Act.eval] at p97 p105
                        refine ⟨_, _, rfl, rfl, .inl ⟨RV.wanted_at (d := 94) rfl fr (by rfl) (hp 3 94 _ (by kernel_rfl) rfl rfl) rfl, .inl ⟨fw, ?_, hG⟩⟩⟩
                        simp only [execOp, Act.eval]
                        go_simp
                        all_goals first | omega | (intro hh; omega) | (rw [IntKind.wrap_i64]; omega)
                      | 16, _ =>
                        have p94 : fa.eval (.tmp 94) = .bool false := hp 3 94 _ (by kernel_rfl) rfl rfl
                        have p106 : fa.eval (.tmp 106) = .bool false := hp 15 106 _ (by kernel_rfl) rfl rfl
                        simp only [Act.eval] at p94 p106
                        refine ⟨_, _, rfl, rfl, .inl ⟨RV.wanted_none rfl, .inl ⟨fw, ?_, hG⟩⟩⟩
                        simp only [execOp, Act.eval]
                        go_simp
                        all_goals first | omega | (intro hh; omega) | (rw [IntKind.wrap_i64]; omega)
                      | 17, _ =>
                        have p107 : fa.eval (.tmp 107) = .bool false := hp 16 107 _ (by kernel_rfl) rfl rfl
                        simp only [Act.eval] at p107
                        refine ⟨_, _, rfl, rfl, .inl ⟨RV.wanted_none rfl, .inl ⟨fw, ?_, hG⟩⟩⟩
                        simp only [execOp, Act.eval]
                        go_simp
                        all_goals first | omega | (intro hh; omega) | (rw [IntKind.wrap_i64]; omega)
                      | 18, _ =>
                        have p13 : fa.eval (.tmp 13) = .bool true := (fr.out 13 (by decide)).trans rfl
                        simp only [Act.eval] at p13
                        refine ⟨_, _, rfl, rfl, .inl ⟨RV.wanted_at (d := 108) rfl fr (by rfl) (hp 17 108 _ (by kernel_rfl) rfl rfl) rfl, .inl ⟨fw, ?_, hG⟩⟩⟩
                        simp only [execOp, Act.eval]
                        go_simp
                        all_goals first | omega | (intro hh; omega) | (rw [IntKind.wrap_i64]; omega)
                      | 19, _ =>
                        have p109 : fa.eval (.tmp 109) = .bool true := hp 18 109 _ (by kernel_rfl) rfl rfl
                        simp only [Act.eval] at p109
                        refine ⟨_, _, rfl, rfl, .inl ⟨RV.wanted_at (d := 108) rfl fr (by rfl) (hp 17 108 _ (by kernel_rfl) rfl rfl) rfl, .inl ⟨fw, ?_, hG⟩⟩⟩
                        simp only [execOp, Act.eval]
                        go_simp
                        all_goals first | omega | (intro hh; omega) | (rw [IntKind.wrap_i64]; omega)
                      | 20, _ =>
                        have p5 : fa.eval (.tmp 5) = .pointer (some ⟨g, 0, none⟩) := (fr.out 5 (by decide)).trans rfl
                        simp only [Act.eval] at p5
                        refine ⟨_, _, rfl, rfl, .inl ⟨RV.wanted_at (d := 110) rfl fr (by rfl) (hp 19 110 _ (by kernel_rfl) rfl rfl) rfl, .inl ⟨fw, ?_, hG⟩⟩⟩
                        simp only [execOp, Act.eval]
                        go_simp
                        all_goals first | omega | (intro hh; omega) | (rw [IntKind.wrap_i64]; omega)
                      | 21, _ =>
                        have p111 : fa.eval (.tmp 111) = .pointer (some ⟨g, 0, none⟩) := hp 20 111 _ (by kernel_rfl) rfl rfl
                        have hv : (#[Operand.tmp 111] : Array Operand).map fa.eval = #[(.pointer (some ⟨g, 0, none⟩))] := by simp only [List.map_toArray, List.map_cons, List.map_nil, p111]
                        exact ⟨_, _, rfl, rfl, .inl ⟨RV.wanted_at (d := 110) rfl fr (by rfl) (hp 19 110 _ (by kernel_rfl) rfl rfl) rfl, RV.yields_call_g hv Tryd.func17 (by kernel_rfl) rfl (at_any (hG.get 0 rfl)) (fun e w2 h => ⟨h.1, hG.below h.2⟩)⟩⟩
                      | 22, _ =>
                        have p9 : fa.eval (.tmp 9) = .int .i64 (a : Nat) := (fr.out 9 (by decide)).trans rfl
                        simp only [Act.eval] at p9
                        refine ⟨_, _, rfl, rfl, .inl ⟨RV.wanted_at (d := 110) rfl fr (by rfl) (hp 19 110 _ (by kernel_rfl) rfl rfl) rfl, .inl ⟨fw, ?_, hG⟩⟩⟩
                        simp only [execOp, Act.eval]
                        go_simp
                        all_goals first | omega | (intro hh; omega) | (rw [IntKind.wrap_i64]; omega)
                      | 23, _ =>
                        have p1 : fa.eval (.tmp 1) = .slice (some ad) n1 c1 := (fr.out 1 (by decide)).trans rfl
                        simp only [Act.eval] at p1
                        refine ⟨_, _, rfl, rfl, .inl ⟨RV.wanted_at (d := 110) rfl fr (by rfl) (hp 19 110 _ (by kernel_rfl) rfl rfl) rfl, .inl ⟨fw, ?_, hG⟩⟩⟩
                        simp only [execOp, Act.eval]
                        go_simp
                        all_goals first | omega | (intro hh; omega) | (rw [IntKind.wrap_i64]; omega)
                      | 24, _ =>
                        have p8 : fa.eval (.tmp 8) = .int .i64 (k : Nat) := (fr.out 8 (by decide)).trans rfl
                        simp only [Act.eval] at p8
                        refine ⟨_, _, rfl, rfl, .inl ⟨RV.wanted_at (d := 110) rfl fr (by rfl) (hp 19 110 _ (by kernel_rfl) rfl rfl) rfl, .inl ⟨fw, ?_, hG⟩⟩⟩
                        simp only [execOp, Act.eval]
                        go_simp
                        all_goals first | omega | (intro hh; omega) | (rw [IntKind.wrap_i64]; omega)
                      | 25, _ =>
                        have p114 : fa.eval (.tmp 114) = .slice (some ad) n1 c1 := hp 23 114 _ (by kernel_rfl) rfl rfl
                        have p115 : fa.eval (.tmp 115) = .int .i64 (k : Nat) := hp 24 115 _ (by kernel_rfl) rfl rfl
                        simp only [Act.eval] at p114 p115
                        have hlt' := HLT.out
                        refine ⟨_, _, rfl, rfl, .inl ⟨RV.wanted_at (d := 110) rfl fr (by rfl) (hp 19 110 _ (by kernel_rfl) rfl rfl) rfl, .inl ⟨fw, ?_, hG⟩⟩⟩
                        simp only [execOp, Act.eval]
                        go_simp
                        all_goals first | omega | (intro hh; omega) | (rw [IntKind.wrap_i64]; omega)
                      | 26, _ =>
                        have p116 : fa.eval (.tmp 116) = .pointer (some (ad.add k)) := hp 25 116 _ (by kernel_rfl) rfl rfl
                        simp only [Act.eval] at p116
                        have hcl := HE.out fw hG.bl
                        refine ⟨_, _, rfl, rfl, .inl ⟨RV.wanted_at (d := 110) rfl fr (by rfl) (hp 19 110 _ (by kernel_rfl) rfl rfl) rfl, .inl ⟨fw, ?_, hG⟩⟩⟩
                        simp only [execOp, Act.eval]
                        go_simp
                        all_goals first | omega | (intro hh; omega) | (rw [IntKind.wrap_i64]; omega)
                      | 27, _ =>
                        have p113 : fa.eval (.tmp 113) = .int .i64 (a : Nat) := hp 22 113 _ (by kernel_rfl) rfl rfl
                        have p117 : fa.eval (.tmp 117) = .int .i64 ((j : Nat)) := hp 26 117 _ (by kernel_rfl) rfl rfl
                        simp only [Act.eval] at p113 p117
                        have hwz := HWZ.out
                        refine ⟨_, _, rfl, rfl, .inl ⟨RV.wanted_at (d := 110) rfl fr (by rfl) (hp 19 110 _ (by kernel_rfl) rfl rfl) rfl, .inl ⟨fw, ?_, hG⟩⟩⟩
                        simp only [execOp, Act.eval]
                        go_simp
                        all_goals first | omega | (intro hh; omega) | (rw [IntKind.wrap_i64]; omega)
                      | 28, _ =>
                        have p112 : fa.eval (.tmp 112) = .int .i64 ((bb : Nat)) := hp 21 112 _ (by kernel_rfl) rfl rfl
                        have p118 : fa.eval (.tmp 118) = .int .i64 (bb : Nat) := hp 27 118 _ (by kernel_rfl) rfl rfl
                        simp only [Act.eval] at p112 p118
                        refine ⟨_, _, rfl, rfl, .inl ⟨RV.wanted_at (d := 110) rfl fr (by rfl) (hp 19 110 _ (by kernel_rfl) rfl rfl) rfl, .inl ⟨fw, ?_, hG⟩⟩⟩
                        simp only [execOp, Act.eval]
                        go_simp
                        all_goals first | omega | (intro hh; omega) | (rw [IntKind.wrap_i64]; omega)
                      | 29, _ =>
                        have p110 : fa.eval (.tmp 110) = .bool true := hp 19 110 _ (by kernel_rfl) rfl rfl
                        have p119 : fa.eval (.tmp 119) = .bool false := hp 28 119 _ (by kernel_rfl) rfl rfl
                        simp only [Act.eval] at p110 p119
                        refine ⟨_, _, rfl, rfl, .inl ⟨RV.wanted_at (d := 108) rfl fr (by rfl) (hp 17 108 _ (by kernel_rfl) rfl rfl) rfl, .inl ⟨fw, ?_, hG⟩⟩⟩
                        simp only [execOp, Act.eval]
                        go_simp
                        all_goals first | omega | (intro hh; omega) | (rw [IntKind.wrap_i64]; omega)
                      | 30, _ =>
                        have p108 : fa.eval (.tmp 108) = .bool false := hp 17 108 _ (by kernel_rfl) rfl rfl
                        have p120 : fa.eval (.tmp 120) = .bool false := hp 29 120 _ (by kernel_rfl) rfl rfl
                        simp only [Act.eval] at p108 p120
                        refine ⟨_, _, rfl, rfl, .inl ⟨RV.wanted_none rfl, .inl ⟨fw, ?_, hG⟩⟩⟩
                        simp only [execOp, Act.eval]
                        go_simp
                        all_goals first | omega | (intro hh; omega) | (rw [IntKind.wrap_i64]; omega)
                      | 31, _ =>
                        have p121 : fa.eval (.tmp 121) = .bool false := hp 30 121 _ (by kernel_rfl) rfl rfl
                        simp only [Act.eval] at p121
                        refine ⟨_, _, rfl, rfl, .inl ⟨RV.wanted_none rfl, .inl ⟨fw, ?_, hG⟩⟩⟩
                        simp only [execOp, Act.eval]
                        go_simp
                        all_goals first | omega | (intro hh; omega) | (rw [IntKind.wrap_i64]; omega)
                      | 32, _ =>
                        have p5 : fa.eval (.tmp 5) = .pointer (some ⟨g, 0, none⟩) := (fr.out 5 (by decide)).trans rfl
                        simp only [Act.eval] at p5
                        refine ⟨_, _, rfl, rfl, .inl ⟨RV.wanted_at (d := 122) rfl fr (by rfl) (hp 31 122 _ (by kernel_rfl) rfl rfl) rfl, .inl ⟨fw, ?_, hG⟩⟩⟩
                        simp only [execOp, Act.eval]
                        go_simp
                        all_goals first | omega | (intro hh; omega) | (rw [IntKind.wrap_i64]; omega)
                      | 33, _ =>
                        have p123 : fa.eval (.tmp 123) = .pointer (some ⟨g, 0, none⟩) := hp 32 123 _ (by kernel_rfl) rfl rfl
                        have hv : (#[Operand.tmp 123] : Array Operand).map fa.eval = #[(.pointer (some ⟨g, 0, none⟩))] := by simp only [List.map_toArray, List.map_cons, List.map_nil, p123]
                        exact ⟨_, _, rfl, rfl, .inl ⟨RV.wanted_at (d := 122) rfl fr (by rfl) (hp 31 122 _ (by kernel_rfl) rfl rfl) rfl, RV.yields_call_g hv Tryd.func18 (by kernel_rfl) rfl (over_any (hG.get 0 rfl)) (fun e w2 h => ⟨h.1, hG.below h.2⟩)⟩⟩
                      | 34, _ =>
                        have p7 : fa.eval (.tmp 7) = .bool false := (fr.out 7 (by decide)).trans rfl
                        simp only [Act.eval] at p7
                        refine ⟨_, _, rfl, rfl, .inl ⟨RV.wanted_at (d := 122) rfl fr (by rfl) (hp 31 122 _ (by kernel_rfl) rfl rfl) rfl, .inl ⟨fw, ?_, hG⟩⟩⟩
                        simp only [execOp, Act.eval]
                        go_simp
                        all_goals first | omega | (intro hh; omega) | (rw [IntKind.wrap_i64]; omega)
                      | 35, _ =>
                        have p124 : fa.eval (.tmp 124) = .bool false := hp 33 124 _ (by kernel_rfl) rfl rfl
                        have p125 : fa.eval (.tmp 125) = .bool false := hp 34 125 _ (by kernel_rfl) rfl rfl
                        simp only [Act.eval] at p124 p125
                        refine ⟨_, _, rfl, rfl, .inl ⟨RV.wanted_at (d := 122) rfl fr (by rfl) (hp 31 122 _ (by kernel_rfl) rfl rfl) rfl, .inl ⟨fw, ?_, hG⟩⟩⟩
                        simp only [execOp, Act.eval]
                        go_simp
                        all_goals first | omega | (intro hh; omega) | (rw [IntKind.wrap_i64]; omega)
                      | 36, _ =>
                        have p122 : fa.eval (.tmp 122) = .bool false := hp 31 122 _ (by kernel_rfl) rfl rfl
                        have p126 : fa.eval (.tmp 126) = .bool false := hp 35 126 _ (by kernel_rfl) rfl rfl
                        simp only [Act.eval] at p122 p126
                        refine ⟨_, _, rfl, rfl, .inl ⟨RV.wanted_none rfl, .inl ⟨fw, ?_, hG⟩⟩⟩
                        simp only [execOp, Act.eval]
                        go_simp
                        all_goals first | omega | (intro hh; omega) | (rw [IntKind.wrap_i64]; omega)
                      | 37, _ =>
                        have p127 : fa.eval (.tmp 127) = .bool false := hp 36 127 _ (by kernel_rfl) rfl rfl
                        simp only [Act.eval] at p127
                        refine ⟨_, _, rfl, rfl, .inl ⟨RV.wanted_none rfl, .inl ⟨fw, ?_, hG⟩⟩⟩
                        simp only [execOp, Act.eval]
                        go_simp
                        all_goals first | omega | (intro hh; omega) | (rw [IntKind.wrap_i64]; omega)
                      | 38, _ =>
                        have p5 : fa.eval (.tmp 5) = .pointer (some ⟨g, 0, none⟩) := (fr.out 5 (by decide)).trans rfl
                        simp only [Act.eval] at p5
                        refine ⟨_, _, rfl, rfl, .inl ⟨RV.wanted_at (d := 128) rfl fr (by rfl) (hp 37 128 _ (by kernel_rfl) rfl rfl) rfl, .inl ⟨fw, ?_, hG⟩⟩⟩
                        simp only [execOp, Act.eval]
                        go_simp
                        all_goals first | omega | (intro hh; omega) | (rw [IntKind.wrap_i64]; omega)
                      | 39, _ =>
                        have p129 : fa.eval (.tmp 129) = .pointer (some ⟨g, 0, none⟩) := hp 38 129 _ (by kernel_rfl) rfl rfl
                        have hv : (#[Operand.tmp 129] : Array Operand).map fa.eval = #[(.pointer (some ⟨g, 0, none⟩))] := by simp only [List.map_toArray, List.map_cons, List.map_nil, p129]
                        exact ⟨_, _, rfl, rfl, .inl ⟨RV.wanted_at (d := 128) rfl fr (by rfl) (hp 37 128 _ (by kernel_rfl) rfl rfl) rfl, RV.yields_call_g hv Tryd.func17 (by kernel_rfl) rfl (at_any (hG.get 0 rfl)) (fun e w2 h => ⟨h.1, hG.below h.2⟩)⟩⟩
                      | 40, _ =>
                        have p5 : fa.eval (.tmp 5) = .pointer (some ⟨g, 0, none⟩) := (fr.out 5 (by decide)).trans rfl
                        simp only [Act.eval] at p5
                        refine ⟨_, _, rfl, rfl, .inl ⟨RV.wanted_at (d := 128) rfl fr (by rfl) (hp 37 128 _ (by kernel_rfl) rfl rfl) rfl, .inl ⟨fw, ?_, hG⟩⟩⟩
                        simp only [execOp, Act.eval]
                        go_simp
                        all_goals first | omega | (intro hh; omega) | (rw [IntKind.wrap_i64]; omega)
                      | 41, _ =>
                        have p131 : fa.eval (.tmp 131) = .pointer (some ⟨g, 0, none⟩) := hp 40 131 _ (by kernel_rfl) rfl rfl
                        have hv : (#[Operand.tmp 131] : Array Operand).map fa.eval = #[(.pointer (some ⟨g, 0, none⟩))] := by simp only [List.map_toArray, List.map_cons, List.map_nil, p131]
                        exact ⟨_, _, rfl, rfl, .inl ⟨RV.wanted_at (d := 128) rfl fr (by rfl) (hp 37 128 _ (by kernel_rfl) rfl rfl) rfl, RV.yields_call_g hv Tryd.func19 (by kernel_rfl) rfl (left_any (hG.get 0 rfl) (by have := HLN.out; unfold maxLen; omega) HA2.out) (fun e w2 h => ⟨h.1, hG.below h.2⟩)⟩⟩
                      | 42, _ =>
                        have p130 : fa.eval (.tmp 130) = .int .i64 ((bb : Nat)) := hp 39 130 _ (by kernel_rfl) rfl rfl
                        have p132 : fa.eval (.tmp 132) = .int .i64 ((b0.length : Int) - ((bb : Nat) : Int)) := hp 41 132 _ (by kernel_rfl) rfl rfl
                        simp only [Act.eval] at p130 p132
                        have hwl := HWL.out
                        refine ⟨_, _, rfl, rfl, .inl ⟨RV.wanted_at (d := 128) rfl fr (by rfl) (hp 37 128 _ (by kernel_rfl) rfl rfl) rfl, .inl ⟨fw, ?_, hG⟩⟩⟩
                        simp only [execOp, Act.eval]
                        go_simp
                        all_goals first | omega | (intro hh; omega) | (rw [IntKind.wrap_i64]; omega)
                      | 43, _ =>
                        have p0 : fa.eval (.tmp 0) = .string ⟨(b0).toArray⟩ := (fr.out 0 (by decide)).trans rfl
                        simp only [Act.eval] at p0
                        refine ⟨_, _, rfl, rfl, .inl ⟨RV.wanted_at (d := 128) rfl fr (by rfl) (hp 37 128 _ (by kernel_rfl) rfl rfl) rfl, .inl ⟨fw, ?_, hG⟩⟩⟩
                        simp only [execOp, Act.eval]
                        go_simp
                        all_goals first | omega | (intro hh; omega) | (rw [IntKind.wrap_i64]; omega)
                      | 44, _ =>
                        have p134 : fa.eval (.tmp 134) = .string ⟨(b0).toArray⟩ := hp 43 134 _ (by kernel_rfl) rfl rfl
                        simp only [Act.eval] at p134
                        refine ⟨_, _, rfl, rfl, .inl ⟨RV.wanted_at (d := 128) rfl fr (by rfl) (hp 37 128 _ (by kernel_rfl) rfl rfl) rfl, .inl ⟨fw, ?_, hG⟩⟩⟩
                        simp only [execOp, Act.eval]
                        go_simp
                        all_goals first | omega | (intro hh; omega) | (rw [IntKind.wrap_i64]; omega)
                      | 45, _ =>
                        have p133 : fa.eval (.tmp 133) = .int .i64 (b0.length : Nat) := hp 42 133 _ (by kernel_rfl) rfl rfl
                        have p135 : fa.eval (.tmp 135) = .int .i64 (b0.length : Nat) := hp 44 135 _ (by kernel_rfl) rfl rfl
                        simp only [Act.eval] at p133 p135
                        refine ⟨_, _, rfl, rfl, .inl ⟨RV.wanted_at (d := 128) rfl fr (by rfl) (hp 37 128 _ (by kernel_rfl) rfl rfl) rfl, .inl ⟨fw, ?_, hG⟩⟩⟩
                        simp only [execOp, Act.eval]
                        go_simp
                        all_goals first | omega | (intro hh; omega) | (rw [IntKind.wrap_i64]; omega)
                      | 46, _ =>
                        have p128 : fa.eval (.tmp 128) = .bool false := hp 37 128 _ (by kernel_rfl) rfl rfl
                        have p136 : fa.eval (.tmp 136) = .bool false := hp 45 136 _ (by kernel_rfl) rfl rfl
                        simp only [Act.eval] at p128 p136
                        refine ⟨_, _, rfl, rfl, .inl ⟨RV.wanted_none rfl, .inl ⟨fw, ?_, hG⟩⟩⟩
                        simp only [execOp, Act.eval]
                        go_simp
                        all_goals first | omega | (intro hh; omega) | (rw [IntKind.wrap_i64]; omega)
                      | 47, _ =>
                        have p137 : fa.eval (.tmp 137) = .bool false := hp 46 137 _ (by kernel_rfl) rfl rfl
                        simp only [Act.eval] at p137
                        refine ⟨_, _, rfl, rfl, .inl ⟨RV.wanted_none rfl, .inl ⟨fw, ?_, hG⟩⟩⟩
                        simp only [execOp, Act.eval]
                        go_simp
                        all_goals first | omega | (intro hh; omega) | (rw [IntKind.wrap_i64]; omega)
                      | 48, _ =>
                        have p5 : fa.eval (.tmp 5) = .pointer (some ⟨g, 0, none⟩) := (fr.out 5 (by decide)).trans rfl
                        simp only [Act.eval] at p5
                        refine ⟨_, _, rfl, rfl, .inl ⟨RV.wanted_at (d := 138) rfl fr (by rfl) (hp 47 138 _ (by kernel_rfl) rfl rfl) rfl, .inl ⟨fw, ?_, hG⟩⟩⟩
                        simp only [execOp, Act.eval]
                        go_simp
                        all_goals first | omega | (intro hh; omega) | (rw [IntKind.wrap_i64]; omega)
                      | 49, _ =>
                        have p139 : fa.eval (.tmp 139) = .pointer (some ⟨g, 0, none⟩) := hp 48 139 _ (by kernel_rfl) rfl rfl
                        have hv : (#[Operand.tmp 139] : Array Operand).map fa.eval = #[(.pointer (some ⟨g, 0, none⟩))] := by simp only [List.map_toArray, List.map_cons, List.map_nil, p139]
                        exact ⟨_, _, rfl, rfl, .inl ⟨RV.wanted_at (d := 138) rfl fr (by rfl) (hp 47 138 _ (by kernel_rfl) rfl rfl) rfl, RV.yields_call_g hv Tryd.func17 (by kernel_rfl) rfl (at_any (hG.get 0 rfl)) (fun e w2 h => ⟨h.1, hG.below h.2⟩)⟩⟩
                      | 50, _ =>
                        have p140 : fa.eval (.tmp 140) = .int .i64 ((bb : Nat)) := hp 49 140 _ (by kernel_rfl) rfl rfl
                        simp only [Act.eval] at p140
                        refine ⟨_, _, rfl, rfl, .inl ⟨RV.wanted_at (d := 138) rfl fr (by rfl) (hp 47 138 _ (by kernel_rfl) rfl rfl) rfl, .inl ⟨fw, ?_, hG⟩⟩⟩
                        simp only [execOp, Act.eval]
                        go_simp
                        all_goals (first | done | omega | (simp; omega))
                      | 51, _ =>
                        have p138 : fa.eval (.tmp 138) = .bool false := hp 47 138 _ (by kernel_rfl) rfl rfl
                        have p141 : fa.eval (.tmp 141) = .bool false := hp 50 141 _ (by kernel_rfl) rfl rfl
                        simp only [Act.eval] at p138 p141
                        refine ⟨_, _, rfl, rfl, .inl ⟨RV.wanted_none rfl, .inl ⟨fw, ?_, hG⟩⟩⟩
                        simp only [execOp, Act.eval]
                        go_simp
                        all_goals first | omega | (intro hh; omega) | (rw [IntKind.wrap_i64]; omega)
                      | 52, _ =>
                        have p142 : fa.eval (.tmp 142) = .bool false := hp 51 142 _ (by kernel_rfl) rfl rfl
                        simp only [Act.eval] at p142
                        refine ⟨_, _, rfl, rfl, .inl ⟨RV.wanted_none rfl, .inl ⟨fw, ?_, hG⟩⟩⟩
                        simp only [execOp, Act.eval]
                        go_simp
                        all_goals first | omega | (intro hh; omega) | (rw [IntKind.wrap_i64]; omega)
                      | 53, _ =>
                        have p5 : fa.eval (.tmp 5) = .pointer (some ⟨g, 0, none⟩) := (fr.out 5 (by decide)).trans rfl
                        simp only [Act.eval] at p5
                        refine ⟨_, _, rfl, rfl, .inl ⟨RV.wanted_at (d := 143) rfl fr (by rfl) (hp 52 143 _ (by kernel_rfl) rfl rfl) rfl, .inl ⟨fw, ?_, hG⟩⟩⟩
                        simp only [execOp, Act.eval]
                        go_simp
                        all_goals first | omega | (intro hh; omega) | (rw [IntKind.wrap_i64]; omega)
                      | 54, _ =>
                        have p144 : fa.eval (.tmp 144) = .pointer (some ⟨g, 0, none⟩) := hp 53 144 _ (by kernel_rfl) rfl rfl
                        have hv : (#[Operand.tmp 144] : Array Operand).map fa.eval = #[(.pointer (some ⟨g, 0, none⟩))] := by simp only [List.map_toArray, List.map_cons, List.map_nil, p144]
                        exact ⟨_, _, rfl, rfl, .inl ⟨RV.wanted_at (d := 143) rfl fr (by rfl) (hp 52 143 _ (by kernel_rfl) rfl rfl) rfl, RV.yields_call_g hv Tryd.func17 (by kernel_rfl) rfl (at_any (hG.get 0 rfl)) (fun e w2 h => ⟨h.1, hG.below h.2⟩)⟩⟩
                      | 55, _ =>
                        have p0 : fa.eval (.tmp 0) = .string ⟨(b0).toArray⟩ := (fr.out 0 (by decide)).trans rfl
                        simp only [Act.eval] at p0
                        refine ⟨_, _, rfl, rfl, .inl ⟨RV.wanted_at (d := 143) rfl fr (by rfl) (hp 52 143 _ (by kernel_rfl) rfl rfl) rfl, .inl ⟨fw, ?_, hG⟩⟩⟩
                        simp only [execOp, Act.eval]
                        go_simp
                        all_goals first | omega | (intro hh; omega) | (rw [IntKind.wrap_i64]; omega)
                      | 56, _ =>
                        have p146 : fa.eval (.tmp 146) = .string ⟨(b0).toArray⟩ := hp 55 146 _ (by kernel_rfl) rfl rfl
                        simp only [Act.eval] at p146
                        refine ⟨_, _, rfl, rfl, .inl ⟨RV.wanted_at (d := 143) rfl fr (by rfl) (hp 52 143 _ (by kernel_rfl) rfl rfl) rfl, .inl ⟨fw, ?_, hG⟩⟩⟩
                        simp only [execOp, Act.eval]
                        go_simp
                        all_goals first | omega | (intro hh; omega) | (rw [IntKind.wrap_i64]; omega)
                      | 57, _ =>
                        have p145 : fa.eval (.tmp 145) = .int .i64 ((bb : Nat)) := hp 54 145 _ (by kernel_rfl) rfl rfl
                        have p147 : fa.eval (.tmp 147) = .int .i64 (b0.length : Nat) := hp 56 147 _ (by kernel_rfl) rfl rfl
                        simp only [Act.eval] at p145 p147
                        have hal := HA2.out
                        refine ⟨_, _, rfl, rfl, .inl ⟨RV.wanted_at (d := 143) rfl fr (by rfl) (hp 52 143 _ (by kernel_rfl) rfl rfl) rfl, .inl ⟨fw, ?_, hG⟩⟩⟩
                        simp only [execOp, Act.eval]
                        go_simp
                        all_goals (first | done | omega | (simp; omega))
                      | 58, _ =>
                        have p143 : fa.eval (.tmp 143) = .bool false := hp 52 143 _ (by kernel_rfl) rfl rfl
                        have p148 : fa.eval (.tmp 148) = .bool false := hp 57 148 _ (by kernel_rfl) rfl rfl
                        simp only [Act.eval] at p143 p148
                        refine ⟨_, _, rfl, rfl, .inl ⟨RV.wanted_none rfl, .inl ⟨fw, ?_, hG⟩⟩⟩
                        simp only [execOp, Act.eval]
                        go_simp
                        all_goals first | omega | (intro hh; omega) | (rw [IntKind.wrap_i64]; omega)
                      | 59, _ =>
                        have p149 : fa.eval (.tmp 149) = .bool false := hp 58 149 _ (by kernel_rfl) rfl rfl
                        simp only [Act.eval] at p149
                        refine ⟨_, _, rfl, rfl, .inl ⟨RV.wanted_none rfl, .inl ⟨fw, ?_, hG⟩⟩⟩
                        simp only [execOp, Act.eval]
                        go_simp
                        all_goals first | omega | (intro hh; omega) | (rw [IntKind.wrap_i64]; omega)
                      | 60, _ =>
                        have p5 : fa.eval (.tmp 5) = .pointer (some ⟨g, 0, none⟩) := (fr.out 5 (by decide)).trans rfl
                        simp only [Act.eval] at p5
                        refine ⟨_, _, rfl, rfl, .inl ⟨RV.wanted_at (d := 150) rfl fr (by rfl) (hp 59 150 _ (by kernel_rfl) rfl rfl) rfl, .inl ⟨fw, ?_, hG⟩⟩⟩
                        simp only [execOp, Act.eval]
                        go_simp
                        all_goals first | omega | (intro hh; omega) | (rw [IntKind.wrap_i64]; omega)
                      | 61, _ =>
                        have p151 : fa.eval (.tmp 151) = .pointer (some ⟨g, 0, none⟩) := hp 60 151 _ (by kernel_rfl) rfl rfl
                        have hv : (#[Operand.tmp 151] : Array Operand).map fa.eval = #[(.pointer (some ⟨g, 0, none⟩))] := by simp only [List.map_toArray, List.map_cons, List.map_nil, p151]
                        exact ⟨_, _, rfl, rfl, .inl ⟨RV.wanted_at (d := 150) rfl fr (by rfl) (hp 59 150 _ (by kernel_rfl) rfl rfl) rfl, RV.yields_call_g hv Tryd.func20 (by kernel_rfl) rfl (HRS.out _ (hG.get 0 rfl)) (fun e w2 h => ⟨h.1, hG.below h.2⟩)⟩⟩
                      | 62, _ =>
                        have p0 : fa.eval (.tmp 0) = .string ⟨(b0).toArray⟩ := (fr.out 0 (by decide)).trans rfl
                        simp only [Act.eval] at p0
                        refine ⟨_, _, rfl, rfl, .inl ⟨RV.wanted_at (d := 150) rfl fr (by rfl) (hp 59 150 _ (by kernel_rfl) rfl rfl) rfl, .inl ⟨fw, ?_, hG⟩⟩⟩
                        simp only [execOp, Act.eval]
                        go_simp
                        all_goals first | omega | (intro hh; omega) | (rw [IntKind.wrap_i64]; omega)
                      | 63, _ =>
                        have p5 : fa.eval (.tmp 5) = .pointer (some ⟨g, 0, none⟩) := (fr.out 5 (by decide)).trans rfl
                        simp only [Act.eval] at p5
                        refine ⟨_, _, rfl, rfl, .inl ⟨RV.wanted_at (d := 150) rfl fr (by rfl) (hp 59 150 _ (by kernel_rfl) rfl rfl) rfl, .inl ⟨fw, ?_, hG⟩⟩⟩
                        simp only [execOp, Act.eval]
                        go_simp
                        all_goals first | omega | (intro hh; omega) | (rw [IntKind.wrap_i64]; omega)
                      | 64, _ =>
                        have p154 : fa.eval (.tmp 154) = .pointer (some ⟨g, 0, none⟩) := hp 63 154 _ (by kernel_rfl) rfl rfl
                        have hv : (#[Operand.tmp 154] : Array Operand).map fa.eval = #[(.pointer (some ⟨g, 0, none⟩))] := by simp only [List.map_toArray, List.map_cons, List.map_nil, p154]
                        exact ⟨_, _, rfl, rfl, .inl ⟨RV.wanted_at (d := 150) rfl fr (by rfl) (hp 59 150 _ (by kernel_rfl) rfl rfl) rfl, RV.yields_call_g hv Tryd.func17 (by kernel_rfl) rfl (at_any (hG.get 0 rfl)) (fun e w2 h => ⟨h.1, hG.below h.2⟩)⟩⟩
                      | 65, _ =>
                        have p153 : fa.eval (.tmp 153) = .string ⟨(b0).toArray⟩ := hp 62 153 _ (by kernel_rfl) rfl rfl
                        have p155 : fa.eval (.tmp 155) = .int .i64 ((bb : Nat)) := hp 64 155 _ (by kernel_rfl) rfl rfl
                        simp only [Act.eval] at p153 p155
                        have hex := HEX.out
                        have hal := HA2.out
                        refine ⟨_, _, rfl, rfl, .inl ⟨RV.wanted_at (d := 150) rfl fr (by rfl) (hp 59 150 _ (by kernel_rfl) rfl rfl) rfl, .inl ⟨fw, ?_, hG⟩⟩⟩
                        simp only [execOp, Act.eval]
                        go_simp
                        all_goals first | omega | (intro hh; omega) | (rw [IntKind.wrap_i64]; omega)
                      | 66, _ =>
                        have p152 : fa.eval (.tmp 152) = .string ⟨(r0).toArray⟩ := hp 61 152 _ (by kernel_rfl) rfl rfl
                        have p156 : fa.eval (.tmp 156) = .string ⟨(r0).toArray⟩ := hp 65 156 _ (by kernel_rfl) rfl rfl
                        simp only [Act.eval] at p152 p156
                        refine ⟨_, _, rfl, rfl, .inl ⟨RV.wanted_at (d := 150) rfl fr (by rfl) (hp 59 150 _ (by kernel_rfl) rfl rfl) rfl, .inl ⟨fw, ?_, hG⟩⟩⟩
                        simp only [execOp, Act.eval]
                        go_simp
                        all_goals first | omega | (intro hh; omega) | (rw [IntKind.wrap_i64]; omega)
                      | 67, _ =>
                        have p150 : fa.eval (.tmp 150) = .bool false := hp 59 150 _ (by kernel_rfl) rfl rfl
                        have p157 : fa.eval (.tmp 157) = .bool false := hp 66 157 _ (by kernel_rfl) rfl rfl
                        simp only [Act.eval] at p150 p157
                        refine ⟨_, _, rfl, rfl, .inl ⟨RV.wanted_none rfl, .inl ⟨fw, ?_, hG⟩⟩⟩
                        simp only [execOp, Act.eval]
                        go_simp
                        all_goals first | omega | (intro hh; omega) | (rw [IntKind.wrap_i64]; omega)
                      | i + 68, hi => exact absurd hi (by show ¬ (i + 68 < 68); omega)
                    · intro w2 hG
                      simp only [RV.putAll, List.zip_cons_cons, List.zip_nil_left, List.zip_nil_right, List.foldl_cons, List.foldl_nil, Act.put, List.setIfInBounds_toArray, List.set_cons_zero, List.set_cons_succ]
                      go_wp2
                      go_roundw
                      case rel => exact ⟨k + 1, bb, false, by omega, HA2.out, rfl, by go_num, hG⟩
                      case measure => simp [intOf]; omega
          · obtain rfl : k = n1 := by omega
            go_wp2
            go_ret
            exact ⟨rfl, hS.out.bl⟩
      · have hB : isB b0 = false := by simpa using h
        have HB := Lib.hid hB
        clear h hB
        go_enter Tryd.func7, Tryd.ntmps7
        go_wp2_with fail
        go_at_call 9
        refine (cawake_s hS.out).mono ?_
        rintro e v1 ⟨rfl, h1⟩
        have h2 : CS w v1 [] := h1
        clear hS h1; have hS := Lib.hid h2; clear h2
        go_wp2_with fail
        go_at_call 10
        refine (new_s_no (l := b0) hS.out HL0.out HB.out).mono ?_
        rintro e v2 ⟨rfl, h1⟩
        have h2 : CS w v2 [] := h1
        clear hS h1; have hS := Lib.hid h2; clear h2
        go_wp2
        go_ret
        exact ⟨rfl, hS.out.bl⟩
set_option maxRecDepth 100000 in
theorem lifted (os : Os) (started : os.Started) (H : Type) (enc : TypeId × Value → H) :
    ReturnsInHanded {} Tryd.checked os 7 .any (fun w args => (Rows.cursorOverSpec.pre enc Tryd.prog Tryd.f7 Rows.cursorOverRow.domain false w args ∧ laidMetH Tryd.prog Rows.cursorOverRow.laid w) ∧ sizedMet enc Tryd.prog Tryd.f7 (OpenSpec.ofChange Rows.cursorOverSpec) false w args) (Rows.cursorOverSpec.post enc Tryd.prog Tryd.f7 false true false false) := by
  refine returnsInHanded_of_change_and (C := Tryd.checked) (X := fun w _ => laidMetH Tryd.prog Rows.cursorOverRow.laid w) (fun _ _ _ hh h => h.of_heap hh) own started (by kernel_rfl) Tryd.func7
    (ChangeSpec.witness_shaped (enc := enc) (C := Tryd.checked) (os := os) (X := fun w _ => laidMetH Tryd.prog Rows.cursorOverRow.laid w) false (World.laidAll Tryd.prog os Rows.cursorOverRow.laid) #[.string ByteArray.empty, .slice none 0 0] 8 (World.laidAll_os _ _ _)
      (World.shaped_of_ZipB (by kernel_rfl) (by kernel_rfl)) (by kernel_rfl) (by kernel_rfl) (by kernel_rfl)
      (by rw [MakeChecks.laidMetH_plain _ _ _ (by kernel_rfl)]; exact laidMet_laidAll _ (by kernel_rfl) (by kernel_rfl))) ?_
  intro W base args ds gs before hval0 hW hcnd _ _ _
  have hval : ∀ (j : Nat) t v, Tryd.f7.params[j]? = some t → args[j]? = some v → Value.okWide Tryd.prog W .any base t v := hval0
  have hW' := hW
  obtain ⟨p, q, hA0, hV, hpq, hfz, hnd⟩ := hW
  have hA : DataW.TrodAll enc Tryd.prog W 0 (fun _ => true) true Tryd.f7.params.toList args.toList ds p := hA0
  rw [Tryd.params7] at hA hval
  obtain ⟨v0, vs0, d0, ds0, p0, q0, hargs, rfl, rfl, h0, r0⟩ := trodAll_cons hA
  obtain ⟨v1, vs1, d1, ds1, p1, q1, rfl, rfl, rfl, h1, r1⟩ := trodAll_cons r0
  obtain ⟨rfl, rfl, rfl⟩ := trodAll_nil r1
  obtain rfl : args = #[v0, v1] := by cases args; simp_all
  obtain ⟨rfl, rfl⟩ := trodVars_none hV
  obtain ⟨y0, rfl, rfl, rfl, l0⟩ := Go.ChangeMaps.open_string Tryd.underlying9 (hval 0 9 v0 rfl rfl) h0
  obtain ⟨b0, rfl⟩ : ∃ b : List UInt8, y0 = ⟨b.toArray⟩ := ⟨y0.data.toList, by cases y0; simp⟩
  obtain ⟨A1, n1, c1, xs1, rfl, s1⟩ := open_ints_ (hval 1 22 v1 rfl rfl) h1
  refine (walk W b0 l0 A1 n1 c1 xs1 s1).mono fun e W' ⟨he, hb⟩ => ?_
  subst he
  exact ⟨_, rfl, Frame.close laidOut hW' rfl rfl rfl Tryd.underlying4 (fun t ht => by rw [Tryd.params7] at ht; simp at ht; rcases ht with rfl | rfl <;> exact ⟨by kernel_rfl, of_decide_eq_true (by kernel_rfl)⟩) hb⟩
theorem over : Rows.cursorOverRow.holds Tryd.pinned (OpenSpec.ofChange Rows.cursorOverSpec) :=
  OpenClaim.holds_of_wide 7 Tryd.f7 rfl rfl rfl rfl rfl rfl rfl ⟨rfl, rfl, rfl, rfl, rfl⟩ rfl rfl rfl rfl rfl (by kernel_rfl) Tryd.func7 (by kernel_rfl)
    (of_decide_eq_true (by kernel_rfl)) (by unfold Func.isWrapper; first | (rw [if_pos (by decide +kernel)]; kernel_rfl) | (rw [if_neg (by decide +kernel)]; exact ⟨rfl, rfl⟩))
    (fun os started H enc _ => lifted os started H enc)
/-- the statement -/
theorem proved : Rows.CursorOverCardSaid :=
  Claim7.holds_tied_plain_at .later [] _ _ _ _ over (fun _ h => by cases h) (by kernel_rfl) (fun _ h => by cases h) cursorOver_row_tie rfl ⟨rfl, rfl⟩ (by kernel_rfl) rfl
    (fun f fn hf hfn => by
      obtain rfl : f = 7 := Option.some.inj ((show Tryd.prog.funcNamed "tombola/tombolalaw08.CursorOver" = some 7 by kernel_rfl).symm.trans hf) |>.symm
      obtain rfl : fn = Tryd.f7 := (Option.some.inj (Tryd.func7.symm.trans hfn)).symm
      exact ⟨by kernel_rfl, (fun j t ht => by
        rw [Tryd.params7] at ht
        have hm : t ∈ [9, 22] := by simpa using Array.mem_of_getElem? ht
        have hall : ([9, 22].all fun u => !Tryd.prog.wantsStandIn u) = true := by kernel_rfl
        exact (show Tryd.prog.wantsStandIn t = false by simpa using List.all_eq_true.1 hall t hm))⟩)
    (by kernel_rfl)
#print axioms proved
end Go.Proofs.YtifobfbeddlglaaDoor.cursorOver
