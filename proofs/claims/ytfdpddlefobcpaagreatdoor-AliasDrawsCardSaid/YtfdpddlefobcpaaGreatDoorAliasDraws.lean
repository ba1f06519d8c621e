/-
  PROVED: the statement AliasDraws (tombolalaw11.AliasDraws) about the landed commit: for every input the law returns true and leaves its arguments as they were. Conditions: none beyond those that the given row itself prints.
-/
import Derived.Test.YtfdpddlefobcpaaGreatDoorCards
import Derived.Test.YtfdpddlefobcpaaGreatDoorTie
import Derived.LaidMore
import Derived.Lay
import Derived.SevenTiedAt
import Derived.Stop.Joined
import Derived.Test.YtfdpddlefobcpaaGreatDoorRows
import Derived.WalkKit
import Derived.ProofKit
import Derived.OpenShut
import Derived.RowKit3
import Derived.Test.YtfdpddlefobcpaaGreatDoorGFrame
import Derived.Test.YtfdpddlefobcpaaGreatDoorGAlj
import Derived.Test.YtfdpddlefobcpaaGreatDoorRegG
namespace Go.Proofs.YtfdpddlefobcpaaGreatDoor.aliasDraws
open Go.ChangeShapes Go.WideShapes Go.ChangeAt Go.RowKit
set_option linter.unusedVariables false
set_option linter.unusedSimpArgs false
set_option maxRecDepth 20000
open N
theorem own : ownKnob Tryz.prog.godebug = none := by kernel_rfl

set_option maxRecDepth 100000 in
set_option maxHeartbeats 8000000 in
theorem walk (w : World) (A0 : Option Addr) (n0 c0 : Nat) (xs0 : List Int) (h0 : Il w A0 n0 c0 xs0) (b1 : List UInt8) (l1 : b1.length ≤ maxLen) (a2 : Int) (w2 : (Lit.int .u8 a2).wf = true) :
    Calls Tryz.prog 3 #[.slice A0 n0 c0, .string ⟨b1.toArray⟩, .int .u8 a2] w fun e w' => e = .returned (.bool true) ∧ Below w.heap.size w w' := by
  have HI := Lib.hid h0
  have HLN := Lib.hid h0.len
  clear h0
  have HL := Lib.hid l1
  have hb2 := bounds_u8 w2
  obtain ⟨N, hN, hN1⟩ : ∃ N : Nat, a2 % 20 = (N : Int) ∧ N < 20 := ⟨(a2 % 20).toNat, by omega, by omega⟩
  have htm : a2.tmod 20 = (N : Int) := by rw [Int.tmod_eq_emod_of_nonneg hb2.1]; exact hN
  have hwn : IntKind.i64.wrap a2 = a2 := by rw [IntKind.wrap_i64]; omega
  clear l1 hN
  by_cases h8 : 100 < n0
  · have h9 : (100 : Int) < (n0 : Int) := by omega
    go_enter Tryz.func3, Tryz.ntmps3
    go_wp2_with (go_at_call 7; refine (awake11 _).mono ?_; rintro e w1 ⟨rfl, hb1⟩; have HB := Lib.hid hb1; clear hb1)
    go_ret
    exact ⟨rfl, HB.out⟩
  · have h9 : ¬ (100 : Int) < (n0 : Int) := by omega
    by_cases hm : mayW xs0 = 0
    · have HM := Lib.hid hm
      have HW := Lib.hid (mayW_zero.1 hm)
      clear hm
      have HB := Lib.hid (Below.refl w.heap.size w)
      by_cases h : isB b1 = true
      · have HBN := Lib.hid h
        clear h
        obtain ⟨m, hsm⟩ : ∃ m : Nat, pre xs0 xs0.length = (m : Int) := ⟨(pre xs0 xs0.length).toNat, by have := HW.out.pos; omega⟩
        have HS := Lib.hid hsm
        clear hsm
        go_enter Tryz.func3, Tryz.ntmps3
        go_wp2_with (first
          | (go_at_call 8; (with_reducible refine (anew_ok (HI.out.below HB.out) HM.out).mono ?_); rintro e w1 ⟨t, g1, g2, rfl, hT, _, _, _, hb1⟩; have HT := Lib.hid hT; have HB1 := Lib.hid hb1; clear hT hb1)
          | (go_at_call 9; (with_reducible refine (rnew11_ok (HI.out.below HB1.out) HW.out).mono ?_); rintro e w2 ⟨tr, r1, r2, rfl, hR, _, _, _, hb2⟩; have HR := Lib.hid hR; have HT2 := Lib.hid (HT.out.on hb2); have HB2 := Lib.hid (HB1.out.trans (hb2.mono HB1.out.size)); clear hR hb2)
          | (go_at_call 10; (with_reducible refine (new_yes _ _ HBN.out).mono ?_); rintro e w3 ⟨gc, rfl, hgc, hcc, hb3⟩; have HB3 := Lib.hid (HB2.out.trans (hb3.mono HB2.out.size)); have HK := Lib.hid (((CS.start w).below HB2.out).new (q := K gc b1 0 false) hb3 hcc hgc); have HT3 := Lib.hid (HT2.out.on hb3); have HR3 := Lib.hid (HR.out.on hb3); clear hb3 hcc hgc)
          | (go_at_call 11; (with_reducible refine (rnew_yes _ _ HBN.out).mono ?_); rintro e w4 ⟨xr, rfl, hxr, hxx, hb4⟩; have HB4 := Lib.hid (HB3.out.trans (hb4.mono HB3.out.size)); have HDS := Lib.hid (show DS w w4 [R xr b1 0 false, K gc b1 0 false] t g1 g2 tr r1 r2 xs0 from ⟨HK.out.new (q := R xr b1 0 false) hb4 hxx hxr, HT3.out.on hb4, HR3.out.on hb4⟩); clear hb4 hxx hxr)
          | fail)
        go_loopw [15] (fun i wr => ∃ (k a : Nat) (o : Bool), k ≤ N ∧ a ≤ b1.length ∧ i = .int .i64 k ∧ DS w wr [R xr b1 a o, K gc b1 a o] t g1 g2 tr r1 r2 xs0) (fun i _ => N - (intOf i).toNat)
        case atStart => exact ⟨0, 0, false, by omega, by omega, rfl, HDS.out⟩
        case round =>
          obtain ⟨k, a, o, hk, ha, rfl, hS0⟩ := hrel
          clear HDS HB HB1 HB2 HB3 HB4 HK HT HT2 HT3 HR HR3
          have hS := Lib.hid hS0
          have HA := Lib.hid ha
          clear hS0 ha
          by_cases hlt : k < N
          · rcases hd : drA (cutA xs0) (othA xs0) xs0.length m b1 a o with ⟨q, gd, a', o'⟩
            have HA' := Lib.hid (drA_le hd HA.out)
            have HD := Lib.hid hd
            clear hd
            go_wp2_with (first
              | (go_at_call 12; refine (adraw_d hS.out 1 rfl HW.out HBN.out HA.out HS.out HD.out).mono ?_; rintro e v4 ⟨rfl, h1⟩; have h2 : DS w v4 [R xr b1 a o, K gc b1 a' o'] t g1 g2 tr r1 r2 xs0 := h1; clear hS h1; have hS := Lib.hid h2; clear h2)
              | (go_at_call 13; refine (rdraw_d hS.out 0 rfl HW.out HBN.out HA.out HS.out HD.out).mono ?_; rintro e v5 ⟨rfl, h1⟩; have h2 : DS w v5 [R xr b1 a' o', K gc b1 a' o'] t g1 g2 tr r1 r2 xs0 := h1; clear hS h1; have hS := Lib.hid h2; clear h2)
              | fail)
            refine RV.wp_region_g (by kernel_rfl) [78, 79, 80, 81, 82, 83, 84, 85, 86, 87, 88, 89, 90, 91, 92, 93, 94, 95, 96, 97, 98, 99, 100, 101, 102, 103] [.int .i64 (q : Int), .int .i64 (q : Int), .bool false, .bool false, .bool gd, .bool gd, .bool false, .bool false, .bool false, .pointer (some ⟨gc, 0, none⟩), .int .i64 (a' : Nat), .pointer (some ⟨xr, 0, none⟩), .pointer (some ⟨xr, 0, none⟩), .pointer (some ⟨xr, 1, none⟩), .int .i64 (a' : Nat), .bool false, .bool false, .bool false, .pointer (some ⟨gc, 0, none⟩), .bool o', .pointer (some ⟨xr, 0, none⟩), .pointer (some ⟨xr, 0, none⟩), .pointer (some ⟨xr, 2, none⟩), .bool o', .bool false, .bool false] (fun W => DS w W [R xr b1 a' o', K gc b1 a' o'] t g1 g2 tr r1 r2 xs0) (by kernel_rfl) rfl (by decide) rfl (by kernel_rfl) (hS.out.drew) ?_ ?_
            · intro ii hii fa fw fr hp hG
              match ii, hii with
              | 0, _ =>
                have p16 : fa.eval (.tmp 16) = .int .i64 (q : Int) := (fr.out 16 (by decide)).trans rfl
                simp only [Act.eval] at p16
                refine ⟨_, _, rfl, rfl, .inl ⟨RV.wanted_none rfl, .inl ⟨fw, ?_, hG⟩⟩⟩
                simp only [execOp, Act.eval]
                go_simp
                all_goals first | omega | (intro hh; omega) | (rw [IntKind.wrap_i64]; omega)
              | 1, _ =>
                have p18 : fa.eval (.tmp 18) = .int .i64 (q : Int) := (fr.out 18 (by decide)).trans rfl
                simp only [Act.eval] at p18
                refine ⟨_, _, rfl, rfl, .inl ⟨RV.wanted_none rfl, .inl ⟨fw, ?_, hG⟩⟩⟩
                simp only [execOp, Act.eval]
                go_simp
                all_goals first | omega | (intro hh; omega) | (rw [IntKind.wrap_i64]; omega)
              | 2, _ =>
                have p78 : fa.eval (.tmp 78) = .int .i64 (q : Int) := hp 0 78 _ (by kernel_rfl) rfl rfl
                have p79 : fa.eval (.tmp 79) = .int .i64 (q : Int) := hp 1 79 _ (by kernel_rfl) rfl rfl
                simp only [Act.eval] at p78 p79
                refine ⟨_, _, rfl, rfl, .inl ⟨RV.wanted_none rfl, .inl ⟨fw, ?_, hG⟩⟩⟩
                simp only [execOp, Act.eval]
                go_simp
                all_goals first | omega | (intro hh; omega) | (rw [IntKind.wrap_i64]; omega)
              | 3, _ =>
                have p80 : fa.eval (.tmp 80) = .bool false := hp 2 80 _ (by kernel_rfl) rfl rfl
                simp only [Act.eval] at p80
                refine ⟨_, _, rfl, rfl, .inl ⟨RV.wanted_none rfl, .inl ⟨fw, ?_, hG⟩⟩⟩
                simp only [execOp, Act.eval]
                go_simp
                all_goals first | omega | (intro hh; omega) | (rw [IntKind.wrap_i64]; omega)
              | 4, _ =>
                have p17 : fa.eval (.tmp 17) = .bool gd := (fr.out 17 (by decide)).trans rfl
                simp only [Act.eval] at p17
                refine ⟨_, _, rfl, rfl, .inl ⟨RV.wanted_at (d := 81) rfl fr (by rfl) (hp 3 81 _ (by kernel_rfl) rfl rfl) rfl, .inl ⟨fw, ?_, hG⟩⟩⟩
                simp only [execOp, Act.eval]
                go_simp
                all_goals first | omega | (intro hh; omega) | (rw [IntKind.wrap_i64]; omega)
              | 5, _ =>
                have p19 : fa.eval (.tmp 19) = .bool gd := (fr.out 19 (by decide)).trans rfl
                simp only [Act.eval] at p19
                refine ⟨_, _, rfl, rfl, .inl ⟨RV.wanted_at (d := 81) rfl fr (by rfl) (hp 3 81 _ (by kernel_rfl) rfl rfl) rfl, .inl ⟨fw, ?_, hG⟩⟩⟩
                simp only [execOp, Act.eval]
                go_simp
                all_goals first | omega | (intro hh; omega) | (rw [IntKind.wrap_i64]; omega)
              | 6, _ =>
                have p82 : fa.eval (.tmp 82) = .bool gd := hp 4 82 _ (by kernel_rfl) rfl rfl
                have p83 : fa.eval (.tmp 83) = .bool gd := hp 5 83 _ (by kernel_rfl) rfl rfl
                simp only [Act.eval] at p82 p83
                refine ⟨_, _, rfl, rfl, .inl ⟨RV.wanted_at (d := 81) rfl fr (by rfl) (hp 3 81 _ (by kernel_rfl) rfl rfl) rfl, .inl ⟨fw, ?_, hG⟩⟩⟩
                simp only [execOp, Act.eval]
                go_simp
                all_goals first | omega | (intro hh; omega) | (rw [IntKind.wrap_i64]; omega)
              | 7, _ =>
                have p81 : fa.eval (.tmp 81) = .bool false := hp 3 81 _ (by kernel_rfl) rfl rfl
                have p84 : fa.eval (.tmp 84) = .bool false := hp 6 84 _ (by kernel_rfl) rfl rfl
                simp only [Act.eval] at p81 p84
                refine ⟨_, _, rfl, rfl, .inl ⟨RV.wanted_none rfl, .inl ⟨fw, ?_, hG⟩⟩⟩
                simp only [execOp, Act.eval]
                go_simp
                all_goals first | omega | (intro hh; omega) | (rw [IntKind.wrap_i64]; omega)
              | 8, _ =>
                have p85 : fa.eval (.tmp 85) = .bool false := hp 7 85 _ (by kernel_rfl) rfl rfl
                simp only [Act.eval] at p85
                refine ⟨_, _, rfl, rfl, .inl ⟨RV.wanted_none rfl, .inl ⟨fw, ?_, hG⟩⟩⟩
                simp only [execOp, Act.eval]
                go_simp
                all_goals first | omega | (intro hh; omega) | (rw [IntKind.wrap_i64]; omega)
              | 9, _ =>
                have p11 : fa.eval (.tmp 11) = .pointer (some ⟨gc, 0, none⟩) := (fr.out 11 (by decide)).trans rfl
                simp only [Act.eval] at p11
                refine ⟨_, _, rfl, rfl, .inl ⟨RV.wanted_at (d := 86) rfl fr (by rfl) (hp 8 86 _ (by kernel_rfl) rfl rfl) rfl, .inl ⟨fw, ?_, hG⟩⟩⟩
                simp only [execOp, Act.eval]
                go_simp
                all_goals first | omega | (intro hh; omega) | (rw [IntKind.wrap_i64]; omega)
              | 10, _ =>
                have p87 : fa.eval (.tmp 87) = .pointer (some ⟨gc, 0, none⟩) := hp 9 87 _ (by kernel_rfl) rfl rfl
                have hv : (#[Operand.tmp 87] : Array Operand).map fa.eval = #[(.pointer (some ⟨gc, 0, none⟩))] := by simp only [List.map_toArray, List.map_cons, List.map_nil, p87]
                exact ⟨_, _, rfl, rfl, .inl ⟨RV.wanted_at (d := 86) rfl fr (by rfl) (hp 8 86 _ (by kernel_rfl) rfl rfl) rfl, RV.yields_call_g hv Tryz.func14 (by kernel_rfl) rfl (at_d hG 1 rfl) (fun e w2 h => h)⟩⟩
              | 11, _ =>
                have p13 : fa.eval (.tmp 13) = .pointer (some ⟨xr, 0, none⟩) := (fr.out 13 (by decide)).trans rfl
                simp only [Act.eval] at p13
                refine ⟨_, _, rfl, rfl, .inl ⟨RV.wanted_at (d := 86) rfl fr (by rfl) (hp 8 86 _ (by kernel_rfl) rfl rfl) rfl, .inl ⟨fw, ?_, hG⟩⟩⟩
                simp only [execOp, Act.eval]
                go_simp
                all_goals first | omega | (intro hh; omega) | (rw [IntKind.wrap_i64]; omega)
              | 12, _ =>
                have p89 : fa.eval (.tmp 89) = .pointer (some ⟨xr, 0, none⟩) := hp 11 89 _ (by kernel_rfl) rfl rfl
                simp only [Act.eval] at p89
                refine ⟨_, _, rfl, rfl, .inl ⟨RV.wanted_at (d := 86) rfl fr (by rfl) (hp 8 86 _ (by kernel_rfl) rfl rfl) rfl, .inl ⟨fw, ?_, hG⟩⟩⟩
                simp only [execOp, Act.eval]
                go_simp
                all_goals first | omega | (intro hh; omega) | (rw [IntKind.wrap_i64]; omega)
              | 13, _ =>
                have p90 : fa.eval (.tmp 90) = .pointer (some ⟨xr, 0, none⟩) := hp 12 90 _ (by kernel_rfl) rfl rfl
                simp only [Act.eval] at p90
                refine ⟨_, _, rfl, rfl, .inl ⟨RV.wanted_at (d := 86) rfl fr (by rfl) (hp 8 86 _ (by kernel_rfl) rfl rfl) rfl, .inl ⟨fw, ?_, hG⟩⟩⟩
                simp only [execOp, Act.eval]
                go_simp
                all_goals first | omega | (intro hh; omega) | (rw [IntKind.wrap_i64]; omega)
              | 14, _ =>
                have p91 : fa.eval (.tmp 91) = .pointer (some ⟨xr, 1, none⟩) := hp 13 91 _ (by kernel_rfl) rfl rfl
                simp only [Act.eval] at p91
                obtain ⟨c0, c1, c2⟩ := RuOk.cs (hG.cs.get 0 rfl)
                refine ⟨_, _, rfl, rfl, .inl ⟨RV.wanted_at (d := 86) rfl fr (by rfl) (hp 8 86 _ (by kernel_rfl) rfl rfl) rfl, .inl ⟨fw, ?_, hG⟩⟩⟩
                simp only [execOp, Act.eval]
                go_simp
                all_goals first | omega | (intro hh; omega) | (rw [IntKind.wrap_i64]; omega)
              | 15, _ =>
                have p88 : fa.eval (.tmp 88) = .int .i64 (a' : Nat) := hp 10 88 _ (by kernel_rfl) rfl rfl
                have p92 : fa.eval (.tmp 92) = .int .i64 (a' : Nat) := hp 14 92 _ (by kernel_rfl) rfl rfl
                simp only [Act.eval] at p88 p92
                refine ⟨_, _, rfl, rfl, .inl ⟨RV.wanted_at (d := 86) rfl fr (by rfl) (hp 8 86 _ (by kernel_rfl) rfl rfl) rfl, .inl ⟨fw, ?_, hG⟩⟩⟩
                simp only [execOp, Act.eval]
                go_simp
                all_goals first | omega | (intro hh; omega) | (rw [IntKind.wrap_i64]; omega)
              | 16, _ =>
                have p86 : fa.eval (.tmp 86) = .bool false := hp 8 86 _ (by kernel_rfl) rfl rfl
                have p93 : fa.eval (.tmp 93) = .bool false := hp 15 93 _ (by kernel_rfl) rfl rfl
                simp only [Act.eval] at p86 p93
                refine ⟨_, _, rfl, rfl, .inl ⟨RV.wanted_none rfl, .inl ⟨fw, ?_, hG⟩⟩⟩
                simp only [execOp, Act.eval]
                go_simp
                all_goals first | omega | (intro hh; omega) | (rw [IntKind.wrap_i64]; omega)
              | 17, _ =>
                have p94 : fa.eval (.tmp 94) = .bool false := hp 16 94 _ (by kernel_rfl) rfl rfl
                simp only [Act.eval] at p94
                refine ⟨_, _, rfl, rfl, .inl ⟨RV.wanted_none rfl, .inl ⟨fw, ?_, hG⟩⟩⟩
                simp only [execOp, Act.eval]
                go_simp
                all_goals first | omega | (intro hh; omega) | (rw [IntKind.wrap_i64]; omega)
              | 18, _ =>
                have p11 : fa.eval (.tmp 11) = .pointer (some ⟨gc, 0, none⟩) := (fr.out 11 (by decide)).trans rfl
                simp only [Act.eval] at p11
                refine ⟨_, _, rfl, rfl, .inl ⟨RV.wanted_at (d := 95) rfl fr (by rfl) (hp 17 95 _ (by kernel_rfl) rfl rfl) rfl, .inl ⟨fw, ?_, hG⟩⟩⟩
                simp only [execOp, Act.eval]
                go_simp
                all_goals first | omega | (intro hh; omega) | (rw [IntKind.wrap_i64]; omega)
              | 19, _ =>
                have p96 : fa.eval (.tmp 96) = .pointer (some ⟨gc, 0, none⟩) := hp 18 96 _ (by kernel_rfl) rfl rfl
                have hv : (#[Operand.tmp 96] : Array Operand).map fa.eval = #[(.pointer (some ⟨gc, 0, none⟩))] := by simp only [List.map_toArray, List.map_cons, List.map_nil, p96]
                exact ⟨_, _, rfl, rfl, .inl ⟨RV.wanted_at (d := 95) rfl fr (by rfl) (hp 17 95 _ (by kernel_rfl) rfl rfl) rfl, RV.yields_call_g hv Tryz.func15 (by kernel_rfl) rfl (cover_d hG 1 rfl) (fun e w2 h => h)⟩⟩
              | 20, _ =>
                have p13 : fa.eval (.tmp 13) = .pointer (some ⟨xr, 0, none⟩) := (fr.out 13 (by decide)).trans rfl
                simp only [Act.eval] at p13
                refine ⟨_, _, rfl, rfl, .inl ⟨RV.wanted_at (d := 95) rfl fr (by rfl) (hp 17 95 _ (by kernel_rfl) rfl rfl) rfl, .inl ⟨fw, ?_, hG⟩⟩⟩
                simp only [execOp, Act.eval]
                go_simp
                all_goals first | omega | (intro hh; omega) | (rw [IntKind.wrap_i64]; omega)
              | 21, _ =>
                have p98 : fa.eval (.tmp 98) = .pointer (some ⟨xr, 0, none⟩) := hp 20 98 _ (by kernel_rfl) rfl rfl
                simp only [Act.eval] at p98
                refine ⟨_, _, rfl, rfl, .inl ⟨RV.wanted_at (d := 95) rfl fr (by rfl) (hp 17 95 _ (by kernel_rfl) rfl rfl) rfl, .inl ⟨fw, ?_, hG⟩⟩⟩
                simp only [execOp, Act.eval]
                go_simp
                all_goals first | omega | (intro hh; omega) | (rw [IntKind.wrap_i64]; omega)
              | 22, _ =>
                have p99 : fa.eval (.tmp 99) = .pointer (some ⟨xr, 0, none⟩) := hp 21 99 _ (by kernel_rfl) rfl rfl
                simp only [Act.eval] at p99
                refine ⟨_, _, rfl, rfl, .inl ⟨RV.wanted_at (d := 95) rfl fr (by rfl) (hp 17 95 _ (by kernel_rfl) rfl rfl) rfl, .inl ⟨fw, ?_, hG⟩⟩⟩
                simp only [execOp, Act.eval]
                go_simp
                all_goals first | omega | (intro hh; omega) | (rw [IntKind.wrap_i64]; omega)
              | 23, _ =>
                have p100 : fa.eval (.tmp 100) = .pointer (some ⟨xr, 2, none⟩) := hp 22 100 _ (by kernel_rfl) rfl rfl
                simp only [Act.eval] at p100
                obtain ⟨c0, c1, c2⟩ := RuOk.cs (hG.cs.get 0 rfl)
                refine ⟨_, _, rfl, rfl, .inl ⟨RV.wanted_at (d := 95) rfl fr (by rfl) (hp 17 95 _ (by kernel_rfl) rfl rfl) rfl, .inl ⟨fw, ?_, hG⟩⟩⟩
                simp only [execOp, Act.eval]
                go_simp
                all_goals first | omega | (intro hh; omega) | (rw [IntKind.wrap_i64]; omega)
              | 24, _ =>
                have p97 : fa.eval (.tmp 97) = .bool o' := hp 19 97 _ (by kernel_rfl) rfl rfl
                have p101 : fa.eval (.tmp 101) = .bool o' := hp 23 101 _ (by kernel_rfl) rfl rfl
                simp only [Act.eval] at p97 p101
                refine ⟨_, _, rfl, rfl, .inl ⟨RV.wanted_at (d := 95) rfl fr (by rfl) (hp 17 95 _ (by kernel_rfl) rfl rfl) rfl, .inl ⟨fw, ?_, hG⟩⟩⟩
                simp only [execOp, Act.eval]
                go_simp
                all_goals first | omega | (intro hh; omega) | (rw [IntKind.wrap_i64]; omega)
              | 25, _ =>
                have p95 : fa.eval (.tmp 95) = .bool false := hp 17 95 _ (by kernel_rfl) rfl rfl
                have p102 : fa.eval (.tmp 102) = .bool false := hp 24 102 _ (by kernel_rfl) rfl rfl
                simp only [Act.eval] at p95 p102
                refine ⟨_, _, rfl, rfl, .inl ⟨RV.wanted_none rfl, .inl ⟨fw, ?_, hG⟩⟩⟩
                simp only [execOp, Act.eval]
                go_simp
                all_goals first | omega | (intro hh; omega) | (rw [IntKind.wrap_i64]; omega)
              | i + 26, hi => exact absurd hi (by show ¬ (i + 26 < 26); omega)
            · intro w2 hG
              simp only [RV.putAll, List.zip_cons_cons, List.zip_nil_left, List.zip_nil_right, List.foldl_cons, List.foldl_nil, Act.put, List.setIfInBounds_toArray, List.set_cons_zero, List.set_cons_succ]
              go_wp2
              go_roundw
              case rel => exact ⟨k + 1, a', o', by omega, HA'.out, by go_num, hG⟩
              case measure => simp [intOf]; omega
          · obtain rfl : k = N := by omega
            have HB9 := Lib.hid hS.out.cs.bl
            go_wp2_with (go_at_call 7; refine (awake11 _).mono ?_; rintro e wa ⟨rfl, hba⟩; have HBA := Lib.hid (HB9.out.trans (hba.mono HB9.out.size)); clear hba)
            go_ret
            exact ⟨rfl, HBA.out⟩
      · have hBn : isB b1 = false := by simpa using h
        have HBN := Lib.hid hBn
        clear h hBn
        go_enter Tryz.func3, Tryz.ntmps3
        go_wp2_with (first
          | (go_at_call 8; (with_reducible refine (anew_ok (HI.out.below HB.out) HM.out).mono ?_); rintro e w1 ⟨t, g1, g2, rfl, hT, _, _, _, hb1⟩; have HT := Lib.hid hT; have HB1 := Lib.hid hb1; clear hT hb1)
          | (go_at_call 9; (with_reducible refine (rnew11_ok (HI.out.below HB1.out) HW.out).mono ?_); rintro e w2 ⟨tr, r1, r2, rfl, hR, _, _, _, hb2⟩; have HR := Lib.hid hR; have HT2 := Lib.hid (HT.out.on hb2); have HB2 := Lib.hid (HB1.out.trans (hb2.mono HB1.out.size)); clear hR hb2)
          | (go_at_call 10; (with_reducible refine (new_no _ _ HL.out HBN.out).mono ?_); rintro e w3 ⟨rfl, hb3⟩; have HB3 := Lib.hid (HB2.out.trans (hb3.mono HB2.out.size)); clear hb3)
          | (go_at_call 11; (with_reducible refine (rnew_no _ _ HL.out HBN.out).mono ?_); rintro e w4 ⟨rfl, hw4⟩; rw [hw4]; clear hw4)
          | (go_at_call 7; refine (awake11 _).mono ?_; rintro e wa ⟨rfl, hba⟩; have HBA := Lib.hid (HB3.out.trans (hba.mono HB3.out.size)); clear hba))
        go_ret
        exact ⟨rfl, HBA.out⟩
    · obtain ⟨z, hz1, hz2, _, _⟩ := mayW_ways (fun e => hm (mayW_zero.2 e))
      have HM := Lib.hid hz1
      have HZ := Lib.hid hz2
      have hzb : ¬ z = 0 := hz2
      clear hz1 hm
      have HB := Lib.hid (Below.refl w.heap.size w)
      by_cases h : isB b1 = true
      · have HBN := Lib.hid h
        clear h
        go_enter Tryz.func3, Tryz.ntmps3
        go_wp2_with (first
          | (go_at_call 8; (with_reducible refine (anew_no (HI.out.below HB.out) HM.out HZ.out).mono ?_); rintro e w1 ⟨rfl, hb1⟩; have HB1 := Lib.hid hb1; clear hb1)
          | (go_at_call 9; (with_reducible refine (rnew11_no (HI.out.below HB1.out) HM.out HZ.out).mono ?_); rintro e w2 ⟨rfl, hw2⟩; rw [hw2]; clear hw2)
          | (go_at_call 10; (with_reducible refine (new_yes _ _ HBN.out).mono ?_); rintro e w3 ⟨gc, rfl, hgc, hcc, hb3⟩; have HB3 := Lib.hid (HB1.out.trans (hb3.mono HB1.out.size)); clear hb3 hcc hgc)
          | (go_at_call 11; (with_reducible refine (rnew_yes _ _ HBN.out).mono ?_); rintro e w4 ⟨xr, rfl, hxr, hxx, hb4⟩; have HB4 := Lib.hid (HB3.out.trans (hb4.mono HB3.out.size)); clear hb4 hxx hxr)
          | (go_at_call 7; refine (awake11 _).mono ?_; rintro e wa ⟨rfl, hba⟩; have HBA := Lib.hid (HB4.out.trans (hba.mono HB4.out.size)); clear hba))
        go_ret
        exact ⟨rfl, HBA.out⟩
      · have hBn : isB b1 = false := by simpa using h
        have HBN := Lib.hid hBn
        clear h hBn
        go_enter Tryz.func3, Tryz.ntmps3
        go_wp2_with (first
          | (go_at_call 8; (with_reducible refine (anew_no (HI.out.below HB.out) HM.out HZ.out).mono ?_); rintro e w1 ⟨rfl, hb1⟩; have HB1 := Lib.hid hb1; clear hb1)
          | (go_at_call 9; (with_reducible refine (rnew11_no (HI.out.below HB1.out) HM.out HZ.out).mono ?_); rintro e w2 ⟨rfl, hw2⟩; rw [hw2]; clear hw2)
          | (go_at_call 10; (with_reducible refine (new_no _ _ HL.out HBN.out).mono ?_); rintro e w3 ⟨rfl, hb3⟩; have HB3 := Lib.hid (HB1.out.trans (hb3.mono HB1.out.size)); clear hb3)
          | (go_at_call 11; (with_reducible refine (rnew_no _ _ HL.out HBN.out).mono ?_); rintro e w4 ⟨rfl, hw4⟩; rw [hw4]; clear hw4)
          | (go_at_call 7; refine (awake11 _).mono ?_; rintro e wa ⟨rfl, hba⟩; have HBA := Lib.hid (HB3.out.trans (hba.mono HB3.out.size)); clear hba))
        go_ret
        exact ⟨rfl, HBA.out⟩
set_option maxRecDepth 100000 in
theorem lifted (os : Os) (started : os.Started) (H : Type) (enc : TypeId × Value → H) :
    ReturnsInHanded {} Tryz.checked os 3 .any (fun w args => (Rows.aliasDrawsSpec.pre enc Tryz.prog Tryz.f3 Rows.aliasDrawsRow.domain false w args ∧ laidMetH Tryz.prog Rows.aliasDrawsRow.laid w) ∧ sizedMet enc Tryz.prog Tryz.f3 (OpenSpec.ofChange Rows.aliasDrawsSpec) false w args) (Rows.aliasDrawsSpec.post enc Tryz.prog Tryz.f3 false true false false) := by
  refine returnsInHanded_of_change_and (C := Tryz.checked) (X := fun w _ => laidMetH Tryz.prog Rows.aliasDrawsRow.laid w) (fun _ _ _ hh h => h.of_heap hh) own started (by kernel_rfl) Tryz.func3
    (ChangeSpec.witness_shaped (enc := enc) (C := Tryz.checked) (os := os) (X := fun w _ => laidMetH Tryz.prog Rows.aliasDrawsRow.laid w) false (World.laidAll Tryz.prog os Rows.aliasDrawsRow.laid) #[.slice none 0 0, .string ByteArray.empty, .int .u8 0] 8 (World.laidAll_os _ _ _)
      (World.shaped_of_ZipB (by kernel_rfl) (by kernel_rfl)) (by kernel_rfl) (by kernel_rfl) (by kernel_rfl)
      (by rw [MakeChecks.laidMetH_plain _ _ _ (by kernel_rfl)]; exact laidMet_laidAll _ (by kernel_rfl) (by kernel_rfl))) ?_
  intro W base args ds gs before hval0 hW hcnd _ _ _
  have hval : ∀ (j : Nat) t v, Tryz.f3.params[j]? = some t → args[j]? = some v → Value.okWide Tryz.prog W .any base t v := hval0
  have hW' := hW
  obtain ⟨p, q, hA0, hV, hpq, hfz, hnd⟩ := hW
  have hA : DataW.TrodAll enc Tryz.prog W 0 (fun _ => true) true Tryz.f3.params.toList args.toList ds p := hA0
  rw [Tryz.params3] at hA hval
  obtain ⟨v0, vs0, d0, ds0, p0, q0, hargs, rfl, rfl, h0, r0⟩ := trodAll_cons hA
  obtain ⟨v1, vs1, d1, ds1, p1, q1, rfl, rfl, rfl, h1, r1⟩ := trodAll_cons r0
  obtain ⟨v2, vs2, d2, ds2, p2, q2, rfl, rfl, rfl, h2, r2⟩ := trodAll_cons r1
  obtain ⟨rfl, rfl, rfl⟩ := trodAll_nil r2
  obtain rfl : args = #[v0, v1, v2] := by cases args; simp_all
  obtain ⟨rfl, rfl⟩ := trodVars_none hV
  obtain ⟨A0, n0, c0, xs0, rfl, s0⟩ := open_i64s_ (hval 0 22 v0 rfl rfl) h0
  obtain ⟨y1, rfl, rfl, rfl, l1⟩ := Go.ChangeMaps.open_string Tryz.underlying9 (hval 1 9 v1 rfl rfl) h1
  obtain ⟨b1, rfl⟩ : ∃ b : List UInt8, y1 = ⟨b.toArray⟩ := ⟨y1.data.toList, by cases y1; simp⟩
  obtain ⟨a2, rfl, rfl, rfl, w2⟩ := open_int Tryz.underlying5 (hval 2 5 v2 rfl rfl) h2
  refine (walk W A0 n0 c0 xs0 s0 b1 l1 a2 w2).mono fun e W' ⟨he, hb⟩ => ?_
  subst he
  exact ⟨_, rfl, Frame.close laidOut hW' rfl rfl rfl Tryz.underlying4 (fun t ht => by rw [Tryz.params3] at ht; simp at ht; rcases ht with rfl | rfl | rfl <;> exact ⟨by kernel_rfl, of_decide_eq_true (by kernel_rfl)⟩) hb⟩
theorem over : Rows.aliasDrawsRow.holds Tryz.pinned (OpenSpec.ofChange Rows.aliasDrawsSpec) :=
  OpenClaim.holds_of_wide 3 Tryz.f3 rfl rfl rfl rfl rfl rfl rfl ⟨rfl, rfl, rfl, rfl, rfl⟩ rfl rfl rfl rfl rfl (by kernel_rfl) Tryz.func3 (by kernel_rfl)
    (of_decide_eq_true (by kernel_rfl)) (by unfold Func.isWrapper; first | (rw [if_pos (by decide +kernel)]; kernel_rfl) | (rw [if_neg (by decide +kernel)]; exact ⟨rfl, rfl⟩))
    (fun os started H enc _ => lifted os started H enc)
/-- the statement -/
theorem proved : Rows.AliasDrawsCardSaid :=
  Claim7.holds_tied_plain_at .later [] _ _ _ _ over (fun _ h => by cases h) (by kernel_rfl) (fun _ h => by cases h) aliasDraws_row_tie rfl ⟨rfl, rfl⟩ (by kernel_rfl) rfl
    (fun f fn hf hfn => by
      obtain rfl : f = 3 := Option.some.inj ((show Tryz.prog.funcNamed "tombola/tombolalaw11.AliasDraws" = some 3 by kernel_rfl).symm.trans hf) |>.symm
      obtain rfl : fn = Tryz.f3 := (Option.some.inj (Tryz.func3.symm.trans hfn)).symm
      exact ⟨by kernel_rfl, (fun j t ht => by
        rw [Tryz.params3] at ht
        have hm : t ∈ [22, 9, 5] := by simpa using Array.mem_of_getElem? ht
        have hall : ([22, 9, 5].all fun u => !Tryz.prog.wantsStandIn u) = true := by kernel_rfl
        exact (show Tryz.prog.wantsStandIn t = false by simpa using List.all_eq_true.1 hall t hm))⟩)
    (by kernel_rfl)
#print axioms proved
end Go.Proofs.YtfdpddlefobcpaaGreatDoor.aliasDraws
