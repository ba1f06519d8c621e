/-
  PROVED: the statement FreqDraws (tombolalaw10.FreqDraws) about the landed commit: for every input the law returns true and leaves its arguments as they were. Conditions: none beyond those that the given row itself prints.
-/
import Derived.Test.YtolfjhfmcgibbaaGreatDoorCards
import Derived.Test.YtolfjhfmcgibbaaGreatDoorTie
import Derived.LaidMore
import Derived.Lay
import Derived.SevenTiedAt
import Derived.Stop.Joined
import Derived.Test.YtolfjhfmcgibbaaGreatDoorRows
import Derived.WalkKit
import Derived.ProofKit
import Derived.OpenShut
import Derived.RowKit3
import Derived.Test.YtolfjhfmcgibbaaGreatDoorGFrame
import Derived.Test.YtolfjhfmcgibbaaGreatDoorGFre
import Derived.Test.YtolfjhfmcgibbaaGreatDoorRegG
namespace Go.Proofs.YtolfjhfmcgibbaaGreatDoor.freqDraws
open Go.ChangeShapes Go.WideShapes Go.ChangeAt Go.RowKit
set_option linter.unusedVariables false
set_option linter.unusedSimpArgs false
set_option maxRecDepth 20000
open N
theorem own : ownKnob Tryz.prog.godebug = none := by kernel_rfl

set_option maxRecDepth 100000 in
set_option maxHeartbeats 40000000 in
theorem walk (w : World) (A0 : Option Addr) (n0 c0 : Nat) (xs0 : List Int) (h0 : Il w A0 n0 c0 xs0) (b1 : List UInt8) (l1 : b1.length ≤ maxLen) (a2 : Int) (w2 : (Lit.int .u8 a2).wf = true) :
    Calls Tryz.prog 4 #[.slice A0 n0 c0, .string ⟨b1.toArray⟩, .int .u8 a2] w fun e w' => e = .returned (.bool true) ∧ Below w.heap.size w w' := by
  have hS := Lib.hid (CS.start w)
  have HI := Lib.hid h0
  have hcap := h0.cap
  have hmax := h0.max
  unfold maxLen at hmax
  have lm1 := l1
  unfold maxLen at lm1
  have HL := Lib.hid l1
  have hb2 := bounds_u8 w2
  obtain ⟨N, hN, hN1⟩ : ∃ N : Nat, a2 % 20 = (N : Int) ∧ N < 20 := ⟨(a2 % 20).toNat, by omega, by omega⟩
  have htm : a2.tmod 20 = (N : Int) := by rw [Int.tmod_eq_emod_of_nonneg hb2.1]; exact hN
  have hwn : IntKind.i64.wrap a2 = a2 := by rw [IntKind.wrap_i64]; omega
  clear h0 l1 hN
  by_cases h8 : 200 < n0
  · have h9 : (200 : Int) < (n0 : Int) := by omega
    go_enter Tryz.func4, Tryz.ntmps4
    go_wp2_with fail
    go_at_call 10
    refine (awake10_s hS.out).mono ?_
    rintro e v1 ⟨rfl, h1⟩
    have h2 : CS w v1 [] := h1
    clear hS h1; have hS := Lib.hid h2; clear h2
    go_wp2
    go_ret
    exact ⟨rfl, hS.out.bl⟩
  · have h9 : ¬ (200 : Int) < (n0 : Int) := by omega
    by_cases h6 : 2000 < b1.length
    · have h7 : (2000 : Int) < (b1.length : Int) := by omega
      go_enter Tryz.func4, Tryz.ntmps4
      go_wp2_with fail
      go_at_call 10
      refine (awake10_s hS.out).mono ?_
      rintro e v1 ⟨rfl, h1⟩
      have h2 : CS w v1 [] := h1
      clear hS h1; have hS := Lib.hid h2; clear h2
      go_wp2
      go_ret
      exact ⟨rfl, hS.out.bl⟩
    · have h7 : ¬ (2000 : Int) < (b1.length : Int) := by omega
      clear hcap hmax lm1
      by_cases hm : mayW xs0 = 0
      · have HM := Lib.hid hm
        have HW := Lib.hid (mayW_zero.1 hm)
        clear hm
        by_cases h : isB b1 = true
        · have HB := Lib.hid h
          clear h
          obtain ⟨m, hsm⟩ : ∃ m : Nat, pre xs0 xs0.length = (m : Int) := ⟨(pre xs0 xs0.length).toNat, by have := HW.out.pos; omega⟩
          have HS := Lib.hid hsm
          have hmb : 0 < m ∧ m ≤ 67108864 := by have h1 := HW.out.pos; have h2 := (HW.out.le (Nat.le_refl _)).2.2; rw [hsm] at h1 h2; omega
          have hcw : IntKind.u64.wrap (m : Int) = (m : Int) := by rw [IntKind.wrap_u64]; omega
          have HMB := Lib.hid hmb
          clear hsm hmb
          obtain ⟨r, hr⟩ : ∃ r, cR m = r := ⟨_, rfl⟩
          have HR := Lib.hid hr
          clear hr
          go_enter Tryz.func4, Tryz.ntmps4
          go_wp2_with fail
          go_at_call 11
          refine (new10_s hS.out (HI.out.below hS.out.bl) HM.out).mono ?_
          rintro e v1 ⟨t, g, rfl, h1⟩
          have h2 : CS w v1 [TB t g xs0.length, EN g xs0] := h1
          clear hS h1; have hS := Lib.hid h2; clear h2
          go_wp2_with fail
          go_at_call 21
          refine (new_s hS.out HB.out).mono ?_
          rintro e v2 ⟨gc, rfl, h1⟩
          have h2 : CS w v2 [K gc b1 0 false, TB t g xs0.length, EN g xs0] := h1
          clear hS h1; have hS := Lib.hid h2; clear h2
          go_wp2_with fail
          go_at_call 22
          refine (rnew_s hS.out HB.out).mono ?_
          rintro e v3 ⟨xr, rfl, h1⟩
          have h2 : CS w v3 [R xr b1 0 false, K gc b1 0 false, TB t g xs0.length, EN g xs0] := h1
          clear hS h1; have hS := Lib.hid h2; clear h2
          go_wp2_with fail
          go_loopw [13] (fun i wr => ∃ (k a : Nat) (o : Bool), k ≤ N ∧ a ≤ b1.length ∧ i = .int .i64 k ∧ CS w wr [R xr b1 a o, K gc b1 a o, TB t g xs0.length, EN g xs0]) (fun i _ => N - (intOf i).toNat)
          case atStart => exact ⟨0, 0, false, by omega, by omega, rfl, hS.out⟩
          case round =>
            obtain ⟨k, a, o, hk, ha, rfl, hS0⟩ := hrel
            clear hS
            have hS := Lib.hid hS0
            have HA := Lib.hid ha
            clear hS0 ha
            by_cases hlt : k < N
            · rcases hd : dr b1 a o m with ⟨v, gd, a', o'⟩
              obtain ⟨q, hq⟩ := pk_of HW.out HS.out hd
              have HA' := Lib.hid ((dr_ways hd).2.1 HA.out)
              have HD := Lib.hid hd
              clear hd
              rcases hq with ⟨rfl, hp⟩ | ⟨rfl, rfl⟩
              · have HP := Lib.hid hp
                clear hp
                go_wp2_with fail
                go_at_call 23
                refine (tdraw_s hS.out 2 3 1 rfl rfl rfl (by decide) (by decide) HW.out HB.out HA.out HS.out HD.out (.inl ⟨rfl, HP.out⟩)).mono ?_
                rintro e v4 ⟨rfl, h1⟩
                have h2 : CS w v4 [R xr b1 a o, K gc b1 a' o', TB t g xs0.length, EN g xs0] := h1
                clear hS h1; have hS := Lib.hid h2; clear h2
                go_wp2_with fail
                go_at_call 24
                refine (rdraw10_s hS.out 0 rfl HI.out HW.out HB.out HA.out HS.out HD.out (.inl ⟨rfl, HP.out⟩)).mono ?_
                rintro e v5 ⟨rfl, h1⟩
                have h2 : CS w v5 [R xr b1 a' o', K gc b1 a' o', TB t g xs0.length, EN g xs0] := h1
                clear hS h1; have hS := Lib.hid h2; clear h2
                go_wp2_with fail
                refine RV.wp_region_g (by kernel_rfl) [71, 72, 73, 74, 75, 76, 77, 78, 79, 80, 81, 82, 83, 84, 85, 86, 87, 88, 89, 90, 91, 92, 93, 94, 95, 96] [.int .i64 (q : Int), .int .i64 (q : Int), .bool false, .bool false, .bool true, .bool true, .bool false, .bool false, .bool false, .pointer (some ⟨gc, 0, none⟩), .int .i64 (a' : Nat), .pointer (some ⟨xr, 0, none⟩), .pointer (some ⟨xr, 0, none⟩), .pointer (some ⟨xr, 1, none⟩), .int .i64 (a' : Nat), .bool false, .bool false, .bool false, .pointer (some ⟨gc, 0, none⟩), .bool o', .pointer (some ⟨xr, 0, none⟩), .pointer (some ⟨xr, 0, none⟩), .pointer (some ⟨xr, 2, none⟩), .bool o', .bool false, .bool false] (fun W => CS w W [R xr b1 a' o', K gc b1 a' o', TB t g xs0.length, EN g xs0]) (by kernel_rfl) rfl (by decide) rfl (by kernel_rfl) (hS.out.drew) ?_ ?_
                · intro ii hii fa fw fr hp hG
                  match ii, hii with
                  | 0, _ =>
                    have p14 : fa.eval (.tmp 14) = .int .i64 (q : Int) := (fr.out 14 (by decide)).trans rfl
                    simp only [Act.eval] at p14
                    refine ⟨_, _, rfl, rfl, .inl ⟨RV.wanted_none rfl, .inl ⟨fw, ?_, hG⟩⟩⟩
                    simp only [execOp, Act.eval]
                    go_simp
                    all_goals first | omega | (intro hh; omega) | (rw [IntKind.wrap_i64]; omega)
                  | 1, _ =>
                    have p16 : fa.eval (.tmp 16) = .int .i64 (q : Int) := (fr.out 16 (by decide)).trans rfl
                    simp only [Act.eval] at p16
                    refine ⟨_, _, rfl, rfl, .inl ⟨RV.wanted_none rfl, .inl ⟨fw, ?_, hG⟩⟩⟩
                    simp only [execOp, Act.eval]
                    go_simp
                    all_goals first | omega | (intro hh; omega) | (rw [IntKind.wrap_i64]; omega)
                  | 2, _ =>
                    have p71 : fa.eval (.tmp 71) = .int .i64 (q : Int) := hp 0 71 _ (by kernel_rfl) rfl rfl
                    have p72 : fa.eval (.tmp 72) = .int .i64 (q : Int) := hp 1 72 _ (by kernel_rfl) rfl rfl
                    simp only [Act.eval] at p71 p72
                    refine ⟨_, _, rfl, rfl, .inl ⟨RV.wanted_none rfl, .inl ⟨fw, ?_, hG⟩⟩⟩
                    simp only [execOp, Act.eval]
                    go_simp
                    all_goals first | omega | (intro hh; omega) | (rw [IntKind.wrap_i64]; omega)
                  | 3, _ =>
                    have p73 : fa.eval (.tmp 73) = .bool false := hp 2 73 _ (by kernel_rfl) rfl rfl
                    simp only [Act.eval] at p73
                    refine ⟨_, _, rfl, rfl, .inl ⟨RV.wanted_none rfl, .inl ⟨fw, ?_, hG⟩⟩⟩
                    simp only [execOp, Act.eval]
                    go_simp
                    all_goals first | omega | (intro hh; omega) | (rw [IntKind.wrap_i64]; omega)
                  | 4, _ =>
                    have p15 : fa.eval (.tmp 15) = .bool true := (fr.out 15 (by decide)).trans rfl
                    simp only [Act.eval] at p15
                    refine ⟨_, _, rfl, rfl, .inl ⟨RV.wanted_at (d := 74) rfl fr (by rfl) (hp 3 74 _ (by kernel_rfl) rfl rfl) rfl, .inl ⟨fw, ?_, hG⟩⟩⟩
                    simp only [execOp, Act.eval]
                    go_simp
                    all_goals first | omega | (intro hh; omega) | (rw [IntKind.wrap_i64]; omega)
                  | 5, _ =>
                    have p17 : fa.eval (.tmp 17) = .bool true := (fr.out 17 (by decide)).trans rfl
                    simp only [Act.eval] at p17
                    refine ⟨_, _, rfl, rfl, .inl ⟨RV.wanted_at (d := 74) rfl fr (by rfl) (hp 3 74 _ (by kernel_rfl) rfl rfl) rfl, .inl ⟨fw, ?_, hG⟩⟩⟩
                    simp only [execOp, Act.eval]
                    go_simp
                    all_goals first | omega | (intro hh; omega) | (rw [IntKind.wrap_i64]; omega)
                  | 6, _ =>
                    have p75 : fa.eval (.tmp 75) = .bool true := hp 4 75 _ (by kernel_rfl) rfl rfl
                    have p76 : fa.eval (.tmp 76) = .bool true := hp 5 76 _ (by kernel_rfl) rfl rfl
                    simp only [Act.eval] at p75 p76
                    refine ⟨_, _, rfl, rfl, .inl ⟨RV.wanted_at (d := 74) rfl fr (by rfl) (hp 3 74 _ (by kernel_rfl) rfl rfl) rfl, .inl ⟨fw, ?_, hG⟩⟩⟩
                    simp only [execOp, Act.eval]
                    go_simp
                    all_goals first | omega | (intro hh; omega) | (rw [IntKind.wrap_i64]; omega)
                  | 7, _ =>
                    have p74 : fa.eval (.tmp 74) = .bool false := hp 3 74 _ (by kernel_rfl) rfl rfl
                    have p77 : fa.eval (.tmp 77) = .bool false := hp 6 77 _ (by kernel_rfl) rfl rfl
                    simp only [Act.eval] at p74 p77
                    refine ⟨_, _, rfl, rfl, .inl ⟨RV.wanted_none rfl, .inl ⟨fw, ?_, hG⟩⟩⟩
                    simp only [execOp, Act.eval]
                    go_simp
                    all_goals first | omega | (intro hh; omega) | (rw [IntKind.wrap_i64]; omega)
                  | 8, _ =>
                    have p78 : fa.eval (.tmp 78) = .bool false := hp 7 78 _ (by kernel_rfl) rfl rfl
                    simp only [Act.eval] at p78
                    refine ⟨_, _, rfl, rfl, .inl ⟨RV.wanted_none rfl, .inl ⟨fw, ?_, hG⟩⟩⟩
                    simp only [execOp, Act.eval]
                    go_simp
                    all_goals first | omega | (intro hh; omega) | (rw [IntKind.wrap_i64]; omega)
                  | 9, _ =>
                    have p9 : fa.eval (.tmp 9) = .pointer (some ⟨gc, 0, none⟩) := (fr.out 9 (by decide)).trans rfl
                    simp only [Act.eval] at p9
                    refine ⟨_, _, rfl, rfl, .inl ⟨RV.wanted_at (d := 79) rfl fr (by rfl) (hp 8 79 _ (by kernel_rfl) rfl rfl) rfl, .inl ⟨fw, ?_, hG⟩⟩⟩
                    simp only [execOp, Act.eval]
                    go_simp
                    all_goals first | omega | (intro hh; omega) | (rw [IntKind.wrap_i64]; omega)
                  | 10, _ =>
                    have p80 : fa.eval (.tmp 80) = .pointer (some ⟨gc, 0, none⟩) := hp 9 80 _ (by kernel_rfl) rfl rfl
                    have hv : (#[Operand.tmp 80] : Array Operand).map fa.eval = #[(.pointer (some ⟨gc, 0, none⟩))] := by simp only [List.map_toArray, List.map_cons, List.map_nil, p80]
                    exact ⟨_, _, rfl, rfl, .inl ⟨RV.wanted_at (d := 79) rfl fr (by rfl) (hp 8 79 _ (by kernel_rfl) rfl rfl) rfl, RV.yields_call_g hv Tryz.func25 (by kernel_rfl) rfl (at_s hG 1 rfl) (fun e w2 h => h)⟩⟩
                  | 11, _ =>
                    have p11 : fa.eval (.tmp 11) = .pointer (some ⟨xr, 0, none⟩) := (fr.out 11 (by decide)).trans rfl
                    simp only [Act.eval] at p11
                    refine ⟨_, _, rfl, rfl, .inl ⟨RV.wanted_at (d := 79) rfl fr (by rfl) (hp 8 79 _ (by kernel_rfl) rfl rfl) rfl, .inl ⟨fw, ?_, hG⟩⟩⟩
                    simp only [execOp, Act.eval]
                    go_simp
                    all_goals first | omega | (intro hh; omega) | (rw [IntKind.wrap_i64]; omega)
                  | 12, _ =>
                    have p82 : fa.eval (.tmp 82) = .pointer (some ⟨xr, 0, none⟩) := hp 11 82 _ (by kernel_rfl) rfl rfl
                    simp only [Act.eval] at p82
                    refine ⟨_, _, rfl, rfl, .inl ⟨RV.wanted_at (d := 79) rfl fr (by rfl) (hp 8 79 _ (by kernel_rfl) rfl rfl) rfl, .inl ⟨fw, ?_, hG⟩⟩⟩
                    simp only [execOp, Act.eval]
                    go_simp
                    all_goals first | omega | (intro hh; omega) | (rw [IntKind.wrap_i64]; omega)
                  | 13, _ =>
                    have p83 : fa.eval (.tmp 83) = .pointer (some ⟨xr, 0, none⟩) := hp 12 83 _ (by kernel_rfl) rfl rfl
                    simp only [Act.eval] at p83
                    refine ⟨_, _, rfl, rfl, .inl ⟨RV.wanted_at (d := 79) rfl fr (by rfl) (hp 8 79 _ (by kernel_rfl) rfl rfl) rfl, .inl ⟨fw, ?_, hG⟩⟩⟩
                    simp only [execOp, Act.eval]
                    go_simp
                    all_goals first | omega | (intro hh; omega) | (rw [IntKind.wrap_i64]; omega)
                  | 14, _ =>
                    have p84 : fa.eval (.tmp 84) = .pointer (some ⟨xr, 1, none⟩) := hp 13 84 _ (by kernel_rfl) rfl rfl
                    simp only [Act.eval] at p84
                    obtain ⟨c0, c1, c2⟩ := RuOk.cs (hG.get 0 rfl)
                    refine ⟨_, _, rfl, rfl, .inl ⟨RV.wanted_at (d := 79) rfl fr (by rfl) (hp 8 79 _ (by kernel_rfl) rfl rfl) rfl, .inl ⟨fw, ?_, hG⟩⟩⟩
                    simp only [execOp, Act.eval]
                    go_simp
                    all_goals first | omega | (intro hh; omega) | (rw [IntKind.wrap_i64]; omega)
                  | 15, _ =>
                    have p81 : fa.eval (.tmp 81) = .int .i64 (a' : Nat) := hp 10 81 _ (by kernel_rfl) rfl rfl
                    have p85 : fa.eval (.tmp 85) = .int .i64 (a' : Nat) := hp 14 85 _ (by kernel_rfl) rfl rfl
                    simp only [Act.eval] at p81 p85
                    refine ⟨_, _, rfl, rfl, .inl ⟨RV.wanted_at (d := 79) rfl fr (by rfl) (hp 8 79 _ (by kernel_rfl) rfl rfl) rfl, .inl ⟨fw, ?_, hG⟩⟩⟩
                    simp only [execOp, Act.eval]
                    go_simp
                    all_goals first | omega | (intro hh; omega) | (rw [IntKind.wrap_i64]; omega)
                  | 16, _ =>
                    have p79 : fa.eval (.tmp 79) = .bool false := hp 8 79 _ (by kernel_rfl) rfl rfl
                    have p86 : fa.eval (.tmp 86) = .bool false := hp 15 86 _ (by kernel_rfl) rfl rfl
                    simp only [Act.eval] at p79 p86
                    refine ⟨_, _, rfl, rfl, .inl ⟨RV.wanted_none rfl, .inl ⟨fw, ?_, hG⟩⟩⟩
                    simp only [execOp, Act.eval]
                    go_simp
                    all_goals first | omega | (intro hh; omega) | (rw [IntKind.wrap_i64]; omega)
                  | 17, _ =>
                    have p87 : fa.eval (.tmp 87) = .bool false := hp 16 87 _ (by kernel_rfl) rfl rfl
                    simp only [Act.eval] at p87
                    refine ⟨_, _, rfl, rfl, .inl ⟨RV.wanted_none rfl, .inl ⟨fw, ?_, hG⟩⟩⟩
                    simp only [execOp, Act.eval]
                    go_simp
                    all_goals first | omega | (intro hh; omega) | (rw [IntKind.wrap_i64]; omega)
                  | 18, _ =>
                    have p9 : fa.eval (.tmp 9) = .pointer (some ⟨gc, 0, none⟩) := (fr.out 9 (by decide)).trans rfl
                    simp only [Act.eval] at p9
                    refine ⟨_, _, rfl, rfl, .inl ⟨RV.wanted_at (d := 88) rfl fr (by rfl) (hp 17 88 _ (by kernel_rfl) rfl rfl) rfl, .inl ⟨fw, ?_, hG⟩⟩⟩
                    simp only [execOp, Act.eval]
                    go_simp
                    all_goals first | omega | (intro hh; omega) | (rw [IntKind.wrap_i64]; omega)
                  | 19, _ =>
                    have p89 : fa.eval (.tmp 89) = .pointer (some ⟨gc, 0, none⟩) := hp 18 89 _ (by kernel_rfl) rfl rfl
                    have hv : (#[Operand.tmp 89] : Array Operand).map fa.eval = #[(.pointer (some ⟨gc, 0, none⟩))] := by simp only [List.map_toArray, List.map_cons, List.map_nil, p89]
                    exact ⟨_, _, rfl, rfl, .inl ⟨RV.wanted_at (d := 88) rfl fr (by rfl) (hp 17 88 _ (by kernel_rfl) rfl rfl) rfl, RV.yields_call_g hv Tryz.func26 (by kernel_rfl) rfl (cover_s hG 1 rfl) (fun e w2 h => h)⟩⟩
                  | 20, _ =>
                    have p11 : fa.eval (.tmp 11) = .pointer (some ⟨xr, 0, none⟩) := (fr.out 11 (by decide)).trans rfl
                    simp only [Act.eval] at p11
                    refine ⟨_, _, rfl, rfl, .inl ⟨RV.wanted_at (d := 88) rfl fr (by rfl) (hp 17 88 _ (by kernel_rfl) rfl rfl) rfl, .inl ⟨fw, ?_, hG⟩⟩⟩
                    simp only [execOp, Act.eval]
                    go_simp
                    all_goals first | omega | (intro hh; omega) | (rw [IntKind.wrap_i64]; omega)
                  | 21, _ =>
                    have p91 : fa.eval (.tmp 91) = .pointer (some ⟨xr, 0, none⟩) := hp 20 91 _ (by kernel_rfl) rfl rfl
                    simp only [Act.eval] at p91
                    refine ⟨_, _, rfl, rfl, .inl ⟨RV.wanted_at (d := 88) rfl fr (by rfl) (hp 17 88 _ (by kernel_rfl) rfl rfl) rfl, .inl ⟨fw, ?_, hG⟩⟩⟩
                    simp only [execOp, Act.eval]
                    go_simp
                    all_goals first | omega | (intro hh; omega) | (rw [IntKind.wrap_i64]; omega)
                  | 22, _ =>
                    have p92 : fa.eval (.tmp 92) = .pointer (some ⟨xr, 0, none⟩) := hp 21 92 _ (by kernel_rfl) rfl rfl
                    simp only [Act.eval] at p92
                    refine ⟨_, _, rfl, rfl, .inl ⟨RV.wanted_at (d := 88) rfl fr (by rfl) (hp 17 88 _ (by kernel_rfl) rfl rfl) rfl, .inl ⟨fw, ?_, hG⟩⟩⟩
                    simp only [execOp, Act.eval]
                    go_simp
                    all_goals first | omega | (intro hh; omega) | (rw [IntKind.wrap_i64]; omega)
                  | 23, _ =>
                    have p93 : fa.eval (.tmp 93) = .pointer (some ⟨xr, 2, none⟩) := hp 22 93 _ (by kernel_rfl) rfl rfl
                    simp only [Act.eval] at p93
                    obtain ⟨c0, c1, c2⟩ := RuOk.cs (hG.get 0 rfl)
                    refine ⟨_, _, rfl, rfl, .inl ⟨RV.wanted_at (d := 88) rfl fr (by rfl) (hp 17 88 _ (by kernel_rfl) rfl rfl) rfl, .inl ⟨fw, ?_, hG⟩⟩⟩
                    simp only [execOp, Act.eval]
                    go_simp
                    all_goals first | omega | (intro hh; omega) | (rw [IntKind.wrap_i64]; omega)
                  | 24, _ =>
                    have p90 : fa.eval (.tmp 90) = .bool o' := hp 19 90 _ (by kernel_rfl) rfl rfl
                    have p94 : fa.eval (.tmp 94) = .bool o' := hp 23 94 _ (by kernel_rfl) rfl rfl
                    simp only [Act.eval] at p90 p94
                    refine ⟨_, _, rfl, rfl, .inl ⟨RV.wanted_at (d := 88) rfl fr (by rfl) (hp 17 88 _ (by kernel_rfl) rfl rfl) rfl, .inl ⟨fw, ?_, hG⟩⟩⟩
                    simp only [execOp, Act.eval]
                    go_simp
                    all_goals first | omega | (intro hh; omega) | (rw [IntKind.wrap_i64]; omega)
                  | 25, _ =>
                    have p88 : fa.eval (.tmp 88) = .bool false := hp 17 88 _ (by kernel_rfl) rfl rfl
                    have p95 : fa.eval (.tmp 95) = .bool false := hp 24 95 _ (by kernel_rfl) rfl rfl
                    simp only [Act.eval] at p88 p95
                    refine ⟨_, _, rfl, rfl, .inl ⟨RV.wanted_none rfl, .inl ⟨fw, ?_, hG⟩⟩⟩
                    simp only [execOp, Act.eval]
                    go_simp
                    all_goals first | omega | (intro hh; omega) | (rw [IntKind.wrap_i64]; omega)
                  | i + 26, hi => exact absurd hi (by show ¬ (i + 26 < 26); omega)
                · intro w2 hG
                  simp only [RV.putAll, List.zip_cons_cons, List.zip_nil_left, List.zip_nil_right, List.foldl_cons, List.foldl_nil, Act.put, List.setIfInBounds_toArray, List.set_cons_zero, List.set_cons_succ]
                  go_wp2
                  go_roundw
                  case rel => exact ⟨k + 1, a', o', by omega, HA'.out, by go_num, hG⟩
                  case measure => simp [intOf]; omega
              · go_wp2_with fail
                go_at_call 23
                refine (tdraw_s hS.out 2 3 1 rfl rfl rfl (by decide) (by decide) HW.out HB.out HA.out HS.out HD.out (.inr ⟨rfl, rfl⟩)).mono ?_
                rintro e v4 ⟨rfl, h1⟩
                have h2 : CS w v4 [R xr b1 a o, K gc b1 a' o', TB t g xs0.length, EN g xs0] := h1
                clear hS h1; have hS := Lib.hid h2; clear h2
                go_wp2_with fail
                go_at_call 24
                refine (rdraw10_s hS.out 0 rfl HI.out HW.out HB.out HA.out HS.out HD.out (.inr ⟨rfl, rfl⟩)).mono ?_
                rintro e v5 ⟨rfl, h1⟩
                have h2 : CS w v5 [R xr b1 a' o', K gc b1 a' o', TB t g xs0.length, EN g xs0] := h1
                clear hS h1; have hS := Lib.hid h2; clear h2
                go_wp2_with fail
                refine RV.wp_region_g (by kernel_rfl) [71, 72, 73, 74, 75, 76, 77, 78, 79, 80, 81, 82, 83, 84, 85, 86, 87, 88, 89, 90, 91, 92, 93, 94, 95, 96] [.int .i64 0, .int .i64 0, .bool false, .bool false, .bool false, .bool false, .bool false, .bool false, .bool false, .pointer (some ⟨gc, 0, none⟩), .int .i64 (a' : Nat), .pointer (some ⟨xr, 0, none⟩), .pointer (some ⟨xr, 0, none⟩), .pointer (some ⟨xr, 1, none⟩), .int .i64 (a' : Nat), .bool false, .bool false, .bool false, .pointer (some ⟨gc, 0, none⟩), .bool o', .pointer (some ⟨xr, 0, none⟩), .pointer (some ⟨xr, 0, none⟩), .pointer (some ⟨xr, 2, none⟩), .bool o', .bool false, .bool false] (fun W => CS w W [R xr b1 a' o', K gc b1 a' o', TB t g xs0.length, EN g xs0]) (by kernel_rfl) rfl (by decide) rfl (by kernel_rfl) (hS.out.drew) ?_ ?_
                · intro ii hii fa fw fr hp hG
                  match ii, hii with
                  | 0, _ =>
                    have p14 : fa.eval (.tmp 14) = .int .i64 0 := (fr.out 14 (by decide)).trans rfl
                    simp only [Act.eval] at p14
                    refine ⟨_, _, rfl, rfl, .inl ⟨RV.wanted_none rfl, .inl ⟨fw, ?_, hG⟩⟩⟩
                    simp only [execOp, Act.eval]
                    go_simp
                    all_goals first | omega | (intro hh; omega) | (rw [IntKind.wrap_i64]; omega)
                  | 1, _ =>
                    have p16 : fa.eval (.tmp 16) = .int .i64 0 := (fr.out 16 (by decide)).trans rfl
                    simp only [Act.eval] at p16
                    refine ⟨_, _, rfl, rfl, .inl ⟨RV.wanted_none rfl, .inl ⟨fw, ?_, hG⟩⟩⟩
                    simp only [execOp, Act.eval]
                    go_simp
                    all_goals first | omega | (intro hh; omega) | (rw [IntKind.wrap_i64]; omega)
                  | 2, _ =>
                    have p71 : fa.eval (.tmp 71) = .int .i64 0 := hp 0 71 _ (by kernel_rfl) rfl rfl
                    have p72 : fa.eval (.tmp 72) = .int .i64 0 := hp 1 72 _ (by kernel_rfl) rfl rfl
                    simp only [Act.eval] at p71 p72
                    refine ⟨_, _, rfl, rfl, .inl ⟨RV.wanted_none rfl, .inl ⟨fw, ?_, hG⟩⟩⟩
                    simp only [execOp, Act.eval]
                    go_simp
                    all_goals first | omega | (intro hh; omega) | (rw [IntKind.wrap_i64]; omega)
                  | 3, _ =>
                    have p73 : fa.eval (.tmp 73) = .bool false := hp 2 73 _ (by kernel_rfl) rfl rfl
                    simp only [Act.eval] at p73
                    refine ⟨_, _, rfl, rfl, .inl ⟨RV.wanted_none rfl, .inl ⟨fw, ?_, hG⟩⟩⟩
                    simp only [execOp, Act.eval]
                    go_simp
                    all_goals first | omega | (intro hh; omega) | (rw [IntKind.wrap_i64]; omega)
                  | 4, _ =>
                    have p15 : fa.eval (.tmp 15) = .bool false := (fr.out 15 (by decide)).trans rfl
                    simp only [Act.eval] at p15
                    refine ⟨_, _, rfl, rfl, .inl ⟨RV.wanted_at (d := 74) rfl fr (by rfl) (hp 3 74 _ (by kernel_rfl) rfl rfl) rfl, .inl ⟨fw, ?_, hG⟩⟩⟩
                    simp only [execOp, Act.eval]
                    go_simp
                    all_goals first | omega | (intro hh; omega) | (rw [IntKind.wrap_i64]; omega)
                  | 5, _ =>
                    have p17 : fa.eval (.tmp 17) = .bool false := (fr.out 17 (by decide)).trans rfl
                    simp only [Act.eval] at p17
                    refine ⟨_, _, rfl, rfl, .inl ⟨RV.wanted_at (d := 74) rfl fr (by rfl) (hp 3 74 _ (by kernel_rfl) rfl rfl) rfl, .inl ⟨fw, ?_, hG⟩⟩⟩
                    simp only [execOp, Act.eval]
                    go_simp
                    all_goals first | omega | (intro hh; omega) | (rw [IntKind.wrap_i64]; omega)
                  | 6, _ =>
                    have p75 : fa.eval (.tmp 75) = .bool false := hp 4 75 _ (by kernel_rfl) rfl rfl
                    have p76 : fa.eval (.tmp 76) = .bool false := hp 5 76 _ (by kernel_rfl) rfl rfl
                    simp only [Act.eval] at p75 p76
                    refine ⟨_, _, rfl, rfl, .inl ⟨RV.wanted_at (d := 74) rfl fr (by rfl) (hp 3 74 _ (by kernel_rfl) rfl rfl) rfl, .inl ⟨fw, ?_, hG⟩⟩⟩
                    simp only [execOp, Act.eval]
                    go_simp
                    all_goals first | omega | (intro hh; omega) | (rw [IntKind.wrap_i64]; omega)
                  | 7, _ =>
                    have p74 : fa.eval (.tmp 74) = .bool false := hp 3 74 _ (by kernel_rfl) rfl rfl
                    have p77 : fa.eval (.tmp 77) = .bool false := hp 6 77 _ (by kernel_rfl) rfl rfl
                    simp only [Act.eval] at p74 p77
                    refine ⟨_, _, rfl, rfl, .inl ⟨RV.wanted_none rfl, .inl ⟨fw, ?_, hG⟩⟩⟩
                    simp only [execOp, Act.eval]
                    go_simp
                    all_goals first | omega | (intro hh; omega) | (rw [IntKind.wrap_i64]; omega)
                  | 8, _ =>
                    have p78 : fa.eval (.tmp 78) = .bool false := hp 7 78 _ (by kernel_rfl) rfl rfl
                    simp only [Act.eval] at p78
                    refine ⟨_, _, rfl, rfl, .inl ⟨RV.wanted_none rfl, .inl ⟨fw, ?_, hG⟩⟩⟩
                    simp only [execOp, Act.eval]
                    go_simp
                    all_goals first | omega | (intro hh; omega) | (rw [IntKind.wrap_i64]; omega)
                  | 9, _ =>
                    have p9 : fa.eval (.tmp 9) = .pointer (some ⟨gc, 0, none⟩) := (fr.out 9 (by decide)).trans rfl
                    simp only [Act.eval] at p9
                    refine ⟨_, _, rfl, rfl, .inl ⟨RV.wanted_at (d := 79) rfl fr (by rfl) (hp 8 79 _ (by kernel_rfl) rfl rfl) rfl, .inl ⟨fw, ?_, hG⟩⟩⟩
                    simp only [execOp, Act.eval]
                    go_simp
                    all_goals first | omega | (intro hh; omega) | (rw [IntKind.wrap_i64]; omega)
                  | 10, _ =>
                    have p80 : fa.eval (.tmp 80) = .pointer (some ⟨gc, 0, none⟩) := hp 9 80 _ (by kernel_rfl) rfl rfl
                    have hv : (#[Operand.tmp 80] : Array Operand).map fa.eval = #[(.pointer (some ⟨gc, 0, none⟩))] := by simp only [List.map_toArray, List.map_cons, List.map_nil, p80]
                    exact ⟨_, _, rfl, rfl, .inl ⟨RV.wanted_at (d := 79) rfl fr (by rfl) (hp 8 79 _ (by kernel_rfl) rfl rfl) rfl, RV.yields_call_g hv Tryz.func25 (by kernel_rfl) rfl (at_s hG 1 rfl) (fun e w2 h => h)⟩⟩
                  | 11, _ =>
                    have p11 : fa.eval (.tmp 11) = .pointer (some ⟨xr, 0, none⟩) := (fr.out 11 (by decide)).trans rfl
                    simp only [Act.eval] at p11
                    refine ⟨_, _, rfl, rfl, .inl ⟨RV.wanted_at (d := 79) rfl fr (by rfl) (hp 8 79 _ (by kernel_rfl) rfl rfl) rfl, .inl ⟨fw, ?_, hG⟩⟩⟩
                    simp only [execOp, Act.eval]
                    go_simp
                    all_goals first | omega | (intro hh; omega) | (rw [IntKind.wrap_i64]; omega)
                  | 12, _ =>
                    have p82 : fa.eval (.tmp 82) = .pointer (some ⟨xr, 0, none⟩) := hp 11 82 _ (by kernel_rfl) rfl rfl
                    simp only [Act.eval] at p82
                    refine ⟨_, _, rfl, rfl, .inl ⟨RV.wanted_at (d := 79) rfl fr (by rfl) (hp 8 79 _ (by kernel_rfl) rfl rfl) rfl, .inl ⟨fw, ?_, hG⟩⟩⟩
                    simp only [execOp, Act.eval]
                    go_simp
                    all_goals first | omega | (intro hh; omega) | (rw [IntKind.wrap_i64]; omega)
                  | 13, _ =>
                    have p83 : fa.eval (.tmp 83) = .pointer (some ⟨xr, 0, none⟩) := hp 12 83 _ (by kernel_rfl) rfl rfl
                    simp only [Act.eval] at p83
                    refine ⟨_, _, rfl, rfl, .inl ⟨RV.wanted_at (d := 79) rfl fr (by rfl) (hp 8 79 _ (by kernel_rfl) rfl rfl) rfl, .inl ⟨fw, ?_, hG⟩⟩⟩
                    simp only [execOp, Act.eval]
                    go_simp
                    all_goals first | omega | (intro hh; omega) | (rw [IntKind.wrap_i64]; omega)
                  | 14, _ =>
                    have p84 : fa.eval (.tmp 84) = .pointer (some ⟨xr, 1, none⟩) := hp 13 84 _ (by kernel_rfl) rfl rfl
                    simp only [Act.eval] at p84
                    obtain ⟨c0, c1, c2⟩ := RuOk.cs (hG.get 0 rfl)
                    refine ⟨_, _, rfl, rfl, .inl ⟨RV.wanted_at (d := 79) rfl fr (by rfl) (hp 8 79 _ (by kernel_rfl) rfl rfl) rfl, .inl ⟨fw, ?_, hG⟩⟩⟩
                    simp only [execOp, Act.eval]
                    go_simp
                    all_goals first | omega | (intro hh; omega) | (rw [IntKind.wrap_i64]; omega)
                  | 15, _ =>
                    have p81 : fa.eval (.tmp 81) = .int .i64 (a' : Nat) := hp 10 81 _ (by kernel_rfl) rfl rfl
                    have p85 : fa.eval (.tmp 85) = .int .i64 (a' : Nat) := hp 14 85 _ (by kernel_rfl) rfl rfl
                    simp only [Act.eval] at p81 p85
                    refine ⟨_, _, rfl, rfl, .inl ⟨RV.wanted_at (d := 79) rfl fr (by rfl) (hp 8 79 _ (by kernel_rfl) rfl rfl) rfl, .inl ⟨fw, ?_, hG⟩⟩⟩
                    simp only [execOp, Act.eval]
                    go_simp
                    all_goals first | omega | (intro hh; omega) | (rw [IntKind.wrap_i64]; omega)
                  | 16, _ =>
                    have p79 : fa.eval (.tmp 79) = .bool false := hp 8 79 _ (by kernel_rfl) rfl rfl
                    have p86 : fa.eval (.tmp 86) = .bool false := hp 15 86 _ (by kernel_rfl) rfl rfl
                    simp only [Act.eval] at p79 p86
                    refine ⟨_, _, rfl, rfl, .inl ⟨RV.wanted_none rfl, .inl ⟨fw, ?_, hG⟩⟩⟩
                    simp only [execOp, Act.eval]
                    go_simp
                    all_goals first | omega | (intro hh; omega) | (rw [IntKind.wrap_i64]; omega)
                  | 17, _ =>
                    have p87 : fa.eval (.tmp 87) = .bool false := hp 16 87 _ (by kernel_rfl) rfl rfl
                    simp only [Act.eval] at p87
                    refine ⟨_, _, rfl, rfl, .inl ⟨RV.wanted_none rfl, .inl ⟨fw, ?_, hG⟩⟩⟩
                    simp only [execOp, Act.eval]
                    go_simp
                    all_goals first | omega | (intro hh; omega) | (rw [IntKind.wrap_i64]; omega)
                  | 18, _ =>
                    have p9 : fa.eval (.tmp 9) = .pointer (some ⟨gc, 0, none⟩) := (fr.out 9 (by decide)).trans rfl
                    simp only [Act.eval] at p9
                    refine ⟨_, _, rfl, rfl, .inl ⟨RV.wanted_at (d := 88) rfl fr (by rfl) (hp 17 88 _ (by kernel_rfl) rfl rfl) rfl, .inl ⟨fw, ?_, hG⟩⟩⟩
                    simp only [execOp, Act.eval]
                    go_simp
                    all_goals first | omega | (intro hh; omega) | (rw [IntKind.wrap_i64]; omega)
                  | 19, _ =>
                    have p89 : fa.eval (.tmp 89) = .pointer (some ⟨gc, 0, none⟩) := hp 18 89 _ (by kernel_rfl) rfl rfl
                    have hv : (#[Operand.tmp 89] : Array Operand).map fa.eval = #[(.pointer (some ⟨gc, 0, none⟩))] := by simp only [List.map_toArray, List.map_cons, List.map_nil, p89]
                    exact ⟨_, _, rfl, rfl, .inl ⟨RV.wanted_at (d := 88) rfl fr (by rfl) (hp 17 88 _ (by kernel_rfl) rfl rfl) rfl, RV.yields_call_g hv Tryz.func26 (by kernel_rfl) rfl (cover_s hG 1 rfl) (fun e w2 h => h)⟩⟩
                  | 20, _ =>
                    have p11 : fa.eval (.tmp 11) = .pointer (some ⟨xr, 0, none⟩) := (fr.out 11 (by decide)).trans rfl
                    simp only [Act.eval] at p11
                    refine ⟨_, _, rfl, rfl, .inl ⟨RV.wanted_at (d := 88) rfl fr (by rfl) (hp 17 88 _ (by kernel_rfl) rfl rfl) rfl, .inl ⟨fw, ?_, hG⟩⟩⟩
                    simp only [execOp, Act.eval]
                    go_simp
                    all_goals first | omega | (intro hh; omega) | (rw [IntKind.wrap_i64]; omega)
                  | 21, _ =>
                    have p91 : fa.eval (.tmp 91) = .pointer (some ⟨xr, 0, none⟩) := hp 20 91 _ (by kernel_rfl) rfl rfl
                    simp only [Act.eval] at p91
                    refine ⟨_, _, rfl, rfl, .inl ⟨RV.wanted_at (d := 88) rfl fr (by rfl) (hp 17 88 _ (by kernel_rfl) rfl rfl) rfl, .inl ⟨fw, ?_, hG⟩⟩⟩
                    simp only [execOp, Act.eval]
                    go_simp
                    all_goals first | omega | (intro hh; omega) | (rw [IntKind.wrap_i64]; omega)
                  | 22, _ =>
                    have p92 : fa.eval (.tmp 92) = .pointer (some ⟨xr, 0, none⟩) := hp 21 92 _ (by kernel_rfl) rfl rfl
                    simp only [Act.eval] at p92
                    refine ⟨_, _, rfl, rfl, .inl ⟨RV.wanted_at (d := 88) rfl fr (by rfl) (hp 17 88 _ (by kernel_rfl) rfl rfl) rfl, .inl ⟨fw, ?_, hG⟩⟩⟩
                    simp only [execOp, Act.eval]
                    go_simp
                    all_goals first | omega | (intro hh; omega) | (rw [IntKind.wrap_i64]; omega)
                  | 23, _ =>
                    have p93 : fa.eval (.tmp 93) = .pointer (some ⟨xr, 2, none⟩) := hp 22 93 _ (by kernel_rfl) rfl rfl
                    simp only [Act.eval] at p93
                    obtain ⟨c0, c1, c2⟩ := RuOk.cs (hG.get 0 rfl)
                    refine ⟨_, _, rfl, rfl, .inl ⟨RV.wanted_at (d := 88) rfl fr (by rfl) (hp 17 88 _ (by kernel_rfl) rfl rfl) rfl, .inl ⟨fw, ?_, hG⟩⟩⟩
                    simp only [execOp, Act.eval]
                    go_simp
                    all_goals first | omega | (intro hh; omega) | (rw [IntKind.wrap_i64]; omega)
                  | 24, _ =>
                    have p90 : fa.eval (.tmp 90) = .bool o' := hp 19 90 _ (by kernel_rfl) rfl rfl
                    have p94 : fa.eval (.tmp 94) = .bool o' := hp 23 94 _ (by kernel_rfl) rfl rfl
                    simp only [Act.eval] at p90 p94
                    refine ⟨_, _, rfl, rfl, .inl ⟨RV.wanted_at (d := 88) rfl fr (by rfl) (hp 17 88 _ (by kernel_rfl) rfl rfl) rfl, .inl ⟨fw, ?_, hG⟩⟩⟩
                    simp only [execOp, Act.eval]
                    go_simp
                    all_goals first | omega | (intro hh; omega) | (rw [IntKind.wrap_i64]; omega)
                  | 25, _ =>
                    have p88 : fa.eval (.tmp 88) = .bool false := hp 17 88 _ (by kernel_rfl) rfl rfl
                    have p95 : fa.eval (.tmp 95) = .bool false := hp 24 95 _ (by kernel_rfl) rfl rfl
                    simp only [Act.eval] at p88 p95
                    refine ⟨_, _, rfl, rfl, .inl ⟨RV.wanted_none rfl, .inl ⟨fw, ?_, hG⟩⟩⟩
                    simp only [execOp, Act.eval]
                    go_simp
                    all_goals first | omega | (intro hh; omega) | (rw [IntKind.wrap_i64]; omega)
                  | i + 26, hi => exact absurd hi (by show ¬ (i + 26 < 26); omega)
                · intro w2 hG
                  simp only [RV.putAll, List.zip_cons_cons, List.zip_nil_left, List.zip_nil_right, List.foldl_cons, List.foldl_nil, Act.put, List.setIfInBounds_toArray, List.set_cons_zero, List.set_cons_succ]
                  go_wp2
                  go_roundw
                  case rel => exact ⟨k + 1, a', o', by omega, HA'.out, by go_num, hG⟩
                  case measure => simp [intOf]; omega
            · obtain rfl : k = N := by omega
              have HT := Lib.hid (show TbOk wr t g xs0 from hS.out.tb 2 rfl 3 rfl)
              have HB1 := Lib.hid hS.out.bl
              clear hS; have hS := Lib.hid (SC.fresh HB1.out)
              go_wp2_with fail
              go_at_call 27
              with_reducible refine (tcost_any (HT.out.on hS.out.bl) HW.out HS.out HR.out).mono ?_
              rintro e v4 ho
              obtain ⟨A1, n1, c1, A2, n2, c2, rfl, h1⟩ := hS.out.rR (Nat.le_refl _) ho
              clear hS; have hS := Lib.hid h1; clear h1
              go_wp2_with fail
              go_at_call 28
              with_reducible refine (rcost10 (HI.out.below hS.out.wb) HW.out HS.out HR.out).mono ?_
              rintro e v5 ho
              obtain ⟨A3, n3, c3, A4, n4, c4, rfl, h1⟩ := hS.out.rR (Nat.le_refl _) ho
              clear hS; have hS := Lib.hid h1; clear h1
              go_wp2_with fail
              go_at_call 17
              with_reducible refine (is9_told (r := r) (r' := r) (k := 1030) (k' := 4) hS.out (by repeat (first | exact List.mem_cons_self | apply List.mem_cons_of_mem)) (by repeat (first | exact List.mem_cons_self | apply List.mem_cons_of_mem)) (by repeat (first | exact List.mem_cons_self | apply List.mem_cons_of_mem)) (by repeat (first | exact List.mem_cons_self | apply List.mem_cons_of_mem)) rfl).mono ?_
              rintro e v6 ⟨rfl, h1⟩
              clear hS; have hS := Lib.hid h1; clear h1
              go_wp2_with fail
              go_at_call 10
              with_reducible refine (awake10 _).mono ?_
              rintro e v7 ⟨rfl, hb⟩
              have h1 := hS.out.below hb
              clear hb
              clear hS; have hS := Lib.hid h1; clear h1
              go_wp2
              go_ret
              first
                | exact ⟨rfl, hS.out.st.1⟩
                | (refine ⟨?_, hS.out.st.1⟩; simp)
        · have hB : isB b1 = false := by simpa using h
          have HB := Lib.hid hB
          clear h hB
          go_enter Tryz.func4, Tryz.ntmps4
          go_wp2_with fail
          go_at_call 11
          refine (new10_s hS.out (HI.out.below hS.out.bl) HM.out).mono ?_
          rintro e v1 ⟨t, g, rfl, h1⟩
          have h2 : CS w v1 [TB t g xs0.length, EN g xs0] := h1
          clear hS h1; have hS := Lib.hid h2; clear h2
          go_wp2_with fail
          go_at_call 21
          refine (cnew10_no (l := b1) hS.out HL.out HB.out).mono ?_
          rintro e v2 ⟨rfl, h1⟩
          have h2 : CS w v2 [TB t g xs0.length, EN g xs0] := h1
          clear hS h1; have hS := Lib.hid h2; clear h2
          go_wp2_with fail
          go_at_call 22
          refine (rnew10_no (l := b1) hS.out HL.out HB.out).mono ?_
          rintro e v3 ⟨rfl, h1⟩
          have h2 : CS w v3 [TB t g xs0.length, EN g xs0] := h1
          clear hS h1; have hS := Lib.hid h2; clear h2
          go_wp2_with fail
          go_at_call 10
          refine (awake10_s hS.out).mono ?_
          rintro e v4 ⟨rfl, h1⟩
          have h2 : CS w v4 [TB t g xs0.length, EN g xs0] := h1
          clear hS h1; have hS := Lib.hid h2; clear h2
          go_wp2
          go_ret
          exact ⟨rfl, hS.out.bl⟩
      · obtain ⟨z, hz1, hz2, _, _⟩ := mayW_ways (fun e => hm (mayW_zero.2 e))
        have HM := Lib.hid hz1
        have HZ := Lib.hid hz2
        clear hz1 hm
        by_cases h : isB b1 = true
        · have HB := Lib.hid h
          clear h
          go_enter Tryz.func4, Tryz.ntmps4
          go_wp2_with fail
          go_at_call 11
          refine (new10_no hS.out (HI.out.below hS.out.bl) HM.out HZ.out).mono ?_
          rintro e v1 ⟨rfl, h1⟩
          have h2 : CS w v1 [] := h1
          clear hS h1; have hS := Lib.hid h2; clear h2
          go_wp2_with fail
          go_at_call 21
          refine (new_s hS.out HB.out).mono ?_
          rintro e v2 ⟨gc, rfl, h1⟩
          have h2 : CS w v2 [K gc b1 0 false] := h1
          clear hS h1; have hS := Lib.hid h2; clear h2
          go_wp2_with fail
          go_at_call 22
          refine (rnew_s hS.out HB.out).mono ?_
          rintro e v3 ⟨xr, rfl, h1⟩
          have h2 : CS w v3 [R xr b1 0 false, K gc b1 0 false] := h1
          clear hS h1; have hS := Lib.hid h2; clear h2
          go_wp2_with fail
          go_at_call 10
          refine (awake10_s hS.out).mono ?_
          rintro e v4 ⟨rfl, h1⟩
          have h2 : CS w v4 [R xr b1 0 false, K gc b1 0 false] := h1
          clear hS h1; have hS := Lib.hid h2; clear h2
          go_wp2
          go_ret
          exact ⟨rfl, hS.out.bl⟩
        · have hB : isB b1 = false := by simpa using h
          have HB := Lib.hid hB
          clear h hB
          go_enter Tryz.func4, Tryz.ntmps4
          go_wp2_with fail
          go_at_call 11
          refine (new10_no hS.out (HI.out.below hS.out.bl) HM.out HZ.out).mono ?_
          rintro e v1 ⟨rfl, h1⟩
          have h2 : CS w v1 [] := h1
          clear hS h1; have hS := Lib.hid h2; clear h2
          go_wp2_with fail
          go_at_call 21
          refine (cnew10_no (l := b1) hS.out HL.out HB.out).mono ?_
          rintro e v2 ⟨rfl, h1⟩
          have h2 : CS w v2 [] := h1
          clear hS h1; have hS := Lib.hid h2; clear h2
          go_wp2_with fail
          go_at_call 22
          refine (rnew10_no (l := b1) hS.out HL.out HB.out).mono ?_
          rintro e v3 ⟨rfl, h1⟩
          have h2 : CS w v3 [] := h1
          clear hS h1; have hS := Lib.hid h2; clear h2
          go_wp2_with fail
          go_at_call 10
          refine (awake10_s hS.out).mono ?_
          rintro e v4 ⟨rfl, h1⟩
          have h2 : CS w v4 [] := h1
          clear hS h1; have hS := Lib.hid h2; clear h2
          go_wp2
          go_ret
          exact ⟨rfl, hS.out.bl⟩
set_option maxRecDepth 100000 in
theorem lifted (os : Os) (started : os.Started) (H : Type) (enc : TypeId × Value → H) :
    ReturnsInHanded {} Tryz.checked os 4 .any (fun w args => (Rows.freqDrawsSpec.pre enc Tryz.prog Tryz.f4 Rows.freqDrawsRow.domain false w args ∧ laidMetH Tryz.prog Rows.freqDrawsRow.laid w) ∧ sizedMet enc Tryz.prog Tryz.f4 (OpenSpec.ofChange Rows.freqDrawsSpec) false w args) (Rows.freqDrawsSpec.post enc Tryz.prog Tryz.f4 false true false false) := by
  refine returnsInHanded_of_change_and (C := Tryz.checked) (X := fun w _ => laidMetH Tryz.prog Rows.freqDrawsRow.laid w) (fun _ _ _ hh h => h.of_heap hh) own started (by kernel_rfl) Tryz.func4
    (ChangeSpec.witness_shaped (enc := enc) (C := Tryz.checked) (os := os) (X := fun w _ => laidMetH Tryz.prog Rows.freqDrawsRow.laid w) false (World.laidAll Tryz.prog os Rows.freqDrawsRow.laid) #[.slice none 0 0, .string ByteArray.empty, .int .u8 0] 8 (World.laidAll_os _ _ _)
      (World.shaped_of_ZipB (by kernel_rfl) (by kernel_rfl)) (by kernel_rfl) (by kernel_rfl) (by kernel_rfl)
      (by rw [MakeChecks.laidMetH_plain _ _ _ (by kernel_rfl)]; exact laidMet_laidAll _ (by kernel_rfl) (by kernel_rfl))) ?_
  intro W base args ds gs before hval0 hW hcnd _ _ _
  have hval : ∀ (j : Nat) t v, Tryz.f4.params[j]? = some t → args[j]? = some v → Value.okWide Tryz.prog W .any base t v := hval0
  have hW' := hW
  obtain ⟨p, q, hA0, hV, hpq, hfz, hnd⟩ := hW
  have hA : DataW.TrodAll enc Tryz.prog W 0 (fun _ => true) true Tryz.f4.params.toList args.toList ds p := hA0
  rw [Tryz.params4] at hA hval
  obtain ⟨v0, vs0, d0, ds0, p0, q0, hargs, rfl, rfl, h0, r0⟩ := trodAll_cons hA
  obtain ⟨v1, vs1, d1, ds1, p1, q1, rfl, rfl, rfl, h1, r1⟩ := trodAll_cons r0
  obtain ⟨v2, vs2, d2, ds2, p2, q2, rfl, rfl, rfl, h2, r2⟩ := trodAll_cons r1
  obtain ⟨rfl, rfl, rfl⟩ := trodAll_nil r2
  obtain rfl : args = #[v0, v1, v2] := by cases args; simp_all
  obtain ⟨rfl, rfl⟩ := trodVars_none hV
  obtain ⟨A0, n0, c0, xs0, rfl, s0⟩ := open_i64s_ (hval 0 22 v0 rfl rfl) h0
  obtain ⟨y1, rfl, rfl, rfl, l1⟩ := Go.ChangeMaps.open_string Tryz.underlying9 (hval 1 9 v1 rfl rfl) h1
  obtain ⟨b1, rfl⟩ : ∃ b : List UInt8, y1 = ⟨b.toArray⟩ := ⟨y1.data.toList, by cases y1; simp⟩
  obtain ⟨a2, rfl, rfl, rfl, w2⟩ := open_int Tryz.underlying5 (hval 2 5 v2 rfl rfl) h2
  refine (walk W A0 n0 c0 xs0 s0 b1 l1 a2 w2).mono fun e W' ⟨he, hb⟩ => ?_
  subst he
  exact ⟨_, rfl, Frame.close laidOut hW' rfl rfl rfl Tryz.underlying4 (fun t ht => by rw [Tryz.params4] at ht; simp at ht; rcases ht with rfl | rfl | rfl <;> exact ⟨by kernel_rfl, of_decide_eq_true (by kernel_rfl)⟩) hb⟩
theorem over : Rows.freqDrawsRow.holds Tryz.pinned (OpenSpec.ofChange Rows.freqDrawsSpec) :=
  OpenClaim.holds_of_wide 4 Tryz.f4 rfl rfl rfl rfl rfl rfl rfl ⟨rfl, rfl, rfl, rfl, rfl⟩ rfl rfl rfl rfl rfl (by kernel_rfl) Tryz.func4 (by kernel_rfl)
    (of_decide_eq_true (by kernel_rfl)) (by unfold Func.isWrapper; first | (rw [if_pos (by decide +kernel)]; kernel_rfl) | (rw [if_neg (by decide +kernel)]; exact ⟨rfl, rfl⟩))
    (fun os started H enc _ => lifted os started H enc)
/-- the statement -/
theorem proved : Rows.FreqDrawsCardSaid :=
  Claim7.holds_tied_plain_at .later [] _ _ _ _ over (fun _ h => by cases h) (by kernel_rfl) (fun _ h => by cases h) freqDraws_row_tie rfl ⟨rfl, rfl⟩ (by kernel_rfl) rfl
    (fun f fn hf hfn => by
      obtain rfl : f = 4 := Option.some.inj ((show Tryz.prog.funcNamed "tombola/tombolalaw10.FreqDraws" = some 4 by kernel_rfl).symm.trans hf) |>.symm
      obtain rfl : fn = Tryz.f4 := (Option.some.inj (Tryz.func4.symm.trans hfn)).symm
      exact ⟨by kernel_rfl, (fun j t ht => by
        rw [Tryz.params4] at ht
        have hm : t ∈ [22, 9, 5] := by simpa using Array.mem_of_getElem? ht
        have hall : ([22, 9, 5].all fun u => !Tryz.prog.wantsStandIn u) = true := by kernel_rfl
        exact (show Tryz.prog.wantsStandIn t = false by simpa using List.all_eq_true.1 hall t hm))⟩)
    (by kernel_rfl)
#print axioms proved
end Go.Proofs.YtolfjhfmcgibbaaGreatDoor.freqDraws
