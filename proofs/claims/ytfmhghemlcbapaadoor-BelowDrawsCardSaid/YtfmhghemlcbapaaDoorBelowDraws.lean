/-
  PROVED: the statement BelowDraws (tombolalaw09.BelowDraws) about the landed commit: for every input the law returns true and leaves its arguments as they were. Conditions: none beyond those that the given row itself prints.
-/
import Derived.Test.YtfmhghemlcbapaaDoorCards
import Derived.Test.YtfmhghemlcbapaaDoorTie
import Derived.LaidMore
import Derived.Lay
import Derived.SevenTiedAt
import Derived.Stop.Joined
import Derived.Test.YtfmhghemlcbapaaDoorRows
import Derived.WalkKit
import Derived.ProofKit
import Derived.OpenShut
import Derived.RowKit3
import Derived.Test.YtfmhghemlcbapaaDoorGFrame
import Derived.Test.YtfmhghemlcbapaaDoorBelAwake
import Derived.Test.YtfmhghemlcbapaaDoorBelRef
import Derived.Test.YtfmhghemlcbapaaDoorU64Open
import Derived.Test.YtfmhghemlcbapaaDoorRegG
namespace Go.Proofs.YtfmhghemlcbapaaDoor.belowDraws
open Go.ChangeShapes Go.WideShapes Go.ChangeAt Go.RowKit
set_option linter.unusedVariables false
set_option linter.unusedSimpArgs false
set_option maxRecDepth 20000
open N
theorem own : ownKnob Tryd.prog.godebug = none := by kernel_rfl
section
variable {w0 w : World} {T : List Blk} {l : List UInt8}
theorem awake9_s (h : CS w0 w T) : Calls Tryd.prog 7 #[] w fun e w' => e = .returned (.bool true) ∧ CS w0 w' T := by
  refine (awake9 w).mono ?_
  rintro e w' ⟨rfl, hb⟩
  exact ⟨rfl, h.below hb⟩
theorem new9_no (h : CS w0 w T) (hl : l.length ≤ maxLen) (hB : isB l = false) :
    Calls Tryd.prog 8 #[.string ⟨l.toArray⟩] w fun e w' => e = .returned (.tuple #[.pointer none, .int .i64 3]) ∧ CS w0 w' T := by
  refine (new_no w l hl hB).mono ?_
  rintro e w' ⟨rfl, hb⟩
  exact ⟨rfl, h.below hb⟩
theorem rnew9_no (h : CS w0 w T) (hl : l.length ≤ maxLen) (hB : isB l = false) :
    Calls Tryd.prog 9 #[.string ⟨l.toArray⟩] w fun e w' => e = .returned (.tuple #[.pointer none, .int .i64 3]) ∧ CS w0 w' T := by
  refine (rnew_no w l hl hB).mono ?_
  rintro e w' ⟨rfl, rfl⟩
  exact ⟨rfl, h⟩
end
set_option maxRecDepth 100000 in
set_option maxHeartbeats 40000000 in
theorem walk (w : World) (b0 : List UInt8) (l0 : b0.length ≤ maxLen) (A1 : Option Addr) (n1 c1 : Nat) (xs1 : List Int) (h1 : Sl w A1 n1 c1 xs1) :
    Calls Tryd.prog 3 #[.string ⟨b0.toArray⟩, .slice A1 n1 c1] w fun e w' => e = .returned (.bool true) ∧ Below w.heap.size w w' := by
  have hS := Lib.hid (CS.start w)
  by_cases g0 : 100 < n1
  · go_enter Tryd.func3, Tryd.ntmps3
    go_wp2_with fail
    go_at_call 7
    refine (awake9_s hS.out).mono ?_
    rintro e v1 ⟨rfl, h1⟩
    have h2 : CS w v1 [] := h1
    clear hS h1; have hS := Lib.hid h2; clear h2
    go_wp2
    go_ret
    exact ⟨rfl, hS.out.bl⟩
  · have HI := Lib.hid h1
    have HL0 := Lib.hid l0
    clear h1
    by_cases h : isB b0 = true
    · have HB := Lib.hid h
      clear h
      go_enter Tryd.func3, Tryd.ntmps3
      go_wp2_with fail
      go_at_call 8
      refine (new_s hS.out HB.out).mono ?_
      rintro e v1 ⟨g, rfl, h1⟩
      have h2 : CS w v1 [K g b0 0 false] := h1
      clear hS h1; have hS := Lib.hid h2; clear h2
      go_wp2_with fail
      go_at_call 9
      refine (rnew_s hS.out HB.out).mono ?_
      rintro e v2 ⟨x, rfl, h1⟩
      have h2 : CS w v2 [R x b0 0 false, K g b0 0 false] := h1
      clear hS h1; have hS := Lib.hid h2; clear h2
      go_wp2_with fail
      go_loopw [9] (fun i wr => ∃ (k a : Nat) (o : Bool), k ≤ n1 ∧ a ≤ b0.length ∧ i = .int .i64 k ∧ CS w wr [R x b0 a o, K g b0 a o]) (fun i _ => n1 - (intOf i).toNat)
      case atStart => exact ⟨0, 0, false, by omega, by omega, rfl, hS.out⟩
      case round =>
        obtain ⟨k, a, o, hk, ha, rfl, hS0⟩ := hrel
        clear hS
        have hS := Lib.hid hS0
        clear hS0
        have HA := Lib.hid ha
        clear ha
        by_cases hlt : k < n1
        · obtain ⟨ad, m, rfl, hm, hlim, hcell⟩ := (HI.out.below hS.out.bl).one9 hlt
          have HE := Lib.hid (fun (W : World) (hb : Below w.heap.size w W) => (HI.out.below hb).the9 hlt hlim)
          clear hlim
          rcases hd : dr b0 a o m with ⟨nv, gd, a', o'⟩
          have HA' := Lib.hid ((dr_ways hd).2.1 HA.out)
          have HD := Lib.hid hd
          have HM := Lib.hid hm
          clear hd hm
          go_wp2_with fail
          go_at_call 10
          refine (draw_n hS.out 1 rfl HB.out HA.out HM.out HD.out).mono ?_
          rintro e v3 ⟨rfl, h1⟩
          have h2 : CS w v3 [R x b0 a o, K g b0 a' o'] := h1
          clear hS h1; have hS := Lib.hid h2; clear h2
          clear hcell
          have hcell := HE.out _ hS.out.bl
          go_wp2_with fail
          go_at_call 11
          refine (rdraw_n hS.out 0 rfl HB.out HA.out HM.out HD.out).mono ?_
          rintro e v4 ⟨rfl, h1⟩
          have h2 : CS w v4 [R x b0 a' o', K g b0 a' o'] := h1
          clear hS h1; have hS := Lib.hid h2; clear h2
          clear hcell
          have hcell := HE.out _ hS.out.bl
          clear hcell
          go_wp2_with fail
          refine RV.wp_region_g (by kernel_rfl) [58, 59, 60, 61, 62, 63, 64, 65, 66, 67, 68, 69, 70, 71, 72, 73, 74, 75, 76, 77, 78, 79, 80, 81, 82, 83] [.int .u64 (nv : Nat), .int .u64 (nv : Nat), .bool false, .bool false, .bool gd, .bool gd, .bool false, .bool false, .bool false, .pointer (some ⟨g, 0, none⟩), .int .i64 (a' : Nat), .pointer (some ⟨x, 0, none⟩), .pointer (some ⟨x, 0, none⟩), .pointer (some ⟨x, 1, none⟩), .int .i64 (a' : Nat), .bool false, .bool false, .bool false, .pointer (some ⟨g, 0, none⟩), .bool o', .pointer (some ⟨x, 0, none⟩), .pointer (some ⟨x, 0, none⟩), .pointer (some ⟨x, 2, none⟩), .bool o', .bool false, .bool false] (fun W => CS w W [R x b0 a' o', K g b0 a' o']) (by kernel_rfl) rfl (by decide) rfl (by kernel_rfl) (hS.out.drew) ?_ ?_
          · intro ii hii fa fw fr hp hG
            match ii, hii with
            | 0, _ =>
              have p10 : fa.eval (.tmp 10) = .int .u64 (nv : Nat) := (fr.out 10 (by decide)).trans rfl
              simp only [Act.eval] at p10
              refine ⟨_, _, rfl, rfl, .inl ⟨RV.wanted_none rfl, .inl ⟨fw, ?_, hG⟩⟩⟩
              simp only [execOp, Act.eval]
              go_simp
              all_goals first | omega | (intro hh; omega) | (rw [IntKind.wrap_i64]; omega)
            | 1, _ =>
              have p12 : fa.eval (.tmp 12) = .int .u64 (nv : Nat) := (fr.out 12 (by decide)).trans rfl
              simp only [Act.eval] at p12
              refine ⟨_, _, rfl, rfl, .inl ⟨RV.wanted_none rfl, .inl ⟨fw, ?_, hG⟩⟩⟩
              simp only [execOp, Act.eval]
              go_simp
              all_goals first | omega | (intro hh; omega) | (rw [IntKind.wrap_i64]; omega)
            | 2, _ =>
              have p58 : fa.eval (.tmp 58) = .int .u64 (nv : Nat) := hp 0 58 _ (by kernel_rfl) rfl rfl
              have p59 : fa.eval (.tmp 59) = .int .u64 (nv : Nat) := hp 1 59 _ (by kernel_rfl) rfl rfl
              simp only [Act.eval] at p58 p59
              refine ⟨_, _, rfl, rfl, .inl ⟨RV.wanted_none rfl, .inl ⟨fw, ?_, hG⟩⟩⟩
              simp only [execOp, Act.eval]
              go_simp
              all_goals first | omega | (intro hh; omega) | (rw [IntKind.wrap_i64]; omega)
            | 3, _ =>
              have p60 : fa.eval (.tmp 60) = .bool false := hp 2 60 _ (by kernel_rfl) rfl rfl
              simp only [Act.eval] at p60
              refine ⟨_, _, rfl, rfl, .inl ⟨RV.wanted_none rfl, .inl ⟨fw, ?_, hG⟩⟩⟩
              simp only [execOp, Act.eval]
              go_simp
              all_goals first | omega | (intro hh; omega) | (rw [IntKind.wrap_i64]; omega)
            | 4, _ =>
              have p11 : fa.eval (.tmp 11) = .bool gd := (fr.out 11 (by decide)).trans rfl
              simp only [Act.eval] at p11
              refine ⟨_, _, rfl, rfl, .inl ⟨RV.wanted_at (d := 61) rfl fr (by rfl) (hp 3 61 _ (by kernel_rfl) rfl rfl) rfl, .inl ⟨fw, ?_, hG⟩⟩⟩
              simp only [execOp, Act.eval]
              go_simp
              all_goals first | omega | (intro hh; omega) | (rw [IntKind.wrap_i64]; omega)
            | 5, _ =>
              have p13 : fa.eval (.tmp 13) = .bool gd := (fr.out 13 (by decide)).trans rfl
              simp only [Act.eval] at p13
              refine ⟨_, _, rfl, rfl, .inl ⟨RV.wanted_at (d := 61) rfl fr (by rfl) (hp 3 61 _ (by kernel_rfl) rfl rfl) rfl, .inl ⟨fw, ?_, hG⟩⟩⟩
              simp only [execOp, Act.eval]
              go_simp
              all_goals first | omega | (intro hh; omega) | (rw [IntKind.wrap_i64]; omega)
            | 6, _ =>
              have p62 : fa.eval (.tmp 62) = .bool gd := hp 4 62 _ (by kernel_rfl) rfl rfl
              have p63 : fa.eval (.tmp 63) = .bool gd := hp 5 63 _ (by kernel_rfl) rfl rfl
              simp only [Act.eval] at p62 p63
              refine ⟨_, _, rfl, rfl, .inl ⟨RV.wanted_at (d := 61) rfl fr (by rfl) (hp 3 61 _ (by kernel_rfl) rfl rfl) rfl, .inl ⟨fw, ?_, hG⟩⟩⟩
              simp only [execOp, Act.eval]
              go_simp
              all_goals first | omega | (intro hh; omega) | (rw [IntKind.wrap_i64]; omega)
            | 7, _ =>
              have p61 : fa.eval (.tmp 61) = .bool false := hp 3 61 _ (by kernel_rfl) rfl rfl
              have p64 : fa.eval (.tmp 64) = .bool false := hp 6 64 _ (by kernel_rfl) rfl rfl
              simp only [Act.eval] at p61 p64
              refine ⟨_, _, rfl, rfl, .inl ⟨RV.wanted_none rfl, .inl ⟨fw, ?_, hG⟩⟩⟩
              simp only [execOp, Act.eval]
              go_simp
              all_goals first | omega | (intro hh; omega) | (rw [IntKind.wrap_i64]; omega)
            | 8, _ =>
              have p65 : fa.eval (.tmp 65) = .bool false := hp 7 65 _ (by kernel_rfl) rfl rfl
              simp only [Act.eval] at p65
              refine ⟨_, _, rfl, rfl, .inl ⟨RV.wanted_none rfl, .inl ⟨fw, ?_, hG⟩⟩⟩
              simp only [execOp, Act.eval]
              go_simp
              all_goals first | omega | (intro hh; omega) | (rw [IntKind.wrap_i64]; omega)
            | 9, _ =>
              have p5 : fa.eval (.tmp 5) = .pointer (some ⟨g, 0, none⟩) := (fr.out 5 (by decide)).trans rfl
              simp only [Act.eval] at p5
              refine ⟨_, _, rfl, rfl, .inl ⟨RV.wanted_at (d := 66) rfl fr (by rfl) (hp 8 66 _ (by kernel_rfl) rfl rfl) rfl, .inl ⟨fw, ?_, hG⟩⟩⟩
              simp only [execOp, Act.eval]
              go_simp
              all_goals first | omega | (intro hh; omega) | (rw [IntKind.wrap_i64]; omega)
            | 10, _ =>
              have p67 : fa.eval (.tmp 67) = .pointer (some ⟨g, 0, none⟩) := hp 9 67 _ (by kernel_rfl) rfl rfl
              have hv : (#[Operand.tmp 67] : Array Operand).map fa.eval = #[(.pointer (some ⟨g, 0, none⟩))] := by simp only [List.map_toArray, List.map_cons, List.map_nil, p67]
              exact ⟨_, _, rfl, rfl, .inl ⟨RV.wanted_at (d := 66) rfl fr (by rfl) (hp 8 66 _ (by kernel_rfl) rfl rfl) rfl, RV.yields_call_g hv Tryd.func12 (by kernel_rfl) rfl (at_s hG 1 rfl) (fun e w2 h => h)⟩⟩
            | 11, _ =>
              have p7 : fa.eval (.tmp 7) = .pointer (some ⟨x, 0, none⟩) := (fr.out 7 (by decide)).trans rfl
              simp only [Act.eval] at p7
              refine ⟨_, _, rfl, rfl, .inl ⟨RV.wanted_at (d := 66) rfl fr (by rfl) (hp 8 66 _ (by kernel_rfl) rfl rfl) rfl, .inl ⟨fw, ?_, hG⟩⟩⟩
              simp only [execOp, Act.eval]
              go_simp
              all_goals first | omega | (intro hh; omega) | (rw [IntKind.wrap_i64]; omega)
            | 12, _ =>
              have p69 : fa.eval (.tmp 69) = .pointer (some ⟨x, 0, none⟩) := hp 11 69 _ (by kernel_rfl) rfl rfl
              simp only [Act.eval] at p69
              refine ⟨_, _, rfl, rfl, .inl ⟨RV.wanted_at (d := 66) rfl fr (by rfl) (hp 8 66 _ (by kernel_rfl) rfl rfl) rfl, .inl ⟨fw, ?_, hG⟩⟩⟩
              simp only [execOp, Act.eval]
              go_simp
              all_goals first | omega | (intro hh; omega) | (rw [IntKind.wrap_i64]; omega)
            | 13, _ =>
              have p70 : fa.eval (.tmp 70) = .pointer (some ⟨x, 0, none⟩) := hp 12 70 _ (by kernel_rfl) rfl rfl
              simp only [Act.eval] at p70
              refine ⟨_, _, rfl, rfl, .inl ⟨RV.wanted_at (d := 66) rfl fr (by rfl) (hp 8 66 _ (by kernel_rfl) rfl rfl) rfl, .inl ⟨fw, ?_, hG⟩⟩⟩
              simp only [execOp, Act.eval]
              go_simp
              all_goals first | omega | (intro hh; omega) | (rw [IntKind.wrap_i64]; omega)
            | 14, _ =>
              have p71 : fa.eval (.tmp 71) = .pointer (some ⟨x, 1, none⟩) := hp 13 71 _ (by kernel_rfl) rfl rfl
              simp only [Act.eval] at p71
              obtain ⟨c0, c1, c2⟩ := RuOk.cs (hG.get 0 rfl)
              refine ⟨_, _, rfl, rfl, .inl ⟨RV.wanted_at (d := 66) rfl fr (by rfl) (hp 8 66 _ (by kernel_rfl) rfl rfl) rfl, .inl ⟨fw, ?_, hG⟩⟩⟩
              simp only [execOp, Act.eval]
              go_simp
              all_goals first | omega | (intro hh; omega) | (rw [IntKind.wrap_i64]; omega)
            | 15, _ =>
              have p68 : fa.eval (.tmp 68) = .int .i64 (a' : Nat) := hp 10 68 _ (by kernel_rfl) rfl rfl
              have p72 : fa.eval (.tmp 72) = .int .i64 (a' : Nat) := hp 14 72 _ (by kernel_rfl) rfl rfl
              simp only [Act.eval] at p68 p72
              refine ⟨_, _, rfl, rfl, .inl ⟨RV.wanted_at (d := 66) rfl fr (by rfl) (hp 8 66 _ (by kernel_rfl) rfl rfl) rfl, .inl ⟨fw, ?_, hG⟩⟩⟩
              simp only [execOp, Act.eval]
              go_simp
              all_goals first | omega | (intro hh; omega) | (rw [IntKind.wrap_i64]; omega)
            | 16, _ =>
              have p66 : fa.eval (.tmp 66) = .bool false := hp 8 66 _ (by kernel_rfl) rfl rfl
              have p73 : fa.eval (.tmp 73) = .bool false := hp 15 73 _ (by kernel_rfl) rfl rfl
              simp only [Act.eval] at p66 p73
              refine ⟨_, _, rfl, rfl, .inl ⟨RV.wanted_none rfl, .inl ⟨fw, ?_, hG⟩⟩⟩
              simp only [execOp, Act.eval]
              go_simp
              all_goals first | omega | (intro hh; omega) | (rw [IntKind.wrap_i64]; omega)
            | 17, _ =>
              have p74 : fa.eval (.tmp 74) = .bool false := hp 16 74 _ (by kernel_rfl) rfl rfl
              simp only [Act.eval] at p74
              refine ⟨_, _, rfl, rfl, .inl ⟨RV.wanted_none rfl, .inl ⟨fw, ?_, hG⟩⟩⟩
              simp only [execOp, Act.eval]
              go_simp
              all_goals first | omega | (intro hh; omega) | (rw [IntKind.wrap_i64]; omega)
            | 18, _ =>
              have p5 : fa.eval (.tmp 5) = .pointer (some ⟨g, 0, none⟩) := (fr.out 5 (by decide)).trans rfl
              simp only [Act.eval] at p5
              refine ⟨_, _, rfl, rfl, .inl ⟨RV.wanted_at (d := 75) rfl fr (by rfl) (hp 17 75 _ (by kernel_rfl) rfl rfl) rfl, .inl ⟨fw, ?_, hG⟩⟩⟩
              simp only [execOp, Act.eval]
              go_simp
              all_goals first | omega | (intro hh; omega) | (rw [IntKind.wrap_i64]; omega)
            | 19, _ =>
              have p76 : fa.eval (.tmp 76) = .pointer (some ⟨g, 0, none⟩) := hp 18 76 _ (by kernel_rfl) rfl rfl
              have hv : (#[Operand.tmp 76] : Array Operand).map fa.eval = #[(.pointer (some ⟨g, 0, none⟩))] := by simp only [List.map_toArray, List.map_cons, List.map_nil, p76]
              exact ⟨_, _, rfl, rfl, .inl ⟨RV.wanted_at (d := 75) rfl fr (by rfl) (hp 17 75 _ (by kernel_rfl) rfl rfl) rfl, RV.yields_call_g hv Tryd.func13 (by kernel_rfl) rfl (cover_s hG 1 rfl) (fun e w2 h => h)⟩⟩
            | 20, _ =>
              have p7 : fa.eval (.tmp 7) = .pointer (some ⟨x, 0, none⟩) := (fr.out 7 (by decide)).trans rfl
              simp only [Act.eval] at p7
              refine ⟨_, _, rfl, rfl, .inl ⟨RV.wanted_at (d := 75) rfl fr (by rfl) (hp 17 75 _ (by kernel_rfl) rfl rfl) rfl, .inl ⟨fw, ?_, hG⟩⟩⟩
              simp only [execOp, Act.eval]
              go_simp
              all_goals first | omega | (intro hh; omega) | (rw [IntKind.wrap_i64]; omega)
            | 21, _ =>
              have p78 : fa.eval (.tmp 78) = .pointer (some ⟨x, 0, none⟩) := hp 20 78 _ (by kernel_rfl) rfl rfl
              simp only [Act.eval] at p78
              refine ⟨_, _, rfl, rfl, .inl ⟨RV.wanted_at (d := 75) rfl fr (by rfl) (hp 17 75 _ (by kernel_rfl) rfl rfl) rfl, .inl ⟨fw, ?_, hG⟩⟩⟩
              simp only [execOp, Act.eval]
              go_simp
              all_goals first | omega | (intro hh; omega) | (rw [IntKind.wrap_i64]; omega)
            | 22, _ =>
              have p79 : fa.eval (.tmp 79) = .pointer (some ⟨x, 0, none⟩) := hp 21 79 _ (by kernel_rfl) rfl rfl
              simp only [Act.eval] at p79
              refine ⟨_, _, rfl, rfl, .inl ⟨RV.wanted_at (d := 75) rfl fr (by rfl) (hp 17 75 _ (by kernel_rfl) rfl rfl) rfl, .inl ⟨fw, ?_, hG⟩⟩⟩
              simp only [execOp, Act.eval]
              go_simp
              all_goals first | omega | (intro hh; omega) | (rw [IntKind.wrap_i64]; omega)
            | 23, _ =>
              have p80 : fa.eval (.tmp 80) = .pointer (some ⟨x, 2, none⟩) := hp 22 80 _ (by kernel_rfl) rfl rfl
              simp only [Act.eval] at p80
              obtain ⟨c0, c1, c2⟩ := RuOk.cs (hG.get 0 rfl)
              refine ⟨_, _, rfl, rfl, .inl ⟨RV.wanted_at (d := 75) rfl fr (by rfl) (hp 17 75 _ (by kernel_rfl) rfl rfl) rfl, .inl ⟨fw, ?_, hG⟩⟩⟩
              simp only [execOp, Act.eval]
              go_simp
              all_goals first | omega | (intro hh; omega) | (rw [IntKind.wrap_i64]; omega)
            | 24, _ =>
              have p77 : fa.eval (.tmp 77) = .bool o' := hp 19 77 _ (by kernel_rfl) rfl rfl
              have p81 : fa.eval (.tmp 81) = .bool o' := hp 23 81 _ (by kernel_rfl) rfl rfl
              simp only [Act.eval] at p77 p81
              refine ⟨_, _, rfl, rfl, .inl ⟨RV.wanted_at (d := 75) rfl fr (by rfl) (hp 17 75 _ (by kernel_rfl) rfl rfl) rfl, .inl ⟨fw, ?_, hG⟩⟩⟩
              simp only [execOp, Act.eval]
              go_simp
              all_goals first | omega | (intro hh; omega) | (rw [IntKind.wrap_i64]; omega)
            | 25, _ =>
              have p75 : fa.eval (.tmp 75) = .bool false := hp 17 75 _ (by kernel_rfl) rfl rfl
              have p82 : fa.eval (.tmp 82) = .bool false := hp 24 82 _ (by kernel_rfl) rfl rfl
              simp only [Act.eval] at p75 p82
              refine ⟨_, _, rfl, rfl, .inl ⟨RV.wanted_none rfl, .inl ⟨fw, ?_, hG⟩⟩⟩
              simp only [execOp, Act.eval]
              go_simp
              all_goals first | omega | (intro hh; omega) | (rw [IntKind.wrap_i64]; omega)
            | i + 26, hi => exact absurd hi (by show ¬ (i + 26 < 26); omega)
          · intro w2 hG
            simp only [RV.putAll, List.zip_cons_cons, List.zip_nil_left, List.zip_nil_right, List.foldl_cons, List.foldl_nil, Act.put, List.setIfInBounds_toArray, List.set_cons_zero, List.set_cons_succ]
            go_wp2
            go_roundw
            case rel => exact ⟨k + 1, a', o', by omega, HA'.out, by go_num, hG⟩
            case measure => simp [intOf]; omega
        · obtain rfl : k = n1 := by omega
          go_wp2_with fail
          go_at_call 7
          refine (awake9_s hS.out).mono ?_
          rintro e v3 ⟨rfl, h1⟩
          have h2 : CS w v3 [R x b0 a o, K g b0 a o] := h1
          clear hS h1; have hS := Lib.hid h2; clear h2
          go_wp2
          go_ret
          exact ⟨rfl, hS.out.bl⟩
    · have hB : isB b0 = false := by simpa using h
      have HB := Lib.hid hB
      clear h hB
      go_enter Tryd.func3, Tryd.ntmps3
      go_wp2_with fail
      go_at_call 8
      refine (new9_no hS.out HL0.out HB.out).mono ?_
      rintro e v1 ⟨rfl, h1⟩
      have h2 : CS w v1 [] := h1
      clear hS h1; have hS := Lib.hid h2; clear h2
      go_wp2_with fail
      go_at_call 9
      refine (rnew9_no hS.out HL0.out HB.out).mono ?_
      rintro e v2 ⟨rfl, h1⟩
      have h2 : CS w v2 [] := h1
      clear hS h1; have hS := Lib.hid h2; clear h2
      go_wp2_with fail
      go_at_call 7
      refine (awake9_s hS.out).mono ?_
      rintro e v3 ⟨rfl, h1⟩
      have h2 : CS w v3 [] := h1
      clear hS h1; have hS := Lib.hid h2; clear h2
      go_wp2
      go_ret
      exact ⟨rfl, hS.out.bl⟩
set_option maxRecDepth 100000 in
theorem lifted (os : Os) (started : os.Started) (H : Type) (enc : TypeId × Value → H) :
    ReturnsInHanded {} Tryd.checked os 3 .any (fun w args => (Rows.belowDrawsSpec.pre enc Tryd.prog Tryd.f3 Rows.belowDrawsRow.domain false w args ∧ laidMetH Tryd.prog Rows.belowDrawsRow.laid w) ∧ sizedMet enc Tryd.prog Tryd.f3 (OpenSpec.ofChange Rows.belowDrawsSpec) false w args) (Rows.belowDrawsSpec.post enc Tryd.prog Tryd.f3 false true false false) := by
  refine returnsInHanded_of_change_and (C := Tryd.checked) (X := fun w _ => laidMetH Tryd.prog Rows.belowDrawsRow.laid w) (fun _ _ _ hh h => h.of_heap hh) own started (by kernel_rfl) Tryd.func3
    (ChangeSpec.witness_shaped (enc := enc) (C := Tryd.checked) (os := os) (X := fun w _ => laidMetH Tryd.prog Rows.belowDrawsRow.laid w) false (World.laidAll Tryd.prog os Rows.belowDrawsRow.laid) #[.string ByteArray.empty, .slice none 0 0] 8 (World.laidAll_os _ _ _)
      (World.shaped_of_ZipB (by kernel_rfl) (by kernel_rfl)) (by kernel_rfl) (by kernel_rfl) (by kernel_rfl)
      (by rw [MakeChecks.laidMetH_plain _ _ _ (by kernel_rfl)]; exact laidMet_laidAll _ (by kernel_rfl) (by kernel_rfl))) ?_
  intro W base args ds gs before hval0 hW hcnd _ _ _
  have hval : ∀ (j : Nat) t v, Tryd.f3.params[j]? = some t → args[j]? = some v → Value.okWide Tryd.prog W .any base t v := hval0
  have hW' := hW
  obtain ⟨p, q, hA0, hV, hpq, hfz, hnd⟩ := hW
  have hA : DataW.TrodAll enc Tryd.prog W 0 (fun _ => true) true Tryd.f3.params.toList args.toList ds p := hA0
  rw [Tryd.params3] at hA hval
  obtain ⟨v0, vs0, d0, ds0, p0, q0, hargs, rfl, rfl, h0, r0⟩ := trodAll_cons hA
  obtain ⟨v1, vs1, d1, ds1, p1, q1, rfl, rfl, rfl, h1, r1⟩ := trodAll_cons r0
  obtain ⟨rfl, rfl, rfl⟩ := trodAll_nil r1
  obtain rfl : args = #[v0, v1] := by cases args; simp_all
  obtain ⟨rfl, rfl⟩ := trodVars_none hV
  obtain ⟨y0, rfl, rfl, rfl, l0⟩ := Go.ChangeMaps.open_string Tryd.underlying9 (hval 0 9 v0 rfl rfl) h0
  obtain ⟨b0, rfl⟩ : ∃ b : List UInt8, y0 = ⟨b.toArray⟩ := ⟨y0.data.toList, by cases y0; simp⟩
  obtain ⟨A1, n1, c1, xs1, rfl, s1⟩ := open_u64s_ (hval 1 22 v1 rfl rfl) h1
  refine (walk W b0 l0 A1 n1 c1 xs1 s1).mono fun e W' ⟨he, hb⟩ => ?_
  subst he
  exact ⟨_, rfl, Frame.close laidOut hW' rfl rfl rfl Tryd.underlying4 (fun t ht => by rw [Tryd.params3] at ht; simp at ht; rcases ht with rfl | rfl <;> exact ⟨by kernel_rfl, of_decide_eq_true (by kernel_rfl)⟩) hb⟩
theorem over : Rows.belowDrawsRow.holds Tryd.pinned (OpenSpec.ofChange Rows.belowDrawsSpec) :=
  OpenClaim.holds_of_wide 3 Tryd.f3 rfl rfl rfl rfl rfl rfl rfl ⟨rfl, rfl, rfl, rfl, rfl⟩ rfl rfl rfl rfl rfl (by kernel_rfl) Tryd.func3 (by kernel_rfl)
    (of_decide_eq_true (by kernel_rfl)) (by unfold Func.isWrapper; first | (rw [if_pos (by decide +kernel)]; kernel_rfl) | (rw [if_neg (by decide +kernel)]; exact ⟨rfl, rfl⟩))
    (fun os started H enc _ => lifted os started H enc)
/-- the statement -/
theorem proved : Rows.BelowDrawsCardSaid :=
  Claim7.holds_tied_plain_at .later [] _ _ _ _ over (fun _ h => by cases h) (by kernel_rfl) (fun _ h => by cases h) belowDraws_row_tie rfl ⟨rfl, rfl⟩ (by kernel_rfl) rfl
    (fun f fn hf hfn => by
      obtain rfl : f = 3 := Option.some.inj ((show Tryd.prog.funcNamed "tombola/tombolalaw09.BelowDraws" = some 3 by kernel_rfl).symm.trans hf) |>.symm
      obtain rfl : fn = Tryd.f3 := (Option.some.inj (Tryd.func3.symm.trans hfn)).symm
      exact ⟨by kernel_rfl, (fun j t ht => by
        rw [Tryd.params3] at ht
        have hm : t ∈ [9, 22] := by simpa using Array.mem_of_getElem? ht
        have hall : ([9, 22].all fun u => !Tryd.prog.wantsStandIn u) = true := by kernel_rfl
        exact (show Tryd.prog.wantsStandIn t = false by simpa using List.all_eq_true.1 hall t hm))⟩)
    (by kernel_rfl)
#print axioms proved
end Go.Proofs.YtfmhghemlcbapaaDoor.belowDraws
