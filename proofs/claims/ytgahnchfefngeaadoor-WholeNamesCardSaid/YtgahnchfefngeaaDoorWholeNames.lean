/-
  PROVED: the statement WholeNames (tombolalaw05.WholeNames) about the landed commit: for every input the law returns true and leaves its arguments as they were. Conditions: none beyond those that the given row itself prints.
-/
import Derived.Test.YtgahnchfefngeaaDoorCards
import Derived.Test.YtgahnchfefngeaaDoorTie
import Derived.LaidMore
import Derived.Lay
import Derived.SevenTiedAt
import Derived.Stop.Joined
import Derived.Test.YtgahnchfefngeaaDoorRows
import Derived.WalkKit
import Derived.ProofKit
import Derived.OpenShut
import Derived.RowKit3
import Derived.Test.YtgahnchfefngeaaDoorGFrame
import Derived.Test.YtgahnchfefngeaaDoorWholeAwake
import Derived.Test.YtgahnchfefngeaaDoorRegSym
import Derived.Test.YtgahnchfefngeaaDoorWholeRows
namespace Go.Proofs.YtgahnchfefngeaaDoor.wholeNames
open Go.ChangeShapes Go.WideShapes Go.ChangeAt Go.RowKit
set_option linter.unusedVariables false
set_option maxRecDepth 20000
open N
theorem own : ownKnob Tryd.prog.godebug = none := by kernel_rfl
open Go.Lib (decDigits nDigits decDigits_length nDigits_pos)
set_option maxRecDepth 100000 in
set_option maxHeartbeats 4000000 in
theorem walk (w : World)  :
    Calls Tryd.prog 3 #[] w fun e w' => e = .returned (.bool true) ∧ Below w.heap.size w w' := by
  have hS := Lib.hid (SB.start w)
  go_enter Tryd.func3, Tryd.ntmps3
  go_wp2_with fail
  go_at_call 10
  with_reducible refine (wawake_s hS.out).mono ?_
  rintro e v1 ⟨rfl, h1⟩
  clear hS; have hS := Lib.hid h1; clear h1
  have hl := (((((((((SB.start v1).lit2 0 0 (by omega) (by omega)).lit2 9223372036854775807 0 (by omega) (by omega)).lit1 9223372036854775808 (by omega)).lit1 9223372036854775808 (by omega)).lit1 9223372036854775809 (by omega)).lit1 1 (by omega)).lit2 5 1 (by omega) (by omega)).lit1 18446744073709551615 (by omega)).none_
  simp only [World.size_alloc] at hl
  have HL := Lib.hid hl
  clear hl
  have HB0 := Lib.hid hS.out.st.1
  go_wp2_with fail
  go_loopw [53] (fun i wr => ∃ k : Nat, k ≤ 9 ∧ i = .int .i64 k ∧ Below w.heap.size w wr ∧ v1.heap.size + 1 + 1 + 1 + 1 + 1 + 1 + 1 + 1 < wr.heap.size ∧ Rows1 (v1.heap.size + 1 + 1 + 1 + 1 + 1 + 1 + 1 + 1) 9 wr) (fun i _ => 9 - (intOf i).toNat)
  case atStart =>
    refine ⟨0, by omega, rfl, HB0.out.trans ((HL.out.st.1.mono HB0.out.size).trans ((Below.refl _ _).alloc (by simp only [World.size_alloc]; have := HB0.out.size; omega) _)), by simp only [World.size_alloc]; omega, ?_⟩
    exact rows1_at _ _ _ 9 (by simp only [World.size_alloc]) (by
      intro k hk
      have hk : k = 0 ∨ k = 1 ∨ k = 2 ∨ k = 3 ∨ k = 4 ∨ k = 5 ∨ k = 6 ∨ k = 7 ∨ k = 8 := by omega
      rcases hk with rfl | rfl | rfl | rfl | rfl | rfl | rfl | rfl | rfl
      · exact ⟨false, none, 0, 0, [], 0, 0, true, rfl, rfl, rfl, rfl, (HL.out.get (A := none) (n := 0) (c := 0) (k := 0) (xs := []) (v := 0) (by exact List.mem_cons_self)).1, by omega, by decide, by unfold SmOk; decide⟩
      · exact ⟨true, _, 2, 2, [0, 0], _, 0, true, rfl, rfl, rfl, rfl, (HL.out.get (k := 2) (xs := [0, 0]) (by repeat (first | exact List.mem_cons_self | apply List.mem_cons_of_mem))).1, by omega, rfl, by unfold SmOk; decide +kernel⟩
      · exact ⟨false, _, 2, 2, [9223372036854775807, 0], _, 9223372036854775807, true, rfl, rfl, rfl, rfl, (HL.out.get (k := 2) (xs := [9223372036854775807, 0]) (by repeat (first | exact List.mem_cons_self | apply List.mem_cons_of_mem))).1, by omega, rfl, by unfold SmOk; decide +kernel⟩
      · exact ⟨false, _, 1, 1, [9223372036854775808], _, 0, false, rfl, rfl, rfl, rfl, (HL.out.get (k := 1) (xs := [9223372036854775808]) (by repeat (first | exact List.mem_cons_self | apply List.mem_cons_of_mem))).1, by omega, rfl, by unfold SmOk; decide +kernel⟩
      · exact ⟨true, _, 1, 1, [9223372036854775808], _, -9223372036854775808, true, rfl, rfl, rfl, rfl, (HL.out.get (k := 1) (xs := [9223372036854775808]) (by repeat (first | exact List.mem_cons_self | apply List.mem_cons_of_mem))).1, by omega, rfl, by unfold SmOk; decide +kernel⟩
      · exact ⟨true, _, 1, 1, [9223372036854775809], _, 0, false, rfl, rfl, rfl, rfl, (HL.out.get (k := 1) (xs := [9223372036854775809]) (by repeat (first | exact List.mem_cons_self | apply List.mem_cons_of_mem))).1, by omega, rfl, by unfold SmOk; decide +kernel⟩
      · exact ⟨true, _, 1, 1, [1], _, -1, true, rfl, rfl, rfl, rfl, (HL.out.get (k := 1) (xs := [1]) (by repeat (first | exact List.mem_cons_self | apply List.mem_cons_of_mem))).1, by omega, rfl, by unfold SmOk; decide +kernel⟩
      · exact ⟨false, _, 2, 2, [5, 1], _, 0, false, rfl, rfl, rfl, rfl, (HL.out.get (k := 2) (xs := [5, 1]) (by repeat (first | exact List.mem_cons_self | apply List.mem_cons_of_mem))).1, by omega, rfl, by unfold SmOk; decide +kernel⟩
      · exact ⟨true, _, 1, 1, [18446744073709551615], _, 0, false, rfl, rfl, rfl, rfl, (HL.out.get (k := 1) (xs := [18446744073709551615]) (by repeat (first | exact List.mem_cons_self | apply List.mem_cons_of_mem))).1, by omega, rfl, by unfold SmOk; decide +kernel⟩)
  case round =>
    obtain ⟨k, hk, rfl, hb, hg, hr⟩ := hrel
    obtain ⟨wr1, rfl⟩ : ∃ x : World, x = wr := ⟨_, rfl⟩
    clear hS HL HB0
    have HB1 := Lib.hid hb
    have HG1 := Lib.hid hg
    have HR1 := Lib.hid hr
    clear hb hg hr
    by_cases hlt : k < 9
    · obtain ⟨b, A, m, c, xs, z, q, is, c0, c1, c2, c3, hsl, hm, hz, hsm⟩ := HR1.out k hlt
      have hcm := hsl.cap
      have hcx := hsl.max
      unfold maxLen at hcx
      have HSL := Lib.hid hsl
      have HZ := Lib.hid hz
      have HSM := Lib.hid hsm
      clear hsl hz hsm
      go_wp2_with fail
      clear c0 c1 c2 c3
      generalize hwb : World.alloc wr1 _ = wb
      obtain ⟨hc, hbb⟩ := Cs.made hwb
      have HC := Lib.hid hc
      have HBB := Lib.hid hbb
      clear hc hbb hwb
      have hS := Lib.hid (SB.base (HSL.out.below HBB.out) hm)
      obtain ⟨x0, x1, x2, x3⟩ := (HC.out.below hS.out.st.1).g4
      go_at_call 11
      with_reducible refine (small_g hS.out (by repeat (first | exact List.mem_cons_self | apply List.mem_cons_of_mem)) (by omega) HZ.out HSM.out).mono ?_
      rintro e v2 ⟨rfl, h1⟩
      clear x0 x1 x2 x3
      clear hS; have hS := Lib.hid h1; clear h1
      obtain ⟨x0, x1, x2, x3⟩ := (HC.out.below hS.out.st.1).g4
      go_wp2_with fail
      cases is
      · go_quiet (fail)
        clear x0 x1 x2 x3
        generalize hwa : World.drewN v2 _ = v3
        have h1 := hS.out.drewNs hwa
        clear hwa
        clear hS; have hS := Lib.hid h1; clear h1
        obtain ⟨x0, x1, x2, x3⟩ := (HC.out.below hS.out.st.1).g4
        have hend := HBB.out.trans (hS.out.st.1.mono HBB.out.size)
        have HE := Lib.hid hend
        clear hend hS
        clear x0 x1 x2 x3
        go_wp2
        go_roundw
        case rel => first | exact ⟨k + 1, by omega, by go_num, HB1.out.trans (HE.out.mono HB1.out.size), Nat.lt_of_lt_of_le HG1.out HE.out.size, HR1.out.below HG1.out HE.out⟩ | ((repeat apply Exists.intro); exact ⟨⟨k + 1, by omega, by go_num, HB1.out.trans (HE.out.mono HB1.out.size), Nat.lt_of_lt_of_le HG1.out HE.out.size, HR1.out.below HG1.out HE.out⟩, rfl⟩)
        case measure => simp [intOf]; omega
      · have hsm := HSM.out
        obtain ⟨hlo, hhi, rfl, -⟩ : -9223372036854775808 ≤ z ∧ z ≤ 9223372036854775807 ∧ q = z ∧ true = true := by
          rcases hsm with h | ⟨_, _, h⟩
          · exact h
          · cases h
        clear hsm
        have HLO := Lib.hid hlo
        have HHI := Lib.hid hhi
        clear hlo hhi
        clear x0 x1 x2 x3
        have h1 := hS.out.drew
        clear hS; have hS := Lib.hid h1; clear h1
        try simp only [List.append_eq, List.cons_append, List.nil_append]
        go_region_held3 (fun W => W.cell? ⟨wr1.heap.size, 0, none⟩ = some (.bool b) ∧ W.cell? ⟨wr1.heap.size, 1, none⟩ = some (.slice A m c) ∧ W.cell? ⟨wr1.heap.size, 2, none⟩ = some (.int .i64 q) ∧ W.cell? ⟨wr1.heap.size, 3, none⟩ = some (.bool true)) (first | exact (HC.out.below hS.out.st.1).g4 | exact (HC.out.below hS.out.drew.st.1).g4) (first
          | (go_at_call 13; (with_reducible refine (of_w hS.out HLO.out HHI.out).mono ?_); rintro e w' ⟨Ai, ni, ci, rfl, h1⟩; clear hS; have hS := Lib.hid h1; clear h1)
          | (go_at_call 14; (with_reducible refine (make_w hS.out (by repeat (first | exact List.mem_cons_self | apply List.mem_cons_of_mem)) (by omega) HZ.out).mono ?_); rintro e w' ⟨Ai, ni, ci, rfl, h1⟩; clear hS; have hS := Lib.hid h1; clear h1)
          | (go_at_call 12; (with_reducible refine (rsame_w hS.out (by repeat (first | exact List.mem_cons_self | apply List.mem_cons_of_mem)) (by repeat (first | exact List.mem_cons_self | apply List.mem_cons_of_mem)) (by with_reducible rfl) (by with_reducible rfl)).mono ?_); rintro e w' ⟨rfl, h1⟩; clear hS; have hS := Lib.hid h1; clear h1))
        obtain ⟨x0, x1, x2, x3⟩ := (HC.out.below hS.out.st.1).g4
        have hend := HBB.out.trans (hS.out.st.1.mono HBB.out.size)
        have HE := Lib.hid hend
        clear hend hS
        clear x0 x1 x2 x3
        go_wp2
        go_roundw
        case rel => first | exact ⟨k + 1, by omega, by go_num, HB1.out.trans (HE.out.mono HB1.out.size), Nat.lt_of_lt_of_le HG1.out HE.out.size, HR1.out.below HG1.out HE.out⟩ | ((repeat apply Exists.intro); exact ⟨⟨k + 1, by omega, by go_num, HB1.out.trans (HE.out.mono HB1.out.size), Nat.lt_of_lt_of_le HG1.out HE.out.size, HR1.out.below HG1.out HE.out⟩, rfl⟩)
        case measure => simp [intOf]; omega
    · have hk : k = 9 := by omega
      subst hk
      clear HR1 HG1
      go_wp2_with fail
      go_loopw [101] (fun i wr => ∃ k : Nat, k ≤ 9 ∧ i = .int .i64 k ∧ Below w.heap.size w wr ∧ wr1.heap.size < wr.heap.size ∧ Rows2 wr1.heap.size 9 wr) (fun i _ => 9 - (intOf i).toNat)
      case atStart =>
        exact ⟨0, by omega, rfl, HB1.out.alloc HB1.out.size _, by simp only [World.size_alloc]; omega, rows2_of _ _ _ 9 (by
          intro k hk
          have hk : k = 0 ∨ k = 1 ∨ k = 2 ∨ k = 3 ∨ k = 4 ∨ k = 5 ∨ k = 6 ∨ k = 7 ∨ k = 8 := by omega
          rcases hk with rfl | rfl | rfl | rfl | rfl | rfl | rfl | rfl | rfl
          · exact ⟨17, 5, 3, 2, 0, rfl, rfl, rfl, rfl, rfl, by decide, by decide, by decide, by decide, by decide, by decide, by decide⟩
          · exact ⟨17, -5, -3, 2, 0, rfl, rfl, rfl, rfl, rfl, by decide, by decide, by decide, by decide, by decide, by decide, by decide⟩
          · exact ⟨-17, 5, -4, 3, 0, rfl, rfl, rfl, rfl, rfl, by decide, by decide, by decide, by decide, by decide, by decide, by decide⟩
          · exact ⟨-17, -5, 4, 3, 0, rfl, rfl, rfl, rfl, rfl, by decide, by decide, by decide, by decide, by decide, by decide, by decide⟩
          · exact ⟨-15, 5, -3, 0, 0, rfl, rfl, rfl, rfl, rfl, by decide, by decide, by decide, by decide, by decide, by decide, by decide⟩
          · exact ⟨15, -5, -3, 0, 0, rfl, rfl, rfl, rfl, rfl, by decide, by decide, by decide, by decide, by decide, by decide, by decide⟩
          · exact ⟨-1, 1099511627776, -1, 1099511627775, 0, rfl, rfl, rfl, rfl, rfl, by decide, by decide, by decide, by decide, by decide, by decide, by decide⟩
          · exact ⟨0, -3, 0, 0, 0, rfl, rfl, rfl, rfl, rfl, by decide, by decide, by decide, by decide, by decide, by decide, by decide⟩
          · exact ⟨4, 9, 0, 4, 0, rfl, rfl, rfl, rfl, rfl, by decide, by decide, by decide, by decide, by decide, by decide, by decide⟩)⟩
      case round =>
        obtain ⟨k2, hk2, rfl, hb, hg, hr⟩ := hrel
        obtain ⟨wr2, rfl⟩ : ∃ x : World, x = wr := ⟨_, rfl⟩
        clear HB1
        have HB2 := Lib.hid hb
        have HG2 := Lib.hid hg
        have HR2 := Lib.hid hr
        clear hb hg hr
        by_cases hlt2 : k2 < 9
        · obtain ⟨X0, X1, X2, X3, X4, c0, c1, c2, c3, c4, ⟨l0, u0⟩, ⟨l1, u1⟩, ⟨l2, u2⟩, ⟨l3, u3⟩, hne, hq, hr⟩ := HR2.out k2 hlt2
          have HQ := Lib.hid hq
          have HR := Lib.hid hr
          have HN := Lib.hid hne
          clear hq hr hne
          go_wp2_with fail
          clear c0 c1 c2 c3 c4
          generalize hwb : World.alloc wr2 _ = wb
          obtain ⟨hc, hbb⟩ := Cs.made hwb
          have HC := Lib.hid hc
          have HBB := Lib.hid hbb
          clear hc hbb hwb
          have hS := Lib.hid (SB.start wb)
          refine wp_region_ri (fs [[.val 106 (.pointer (some ⟨wr2.heap.size, 0, none⟩))], [.val 107 (.int .i64 X0)], [.int 108 (X0) 1], [.val 109 (.pointer (some ⟨wr2.heap.size, 1, none⟩))], [.val 110 (.int .i64 X1)], [.int 111 (X1) 1], [.two 112 (X2) (X3) (1 + 1 + 1) 0], [.two 105 (X2) (X3) (1 + 1 + 1) 0], [.int 113 (X2) (1 + 1 + 1)], [.int 114 (X3) (1 + 1 + 1)], [.val 115 (.int .i64 0)], [.box 7], [.box 8], [.boxv 7 (X2) (1 + 1 + 1)], [.boxv 8 (X3) (1 + 1 + 1)], [.val 9 (.int .i64 0)]]) [7, 8, 9, 105, 106, 107, 108, 109, 110, 111, 112, 113, 114, 115] hS.out (by simp) ?_ (by kernel_rfl) ?_
          · intro i hi L a w' S T D hp hno
            match i, hi with
            | 0, _ =>
              exact st_pure (v := .pointer (some ⟨wr2.heap.size, 0, none⟩)) D rfl rfl rfl (by have p : a.eval (.tmp 6) = .pointer (some ⟨wr2.heap.size, 0, none⟩) := D.at0 rfl rfl; simp only [Act.eval] at p; simp only [execOp, Act.eval]; go_simp) (of_decide_eq_true rfl) (of_decide_eq_true rfl) rfl rfl rfl (fun a' ha' => ha')
            | 1, _ =>
              have p : a.eval (.tmp 106) = .pointer (some ⟨wr2.heap.size, 0, none⟩) := D.ft (hp 0 (by kernel_rfl)) rfl
              obtain ⟨s0, s1, s2, s3, s4⟩ := (HC.out.below D.sb.st.1).g5
              exact st_pure (v := .int .i64 X0) D rfl rfl rfl (by simp only [Act.eval] at p; simp only [execOp, Act.eval]; go_simp) (of_decide_eq_true rfl) (of_decide_eq_true rfl) rfl rfl rfl (fun a' ha' => ha')
            | 2, _ =>
              have p0 : a.eval (.tmp 107) = .int .i64 X0 := D.ft (hp 1 (by kernel_rfl)) rfl
              have hv : #[Operand.tmp 107].map a.eval = #[.int .i64 X0] := by simp only [List.map_toArray, List.map_cons, List.map_nil, p0]
              refine st_call D rfl hv Tryd.func13 (by kernel_rfl) rfl (of_w (z := X0) D.sb   l0 u0) rfl (of_decide_eq_true rfl) rfl rfl rfl ?_
              rintro e w2 ⟨A, n, c, rfl, h1⟩
              exact ⟨_, _, rfl, h1, fun t ht => List.mem_cons_of_mem _ ht, fun a' ha' => ⟨_, _, _, ha', List.mem_cons_self⟩⟩
            | 3, _ =>
              exact st_pure (v := .pointer (some ⟨wr2.heap.size, 1, none⟩)) D rfl rfl rfl (by have p : a.eval (.tmp 6) = .pointer (some ⟨wr2.heap.size, 0, none⟩) := D.at0 rfl rfl; simp only [Act.eval] at p; simp only [execOp, Act.eval]; go_simp) (of_decide_eq_true rfl) (of_decide_eq_true rfl) rfl rfl rfl (fun a' ha' => ha')
            | 4, _ =>
              have p : a.eval (.tmp 109) = .pointer (some ⟨wr2.heap.size, 1, none⟩) := D.ft (hp 3 (by kernel_rfl)) rfl
              obtain ⟨s0, s1, s2, s3, s4⟩ := (HC.out.below D.sb.st.1).g5
              exact st_pure (v := .int .i64 X1) D rfl rfl rfl (by simp only [Act.eval] at p; simp only [execOp, Act.eval]; go_simp) (of_decide_eq_true rfl) (of_decide_eq_true rfl) rfl rfl rfl (fun a' ha' => ha')
            | 5, _ =>
              have p0 : a.eval (.tmp 110) = .int .i64 X1 := D.ft (hp 4 (by kernel_rfl)) rfl
              have hv : #[Operand.tmp 110].map a.eval = #[.int .i64 X1] := by simp only [List.map_toArray, List.map_cons, List.map_nil, p0]
              refine st_call D rfl hv Tryd.func13 (by kernel_rfl) rfl (of_w (z := X1) D.sb   l1 u1) rfl (of_decide_eq_true rfl) rfl rfl rfl ?_
              rintro e w2 ⟨A, n, c, rfl, h1⟩
              exact ⟨_, _, rfl, h1, fun t ht => List.mem_cons_of_mem _ ht, fun a' ha' => ⟨_, _, _, ha', List.mem_cons_self⟩⟩
            | 6, _ =>
              obtain ⟨A0', n0', c0', p0, m0⟩ : Ft.ok a S T (.int 108 (X0) 1) := D.ft (hp 2 (by kernel_rfl)) rfl
              obtain ⟨A1', n1', c1', p1, m1⟩ : Ft.ok a S T (.int 111 (X1) 1) := D.ft (hp 5 (by kernel_rfl)) rfl
              have hv : #[Operand.tmp 108, Operand.tmp 111].map a.eval = #[.agg #[.bool (sg (X0)), .slice A0' n0' c0'], .agg #[.bool (sg (X1)), .slice A1' n1' c1']] := by simp only [List.map_toArray, List.map_cons, List.map_nil, p0, p1]
              refine st_call D rfl hv Tryd.func15 (by kernel_rfl) rfl (div_w D.sb m0 m1 (by omega) (by omega) (iv_sm _) (iv_sm _) HN.out) rfl (of_decide_eq_true rfl) rfl rfl rfl ?_
              rintro e w2 ⟨q, r, A, n, c, A', n', c', hq, hr, rfl, h1⟩
              obtain rfl : (X2) = q := by rw [← hq]; exact HQ.out.symm
              obtain rfl : (X3) = r := by rw [← hr]; exact HR.out.symm
              exact ⟨_, _, rfl, h1, fun t ht => List.mem_cons_of_mem _ (List.mem_cons_of_mem _ ht), fun a' ha' => ⟨_, _, _, _, _, _, ha', List.mem_cons_of_mem _ List.mem_cons_self, List.mem_cons_self⟩⟩
            | 7, _ =>
              obtain ⟨A, n, c, A', n', c', p, m1, m2⟩ : Ft.ok a S T (.two 112 (X2) (X3) (1 + 1 + 1) 0) := D.ft (hp 6 (by kernel_rfl)) rfl
              exact st_move D rfl p rfl (of_decide_eq_true rfl) rfl rfl rfl (fun a' ha' => ⟨_, _, _, _, _, _, ha', m1, m2⟩)
            | 8, _ =>
              obtain ⟨A, n, c, A', n', c', p, m1, m2⟩ : Ft.ok a S T (.two 105 (X2) (X3) (1 + 1 + 1) 0) := D.ft (hp 7 (by kernel_rfl)) rfl
              exact st_extract D rfl p rfl rfl (of_decide_eq_true rfl) rfl rfl rfl (fun a' ha' => ⟨_, _, _, ha', m1⟩)
            | 9, _ =>
              obtain ⟨A, n, c, A', n', c', p, m1, m2⟩ : Ft.ok a S T (.two 105 (X2) (X3) (1 + 1 + 1) 0) := D.ft (hp 7 (by kernel_rfl)) rfl
              exact st_extract D rfl p rfl rfl (of_decide_eq_true rfl) rfl rfl rfl (fun a' ha' => ⟨_, _, _, ha', m2⟩)
            | 10, _ =>
              obtain ⟨A, n, c, A', n', c', p, m1, m2⟩ : Ft.ok a S T (.two 105 (X2) (X3) (1 + 1 + 1) 0) := D.ft (hp 7 (by kernel_rfl)) rfl
              exact st_extract D rfl p rfl rfl (of_decide_eq_true rfl) rfl rfl rfl (fun a' ha' => ha')
            | 11, _ =>
              exact st_alloc D rfl rfl (of_decide_eq_true rfl) hno (by kernel_rfl) rfl
            | 12, _ =>
              exact st_alloc D rfl rfl (of_decide_eq_true rfl) hno (by kernel_rfl) rfl
            | 13, _ =>
              obtain ⟨A, n, c, p, m⟩ : Ft.ok a S T (.int 113 (X2) (1 + 1 + 1)) := D.ft (hp 8 (by kernel_rfl)) rfl
              exact st_store D rfl (hp 11 (by kernel_rfl)) rfl (by decide) p m rfl rfl
            | 14, _ =>
              obtain ⟨A, n, c, p, m⟩ : Ft.ok a S T (.int 114 (X3) (1 + 1 + 1)) := D.ft (hp 9 (by kernel_rfl)) rfl
              exact st_store D rfl (hp 12 (by kernel_rfl)) rfl (by decide) p m rfl rfl
            | 15, _ =>
              have p : a.eval (.tmp 115) = .int .i64 0 := D.ft (hp 10 (by kernel_rfl)) rfl
              exact st_assign D rfl p rfl (of_decide_eq_true rfl) rfl rfl rfl (fun a' ha' => ha')
            | i + 16, hi => exact absurd hi (by show ¬ (i + 16 < 16); omega)
          · intro a w5 S T hfr hsb hs0 hT0 hnd hf hsep hold
            obtain ⟨gq, Aq, nq, cq, eq, qq, mq⟩ : Ft.ok a S T (.boxv 7 (X2) (1 + 1 + 1)) := hf 13 (by decide) _ (List.mem_singleton.2 rfl)
            obtain ⟨gr, Ar, nr, cr, er, qr, mr⟩ : Ft.ok a S T (.boxv 8 (X3) (1 + 1 + 1)) := hf 14 (by decide) _ (List.mem_singleton.2 rfl)
            have ek9 : a.eval (.tmp 9) = .int .i64 0 := hf 15 (by decide) _ (List.mem_singleton.2 rfl)
            have h1 := hsb.pick (mem_more mr (mem_more mq hs0)) (mem_more qr (mem_more qq hT0))
            have hc := hfr.closed
            simp only [List.map_cons, List.map_nil] at hc
            rw [eq, er, ek9] at hc
            clear eq er ek9 hf hs0 hT0 hnd hfr hsb hsep hold mq mr qq qr
            generalize a.eval (.tmp 105) = u105 at hc
            generalize a.eval (.tmp 106) = u106 at hc
            generalize a.eval (.tmp 107) = u107 at hc
            generalize a.eval (.tmp 108) = u108 at hc
            generalize a.eval (.tmp 109) = u109 at hc
            generalize a.eval (.tmp 110) = u110 at hc
            generalize a.eval (.tmp 111) = u111 at hc
            generalize a.eval (.tmp 112) = u112 at hc
            generalize a.eval (.tmp 113) = u113 at hc
            generalize a.eval (.tmp 114) = u114 at hc
            generalize a.eval (.tmp 115) = u115 at hc
            subst hc
            clear hS; have hS := Lib.hid h1; clear h1
            simp only [putAll, List.foldl_cons, List.foldl_nil, Act.put, List.setIfInBounds_toArray, List.set_cons_zero, List.set_cons_succ]
            obtain ⟨x0, y0⟩ := hS.out.cs 0 rfl
            obtain ⟨x1, y1⟩ := hS.out.cs 1 rfl
            obtain ⟨s0, s1, s2, s3, s4⟩ := (HC.out.below hS.out.st.1).g5
            go_wp2_with fail
            clear x0 y0 x1 y1
            clear s0 s1 s2 s3 s4
            have h1 := hS.out.drew
            clear hS; have hS := Lib.hid h1; clear h1
            try simp only [List.append_eq, List.cons_append, List.nil_append]
            go_region_held3 (fun W => W.cell? ⟨gr, 0, none⟩ = some (.bool (sg X3)) ∧ W.cell? ⟨gr, 1, none⟩ = some (.slice Ar nr cr) ∧ W.cell? ⟨gq, 0, none⟩ = some (.bool (sg X2)) ∧ W.cell? ⟨gq, 1, none⟩ = some (.slice Aq nq cq) ∧ W.cell? ⟨wr2.heap.size, 2, none⟩ = some (.int .i64 X2) ∧ W.cell? ⟨wr2.heap.size, 3, none⟩ = some (.int .i64 X3)) (first | exact ⟨(hS.out.cs 0 rfl).1, (hS.out.cs 0 rfl).2, (hS.out.cs 1 rfl).1, (hS.out.cs 1 rfl).2, (HC.out.below hS.out.st.1).g5.2.2.1, (HC.out.below hS.out.st.1).g5.2.2.2.1⟩ | exact ⟨(hS.out.drew.cs 0 rfl).1, (hS.out.drew.cs 0 rfl).2, (hS.out.drew.cs 1 rfl).1, (hS.out.drew.cs 1 rfl).2, (HC.out.below hS.out.drew.st.1).g5.2.2.1, (HC.out.below hS.out.drew.st.1).g5.2.2.2.1⟩) (first
              | (go_at_call 13; (with_reducible refine (of_w (z := X2) hS.out l2 u2).mono ?_); rintro e w' ⟨Ai, ni, ci, rfl, h1⟩; clear hS; have hS := Lib.hid h1; clear h1)
              | (go_at_call 13; (with_reducible refine (of_w (z := X3) hS.out l3 u3).mono ?_); rintro e w' ⟨Ai, ni, ci, rfl, h1⟩; clear hS; have hS := Lib.hid h1; clear h1)
              | (go_at_call 12; (with_reducible refine (rsame_w hS.out (by repeat (first | exact List.mem_cons_self | apply List.mem_cons_of_mem)) (by repeat (first | exact List.mem_cons_self | apply List.mem_cons_of_mem)) (by with_reducible rfl) (by with_reducible rfl)).mono ?_); rintro e w' ⟨rfl, h1⟩; clear hS; have hS := Lib.hid h1; clear h1))
            have hend := HBB.out.trans (hS.out.st.1.mono HBB.out.size)
            have HE := Lib.hid hend
            clear hend hS
            go_wp2
            go_roundw
            case rel => first | exact ⟨k2 + 1, by omega, by go_num, HB2.out.trans (HE.out.mono HB2.out.size), Nat.lt_of_lt_of_le HG2.out HE.out.size, HR2.out.below HG2.out HE.out⟩ | ((repeat apply Exists.intro); exact ⟨⟨k2 + 1, by omega, by go_num, HB2.out.trans (HE.out.mono HB2.out.size), Nat.lt_of_lt_of_le HG2.out HE.out.size, HR2.out.below HG2.out HE.out⟩, rfl⟩)
            case measure => simp [intOf]; omega
        · have hk : k2 = 9 := by omega
          subst hk
          clear HR2 HG2
          go_wp2_with fail
          go_loopw [149] (fun i wr => ∃ k : Nat, k ≤ 12 ∧ i = .int .i64 k ∧ Below w.heap.size w wr ∧ wr2.heap.size < wr.heap.size ∧ Rows3 wr2.heap.size 12 wr) (fun i _ => 12 - (intOf i).toNat)
          case atStart =>
            exact ⟨0, by omega, rfl, HB2.out.alloc HB2.out.size _, by simp only [World.size_alloc]; omega, rows3_of _ _ _ 12 (by
              intro k hk
              have hk : k = 0 ∨ k = 1 ∨ k = 2 ∨ k = 3 ∨ k = 4 ∨ k = 5 ∨ k = 6 ∨ k = 7 ∨ k = 8 ∨ k = 9 ∨ k = 10 ∨ k = 11 := by omega
              rcases hk with rfl | rfl | rfl | rfl | rfl | rfl | rfl | rfl | rfl | rfl | rfl | rfl
              · exact ⟨[], 4, 0, rfl, rfl, by decide, by decide +kernel, by decide +kernel, by decide⟩
              · exact ⟨[45], 4, 0, rfl, rfl, by decide, by decide +kernel, by decide +kernel, by decide⟩
              · exact ⟨[45, 48], 3, 0, rfl, rfl, by decide, by decide +kernel, by decide +kernel, by decide⟩
              · exact ⟨[45, 45, 49], 3, 0, rfl, rfl, by decide, by decide +kernel, by decide +kernel, by decide⟩
              · exact ⟨[43, 49], 3, 0, rfl, rfl, by decide, by decide +kernel, by decide +kernel, by decide⟩
              · exact ⟨[48, 48, 55], 3, 0, rfl, rfl, by decide, by decide +kernel, by decide +kernel, by decide⟩
              · exact ⟨[45, 48, 49], 3, 0, rfl, rfl, by decide, by decide +kernel, by decide +kernel, by decide⟩
              · exact ⟨[49, 97], 3, 0, rfl, rfl, by decide, by decide +kernel, by decide +kernel, by decide⟩
              · exact ⟨[32, 49], 3, 0, rfl, rfl, by decide, by decide +kernel, by decide +kernel, by decide⟩
              · exact ⟨[49, 45], 3, 0, rfl, rfl, by decide, by decide +kernel, by decide +kernel, by decide⟩
              · exact ⟨[48], 0, 0, rfl, rfl, by decide, by decide +kernel, by decide +kernel, by decide⟩
              · exact ⟨[45, 49, 48], 0, -10, rfl, rfl, by decide, by decide +kernel, by decide +kernel, by decide⟩)⟩
          case round =>
            obtain ⟨k3, hk3, rfl, hb, hg, hr⟩ := hrel
            obtain ⟨wr3, rfl⟩ : ∃ x : World, x = wr := ⟨_, rfl⟩
            clear HB2
            have HB3 := Lib.hid hb
            have HG3 := Lib.hid hg
            have HR3 := Lib.hid hr
            clear hb hg hr
            by_cases hlt3 : k3 < 12
            · obtain ⟨bs, e3, y, c0, c1, hlen, hj, hy, h0y⟩ := HR3.out k3 hlt3
              have HJ := Lib.hid hj
              have HY := Lib.hid hy
              have H0 := Lib.hid h0y
              clear hj hy h0y
              go_wp2_with fail
              clear c0 c1
              generalize hwb : World.alloc wr3 _ = wb
              obtain ⟨hc, hbb⟩ := Cs.made hwb
              have HC := Lib.hid hc
              have HBB := Lib.hid hbb
              clear hc hbb hwb
              have hS := Lib.hid (SB.start wb)
              obtain ⟨s0, s1⟩ := (HC.out.below hS.out.st.1).g2
              go_at_call 16
              with_reducible refine (read_w hS.out bs hlen HJ.out HY.out).mono ?_
              rintro e v2 ⟨Ay, ny, cy, rfl, h1⟩
              clear s0 s1
              clear hS; have hS := Lib.hid h1; clear h1
              have h1 := (hS.out.boxed (b := sg y) (A := Ay) (n := ny) (c := cy) rfl)
              obtain ⟨p0, q0⟩ := h1.cs 0 rfl
              obtain ⟨s0, s1⟩ := (HC.out.below h1.st.1).g2
              clear h1
              by_cases he3 : e3 = 0
              · subst he3
                have hb3 := hS.out.boxed (b := sg y) (A := Ay) (n := ny) (c := cy) rfl
                have HS2 := Lib.hid hb3
                clear hb3 hS
                have hS := HS2
                clear HS2
                have hend := HBB.out.trans (hS.out.st.1.mono HBB.out.size)
                have HE := Lib.hid hend
                clear hend hS
                go_wp2
                go_roundw
                case rel => first | exact ⟨k3 + 1, by omega, by go_num, HB3.out.trans (HE.out.mono HB3.out.size), Nat.lt_of_lt_of_le HG3.out HE.out.size, HR3.out.below HG3.out HE.out⟩ | ((repeat apply Exists.intro); exact ⟨⟨k3 + 1, by omega, by go_num, HB3.out.trans (HE.out.mono HB3.out.size), Nat.lt_of_lt_of_le HG3.out HE.out.size, HR3.out.below HG3.out HE.out⟩, rfl⟩)
                case measure => simp [intOf]; omega
              · have hy0 : y = 0 := H0.out he3
                subst hy0
                have hne : (e3 != 0) = true := by simpa using he3
                go_wp2_with fail
                clear p0 q0 s0 s1
                generalize hwa : World.alloc v2 _ = v3 at *
                have h1 := (hS.out.boxed hwa)
                clear hwa
                clear hS; have hS := Lib.hid h1; clear h1
                go_at_call 12
                with_reducible refine (rsame_w hS.out.none_ (List.mem_cons_of_mem _ (by repeat (first | exact List.mem_cons_self | apply List.mem_cons_of_mem))) List.mem_cons_self sg_0 (by rw [mg_0, limbs_zero])).mono ?_
                rintro e v4 ⟨rfl, h1⟩
                clear hS; have hS := Lib.hid h1; clear h1
                have hend := HBB.out.trans (hS.out.st.1.mono HBB.out.size)
                have HE := Lib.hid hend
                clear hend hS
                go_wp2
                go_roundw
                case rel => first | exact ⟨k3 + 1, by omega, by go_num, HB3.out.trans (HE.out.mono HB3.out.size), Nat.lt_of_lt_of_le HG3.out HE.out.size, HR3.out.below HG3.out HE.out⟩ | ((repeat apply Exists.intro); exact ⟨⟨k3 + 1, by omega, by go_num, HB3.out.trans (HE.out.mono HB3.out.size), Nat.lt_of_lt_of_le HG3.out HE.out.size, HR3.out.below HG3.out HE.out⟩, rfl⟩)
                case measure => simp [intOf]; omega
            · have hk : k3 = 12 := by omega
              subst hk
              clear HR3 HG3
              have hS := Lib.hid (show SB w wr3 [] [] from (SB.start w).belows HB3.out)
              go_wp2_with fail
              go_at_call 13
              with_reducible refine (of_w (z := 1) hS.out (by omega) (by omega)).mono ?_
              rintro e v1 ⟨A1, n1, c1, rfl, h1⟩
              clear hS; have hS := Lib.hid h1; clear h1
              have h1 := hS.out.lit1 0 (by omega)
              go_wp2_with fail
              generalize hwa : World.alloc v1 _ = v2 at *
              clear hwa
              clear hS; have hS := Lib.hid h1; clear h1
              go_at_call 15
              with_reducible refine (div_x (b' := true) hS.out (by repeat (first | exact List.mem_cons_self | apply List.mem_cons_of_mem)) (by repeat (first | exact List.mem_cons_self | apply List.mem_cons_of_mem)) (by omega) (by omega) (by decide)).mono ?_
              rintro e v3 ⟨Ay, ny, cy, Az, nz, cz, rfl, h1⟩
              clear hS; have hS := Lib.hid h1; clear h1
              go_wp2_with fail
              generalize hwa : World.alloc (World.alloc v3 _) _ = v4
              have h1 := ((hS.out.allocs rfl).allocs hwa)
              clear hwa
              clear hS; have hS := Lib.hid h1; clear h1
              go_wp2_with fail
              go_at_call 17
              with_reducible refine (may_w (q := true) hS.out.none_ List.mem_cons_self (by omega) (by decide)).mono ?_
              rintro e v5 ⟨rfl, h1⟩
              clear hS; have hS := Lib.hid h1; clear h1
              go_wp2_with fail
              go_at_call 17
              with_reducible refine (may_w (q := false) hS.out.none_ List.mem_cons_self (by omega) (by decide)).mono ?_
              rintro e v6 ⟨rfl, h1⟩
              clear hS; have hS := Lib.hid h1; clear h1
              go_wp2_with fail
              go_at_call 17
              with_reducible refine (may_w (q := false) (hS.out.lit1 0 (by omega)) List.mem_cons_self (by omega) (by decide)).mono ?_
              rintro e v7 ⟨rfl, h1⟩
              clear hS; have hS := Lib.hid h1; clear h1
              go_wp2_with fail
              go_at_call 17
              with_reducible refine (may_w (q := false) (hS.out.lit2 1 0 (by omega) (by omega)) List.mem_cons_self (by omega) (by decide)).mono ?_
              rintro e v8 ⟨rfl, h1⟩
              clear hS; have hS := Lib.hid h1; clear h1
              go_wp2_with fail
              go_at_call 14
              with_reducible refine (make_w (z := -18446744073709551616) (hS.out.lit2 0 1 (by omega) (by omega)) List.mem_cons_self (by omega) (by decide)).mono ?_
              rintro e v9 ⟨Am, nm, cm, rfl, h1⟩
              clear hS; have hS := Lib.hid h1; clear h1
              go_wp2_with fail
              go_at_call 18
              with_reducible refine (show_w (X := [45, 49, 56, 52, 52, 54, 55, 52, 52, 48, 55, 51, 55, 48, 57, 53, 53, 49, 54, 49, 54]) hS.out List.mem_cons_self (by omega) (iv_sm _) (by decide +kernel)).mono ?_
              rintro e v10 ⟨rfl, h1⟩
              clear hS; have hS := Lib.hid h1; clear h1
              go_wp2_with fail
              go_at_call 18
              with_reducible refine (show_w (z := 0) (X := [48]) (hS.out.lit1 0 (by omega)) List.mem_cons_self (by omega) (by decide) (by decide +kernel)).mono ?_
              rintro e v11 ⟨rfl, h1⟩
              clear hS; have hS := Lib.hid h1; clear h1
              go_wp2_with fail
              go_at_call 19
              with_reducible refine (sign_q (z := 0) (q := 0) (hS.out.lit1 0 (by omega)) List.mem_cons_self (by omega) (by decide) (by decide)).mono ?_
              rintro e v12 ⟨rfl, h1⟩
              clear hS; have hS := Lib.hid h1; clear h1
              go_wp2
              go_ret
              exact ⟨rfl, hS.out.st.1⟩
set_option maxRecDepth 100000 in
theorem lifted (os : Os) (started : os.Started) (H : Type) (enc : TypeId × Value → H) :
    ReturnsInHanded {} Tryd.checked os 3 .any (fun w args => (Rows.wholeNamesSpec.pre enc Tryd.prog Tryd.f3 Rows.wholeNamesRow.domain false w args ∧ laidMetH Tryd.prog Rows.wholeNamesRow.laid w) ∧ sizedMet enc Tryd.prog Tryd.f3 (OpenSpec.ofChange Rows.wholeNamesSpec) false w args) (Rows.wholeNamesSpec.post enc Tryd.prog Tryd.f3 false true false false) := by
  refine returnsInHanded_of_change_and (C := Tryd.checked) (X := fun w _ => laidMetH Tryd.prog Rows.wholeNamesRow.laid w) (fun _ _ _ hh h => h.of_heap hh) own started (by kernel_rfl) Tryd.func3
    (ChangeSpec.witness_shaped (enc := enc) (C := Tryd.checked) (os := os) (X := fun w _ => laidMetH Tryd.prog Rows.wholeNamesRow.laid w) false (World.laidAll Tryd.prog os Rows.wholeNamesRow.laid) #[] 8 (World.laidAll_os _ _ _)
      (World.shaped_of_ZipB (by kernel_rfl) (by kernel_rfl)) (by kernel_rfl) (by kernel_rfl) (by kernel_rfl)
      (by rw [MakeChecks.laidMetH_plain _ _ _ (by kernel_rfl)]; exact laidMet_laidAll _ (by kernel_rfl) (by kernel_rfl))) ?_
  intro W base args ds gs before hval0 hW hcnd _ _ _
  have hval : ∀ (j : Nat) t v, Tryd.f3.params[j]? = some t → args[j]? = some v → Value.okWide Tryd.prog W .any base t v := hval0
  have hW' := hW
  obtain ⟨p, q, hA0, hV, hpq, hfz, hnd⟩ := hW
  have hA : DataW.TrodAll enc Tryd.prog W 0 (fun _ => true) true Tryd.f3.params.toList args.toList ds p := hA0
  rw [Tryd.params3] at hA hval
  obtain ⟨hargs, rfl, rfl⟩ := trodAll_nil hA
  obtain rfl : args = #[] := by cases args; simp_all
  obtain ⟨rfl, rfl⟩ := trodVars_none hV
  refine (walk W ).mono fun e W' ⟨he, hb⟩ => ?_
  subst he
  exact ⟨_, rfl, Frame.close laidOut hW' rfl rfl rfl Tryd.underlying4 (fun t ht => by rw [Tryd.params3] at ht; cases ht) hb⟩
theorem over : Rows.wholeNamesRow.holds Tryd.pinned (OpenSpec.ofChange Rows.wholeNamesSpec) :=
  OpenClaim.holds_of_wide 3 Tryd.f3 rfl rfl rfl rfl rfl rfl rfl ⟨rfl, rfl, rfl, rfl, rfl⟩ rfl rfl rfl rfl rfl (by kernel_rfl) Tryd.func3 (by kernel_rfl)
    (of_decide_eq_true (by kernel_rfl)) (by unfold Func.isWrapper; first | (rw [if_pos (by decide +kernel)]; kernel_rfl) | (rw [if_neg (by decide +kernel)]; exact ⟨rfl, rfl⟩))
    (fun os started H enc _ => lifted os started H enc)
/-- the statement -/
theorem proved : Rows.WholeNamesCardSaid :=
  Claim7.holds_tied_plain_at .later [] _ _ _ _ over (fun _ h => by cases h) (by kernel_rfl) (fun _ h => by cases h) wholeNames_row_tie rfl ⟨rfl, rfl⟩ (by kernel_rfl) rfl
    (fun f fn hf hfn => by
      obtain rfl : f = 3 := Option.some.inj ((show Tryd.prog.funcNamed "tombola/tombolalaw05.WholeNames" = some 3 by kernel_rfl).symm.trans hf) |>.symm
      obtain rfl : fn = Tryd.f3 := (Option.some.inj (Tryd.func3.symm.trans hfn)).symm
      exact ⟨by kernel_rfl, (fun j t ht => by rw [Tryd.params3] at ht; cases ht)⟩)
    (by kernel_rfl)
#print axioms proved
end Go.Proofs.YtgahnchfefngeaaDoor.wholeNames
