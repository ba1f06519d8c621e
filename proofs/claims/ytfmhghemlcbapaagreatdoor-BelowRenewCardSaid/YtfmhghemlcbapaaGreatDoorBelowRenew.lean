/-
  PROVED: the statement BelowRenew (tombolalaw09.BelowRenew) about the landed commit: for every input the law returns true and leaves its arguments as they were. Conditions: none beyond those that the given row itself prints.
-/
import Derived.Test.YtfmhghemlcbapaaGreatDoorCards
import Derived.Test.YtfmhghemlcbapaaGreatDoorTie
import Derived.LaidMore
import Derived.Lay
import Derived.SevenTiedAt
import Derived.Stop.Joined
import Derived.Test.YtfmhghemlcbapaaGreatDoorRows
import Derived.WalkKit
import Derived.ProofKit
import Derived.OpenShut
import Derived.RowKit3
import Derived.Test.YtfmhghemlcbapaaGreatDoorGFrame
import Derived.Test.YtfmhghemlcbapaaGreatDoorBelAwake
import Derived.Test.YtfmhghemlcbapaaGreatDoorRatS2
import Derived.Test.YtfmhghemlcbapaaGreatDoorBelRat
import Derived.Deep.RegionHeld3
namespace Go.Proofs.YtfmhghemlcbapaaGreatDoor.belowRenew
open Go.ChangeShapes Go.WideShapes Go.ChangeAt Go.RowKit
set_option linter.unusedVariables false
set_option linter.unusedSimpArgs false
set_option maxRecDepth 20000
open N
theorem own : ownKnob Tryz.prog.godebug = none := by kernel_rfl
open RC
set_option maxRecDepth 100000 in
set_option maxHeartbeats 40000000 in
theorem walk (w : World) (a0 : Int) (w0 : (Lit.int .u64 a0).wf = true) :
    Calls Tryz.prog 5 #[.int .u64 a0] w fun e w' => e = .returned (.bool true) ∧ Below w.heap.size w w' := by
  have hx := bounds_u64 w0
  obtain ⟨m, rfl⟩ := Int.eq_ofNat_of_zero_le hx.1
  have hm : m < 18446744073709551616 := by omega
  clear hx
  by_cases h0 : m = 0
  · subst h0
    have HB := Lib.hid (Below.refl w.heap.size w)
    clear hm
    go_enter Tryz.func5, Tryz.ntmps5
    go_wp2_with (first
      | (go_at_call 12; refine (awake9 _).mono ?_; rintro e w1 ⟨rfl, hb⟩; have HB2 := Lib.hid (HB.out.trans (hb.mono HB.out.size)); clear hb HB; have HB := HB2; clear HB2))
    go_ret
    first
      | exact ⟨rfl, HB.out⟩
      | (refine ⟨?_, HB.out⟩; simp)
  · by_cases h1 : 1 < m
    · have HM := Lib.hid (show m < 18446744073709551616 ∧ 0 < m by omega)
      have hne : ¬ (m : Int) = 0 := by omega
      have HW := Lib.hid (fun W : World => width_any W m hm)
      obtain ⟨rc, hrc⟩ : ∃ r, cR m = r := ⟨_, rfl⟩
      have HRC := Lib.hid hrc
      unfold cR at hrc
      have hb64 := wd_64 hm
      have hP := wd_le m
      obtain ⟨b, hb⟩ : ∃ b, wd m = b := ⟨_, rfl⟩
      have hpos := @wd_pos m
      have hzr := @wd_zero m
      rw [hb] at HW hb64 hrc hP hpos hzr
      clear hb
      obtain ⟨P, hPP⟩ : ∃ P : Nat, 2 ^ b = P := ⟨_, rfl⟩
      have hPi : (2 : Int) ^ b = (P : Int) := by rw [← hPP]; exact (Int.natCast_pow 2 b).symm
      have hP0 : 0 < P := by rw [← hPP]; exact Nat.two_pow_pos b
      rw [hPP] at hP
      rw [hPi] at hrc
      have wdm : W.Wd (m : Int) := by unfold W.Wd; omega
      have hb0 : 0 ≤ (b : Int) := by omega
      have hb1 : (b : Int) ≤ 65536 := by omega
      have hp : (1 : Int) * 2 ^ (b : Int).toNat = (P : Int) := by rw [Int.toNat_natCast, Int.one_mul]; exact hPi
      have hpp : 0 < (P : Int) := by omega
      obtain ⟨cq, hcq⟩ : ∃ q, cmpI (m : Int) (P : Int) = q := ⟨_, rfl⟩
      have hcq0 : ¬ 0 < cq := by
        rw [← hcq]
        unfold cmpI
        split
        · decide
        · split <;> omega
      have hle : (m : Int) ≤ (P : Int) := by omega
      obtain ⟨ov, hov⟩ : ∃ r, (P : Int) - (m : Int) = r := ⟨_, rfl⟩
      obtain ⟨rf, hrf⟩ : ∃ r, rv false ov (P : Int) = r := ⟨_, rfl⟩
      have HRF := Lib.hid hrf
      obtain ⟨q1, hq1⟩ : ∃ q, rs (rc - mkRat (b : Int) 1) = q := ⟨_, rfl⟩
      have hq1n : q1 = 0 ∨ q1 = 1 := by
        have h9 : ¬ q1 < 0 := by rw [← hq1, ← hrc]; exact cost_ge (by omega) hP
        rcases rs_cases (rc - mkRat (b : Int) 1) with ⟨_, e⟩ | ⟨_, e⟩ | ⟨_, e⟩ <;> omega
      have F1 := Lib.hid hq1
      have F3 := Lib.hid (show mkRat (b : Int) 1 + rf * rc = rc by
        rw [← hrf, ← hrc, ← hov]
        unfold rv iv
        simp only [Bool.false_eq_true, if_false, Int.toNat_natCast]
        exact cost_renew (by omega) hP0)
      have hz1 : ¬ (b : Int) < 0 := by omega
      have hz2 : ¬ 64 < (b : Int) := by omega
      have HRC2 := Lib.hid hrc
      clear hq1 hrf hrc
      obtain ⟨hbp, hpw⟩ := hpos h1
      have hb3 : 0 < (b : Int) := by omega
      have hm3 : 1 < (m : Int) := by omega
      obtain ⟨bp, hbb⟩ : ∃ p, b = p + 1 := ⟨b - 1, by omega⟩
      have hw1 : IntKind.i64.wrap ((b : Int) - 1) = (bp : Int) := by rw [IntKind.wrap_i64]; omega
      obtain ⟨Q, hQ⟩ : ∃ Q : Nat, 2 ^ bp = Q := ⟨_, rfl⟩
      have hQP : P = 2 * Q := by rw [← hPP, ← hQ, hbb, Nat.pow_succ]; omega
      have hQm : Q < m := by rw [hbb, Nat.add_sub_cancel, hQ] at hpw; exact hpw
      have hQi : (2 : Int) ^ bp = (Q : Int) := by rw [← hQ]; exact (Int.natCast_pow 2 bp).symm
      have hsh : IntKind.u64.wrap ((2 : Int) ^ min bp 64) = (Q : Int) := by rw [Nat.min_eq_left (by omega), hQi, IntKind.wrap_u64]; omega
      have hQ2 : ¬ (m : Int) ≤ (Q : Int) := by omega
      have hw2 : IntKind.i64.wrap (2 * (b : Int)) = 2 * (b : Int) := by rw [IntKind.wrap_i64]; omega
      obtain ⟨q2, hq2⟩ : ∃ q, rs (rc - mkRat (2 * (b : Int)) 1) = q := ⟨_, rfl⟩
      have hq2n : q2 = -1 := by
        have h9 : ¬ 0 ≤ q2 := by rw [← hq2, ← HRC2.out]; exact cost_lt (by omega) hbp (by omega)
        rcases rs_cases (rc - mkRat (2 * (b : Int)) 1) with ⟨_, e⟩ | ⟨_, e⟩ | ⟨_, e⟩ <;> omega
      subst hq2n
      have F2 := Lib.hid hq2
      clear hq2 hpw hbb hQ hQP hQm hQi hpos hzr hb64 hP hPP hPi hm h0 h1 hbp
      rcases hq1n with e | e
      all_goals
        subst e
        have hS := Lib.hid (SC.start w)
        go_enter Tryz.func5, Tryz.ntmps5
        go_wp2_with fail
        go_at_call 12
        with_reducible refine (awake9 _).mono ?_
        rintro e v1 ⟨rfl, hb⟩
        have h1 := hS.out.below hb
        clear hb
        clear hS; have hS := Lib.hid h1; clear h1
        go_wp2_with fail
        go_at_call 9
        with_reducible refine (HW.out _).mono ?_
        rintro e v2 ⟨rfl, hb⟩
        have h1 := hS.out.below hb
        clear hb
        clear hS; have hS := Lib.hid h1; clear h1
        go_wp2_with fail
        go_at_call 18
        with_reducible refine (shl_c (q := (b : Int)) (r := (P : Int)) (hS.out.lit1 1 (by decide)) (by repeat (first | exact List.mem_cons_self | apply List.mem_cons_of_mem)) (by omega) hb0 hb1 hp).mono ?_
        rintro e v3 ⟨A1, n1, c1, rfl, h1⟩
        have h1 := h1.drop
        clear hS; have hS := Lib.hid h1; clear h1
        go_wp2_with fail
        go_at_call 20
        with_reducible refine (nof_c (x := (m : Int)) hS.out wdm).mono ?_
        rintro e v4 ⟨A2, n2, c2, rfl, h1⟩
        have h1 := h1.drop
        clear hS; have hS := Lib.hid h1; clear h1
        go_wp2_with fail
        go_at_call 19
        with_reducible refine (ncmp_c (q := cq) hS.out (by repeat (first | exact List.mem_cons_self | apply List.mem_cons_of_mem)) (by omega) (by repeat (first | exact List.mem_cons_self | apply List.mem_cons_of_mem)) (by omega) hcq).mono ?_
        rintro e v5 ⟨rfl, h1⟩
        clear hS; have hS := Lib.hid h1; clear h1
        go_wp2_with fail
        go_at_call 7
        with_reducible refine (cost_lit _ (m := m) (x := (m : Int)) (r := rc) rfl HM.out.1 HM.out.2 HRC.out).mono ?_
        rintro e v6 ho
        obtain ⟨Ac, nc, cc, Ac', nc', cc', rfl, h1⟩ := hS.out.tRE9 (Nat.le_refl _) ho
        clear hS; have hS := Lib.hid h1; clear h1
        have h1 := (hS.out.boxed (vs := [.bool (sg (rc).num), .slice Ac nc cc, .slice Ac' nc' cc']) (ty := 28) rfl rfl)
        try simp only [World.size_alloc] at h1
        obtain ⟨p0_0, p1_0, p2_0⟩ := h1.cs3 0 rfl
        clear h1
        go_wp2_with fail
        clear p0_0 p1_0 p2_0
        generalize hwa : World.alloc v6 _ = v7
        have h1 := (hS.out.boxed (vs := [.bool (sg (rc).num), .slice Ac nc cc, .slice Ac' nc' cc']) (ty := 28) rfl hwa)
        have hsz : v7.heap.size = v6.heap.size + 1 := by rw [← hwa]; simp only [World.size_alloc]
        try rw [← hsz]
        clear hwa hsz
        clear hS; have hS := Lib.hid h1; clear h1
        obtain ⟨x0_0, x1_0, x2_0⟩ := hS.out.cs3 0 rfl
        go_wp2_with fail
        clear x0_0 x1_0 x2_0
        have h1 := hS.out.drew
        clear hS; have hS := Lib.hid h1; clear h1
        try simp only [List.append_eq, List.cons_append, List.nil_append]
        go_region_held3 (fun W => (W.cell? ⟨v6.heap.size, 0, none⟩ = some (.bool (sg (rc).num)) ∧ W.cell? ⟨v6.heap.size, 1, none⟩ = some (.slice Ac nc cc) ∧ W.cell? ⟨v6.heap.size, 2, none⟩ = some (.slice Ac' nc' cc'))) (first | with_reducible exact hS.out.cs3 0 rfl | with_reducible exact hS.out.drew.cs3 0 rfl | with_reducible exact (hS.out.alloc _).cs3 0 rfl | with_reducible exact ((hS.out.alloc _).alloc _).cs3 0 rfl) (first
          | (go_at_call 22; (with_reducible refine (fof_9 hS.out (by omega) (by omega)).mono ?_); rintro e w' ⟨r, Ai, ni, ci, Ai', ni', ci', hr, rfl, h1⟩; clear hS; have hS := Lib.hid h1; clear h1)
          | (go_at_call 21; (with_reducible refine (fcmp_9 hS.out (by repeat (first | exact List.mem_cons_self | apply List.mem_cons_of_mem)) (by repeat (first | exact List.mem_cons_self | apply List.mem_cons_of_mem)) (by repeat (first | exact List.mem_cons_self | apply List.mem_cons_of_mem)) (by repeat (first | exact List.mem_cons_self | apply List.mem_cons_of_mem)) (by decide) (by decide) (rv_self _) (rv_self _) (by first | exact F1.out | (subst_vars; exact F1.out) | exact F2.out | (subst_vars; exact F2.out))).mono ?_); rintro e w' ⟨rfl, h1⟩; clear hS; have hS := Lib.hid h1; clear h1))
        obtain ⟨x0_0, x1_0, x2_0⟩ := hS.out.cs3 0 rfl
        go_wp2_with fail
        go_at_call 20
        with_reducible refine (nof_c (x := (m : Int)) hS.out wdm).mono ?_
        rintro e v8 ⟨A4, n4, c4, rfl, h1⟩
        clear x0_0 x1_0 x2_0
        have h1 := h1.drop
        clear hS; have hS := Lib.hid h1; clear h1
        obtain ⟨x0_0, x1_0, x2_0⟩ := hS.out.cs3 0 rfl
        go_wp2_with fail
        go_at_call 23
        with_reducible refine (nsub_9 (r := ov) hS.out (by repeat (first | exact List.mem_cons_self | apply List.mem_cons_of_mem)) (by omega) (by repeat (first | exact List.mem_cons_self | apply List.mem_cons_of_mem)) (by omega) hle hov).mono ?_
        rintro e v9 ⟨A5, n5, c5, rfl, h1⟩
        clear x0_0 x1_0 x2_0
        have h1 := h1.drop
        clear hS; have hS := Lib.hid h1; clear h1
        obtain ⟨x0_0, x1_0, x2_0⟩ := hS.out.cs3 0 rfl
        go_wp2_with fail
        go_at_call 24
        with_reducible refine (fmk_c (b := false) (M := 1030) (r := rf) hS.out (by repeat (first | exact List.mem_cons_self | apply List.mem_cons_of_mem)) (by repeat (first | exact List.mem_cons_self | apply List.mem_cons_of_mem)) (by omega) (by omega) (by omega) hpp HRF.out).mono ?_
        rintro e v10 ⟨Af, nf, cf, Af', nf', cf', rfl, h1⟩
        clear x0_0 x1_0 x2_0
        have h1 := h1.drop
        clear hS; have hS := Lib.hid h1; clear h1
        obtain ⟨x0_0, x1_0, x2_0⟩ := hS.out.cs3 0 rfl
        have h1 := (hS.out.boxed (vs := [.bool (sg (rf).num), .slice Af nf cf, .slice Af' nf' cf']) (ty := 28) rfl rfl)
        try simp only [World.size_alloc] at h1
        obtain ⟨p0_0, p1_0, p2_0⟩ := h1.cs3 0 rfl
        obtain ⟨p0_1, p1_1, p2_1⟩ := h1.cs3 1 rfl
        clear h1
        go_wp2_with fail
        clear x0_0 x1_0 x2_0
        clear p0_0 p1_0 p2_0 p0_1 p1_1 p2_1
        generalize hwa : World.alloc v10 _ = v11
        have h1 := (hS.out.boxed (vs := [.bool (sg (rf).num), .slice Af nf cf, .slice Af' nf' cf']) (ty := 28) rfl hwa)
        have hsz : v11.heap.size = v10.heap.size + 1 := by rw [← hwa]; simp only [World.size_alloc]
        try rw [← hsz]
        clear hwa hsz
        clear hS; have hS := Lib.hid h1; clear h1
        obtain ⟨x0_0, x1_0, x2_0⟩ := hS.out.cs3 0 rfl
        obtain ⟨x0_1, x1_1, x2_1⟩ := hS.out.cs3 1 rfl
        go_wp2_with fail
        clear x0_0 x1_0 x2_0 x0_1 x1_1 x2_1
        have h1 := hS.out.drew
        clear hS; have hS := Lib.hid h1; clear h1
        try simp only [List.append_eq, List.cons_append, List.nil_append]
        go_region_held3 (fun W => (W.cell? ⟨v10.heap.size, 0, none⟩ = some (.bool (sg (rf).num)) ∧ W.cell? ⟨v10.heap.size, 1, none⟩ = some (.slice Af nf cf) ∧ W.cell? ⟨v10.heap.size, 2, none⟩ = some (.slice Af' nf' cf')) ∧ (W.cell? ⟨v6.heap.size, 0, none⟩ = some (.bool (sg (rc).num)) ∧ W.cell? ⟨v6.heap.size, 1, none⟩ = some (.slice Ac nc cc) ∧ W.cell? ⟨v6.heap.size, 2, none⟩ = some (.slice Ac' nc' cc'))) (first | with_reducible exact ⟨hS.out.cs3 0 rfl, hS.out.cs3 1 rfl⟩ | with_reducible exact ⟨hS.out.drew.cs3 0 rfl, hS.out.drew.cs3 1 rfl⟩ | with_reducible exact ⟨(hS.out.alloc _).cs3 0 rfl, (hS.out.alloc _).cs3 1 rfl⟩ | with_reducible exact ⟨((hS.out.alloc _).alloc _).cs3 0 rfl, ((hS.out.alloc _).alloc _).cs3 1 rfl⟩) (first
          | (go_at_call 22; (with_reducible refine (fof_9 hS.out (by omega) (by omega)).mono ?_); rintro e w' ⟨r, Ai, ni, ci, Ai', ni', ci', hr, rfl, h1⟩; clear hS; have hS := Lib.hid h1; clear h1)
          | (go_at_call 26; (with_reducible refine (fmul_9 hS.out (by repeat (first | exact List.mem_cons_self | apply List.mem_cons_of_mem)) (by repeat (first | exact List.mem_cons_self | apply List.mem_cons_of_mem)) (by repeat (first | exact List.mem_cons_self | apply List.mem_cons_of_mem)) (by repeat (first | exact List.mem_cons_self | apply List.mem_cons_of_mem)) (by decide) (by decide) (rv_self _) (rv_self _)).mono ?_); rintro e w' ⟨r, Ai, ni, ci, Ai', ni', ci', hr, rfl, h1⟩; clear hS; have hS := Lib.hid h1; clear h1)
          | (go_at_call 25; (with_reducible refine (fadd_9 hS.out (by repeat (first | exact List.mem_cons_self | apply List.mem_cons_of_mem)) (by repeat (first | exact List.mem_cons_self | apply List.mem_cons_of_mem)) (by repeat (first | exact List.mem_cons_self | apply List.mem_cons_of_mem)) (by repeat (first | exact List.mem_cons_self | apply List.mem_cons_of_mem)) (by decide) (by decide) (rv_self _) (rv_self _)).mono ?_); rintro e w' ⟨r, Ai, ni, ci, Ai', ni', ci', hr, rfl, h1⟩; clear hS; have hS := Lib.hid h1; clear h1)
          | (go_at_call 11; (with_reducible refine (is9_told (r' := rc) hS.out (by repeat (first | exact List.mem_cons_self | apply List.mem_cons_of_mem)) (by repeat (first | exact List.mem_cons_self | apply List.mem_cons_of_mem)) (by repeat (first | exact List.mem_cons_self | apply List.mem_cons_of_mem)) (by repeat (first | exact List.mem_cons_self | apply List.mem_cons_of_mem)) (by subst_vars; exact F3.out)).mono ?_); rintro e w' ⟨rfl, h1⟩; clear hS; have hS := Lib.hid h1; clear h1))
        obtain ⟨x0_0, x1_0, x2_0⟩ := hS.out.cs3 0 rfl
        obtain ⟨x0_1, x1_1, x2_1⟩ := hS.out.cs3 1 rfl
        go_wp2
        go_ret
        exact ⟨rfl, hS.out.st.1⟩
    · have hm1 : m = 1 := by omega
      subst hm1
      have HM := Lib.hid (show 1 < 18446744073709551616 ∧ 0 < 1 by decide)
      have wdm : W.Wd 1 := by unfold W.Wd; decide
      obtain ⟨rc, hrc⟩ : ∃ r, cR 1 = r := ⟨_, rfl⟩
      have HRC := Lib.hid hrc
      have hrc0 : rc = mkRat 0 1 := by rw [← hrc]; decide +kernel
      obtain ⟨rf, hrf⟩ : ∃ r, rv false 0 1 = r := ⟨_, rfl⟩
      have HRF := Lib.hid hrf
      have hrf0 : rf = mkRat 0 1 := by rw [← hrf]; decide +kernel
      have F1 := Lib.hid (show rs (rc - mkRat 0 1) = 0 by rw [hrc0]; decide +kernel)
      have F3 := Lib.hid (show mkRat 0 1 + rf * rc = rc by rw [hrf0, hrc0]; decide +kernel)
      clear hrc hrf hrc0 hrf0 hm h0 h1
      have hS := Lib.hid (SC.start w)
      go_enter Tryz.func5, Tryz.ntmps5
      go_wp2_with fail
      go_at_call 12
      with_reducible refine (awake9 _).mono ?_
      rintro e v1 ⟨rfl, hb⟩
      have h1 := hS.out.below hb
      clear hb
      clear hS; have hS := Lib.hid h1; clear h1
      go_wp2_with fail
      go_at_call 9
      with_reducible refine (width_lit _ (m := 1) (x := 1) (y := 0) rfl (by decide) (by decide +kernel)).mono ?_
      rintro e v2 ⟨rfl, hb⟩
      have h1 := hS.out.below hb
      clear hb
      clear hS; have hS := Lib.hid h1; clear h1
      go_wp2_with fail
      go_at_call 18
      with_reducible refine (shl_c (q := 0) (r := 1) (hS.out.lit1 1 (by decide)) (by repeat (first | exact List.mem_cons_self | apply List.mem_cons_of_mem)) (by omega) (by decide) (by decide) (by decide)).mono ?_
      rintro e v3 ⟨A1, n1, c1, rfl, h1⟩
      have h1 := h1.drop
      clear hS; have hS := Lib.hid h1; clear h1
      go_wp2_with fail
      go_at_call 20
      with_reducible refine (nof_c (x := 1) hS.out wdm).mono ?_
      rintro e v4 ⟨A2, n2, c2, rfl, h1⟩
      have h1 := h1.drop
      clear hS; have hS := Lib.hid h1; clear h1
      go_wp2_with fail
      go_at_call 19
      with_reducible refine (ncmp_c (q := 0) hS.out (by repeat (first | exact List.mem_cons_self | apply List.mem_cons_of_mem)) (by omega) (by repeat (first | exact List.mem_cons_self | apply List.mem_cons_of_mem)) (by omega) (by decide)).mono ?_
      rintro e v5 ⟨rfl, h1⟩
      clear hS; have hS := Lib.hid h1; clear h1
      go_wp2_with fail
      go_at_call 7
      with_reducible refine (cost_lit _ (m := 1) (x := 1) (r := rc) rfl HM.out.1 HM.out.2 HRC.out).mono ?_
      rintro e v6 ho
      obtain ⟨Ac, nc, cc, Ac', nc', cc', rfl, h1⟩ := hS.out.tRE9 (Nat.le_refl _) ho
      clear hS; have hS := Lib.hid h1; clear h1
      have h1 := (hS.out.boxed (vs := [.bool (sg (rc).num), .slice Ac nc cc, .slice Ac' nc' cc']) (ty := 28) rfl rfl)
      try simp only [World.size_alloc] at h1
      obtain ⟨p0_0, p1_0, p2_0⟩ := h1.cs3 0 rfl
      clear h1
      go_wp2_with fail
      clear p0_0 p1_0 p2_0
      generalize hwa : World.alloc v6 _ = v7
      have h1 := (hS.out.boxed (vs := [.bool (sg (rc).num), .slice Ac nc cc, .slice Ac' nc' cc']) (ty := 28) rfl hwa)
      have hsz : v7.heap.size = v6.heap.size + 1 := by rw [← hwa]; simp only [World.size_alloc]
      try rw [← hsz]
      clear hwa hsz
      clear hS; have hS := Lib.hid h1; clear h1
      obtain ⟨x0_0, x1_0, x2_0⟩ := hS.out.cs3 0 rfl
      go_wp2_with fail
      clear x0_0 x1_0 x2_0
      have h1 := hS.out.drew
      clear hS; have hS := Lib.hid h1; clear h1
      refine wp_region_held_drew (S := (fun W => (W.cell? ⟨v6.heap.size, 0, none⟩ = some (.bool (sg (rc).num)) ∧ W.cell? ⟨v6.heap.size, 1, none⟩ = some (.slice Ac nc cc) ∧ W.cell? ⟨v6.heap.size, 2, none⟩ = some (.slice Ac' nc' cc')))) (by kernel_rfl) ?_ (fun hHeld => ?_)
      · (first | with_reducible exact hS.out.cs3 0 rfl | with_reducible exact hS.out.drew.cs3 0 rfl | with_reducible exact (hS.out.alloc _).cs3 0 rfl | with_reducible exact ((hS.out.alloc _).alloc _).cs3 0 rfl)
      refine wpAnyH_take (i := 0) (oi := { dst := some 54, op := Op.move (Operand.tmp 7), type := 29, pos := "outright.go:132", after := #[], guard := none }) (v := ?_) rfl (by kernel_rfl) (by kernel_rfl) (by kernel_rfl) (fun _ _ _ h => h) (Or.inl ⟨by rfl, ?_⟩) (by assumption) ?_
      rotate_left
      · intro w hSw
        try dsimp only at hSw
        go_simp
        try with_reducible rfl
      try simp only [Act.put, List.setIfInBounds_toArray, List.set_cons_zero, List.set_cons_succ]
      refine wpAnyH_take (i := 1) (oi := { dst := some 55, op := Op.binOp BinOp.neq 29 (Operand.tmp 54) (Operand.const (Value.int IntKind.i64 0)) 29, type := 4, pos := "outright.go:132", after := #[{ on := 0, ground := Ground.data }], guard := none }) (v := ?_) rfl (by kernel_rfl) (by kernel_rfl) (by kernel_rfl) (fun _ _ _ h => h) (Or.inl ⟨by rfl, ?_⟩) (by assumption) ?_
      rotate_left
      · intro w hSw
        try dsimp only at hSw
        go_simp
        try with_reducible rfl
      try simp only [Act.put, List.setIfInBounds_toArray, List.set_cons_zero, List.set_cons_succ]
      refine wpAnyH_take (i := 2) (oi := { dst := some 56, op := Op.move (Operand.tmp 55), type := 4, pos := "outright.go:132", after := #[{ on := 1, ground := Ground.data }], guard := none }) (v := ?_) rfl (by kernel_rfl) (by kernel_rfl) (by kernel_rfl) (fun _ _ _ h => h) (Or.inl ⟨by rfl, ?_⟩) (by assumption) ?_
      rotate_left
      · intro w hSw
        try dsimp only at hSw
        go_simp
        try with_reducible rfl
      try simp only [Act.put, List.setIfInBounds_toArray, List.set_cons_zero, List.set_cons_succ]
      refine wpAnyH_take (i := 3) (oi := { dst := some 57, op := Op.load 28 (Operand.tmp 6), type := 28, pos := "outright.go:132", after := #[{ on := 2, ground := Ground.guard }], guard := some (2, false) }) (v := ?_) rfl (by kernel_rfl) (by kernel_rfl) (by kernel_rfl) (fun _ _ _ h => h) (Or.inl ⟨by rfl, ?_⟩) (by assumption) ?_
      rotate_left
      · intro w hSw
        try dsimp only at hSw
        go_simp
        try with_reducible rfl
      try simp only [Act.put, List.setIfInBounds_toArray, List.set_cons_zero, List.set_cons_succ]
      refine wpAnyH_take (i := 4) (oi := { dst := some 58, op := Op.move (Operand.tmp 3), type := 3, pos := "outright.go:132", after := #[{ on := 2, ground := Ground.guard }], guard := some (2, false) }) (v := ?_) rfl (by kernel_rfl) (by kernel_rfl) (by kernel_rfl) (fun _ _ _ h => h) (Or.inl ⟨by rfl, ?_⟩) (by assumption) ?_
      rotate_left
      · intro w hSw
        try dsimp only at hSw
        go_simp
        try with_reducible rfl
      try simp only [Act.put, List.setIfInBounds_toArray, List.set_cons_zero, List.set_cons_succ]
      refine wpAnyH_ready (rs := [5]) (by kernel_rfl) (by simp) ?_
      refine AllReadyH.cons (o := { dst := some 59, op := Op.call { callee := Callee.value (Operand.func 22), args := #[Operand.tmp 58], argTypes := #[2] }, type := 28, pos := "outright.go:132", after := #[{ on := 4, ground := Ground.data }, { on := 2, ground := Ground.chain }, { on := 2, ground := Ground.guard }], guard := some (2, false) }) rfl (fun K hK => ?_) AllReadyH.nil
      go_simp
      (go_at_call 22; (with_reducible refine (fof_9 hS.out (by omega) (by omega)).mono ?_); rintro e w' ⟨r, Ai, ni, ci, Ai', ni', ci', hr, rfl, h1⟩; clear hS; have hS := Lib.hid h1; clear h1)
      try go_wp2_with fail
      refine hK.out _ _ ?_ (fun hHeld => ?_)
      · try dsimp only
        (first | with_reducible exact hS.out.cs3 0 rfl | with_reducible exact hS.out.drew.cs3 0 rfl | with_reducible exact (hS.out.alloc _).cs3 0 rfl | with_reducible exact ((hS.out.alloc _).alloc _).cs3 0 rfl)
      clear hK K
      try simp only [Act.put, List.setIfInBounds_toArray, List.set_cons_zero, List.set_cons_succ]
      refine wpAnyH_ready (rs := [6]) (by kernel_rfl) (by simp) ?_
      refine AllReadyH.cons (o := { dst := some 60, op := Op.call { callee := Callee.value (Operand.func 21), args := #[Operand.tmp 57, Operand.tmp 59], argTypes := #[28, 28] }, type := 3, pos := "outright.go:132", after := #[{ on := 3, ground := Ground.data }, { on := 5, ground := Ground.data }, { on := 5, ground := Ground.chain }, { on := 2, ground := Ground.guard }], guard := some (2, false) }) rfl (fun K hK => ?_) AllReadyH.nil
      go_simp
      (go_at_call 21; (with_reducible refine (fcmp_9 (q := 0) hS.out (by repeat (first | exact List.mem_cons_self | apply List.mem_cons_of_mem)) (by repeat (first | exact List.mem_cons_self | apply List.mem_cons_of_mem)) (by repeat (first | exact List.mem_cons_self | apply List.mem_cons_of_mem)) (by repeat (first | exact List.mem_cons_self | apply List.mem_cons_of_mem)) (by decide) (by decide) (rv_self _) (rv_self _) (by first | exact F1.out | (subst_vars; exact F1.out))).mono ?_); rintro e w' ⟨rfl, h1⟩; clear hS; have hS := Lib.hid h1; clear h1)
      try go_wp2_with fail
      refine hK.out _ _ ?_ (fun hHeld => ?_)
      · try dsimp only
        (first | with_reducible exact hS.out.cs3 0 rfl | with_reducible exact hS.out.drew.cs3 0 rfl | with_reducible exact (hS.out.alloc _).cs3 0 rfl | with_reducible exact ((hS.out.alloc _).alloc _).cs3 0 rfl)
      clear hK K
      try simp only [Act.put, List.setIfInBounds_toArray, List.set_cons_zero, List.set_cons_succ]
      refine wpAnyH_take (i := 7) (oi := { dst := some 61, op := Op.binOp BinOp.lss 3 (Operand.tmp 60) (Operand.const (Value.int IntKind.i64 0)) 3, type := 4, pos := "outright.go:132", after := #[{ on := 6, ground := Ground.data }, { on := 2, ground := Ground.guard }], guard := some (2, false) }) (v := ?_) rfl (by kernel_rfl) (by kernel_rfl) (by kernel_rfl) (fun _ _ _ h => h) (Or.inl ⟨by rfl, ?_⟩) (by assumption) ?_
      rotate_left
      · intro w hSw
        try dsimp only at hSw
        go_simp
        try with_reducible rfl
      try simp only [Act.put, List.setIfInBounds_toArray, List.set_cons_zero, List.set_cons_succ]
      refine wpAnyH_take (i := 8) (oi := { dst := some 62, op := Op.pick (Operand.tmp 56) (Operand.const (Value.bool true)) (Operand.tmp 61), type := 4, pos := "outright.go:132", after := #[{ on := 2, ground := Ground.data }, { on := 7, ground := Ground.data }], guard := none }) (v := ?_) rfl (by kernel_rfl) (by kernel_rfl) (by kernel_rfl) (fun _ _ _ h => h) (Or.inl ⟨by rfl, ?_⟩) (by assumption) ?_
      rotate_left
      · intro w hSw
        try dsimp only at hSw
        go_simp
        try with_reducible rfl
      try simp only [Act.put, List.setIfInBounds_toArray, List.set_cons_zero, List.set_cons_succ]
      refine wpAnyH_take (i := 9) (oi := { dst := some 63, op := Op.move (Operand.tmp 62), type := 4, pos := "outright.go:132", after := #[{ on := 8, ground := Ground.data }, { on := 6, ground := Ground.chain }], guard := none }) (v := ?_) rfl (by kernel_rfl) (by kernel_rfl) (by kernel_rfl) (fun _ _ _ h => h) (Or.inl ⟨by rfl, ?_⟩) (by assumption) ?_
      rotate_left
      · intro w hSw
        try dsimp only at hSw
        go_simp
        try with_reducible rfl
      try simp only [Act.put, List.setIfInBounds_toArray, List.set_cons_zero, List.set_cons_succ]
      refine wpAnyH_take (i := 10) (oi := { dst := some 64, op := Op.move (Operand.tmp 0), type := 22, pos := "outright.go:132", after := #[{ on := 9, ground := Ground.guard }], guard := some (9, false) }) (v := ?_) rfl (by kernel_rfl) (by kernel_rfl) (by kernel_rfl) (fun _ _ _ h => h) (Or.inl ⟨by rfl, ?_⟩) (by assumption) ?_
      rotate_left
      · intro w hSw
        try dsimp only at hSw
        go_simp
        try with_reducible rfl
      try simp only [Act.put, List.setIfInBounds_toArray, List.set_cons_zero, List.set_cons_succ]
      refine wpAnyH_take (i := 11) (oi := { dst := some 65, op := Op.binOp BinOp.gtr 22 (Operand.tmp 64) (Operand.const (Value.int IntKind.u64 1)) 22, type := 4, pos := "outright.go:132", after := #[{ on := 10, ground := Ground.data }, { on := 9, ground := Ground.guard }], guard := some (9, false) }) (v := ?_) rfl (by kernel_rfl) (by kernel_rfl) (by kernel_rfl) (fun _ _ _ h => h) (Or.inl ⟨by rfl, ?_⟩) (by assumption) ?_
      rotate_left
      · intro w hSw
        try dsimp only at hSw
        go_simp
        try with_reducible rfl
      try simp only [Act.put, List.setIfInBounds_toArray, List.set_cons_zero, List.set_cons_succ]
      refine wpAnyH_take (i := 12) (oi := { dst := some 66, op := Op.move (Operand.tmp 65), type := 4, pos := "outright.go:132", after := #[{ on := 11, ground := Ground.data }, { on := 9, ground := Ground.chain }, { on := 9, ground := Ground.guard }], guard := some (9, false) }) (v := ?_) rfl (by kernel_rfl) (by kernel_rfl) (by kernel_rfl) (fun _ _ _ h => h) (Or.inl ⟨by rfl, ?_⟩) (by assumption) ?_
      rotate_left
      · intro w hSw
        try dsimp only at hSw
        go_simp
        try with_reducible rfl
      try simp only [Act.put, List.setIfInBounds_toArray, List.set_cons_zero, List.set_cons_succ]
      refine wpAnyH_take (i := 13) (oi := { dst := some 67, op := Op.load 28 (Operand.tmp 6), type := 28, pos := "outright.go:132", after := #[{ on := 12, ground := Ground.guard }], guard := some (12, true) }) (v := undef) rfl (by kernel_rfl) (by kernel_rfl) (by kernel_rfl) (fun _ _ _ h => h) (Or.inr ⟨by rfl, rfl⟩) (by assumption) ?_
      try simp only [Act.put, List.setIfInBounds_toArray, List.set_cons_zero, List.set_cons_succ]
      refine wpAnyH_take (i := 14) (oi := { dst := some 68, op := Op.move (Operand.tmp 3), type := 3, pos := "outright.go:132", after := #[{ on := 12, ground := Ground.guard }], guard := some (12, true) }) (v := undef) rfl (by kernel_rfl) (by kernel_rfl) (by kernel_rfl) (fun _ _ _ h => h) (Or.inr ⟨by rfl, rfl⟩) (by assumption) ?_
      try simp only [Act.put, List.setIfInBounds_toArray, List.set_cons_zero, List.set_cons_succ]
      refine wpAnyH_take (i := 15) (oi := { dst := some 69, op := Op.binOp BinOp.mul 2 (Operand.const (Value.int IntKind.i64 2)) (Operand.tmp 68) 2, type := 2, pos := "outright.go:132", after := #[{ on := 14, ground := Ground.data }, { on := 12, ground := Ground.guard }], guard := some (12, true) }) (v := undef) rfl (by kernel_rfl) (by kernel_rfl) (by kernel_rfl) (fun _ _ _ h => h) (Or.inr ⟨by rfl, rfl⟩) (by assumption) ?_
      try simp only [Act.put, List.setIfInBounds_toArray, List.set_cons_zero, List.set_cons_succ]
      refine wpAnyH_ready (rs := [16]) (by kernel_rfl) (by simp) ?_
      refine AllReadyH.cons (o := { dst := some 70, op := Op.call { callee := Callee.value (Operand.func 22), args := #[Operand.tmp 69], argTypes := #[2] }, type := 28, pos := "outright.go:132", after := #[{ on := 15, ground := Ground.data }, { on := 12, ground := Ground.chain }, { on := 12, ground := Ground.guard }], guard := some (12, true) }) rfl (fun K hK => ?_) AllReadyH.nil
      go_simp
      refine hK.out _ _ ?_ (fun hHeld => ?_)
      · try dsimp only
        (first | with_reducible exact hS.out.cs3 0 rfl | with_reducible exact hS.out.drew.cs3 0 rfl | with_reducible exact (hS.out.alloc _).cs3 0 rfl | with_reducible exact ((hS.out.alloc _).alloc _).cs3 0 rfl)
      clear hK K
      try simp only [Act.put, List.setIfInBounds_toArray, List.set_cons_zero, List.set_cons_succ]
      refine wpAnyH_ready (rs := [17]) (by kernel_rfl) (by simp) ?_
      refine AllReadyH.cons (o := { dst := some 71, op := Op.call { callee := Callee.value (Operand.func 21), args := #[Operand.tmp 67, Operand.tmp 70], argTypes := #[28, 28] }, type := 3, pos := "outright.go:132", after := #[{ on := 13, ground := Ground.data }, { on := 16, ground := Ground.data }, { on := 16, ground := Ground.chain }, { on := 12, ground := Ground.guard }], guard := some (12, true) }) rfl (fun K hK => ?_) AllReadyH.nil
      go_simp
      refine hK.out _ _ ?_ (fun hHeld => ?_)
      · try dsimp only
        (first | with_reducible exact hS.out.cs3 0 rfl | with_reducible exact hS.out.drew.cs3 0 rfl | with_reducible exact (hS.out.alloc _).cs3 0 rfl | with_reducible exact ((hS.out.alloc _).alloc _).cs3 0 rfl)
      clear hK K
      try simp only [Act.put, List.setIfInBounds_toArray, List.set_cons_zero, List.set_cons_succ]
      refine wpAnyH_take (i := 18) (oi := { dst := some 72, op := Op.binOp BinOp.geq 3 (Operand.tmp 71) (Operand.const (Value.int IntKind.i64 0)) 3, type := 4, pos := "outright.go:132", after := #[{ on := 17, ground := Ground.data }, { on := 12, ground := Ground.guard }], guard := some (12, true) }) (v := undef) rfl (by kernel_rfl) (by kernel_rfl) (by kernel_rfl) (fun _ _ _ h => h) (Or.inr ⟨by rfl, rfl⟩) (by assumption) ?_
      try simp only [Act.put, List.setIfInBounds_toArray, List.set_cons_zero, List.set_cons_succ]
      refine wpAnyH_take (i := 19) (oi := { dst := some 73, op := Op.pick (Operand.tmp 66) (Operand.tmp 72) (Operand.const (Value.bool false)), type := 4, pos := "outright.go:132", after := #[{ on := 12, ground := Ground.data }, { on := 18, ground := Ground.data }, { on := 9, ground := Ground.guard }], guard := some (9, false) }) (v := ?_) rfl (by kernel_rfl) (by kernel_rfl) (by kernel_rfl) (fun _ _ _ h => h) (Or.inl ⟨by rfl, ?_⟩) (by assumption) ?_
      rotate_left
      · intro w hSw
        try dsimp only at hSw
        go_simp
        try with_reducible rfl
      try simp only [Act.put, List.setIfInBounds_toArray, List.set_cons_zero, List.set_cons_succ]
      refine wpAnyH_take (i := 20) (oi := { dst := some 74, op := Op.pick (Operand.tmp 63) (Operand.const (Value.bool true)) (Operand.tmp 73), type := 4, pos := "outright.go:132", after := #[{ on := 9, ground := Ground.data }, { on := 19, ground := Ground.data }], guard := none }) (v := ?_) rfl (by kernel_rfl) (by kernel_rfl) (by kernel_rfl) (fun _ _ _ h => h) (Or.inl ⟨by rfl, ?_⟩) (by assumption) ?_
      rotate_left
      · intro w hSw
        try dsimp only at hSw
        go_simp
        try with_reducible rfl
      try simp only [Act.put, List.setIfInBounds_toArray, List.set_cons_zero, List.set_cons_succ]
      refine wpAnyH_done (by kernel_rfl) ?_ _
      obtain ⟨x0_0, x1_0, x2_0⟩ := hS.out.cs3 0 rfl
      go_wp2_with fail
      go_at_call 20
      with_reducible refine (nof_c (x := 1) hS.out wdm).mono ?_
      rintro e v8 ⟨A4, n4, c4, rfl, h1⟩
      clear x0_0 x1_0 x2_0
      have h1 := h1.drop
      clear hS; have hS := Lib.hid h1; clear h1
      obtain ⟨x0_0, x1_0, x2_0⟩ := hS.out.cs3 0 rfl
      go_wp2_with fail
      go_at_call 23
      with_reducible refine (nsub_9 (r := 0) hS.out (by repeat (first | exact List.mem_cons_self | apply List.mem_cons_of_mem)) (by omega) (by repeat (first | exact List.mem_cons_self | apply List.mem_cons_of_mem)) (by omega) (by decide) (by decide)).mono ?_
      rintro e v9 ⟨A5, n5, c5, rfl, h1⟩
      clear x0_0 x1_0 x2_0
      have h1 := h1.drop
      clear hS; have hS := Lib.hid h1; clear h1
      obtain ⟨x0_0, x1_0, x2_0⟩ := hS.out.cs3 0 rfl
      go_wp2_with fail
      go_at_call 24
      with_reducible refine (fmk_c (b := false) (M := 1030) (r := rf) hS.out (by repeat (first | exact List.mem_cons_self | apply List.mem_cons_of_mem)) (by repeat (first | exact List.mem_cons_self | apply List.mem_cons_of_mem)) (by omega) (by omega) (by omega) (by decide) HRF.out).mono ?_
      rintro e v10 ⟨Af, nf, cf, Af', nf', cf', rfl, h1⟩
      clear x0_0 x1_0 x2_0
      have h1 := h1.drop
      clear hS; have hS := Lib.hid h1; clear h1
      obtain ⟨x0_0, x1_0, x2_0⟩ := hS.out.cs3 0 rfl
      have h1 := (hS.out.boxed (vs := [.bool (sg (rf).num), .slice Af nf cf, .slice Af' nf' cf']) (ty := 28) rfl rfl)
      try simp only [World.size_alloc] at h1
      obtain ⟨p0_0, p1_0, p2_0⟩ := h1.cs3 0 rfl
      obtain ⟨p0_1, p1_1, p2_1⟩ := h1.cs3 1 rfl
      clear h1
      go_wp2_with fail
      clear x0_0 x1_0 x2_0
      clear p0_0 p1_0 p2_0 p0_1 p1_1 p2_1
      generalize hwa : World.alloc v10 _ = v11
      have h1 := (hS.out.boxed (vs := [.bool (sg (rf).num), .slice Af nf cf, .slice Af' nf' cf']) (ty := 28) rfl hwa)
      have hsz : v11.heap.size = v10.heap.size + 1 := by rw [← hwa]; simp only [World.size_alloc]
      try rw [← hsz]
      clear hwa hsz
      clear hS; have hS := Lib.hid h1; clear h1
      obtain ⟨x0_0, x1_0, x2_0⟩ := hS.out.cs3 0 rfl
      obtain ⟨x0_1, x1_1, x2_1⟩ := hS.out.cs3 1 rfl
      go_wp2_with fail
      clear x0_0 x1_0 x2_0 x0_1 x1_1 x2_1
      have h1 := hS.out.drew
      clear hS; have hS := Lib.hid h1; clear h1
      try simp only [List.append_eq, List.cons_append, List.nil_append]
      go_region_held3 (fun W => (W.cell? ⟨v10.heap.size, 0, none⟩ = some (.bool (sg (rf).num)) ∧ W.cell? ⟨v10.heap.size, 1, none⟩ = some (.slice Af nf cf) ∧ W.cell? ⟨v10.heap.size, 2, none⟩ = some (.slice Af' nf' cf')) ∧ (W.cell? ⟨v6.heap.size, 0, none⟩ = some (.bool (sg (rc).num)) ∧ W.cell? ⟨v6.heap.size, 1, none⟩ = some (.slice Ac nc cc) ∧ W.cell? ⟨v6.heap.size, 2, none⟩ = some (.slice Ac' nc' cc'))) (first | with_reducible exact ⟨hS.out.cs3 0 rfl, hS.out.cs3 1 rfl⟩ | with_reducible exact ⟨hS.out.drew.cs3 0 rfl, hS.out.drew.cs3 1 rfl⟩ | with_reducible exact ⟨(hS.out.alloc _).cs3 0 rfl, (hS.out.alloc _).cs3 1 rfl⟩ | with_reducible exact ⟨((hS.out.alloc _).alloc _).cs3 0 rfl, ((hS.out.alloc _).alloc _).cs3 1 rfl⟩) (first
        | (go_at_call 22; (with_reducible refine (fof_9 hS.out (by omega) (by omega)).mono ?_); rintro e w' ⟨r, Ai, ni, ci, Ai', ni', ci', hr, rfl, h1⟩; clear hS; have hS := Lib.hid h1; clear h1)
        | (go_at_call 26; (with_reducible refine (fmul_9 hS.out (by repeat (first | exact List.mem_cons_self | apply List.mem_cons_of_mem)) (by repeat (first | exact List.mem_cons_self | apply List.mem_cons_of_mem)) (by repeat (first | exact List.mem_cons_self | apply List.mem_cons_of_mem)) (by repeat (first | exact List.mem_cons_self | apply List.mem_cons_of_mem)) (by decide) (by decide) (rv_self _) (rv_self _)).mono ?_); rintro e w' ⟨r, Ai, ni, ci, Ai', ni', ci', hr, rfl, h1⟩; clear hS; have hS := Lib.hid h1; clear h1)
        | (go_at_call 25; (with_reducible refine (fadd_9 hS.out (by repeat (first | exact List.mem_cons_self | apply List.mem_cons_of_mem)) (by repeat (first | exact List.mem_cons_self | apply List.mem_cons_of_mem)) (by repeat (first | exact List.mem_cons_self | apply List.mem_cons_of_mem)) (by repeat (first | exact List.mem_cons_self | apply List.mem_cons_of_mem)) (by decide) (by decide) (rv_self _) (rv_self _)).mono ?_); rintro e w' ⟨r, Ai, ni, ci, Ai', ni', ci', hr, rfl, h1⟩; clear hS; have hS := Lib.hid h1; clear h1)
        | (go_at_call 11; (with_reducible refine (is9_told (r' := rc) hS.out (by repeat (first | exact List.mem_cons_self | apply List.mem_cons_of_mem)) (by repeat (first | exact List.mem_cons_self | apply List.mem_cons_of_mem)) (by repeat (first | exact List.mem_cons_self | apply List.mem_cons_of_mem)) (by repeat (first | exact List.mem_cons_self | apply List.mem_cons_of_mem)) (by subst_vars; exact F3.out)).mono ?_); rintro e w' ⟨rfl, h1⟩; clear hS; have hS := Lib.hid h1; clear h1))
      obtain ⟨x0_0, x1_0, x2_0⟩ := hS.out.cs3 0 rfl
      obtain ⟨x0_1, x1_1, x2_1⟩ := hS.out.cs3 1 rfl
      go_wp2
      go_ret
      exact ⟨rfl, hS.out.st.1⟩
set_option maxRecDepth 100000 in
theorem lifted (os : Os) (started : os.Started) (H : Type) (enc : TypeId × Value → H) :
    ReturnsInHanded {} Tryz.checked os 5 .any (fun w args => (Rows.belowRenewSpec.pre enc Tryz.prog Tryz.f5 Rows.belowRenewRow.domain false w args ∧ laidMetH Tryz.prog Rows.belowRenewRow.laid w) ∧ sizedMet enc Tryz.prog Tryz.f5 (OpenSpec.ofChange Rows.belowRenewSpec) false w args) (Rows.belowRenewSpec.post enc Tryz.prog Tryz.f5 false true false false) := by
  refine returnsInHanded_of_change_and (C := Tryz.checked) (X := fun w _ => laidMetH Tryz.prog Rows.belowRenewRow.laid w) (fun _ _ _ hh h => h.of_heap hh) own started (by kernel_rfl) Tryz.func5
    (ChangeSpec.witness_shaped (enc := enc) (C := Tryz.checked) (os := os) (X := fun w _ => laidMetH Tryz.prog Rows.belowRenewRow.laid w) false (World.laidAll Tryz.prog os Rows.belowRenewRow.laid) #[.int .u64 0] 8 (World.laidAll_os _ _ _)
      (World.shaped_of_ZipB (by kernel_rfl) (by kernel_rfl)) (by kernel_rfl) (by kernel_rfl) (by kernel_rfl)
      (by rw [MakeChecks.laidMetH_plain _ _ _ (by kernel_rfl)]; exact laidMet_laidAll _ (by kernel_rfl) (by kernel_rfl))) ?_
  intro W base args ds gs before hval0 hW hcnd _ _ _
  have hval : ∀ (j : Nat) t v, Tryz.f5.params[j]? = some t → args[j]? = some v → Value.okWide Tryz.prog W .any base t v := hval0
  have hW' := hW
  obtain ⟨p, q, hA0, hV, hpq, hfz, hnd⟩ := hW
  have hA : DataW.TrodAll enc Tryz.prog W 0 (fun _ => true) true Tryz.f5.params.toList args.toList ds p := hA0
  rw [Tryz.params5] at hA hval
  obtain ⟨v0, vs0, d0, ds0, p0, q0, hargs, rfl, rfl, h0, r0⟩ := trodAll_cons hA
  obtain ⟨rfl, rfl, rfl⟩ := trodAll_nil r0
  obtain rfl : args = #[v0] := by cases args; simp_all
  obtain ⟨rfl, rfl⟩ := trodVars_none hV
  obtain ⟨a0, rfl, rfl, rfl, w0⟩ := open_int Tryz.underlying22 (hval 0 22 v0 rfl rfl) h0
  refine (walk W a0 w0).mono fun e W' ⟨he, hb⟩ => ?_
  subst he
  exact ⟨_, rfl, Frame.close laidOut hW' rfl rfl rfl Tryz.underlying4 (fun t ht => by rw [Tryz.params5] at ht; simp at ht; rcases ht with rfl <;> exact ⟨by kernel_rfl, of_decide_eq_true (by kernel_rfl)⟩) hb⟩
theorem over : Rows.belowRenewRow.holds Tryz.pinned (OpenSpec.ofChange Rows.belowRenewSpec) :=
  OpenClaim.holds_of_wide 5 Tryz.f5 rfl rfl rfl rfl rfl rfl rfl ⟨rfl, rfl, rfl, rfl, rfl⟩ rfl rfl rfl rfl rfl (by kernel_rfl) Tryz.func5 (by kernel_rfl)
    (of_decide_eq_true (by kernel_rfl)) (by unfold Func.isWrapper; first | (rw [if_pos (by decide +kernel)]; kernel_rfl) | (rw [if_neg (by decide +kernel)]; exact ⟨rfl, rfl⟩))
    (fun os started H enc _ => lifted os started H enc)
/-- the statement -/
theorem proved : Rows.BelowRenewCardSaid :=
  Claim7.holds_tied_plain_at .later [] _ _ _ _ over (fun _ h => by cases h) (by kernel_rfl) (fun _ h => by cases h) belowRenew_row_tie rfl ⟨rfl, rfl⟩ (by kernel_rfl) rfl
    (fun f fn hf hfn => by
      obtain rfl : f = 5 := Option.some.inj ((show Tryz.prog.funcNamed "tombola/tombolalaw09.BelowRenew" = some 5 by kernel_rfl).symm.trans hf) |>.symm
      obtain rfl : fn = Tryz.f5 := (Option.some.inj (Tryz.func5.symm.trans hfn)).symm
      exact ⟨by kernel_rfl, (fun j t ht => by
        rw [Tryz.params5] at ht
        have hm : t ∈ [22] := by simpa using Array.mem_of_getElem? ht
        have hall : ([22].all fun u => !Tryz.prog.wantsStandIn u) = true := by kernel_rfl
        exact (show Tryz.prog.wantsStandIn t = false by simpa using List.all_eq_true.1 hall t hm))⟩)
    (by kernel_rfl)
#print axioms proved
end Go.Proofs.YtfmhghemlcbapaaGreatDoor.belowRenew
