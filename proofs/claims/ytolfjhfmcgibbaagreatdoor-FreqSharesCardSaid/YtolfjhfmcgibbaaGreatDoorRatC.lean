/- Package rat: Cmp, Same, Mul, Quo. -/
import Derived.Test.YtolfjhfmcgibbaaGreatDoorRatB
import Derived.Test.YtolfjhfmcgibbaaGreatDoorRegC
import Derived.Test.YtolfjhfmcgibbaaGreatDoorRatFrm
namespace Go.Proofs.YtolfjhfmcgibbaaGreatDoor
open Go.RowKit
set_option linter.unusedVariables false
set_option linter.unusedSimpArgs false
set_option maxRecDepth 20000
open N
open Go.Lib (decDigits nDigits decDigits_length nDigits_pos)
open RC
section
variable {w : World} {b0 b1 : Bool} {A0 A0' A1 A1' : Option Addr} {n0 c0 n0' c0' n1 c1 n1' c1' M M' : Nat} {x0 x0' x1 x1' : List Int} {r r' : Rat}
theorem fcmp_any (w : World) (h : Frm w b0 A0 n0 c0 x0 A0' n0' c0' x0' M r) (h' : Frm w b1 A1 n1 c1 x1 A1' n1' c1' x1' M' r') (h1M : 1 ≤ M) (hM : M ≤ 100000) (h1M' : 1 ≤ M') (hM' : M' ≤ 100000) :
    Calls Tryz.prog 55 #[.agg #[.bool b0, .slice A0 n0 c0, .slice A0' n0' c0'], .agg #[.bool b1, .slice A1 n1 c1, .slice A1' n1' c1']] w fun e w' => e = .returned (.int .i64 (rs (r - r'))) ∧ Below w.heap.size w w' := by
  have hS := Lib.hid (((((SC.start w).old (k := M') h'.den h'.ld rfl).old (k := M') h'.num h'.ln rfl).old (k := M) h.den h.ld rfl).old (k := M) h.num h.ln rfl)
  have hr0 := h.val
  have hr1 := h'.val
  clear h h'
  go_enter Tryz.func55, Tryz.ntmps55
  go_wp2_with fail
  generalize hwa : World.alloc (World.alloc w _) _ = v1
  have h1 := ((hS.out.boxed (vs := [.bool b0, .slice A0 n0 c0, .slice A0' n0' c0']) (ty := 37) rfl rfl).boxed (vs := [.bool b1, .slice A1 n1 c1, .slice A1' n1' c1']) (ty := 37) rfl hwa)
  simp only [World.size_alloc] at h1
  clear hwa
  clear hS; have hS := Lib.hid h1; clear h1
  obtain ⟨x0_0, x1_0, x2_0⟩ := hS.out.cs3 0 rfl
  obtain ⟨x0_1, x1_1, x2_1⟩ := hS.out.cs3 1 rfl
  go_wp2_with fail
  clear x0_0 x1_0 x2_0 x0_1 x1_1 x2_1
  refine wp_region_rc (fs [[.val 5 (mV (.agg #[.bool b0, .slice A0 n0 c0, .slice A0' n0' c0']))], [.val 6 (mS (r) (M))], [.val 7 (mV (.agg #[.bool b1, .slice A1 n1 c1, .slice A1' n1' c1']))], [.val 8 (mS (r') (M'))], [.old 1 (mS (r) (M))], [.old 0 (mS (r') (M'))]]) [5, 6, 7, 8] hS.out ?_ (by kernel_rfl) ?_ (fun j hj => fs_big hj)
  · intro i hi L a w' S Bn T1 O D hp hno hni
    match i, hi with
    | 0, _ =>
      have p : a.eval (.tmp 2) = .pointer (some ⟨w.heap.size, 0, none⟩) := D.at0 rfl rfl
      obtain ⟨z0, z1, z2⟩ := b3 (D.cells hno (i0 := 1) rfl (by kernel_rfl))
      exact st_pure (v := .agg #[.bool b0, .slice A0 n0 c0, .slice A0' n0' c0']) D hno rfl rfl rfl (by simp only [Act.eval] at p; simp only [execOp, Act.eval]; go_simp) (of_decide_eq_true rfl) (of_decide_eq_true rfl) (by kernel_rfl) rfl rfl
    | 1, _ =>
      have pq0 : a.eval (.tmp 5) = .agg #[.bool b0, .slice A0 n0 c0, .slice A0' n0' c0'] := D.vt (hp 0 (by kernel_rfl)) rfl
      have hv : #[Operand.tmp 5].map a.eval = #[.agg #[.bool b0, .slice A0 n0 c0, .slice A0' n0' c0']] := by simp only [List.map_toArray, List.map_cons, List.map_nil, pq0]
      refine st_call D hno rfl hv Tryz.func72 (by kernel_rfl) rfl (sound_c (k := M) D.sc (D.sub _ (by repeat (first | exact List.mem_cons_self | apply List.mem_cons_of_mem))) (D.sub _ (by repeat (first | exact List.mem_cons_self | apply List.mem_cons_of_mem))) (by omega) h1M hr0) (of_decide_eq_true rfl) (of_decide_eq_true rfl) (by kernel_rfl) rfl ?_
      rintro e w2 ⟨b, A, n, c, xs, v, A', n', c', ys, u, rfl, hu, hr, h1⟩
      exact ⟨_, _, _, rfl, h1, fun t ht => List.mem_cons_of_mem _ (List.mem_cons_of_mem _ ht), fun t ht => ht, ⟨b, A, n, c, xs, v, A', n', c', ys, u, rfl, hu, hr, List.mem_cons_self, List.mem_cons_of_mem _ List.mem_cons_self⟩⟩
    | 2, _ =>
      have p : a.eval (.tmp 3) = .pointer (some ⟨w.heap.size + 1, 0, none⟩) := D.at0 rfl rfl
      obtain ⟨z0, z1, z2⟩ := b3 (D.cells hno (i0 := 0) rfl (by kernel_rfl))
      exact st_pure (v := .agg #[.bool b1, .slice A1 n1 c1, .slice A1' n1' c1']) D hno rfl rfl rfl (by simp only [Act.eval] at p; simp only [execOp, Act.eval]; go_simp) (of_decide_eq_true rfl) (of_decide_eq_true rfl) (by kernel_rfl) rfl rfl
    | 3, _ =>
      have pq0 : a.eval (.tmp 7) = .agg #[.bool b1, .slice A1 n1 c1, .slice A1' n1' c1'] := D.vt (hp 2 (by kernel_rfl)) rfl
      have hv : #[Operand.tmp 7].map a.eval = #[.agg #[.bool b1, .slice A1 n1 c1, .slice A1' n1' c1']] := by simp only [List.map_toArray, List.map_cons, List.map_nil, pq0]
      refine st_call D hno rfl hv Tryz.func72 (by kernel_rfl) rfl (sound_c (k := M') D.sc (D.sub _ (by repeat (first | exact List.mem_cons_self | apply List.mem_cons_of_mem))) (D.sub _ (by repeat (first | exact List.mem_cons_self | apply List.mem_cons_of_mem))) (by omega) h1M' hr1) (of_decide_eq_true rfl) (of_decide_eq_true rfl) (by kernel_rfl) rfl ?_
      rintro e w2 ⟨b, A, n, c, xs, v, A', n', c', ys, u, rfl, hu, hr, h1⟩
      exact ⟨_, _, _, rfl, h1, fun t ht => List.mem_cons_of_mem _ (List.mem_cons_of_mem _ ht), fun t ht => ht, ⟨b, A, n, c, xs, v, A', n', c', ys, u, rfl, hu, hr, List.mem_cons_self, List.mem_cons_of_mem _ List.mem_cons_self⟩⟩
    | 4, _ =>
      obtain ⟨bq, Aq, nq, cq, xsq, vlq, Aq', nq', cq', ysq, uq, eq, huq, hrq, mq, mq'⟩ := D.vt (t := 6) (hp 1 (by kernel_rfl)) rfl
      have p : a.eval (.tmp 2) = .pointer (some ⟨w.heap.size, 0, none⟩) := D.at0 rfl rfl
      exact st_put (m := mS (r) (M)) (i0 := 1) D hni rfl (by decide) rfl ((hS.out.ge_ 1 rfl)) p eq (⟨bq, Aq, nq, cq, xsq, vlq, Aq', nq', cq', ysq, uq, rfl, huq, hrq, mq, mq'⟩) (by kernel_rfl) rfl infoRat rfl (by simp [Value.oneCell'])
    | 5, _ =>
      obtain ⟨bq, Aq, nq, cq, xsq, vlq, Aq', nq', cq', ysq, uq, eq, huq, hrq, mq, mq'⟩ := D.vt (t := 8) (hp 3 (by kernel_rfl)) rfl
      have p : a.eval (.tmp 3) = .pointer (some ⟨w.heap.size + 1, 0, none⟩) := D.at0 rfl rfl
      exact st_put (m := mS (r') (M')) (i0 := 0) D hni rfl (by decide) rfl ((hS.out.ge_ 0 rfl)) p eq (⟨bq, Aq, nq, cq, xsq, vlq, Aq', nq', cq', ysq, uq, rfl, huq, hrq, mq, mq'⟩) (by kernel_rfl) rfl infoRat rfl (by simp [Value.oneCell'])
    | i + 6, hi => exact absurd hi (by show ¬ (i + 6 < 6); omega)
  · intro a w5 S Bn T1 O hfr hsc hs0 ho0 htags hgs hkeep hf
    obtain ⟨QQ, hQQ, bQ, AQ, nQ, cQ, xsQ, vlQ, AQ', nQ', cQ', ysQ, uQ, evQ, huQ, hrQ, mQ, mQ'⟩ : Ft.ok a S O Bn T1 (.old 0 (mS (r') (M'))) := hf 5 (by decide) _ (List.mem_singleton.2 rfl)
    have hgQ := blk_eq (g_old hgs (i := 0) rfl hQQ) evQ
    rw [hgQ] at hQQ
    obtain ⟨QP, hQP, bP, AP, nP, cP, xsP, vlP, AP', nP', cP', ysP, uP, evP, huP, hrP, mP, mP'⟩ : Ft.ok a S O Bn T1 (.old 1 (mS (r) (M))) := hf 4 (by decide) _ (List.mem_singleton.2 rfl)
    have hgP := blk_eq (g_old hgs (i := 1) rfl hQP) evP
    rw [hgP] at hQP
    obtain rfl := list_2 (by simpa using congrArg List.length hgs) hQQ hQP
    have h1 := end_old hsc (mem_more mP' (mem_more mP (mem_more mQ' (mem_more mQ hs0)))) ho0
    obtain ⟨tyQ, htyQ⟩ : ∃ t, QQ.ty = t := ⟨_, rfl⟩
    rw [htyQ] at h1
    clear htyQ
    obtain ⟨tyP, htyP⟩ : ∃ t, QP.ty = t := ⟨_, rfl⟩
    rw [htyP] at h1
    clear htyP
    have hc := hfr.closed
    simp only [List.map_cons, List.map_nil] at hc
    clear hfr hsc hs0 ho0 htags hgs hkeep hf
    clear mQ
    clear mQ'
    clear mP
    clear mP'
    clear hQQ hgQ evQ QQ hQP hgP evP QP
    generalize a.eval (.tmp 5) = u5_ at hc
    generalize a.eval (.tmp 6) = u6_ at hc
    generalize a.eval (.tmp 7) = u7_ at hc
    generalize a.eval (.tmp 8) = u8_ at hc
    subst hc
    clear hS; have hS := Lib.hid h1; clear h1
    simp only [putAll, List.foldl_cons, List.foldl_nil, Act.put, List.setIfInBounds_toArray, List.set_cons_zero, List.set_cons_succ]
    obtain ⟨v2, hww⟩ : ∃ x, x = w5 := ⟨_, rfl⟩
    subst hww
    obtain ⟨x0_0, x1_0, x2_0⟩ := hS.out.cs3 0 rfl
    obtain ⟨x0_1, x1_1, x2_1⟩ := hS.out.cs3 1 rfl
    obtain ⟨z1, hz1⟩ : ∃ z, iv bP vlP * uQ = z := ⟨_, rfl⟩
    obtain ⟨z2, hz2⟩ : ∃ z, iv bQ vlQ * uP = z := ⟨_, rfl⟩
    obtain ⟨q, hq⟩ : ∃ q, sgn (iv (sg z1) (mg z1) - iv (sg z2) (mg z2)) = q := ⟨_, rfl⟩
    go_wp2_with fail
    clear x0_0 x1_0 x2_0 x0_1 x1_1 x2_1
    refine wp_region_rc (fs [[.val 9 (mV (.pointer (some ⟨w.heap.size, 0, none⟩)))], [.val 10 (mV (.agg #[.bool bP, .slice AP nP cP]))], [.val 11 (mV (.pointer (some ⟨w.heap.size + 1, 2, none⟩)))], [.val 12 (mV (.slice AQ' nQ' cQ'))], [.val 13 (mI (z1) (M + M'))], [.val 14 (mV (.pointer (some ⟨w.heap.size + 1, 0, none⟩)))], [.val 15 (mV (.agg #[.bool bQ, .slice AQ nQ cQ]))], [.val 16 (mV (.pointer (some ⟨w.heap.size, 2, none⟩)))], [.val 17 (mV (.slice AP' nP' cP'))], [.val 18 (mI (z2) (M' + M))], [.val 19 (mV (.int .i64 q))], [.val 4 (mV (.int .i64 q))]]) [4, 9, 10, 11, 12, 13, 14, 15, 16, 17, 18, 19] hS.out ?_ (by kernel_rfl) ?_ (fun j hj => fs_big hj)
    · intro i hi L a w' S Bn T1 O D hp hno hni
      match i, hi with
      | 0, _ =>
        have p : a.eval (.tmp 2) = .pointer (some ⟨w.heap.size, 0, none⟩) := D.at0 rfl rfl
        exact st_pure (v := .pointer (some ⟨w.heap.size, 0, none⟩)) D hno rfl rfl rfl (by simp only [Act.eval] at p; simp only [execOp, Act.eval]; go_simp) (of_decide_eq_true rfl) (of_decide_eq_true rfl) (by kernel_rfl) rfl rfl
      | 1, _ =>
        have p : a.eval (.tmp 9) = .pointer (some ⟨w.heap.size, 0, none⟩) := D.vt (hp 0 (by kernel_rfl)) rfl
        obtain ⟨z0, z1, z2⟩ := b3 (D.cells hno (i0 := 1) rfl (by kernel_rfl))
        exact st_pure (v := .agg #[.bool bP, .slice AP nP cP]) D hno rfl rfl rfl (by simp only [Act.eval] at p; simp only [execOp, Act.eval]; go_simp) (of_decide_eq_true rfl) (of_decide_eq_true rfl) (by kernel_rfl) rfl rfl
      | 2, _ =>
        have p : a.eval (.tmp 3) = .pointer (some ⟨w.heap.size + 1, 0, none⟩) := D.at0 rfl rfl
        exact st_pure (v := .pointer (some ⟨w.heap.size + 1, 2, none⟩)) D hno rfl rfl rfl (by simp only [Act.eval] at p; simp only [execOp, Act.eval]; go_simp) (of_decide_eq_true rfl) (of_decide_eq_true rfl) (by kernel_rfl) rfl rfl
      | 3, _ =>
        have p : a.eval (.tmp 11) = .pointer (some ⟨w.heap.size + 1, 2, none⟩) := D.vt (hp 2 (by kernel_rfl)) rfl
        obtain ⟨z0, z1, z2⟩ := b3 (D.cells hno (i0 := 0) rfl (by kernel_rfl))
        exact st_pure (v := .slice AQ' nQ' cQ') D hno rfl rfl rfl (by simp only [Act.eval] at p; simp only [execOp, Act.eval]; go_simp) (of_decide_eq_true rfl) (of_decide_eq_true rfl) (by kernel_rfl) rfl rfl
      | 4, _ =>
        have pq0 : a.eval (.tmp 10) = .agg #[.bool bP, .slice AP nP cP] := D.vt (hp 1 (by kernel_rfl)) rfl
        have pq1 : a.eval (.tmp 12) = .slice AQ' nQ' cQ' := D.vt (hp 3 (by kernel_rfl)) rfl
        have hv : #[Operand.tmp 10, Operand.tmp 12].map a.eval = #[.agg #[.bool bP, .slice AP nP cP], .slice AQ' nQ' cQ'] := by simp only [List.map_toArray, List.map_cons, List.map_nil, pq0, pq1]
        refine st_call D hno rfl hv Tryz.func87 (by kernel_rfl) rfl (times_c D.sc (D.sub _ (by repeat (first | exact List.mem_cons_self | apply List.mem_cons_of_mem))) (by omega) (D.sub _ (by repeat (first | exact List.mem_cons_self | apply List.mem_cons_of_mem))) (by omega) hz1) (of_decide_eq_true rfl) (of_decide_eq_true rfl) (by kernel_rfl) rfl ?_
        rintro e w2 ⟨A, n, c, rfl, h1⟩
        exact ⟨_, _, _, rfl, h1, fun t ht => List.mem_cons_of_mem _ ht, fun t ht => List.mem_cons_of_mem _ ht, ⟨A, n, c, rfl, List.mem_cons_self, List.mem_cons_self⟩⟩
      | 5, _ =>
        have p : a.eval (.tmp 3) = .pointer (some ⟨w.heap.size + 1, 0, none⟩) := D.at0 rfl rfl
        exact st_pure (v := .pointer (some ⟨w.heap.size + 1, 0, none⟩)) D hno rfl rfl rfl (by simp only [Act.eval] at p; simp only [execOp, Act.eval]; go_simp) (of_decide_eq_true rfl) (of_decide_eq_true rfl) (by kernel_rfl) rfl rfl
      | 6, _ =>
        have p : a.eval (.tmp 14) = .pointer (some ⟨w.heap.size + 1, 0, none⟩) := D.vt (hp 5 (by kernel_rfl)) rfl
        obtain ⟨z0, z1, z2⟩ := b3 (D.cells hno (i0 := 0) rfl (by kernel_rfl))
        exact st_pure (v := .agg #[.bool bQ, .slice AQ nQ cQ]) D hno rfl rfl rfl (by simp only [Act.eval] at p; simp only [execOp, Act.eval]; go_simp) (of_decide_eq_true rfl) (of_decide_eq_true rfl) (by kernel_rfl) rfl rfl
      | 7, _ =>
        have p : a.eval (.tmp 2) = .pointer (some ⟨w.heap.size, 0, none⟩) := D.at0 rfl rfl
        exact st_pure (v := .pointer (some ⟨w.heap.size, 2, none⟩)) D hno rfl rfl rfl (by simp only [Act.eval] at p; simp only [execOp, Act.eval]; go_simp) (of_decide_eq_true rfl) (of_decide_eq_true rfl) (by kernel_rfl) rfl rfl
      | 8, _ =>
        have p : a.eval (.tmp 16) = .pointer (some ⟨w.heap.size, 2, none⟩) := D.vt (hp 7 (by kernel_rfl)) rfl
        obtain ⟨z0, z1, z2⟩ := b3 (D.cells hno (i0 := 1) rfl (by kernel_rfl))
        exact st_pure (v := .slice AP' nP' cP') D hno rfl rfl rfl (by simp only [Act.eval] at p; simp only [execOp, Act.eval]; go_simp) (of_decide_eq_true rfl) (of_decide_eq_true rfl) (by kernel_rfl) rfl rfl
      | 9, _ =>
        have pq0 : a.eval (.tmp 15) = .agg #[.bool bQ, .slice AQ nQ cQ] := D.vt (hp 6 (by kernel_rfl)) rfl
        have pq1 : a.eval (.tmp 17) = .slice AP' nP' cP' := D.vt (hp 8 (by kernel_rfl)) rfl
        have hv : #[Operand.tmp 15, Operand.tmp 17].map a.eval = #[.agg #[.bool bQ, .slice AQ nQ cQ], .slice AP' nP' cP'] := by simp only [List.map_toArray, List.map_cons, List.map_nil, pq0, pq1]
        refine st_call D hno rfl hv Tryz.func87 (by kernel_rfl) rfl (times_c D.sc (D.sub _ (by repeat (first | exact List.mem_cons_self | apply List.mem_cons_of_mem))) (by omega) (D.sub _ (by repeat (first | exact List.mem_cons_self | apply List.mem_cons_of_mem))) (by omega) hz2) (of_decide_eq_true rfl) (of_decide_eq_true rfl) (by kernel_rfl) rfl ?_
        rintro e w2 ⟨A, n, c, rfl, h1⟩
        exact ⟨_, _, _, rfl, h1, fun t ht => List.mem_cons_of_mem _ ht, fun t ht => List.mem_cons_of_mem _ ht, ⟨A, n, c, rfl, List.mem_cons_self, List.mem_cons_self⟩⟩
      | 10, _ =>
        obtain ⟨Aq0, nq0, cq0, eq0, mq0, oq0⟩ := D.vt (t := 13) (hp 4 (by kernel_rfl)) rfl
        obtain ⟨Aq1, nq1, cq1, eq1, mq1, oq1⟩ := D.vt (t := 18) (hp 9 (by kernel_rfl)) rfl
        have hv : #[Operand.tmp 13, Operand.tmp 18].map a.eval = #[.agg #[.bool (sg (z1)), .slice Aq0 nq0 cq0], .agg #[.bool (sg (z2)), .slice Aq1 nq1 cq1]] := by simp only [List.map_toArray, List.map_cons, List.map_nil, eq0, eq1]
        refine st_call D hno rfl hv Tryz.func86 (by kernel_rfl) rfl (wcmp_c D.sc mq0 (by omega) mq1 (by omega) hq) (of_decide_eq_true rfl) (of_decide_eq_true rfl) (by kernel_rfl) rfl ?_
        rintro e w2 ⟨rfl, h1⟩
        exact ⟨_, _, _, rfl, h1, fun t ht => ht, fun t ht => ht, rfl⟩
      | 11, _ =>
        have p : a.eval (.tmp 19) = .int .i64 q := D.vt (hp 10 (by kernel_rfl)) rfl
        exact st_pure (v := .int .i64 q) D hno rfl rfl rfl (by simp only [Act.eval] at p; simp only [execOp, Act.eval]; go_simp) (of_decide_eq_true rfl) (of_decide_eq_true rfl) (by kernel_rfl) rfl rfl
      | i + 12, hi => exact absurd hi (by show ¬ (i + 12 < 12); omega)
    · intro a w5 S Bn T1 O hfr hsc hs0 ho0 htags hgs hkeep hf
      have hQ_0 := hkeep 0 (fun j hj m hm => by exact absurd hm (onlyOld_spec (i := 1000) (by kernel_rfl) j (by rintro rfl; exact absurd hj (by decide)) m))
      have hQ_1 := hkeep 1 (fun j hj m hm => by exact absurd hm (onlyOld_spec (i := 1000) (by kernel_rfl) j (by rintro rfl; exact absurd hj (by decide)) m))
      have ek4 : a.eval (.tmp 4) = .int .i64 q := hf 11 (by decide) _ (List.mem_singleton.2 rfl)
      obtain rfl := list_2 (by simpa using congrArg List.length hgs) hQ_0 hQ_1
      have h1 := end_old hsc hs0 ho0
      have hc := hfr.closed
      simp only [List.map_cons, List.map_nil] at hc
      rw [ek4] at hc
      clear hfr hsc hs0 ho0 htags hgs hkeep hf
      clear hQ_0 hQ_1
      clear ek4
      generalize a.eval (.tmp 9) = u9_ at hc
      generalize a.eval (.tmp 10) = u10_ at hc
      generalize a.eval (.tmp 11) = u11_ at hc
      generalize a.eval (.tmp 12) = u12_ at hc
      generalize a.eval (.tmp 13) = u13_ at hc
      generalize a.eval (.tmp 14) = u14_ at hc
      generalize a.eval (.tmp 15) = u15_ at hc
      generalize a.eval (.tmp 16) = u16_ at hc
      generalize a.eval (.tmp 17) = u17_ at hc
      generalize a.eval (.tmp 18) = u18_ at hc
      generalize a.eval (.tmp 19) = u19_ at hc
      subst hc
      clear hS; have hS := Lib.hid h1; clear h1
      simp only [putAll, List.foldl_cons, List.foldl_nil, Act.put, List.setIfInBounds_toArray, List.set_cons_zero, List.set_cons_succ]
      obtain ⟨v3, hww⟩ : ∃ x, x = w5 := ⟨_, rfl⟩
      subst hww
      obtain ⟨x0_0, x1_0, x2_0⟩ := hS.out.cs3 0 rfl
      obtain ⟨x0_1, x1_1, x2_1⟩ := hS.out.cs3 1 rfl
      go_wp2_with fail
      go_ret
      refine ⟨?_, hS.out.bl⟩
      rw [← hq, iv_sm, iv_sm, ← hz1, ← hz2, rs_sub bP bQ huP huQ, hrP, hrQ]
      rfl
theorem rs_eq0 {r r' : Rat} : rs (r - r') = 0 ↔ r = r' := by
  rcases rs_cases (r - r') with ⟨h, e⟩ | ⟨h, e⟩ | ⟨h, e⟩ <;> rw [e] <;> constructor <;> intro h2 <;> grind
theorem rv_eq0 {b : Bool} {v d : Int} (hd : 0 < d) : rv b v d = 0 ↔ v = 0 := by
  unfold rv
  rw [Rat.mkRat_eq_zero (by omega)]
  cases b <;> unfold iv <;> simp
theorem fsame_any (w : World) (h : Frm w b0 A0 n0 c0 x0 A0' n0' c0' x0' M r) (h' : Frm w b1 A1 n1 c1 x1 A1' n1' c1' x1' M' r') (h1M : 1 ≤ M) (hM : M ≤ 100000) (h1M' : 1 ≤ M') (hM' : M' ≤ 100000) {q : Bool} (hq : (rs (r - r') == 0) = q) :
    Calls Tryz.prog 33 #[.agg #[.bool b0, .slice A0 n0 c0, .slice A0' n0' c0'], .agg #[.bool b1, .slice A1 n1 c1, .slice A1' n1' c1']] w fun e w' => e = .returned (.bool q) ∧ Below w.heap.size w w' := by
  have HC := Lib.hid (fun W (hb : Below w.heap.size w W) => fcmp_any W (h.below hb) (h'.below hb) h1M hM h1M' hM')
  have hS := Lib.hid (((((SC.start w).old (k := M') h'.den h'.ld rfl).old (k := M') h'.num h'.ln rfl).old (k := M) h.den h.ld rfl).old (k := M) h.num h.ln rfl)
  have hr0 := h.val
  have hr1 := h'.val
  clear h h'
  go_enter Tryz.func33, Tryz.ntmps33
  go_wp2_with fail
  generalize hwa : World.alloc (World.alloc w _) _ = v1
  have h1 := ((hS.out.boxed (vs := [.bool b0, .slice A0 n0 c0, .slice A0' n0' c0']) (ty := 37) rfl rfl).boxed (vs := [.bool b1, .slice A1 n1 c1, .slice A1' n1' c1']) (ty := 37) rfl hwa)
  simp only [World.size_alloc] at h1
  clear hwa
  clear hS; have hS := Lib.hid h1; clear h1
  obtain ⟨x0_0, x1_0, x2_0⟩ := hS.out.cs3 0 rfl
  obtain ⟨x0_1, x1_1, x2_1⟩ := hS.out.cs3 1 rfl
  go_wp2_with fail
  go_at_call 55
  with_reducible refine (HC.out _ hS.out.bl).mono ?_
  rintro e v2 ⟨rfl, hb⟩
  clear x0_0 x1_0 x2_0 x0_1 x1_1 x2_1
  have h1 := hS.out.below hb
  clear hb
  clear hS; have hS := Lib.hid h1; clear h1
  obtain ⟨x0_0, x1_0, x2_0⟩ := hS.out.cs3 0 rfl
  obtain ⟨x0_1, x1_1, x2_1⟩ := hS.out.cs3 1 rfl
  go_wp2_with fail
  go_ret
  exact ⟨by subst hq; rfl, hS.out.bl⟩
theorem SC.toR2 {w0 w : World} {S O : List Ent} {T : List Blk} {A A' : Option Addr} {n c m d k k' M : Nat} {xs ys : List Int} {v u : Int} {b : Bool} {r : Rat} (h : SC w0 w0 w S T O) (h1 : (⟨A, n, c, k, xs, v⟩ : Ent) ∈ O) (h2 : (⟨A', m, d, k', ys, u⟩ : Ent) ∈ O) (s1 : (⟨A, n, c, k, xs, v⟩ : Ent) ∈ S) (s2 : (⟨A', m, d, k', ys, u⟩ : Ent) ∈ S) (hk : k ≤ M) (hk' : k' ≤ M) (hb : b = sg r.num) (hx : xs = limbs (mg r.num)) (hy : ys = limbs r.den) :
    OutR w0 M r (.returned (.agg #[.bool b, .slice A n c, .slice A' m d])) w := by
  obtain ⟨A2, n2, c2, A2', n2', c2', he, h3⟩ := h.toRE2 (b := b) (j := 0) h1 h2 s1 s2 hk hk' hb hx hy
  cases he
  exact ⟨A, n, c, A', m, d, rfl, h3⟩
end
end Go.Proofs.YtolfjhfmcgibbaaGreatDoor
