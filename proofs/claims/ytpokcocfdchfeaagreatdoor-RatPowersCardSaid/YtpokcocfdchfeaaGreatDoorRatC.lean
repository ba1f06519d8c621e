/- Package rat: Cmp, Same, Mul, Quo. -/
import Derived.Test.YtpokcocfdchfeaaGreatDoorRatB
import Derived.Test.YtpokcocfdchfeaaGreatDoorRegC
import Derived.Test.YtpokcocfdchfeaaGreatDoorRatFrm
namespace Go.Proofs.YtpokcocfdchfeaaGreatDoor
open Go.RowKit
set_option linter.unusedVariables false
set_option linter.unusedSimpArgs false
set_option maxRecDepth 20000
open N
open Go.Lib (decDigits nDigits decDigits_length nDigits_pos)
open RC
section
variable {w : World} {b0 b1 : Bool} {A0 A0' A1 A1' : Option Addr} {n0 c0 n0' c0' n1 c1 n1' c1' M M' : Nat} {x0 x0' x1 x1' : List Int} {r r' : Rat}
theorem rs_eq0 {r r' : Rat} : rs (r - r') = 0 ↔ r = r' := by
  rcases rs_cases (r - r') with ⟨h, e⟩ | ⟨h, e⟩ | ⟨h, e⟩ <;> rw [e] <;> constructor <;> intro h2 <;> grind
theorem rv_eq0 {b : Bool} {v d : Int} (hd : 0 < d) : rv b v d = 0 ↔ v = 0 := by
  unfold rv
  rw [Rat.mkRat_eq_zero (by omega)]
  cases b <;> unfold iv <;> simp
theorem SC.toR2 {w0 w : World} {S O : List Ent} {T : List Blk} {A A' : Option Addr} {n c m d k k' M : Nat} {xs ys : List Int} {v u : Int} {b : Bool} {r : Rat} (h : SC w0 w0 w S T O) (h1 : (⟨A, n, c, k, xs, v⟩ : Ent) ∈ O) (h2 : (⟨A', m, d, k', ys, u⟩ : Ent) ∈ O) (s1 : (⟨A, n, c, k, xs, v⟩ : Ent) ∈ S) (s2 : (⟨A', m, d, k', ys, u⟩ : Ent) ∈ S) (hk : k ≤ M) (hk' : k' ≤ M) (hb : b = sg r.num) (hx : xs = limbs (mg r.num)) (hy : ys = limbs r.den) :
    OutR w0 M r (.returned (.agg #[.bool b, .slice A n c, .slice A' m d])) w := by
  obtain ⟨A2, n2, c2, A2', n2', c2', he, h3⟩ := h.toRE2 (b := b) (j := 0) h1 h2 s1 s2 hk hk' hb hx hy
  cases he
  exact ⟨A, n, c, A', m, d, rfl, h3⟩
theorem fquo_any (w : World) (h : Frm w b0 A0 n0 c0 x0 A0' n0' c0' x0' M r) (h' : Frm w b1 A1 n1 c1 x1 A1' n1' c1' x1' M' r') (h1M : 1 ≤ M) (hM : M ≤ 100000) (h1M' : 1 ≤ M') (hM' : M' ≤ 100000) (hz0 : ¬ r' = 0) :
    Calls Tryz.prog 11 #[.agg #[.bool b0, .slice A0 n0 c0, .slice A0' n0' c0'], .agg #[.bool b1, .slice A1 n1 c1, .slice A1' n1' c1']] w (OutRE w (M + M') (r / r') 0) := by
  have hS := Lib.hid (((((SC.start w).old (k := M') h'.den h'.ld rfl).old (k := M') h'.num h'.ln rfl).old (k := M) h.den h.ld rfl).old (k := M) h.num h.ln rfl)
  have hr0 := h.val
  have hr1 := h'.val
  clear h h'
  go_enter Tryz.func11, Tryz.ntmps11
  go_wp2_with fail
  generalize hwa : World.alloc (World.alloc (World.alloc w _) _) _ = v1
  have h1 := (((hS.out.boxed (vs := [.bool b0, .slice A0 n0 c0, .slice A0' n0' c0']) (ty := 27) rfl rfl).boxed (vs := [.bool b1, .slice A1 n1 c1, .slice A1' n1' c1']) (ty := 27) rfl rfl).boxed (vs := [.bool false, .slice none 0 0, .slice none 0 0]) (ty := 27) rfl hwa)
  simp only [World.size_alloc] at h1
  clear hwa
  clear hS; have hS := Lib.hid h1; clear h1
  obtain ⟨x0_0, x1_0, x2_0⟩ := hS.out.cs3 0 rfl
  obtain ⟨x0_1, x1_1, x2_1⟩ := hS.out.cs3 1 rfl
  obtain ⟨x0_2, x1_2, x2_2⟩ := hS.out.cs3 2 rfl
  go_wp2_with fail
  clear x0_0 x1_0 x2_0 x0_1 x1_1 x2_1 x0_2 x1_2 x2_2
  refine wp_region_rc (fs [[.val 7 (mV (.agg #[.bool b0, .slice A0 n0 c0, .slice A0' n0' c0']))], [.val 8 (mS (r) (M))], [.val 9 (mV (.agg #[.bool b1, .slice A1 n1 c1, .slice A1' n1' c1']))], [.val 10 (mS (r') (M'))], [.old 2 (mS (r) (M))], [.old 1 (mS (r') (M'))]]) [7, 8, 9, 10] hS.out ?_ (by kernel_rfl) ?_ (fun j hj => fs_big hj)
  · intro i hi L a w' S Bn T1 O D hp hno hni
    match i, hi with
    | 0, _ =>
      have p : a.eval (.tmp 2) = .pointer (some ⟨w.heap.size, 0, none⟩) := D.at0 rfl rfl
      obtain ⟨z0, z1, z2⟩ := b3 (D.cells hno (i0 := 2) rfl (by kernel_rfl))
      exact st_pure (v := .agg #[.bool b0, .slice A0 n0 c0, .slice A0' n0' c0']) D hno rfl rfl rfl (by simp only [Act.eval] at p; simp only [execOp, Act.eval]; go_simp) (of_decide_eq_true rfl) (of_decide_eq_true rfl) (by kernel_rfl) rfl rfl
    | 1, _ =>
      have pq0 : a.eval (.tmp 7) = .agg #[.bool b0, .slice A0 n0 c0, .slice A0' n0' c0'] := D.vt (hp 0 (by kernel_rfl)) rfl
      have hv : #[Operand.tmp 7].map a.eval = #[.agg #[.bool b0, .slice A0 n0 c0, .slice A0' n0' c0']] := by simp only [List.map_toArray, List.map_cons, List.map_nil, pq0]
      refine st_call D hno rfl hv Tryz.func29 (by kernel_rfl) rfl (sound_c (k := M) D.sc (D.sub _ (by repeat (first | exact List.mem_cons_self | apply List.mem_cons_of_mem))) (D.sub _ (by repeat (first | exact List.mem_cons_self | apply List.mem_cons_of_mem))) (by omega) h1M hr0) (of_decide_eq_true rfl) (of_decide_eq_true rfl) (by kernel_rfl) rfl ?_
      rintro e w2 ⟨b, A, n, c, xs, v, A', n', c', ys, u, rfl, hu, hr, h1⟩
      exact ⟨_, _, _, rfl, h1, fun t ht => List.mem_cons_of_mem _ (List.mem_cons_of_mem _ ht), fun t ht => ht, ⟨b, A, n, c, xs, v, A', n', c', ys, u, rfl, hu, hr, List.mem_cons_self, List.mem_cons_of_mem _ List.mem_cons_self⟩⟩
    | 2, _ =>
      have p : a.eval (.tmp 3) = .pointer (some ⟨w.heap.size + 1, 0, none⟩) := D.at0 rfl rfl
      obtain ⟨z0, z1, z2⟩ := b3 (D.cells hno (i0 := 1) rfl (by kernel_rfl))
      exact st_pure (v := .agg #[.bool b1, .slice A1 n1 c1, .slice A1' n1' c1']) D hno rfl rfl rfl (by simp only [Act.eval] at p; simp only [execOp, Act.eval]; go_simp) (of_decide_eq_true rfl) (of_decide_eq_true rfl) (by kernel_rfl) rfl rfl
    | 3, _ =>
      have pq0 : a.eval (.tmp 9) = .agg #[.bool b1, .slice A1 n1 c1, .slice A1' n1' c1'] := D.vt (hp 2 (by kernel_rfl)) rfl
      have hv : #[Operand.tmp 9].map a.eval = #[.agg #[.bool b1, .slice A1 n1 c1, .slice A1' n1' c1']] := by simp only [List.map_toArray, List.map_cons, List.map_nil, pq0]
      refine st_call D hno rfl hv Tryz.func29 (by kernel_rfl) rfl (sound_c (k := M') D.sc (D.sub _ (by repeat (first | exact List.mem_cons_self | apply List.mem_cons_of_mem))) (D.sub _ (by repeat (first | exact List.mem_cons_self | apply List.mem_cons_of_mem))) (by omega) h1M' hr1) (of_decide_eq_true rfl) (of_decide_eq_true rfl) (by kernel_rfl) rfl ?_
      rintro e w2 ⟨b, A, n, c, xs, v, A', n', c', ys, u, rfl, hu, hr, h1⟩
      exact ⟨_, _, _, rfl, h1, fun t ht => List.mem_cons_of_mem _ (List.mem_cons_of_mem _ ht), fun t ht => ht, ⟨b, A, n, c, xs, v, A', n', c', ys, u, rfl, hu, hr, List.mem_cons_self, List.mem_cons_of_mem _ List.mem_cons_self⟩⟩
    | 4, _ =>
      obtain ⟨bq, Aq, nq, cq, xsq, vlq, Aq', nq', cq', ysq, uq, eq, huq, hrq, mq, mq'⟩ := D.vt (t := 8) (hp 1 (by kernel_rfl)) rfl
      have p : a.eval (.tmp 2) = .pointer (some ⟨w.heap.size, 0, none⟩) := D.at0 rfl rfl
      exact st_put (m := mS (r) (M)) (i0 := 2) D hni rfl (by decide) rfl ((hS.out.ge_ 2 rfl)) p eq (⟨bq, Aq, nq, cq, xsq, vlq, Aq', nq', cq', ysq, uq, rfl, huq, hrq, mq, mq'⟩) (by kernel_rfl) rfl infoRat rfl (by simp [Value.oneCell'])
    | 5, _ =>
      obtain ⟨bq, Aq, nq, cq, xsq, vlq, Aq', nq', cq', ysq, uq, eq, huq, hrq, mq, mq'⟩ := D.vt (t := 10) (hp 3 (by kernel_rfl)) rfl
      have p : a.eval (.tmp 3) = .pointer (some ⟨w.heap.size + 1, 0, none⟩) := D.at0 rfl rfl
      exact st_put (m := mS (r') (M')) (i0 := 1) D hni rfl (by decide) rfl ((hS.out.ge_ 1 rfl)) p eq (⟨bq, Aq, nq, cq, xsq, vlq, Aq', nq', cq', ysq, uq, rfl, huq, hrq, mq, mq'⟩) (by kernel_rfl) rfl infoRat rfl (by simp [Value.oneCell'])
    | i + 6, hi => exact absurd hi (by show ¬ (i + 6 < 6); omega)
  · intro a w5 S Bn T1 O hfr hsc hs0 ho0 htags hgs hkeep hf
    have hQ_0 := hkeep 0 (fun j hj m hm => by exact absurd hm (onlyOld_spec (i := 1000) (by kernel_rfl) j (by rintro rfl; exact absurd hj (by decide)) m))
    obtain ⟨QQ, hQQ, bQ, AQ, nQ, cQ, xsQ, vlQ, AQ', nQ', cQ', ysQ, uQ, evQ, huQ, hrQ, mQ, mQ'⟩ : Ft.ok a S O Bn T1 (.old 1 (mS (r') (M'))) := hf 5 (by decide) _ (List.mem_singleton.2 rfl)
    have hgQ := blk_eq (g_old hgs (i := 1) rfl hQQ) evQ
    rw [hgQ] at hQQ
    obtain ⟨QP, hQP, bP, AP, nP, cP, xsP, vlP, AP', nP', cP', ysP, uP, evP, huP, hrP, mP, mP'⟩ : Ft.ok a S O Bn T1 (.old 2 (mS (r) (M))) := hf 4 (by decide) _ (List.mem_singleton.2 rfl)
    have hgP := blk_eq (g_old hgs (i := 2) rfl hQP) evP
    rw [hgP] at hQP
    obtain rfl := list_3 (by simpa using congrArg List.length hgs) hQ_0 hQQ hQP
    have h1 := end_old hsc (mem_more mP' (mem_more mP (mem_more mQ' (mem_more mQ hs0)))) ho0
    obtain ⟨tyQ, htyQ⟩ : ∃ t, QQ.ty = t := ⟨_, rfl⟩
    rw [htyQ] at h1
    clear htyQ
    obtain ⟨tyP, htyP⟩ : ∃ t, QP.ty = t := ⟨_, rfl⟩
    rw [htyP] at h1
    clear htyP
    have hc := hfr.closed
    simp only [List.map_cons, List.map_nil] at hc
    clear hfr hsc hs0 ho0 htags hgs hkeep hf
    clear mQ
    clear mQ'
    clear mP
    clear mP'
    clear hQ_0 hQQ hgQ evQ QQ hQP hgP evP QP
    generalize a.eval (.tmp 7) = u7_ at hc
    generalize a.eval (.tmp 8) = u8_ at hc
    generalize a.eval (.tmp 9) = u9_ at hc
    generalize a.eval (.tmp 10) = u10_ at hc
    subst hc
    clear hS; have hS := Lib.hid h1; clear h1
    simp only [putAll, List.foldl_cons, List.foldl_nil, Act.put, List.setIfInBounds_toArray, List.set_cons_zero, List.set_cons_succ]
    obtain ⟨v2, hww⟩ : ∃ x, x = w5 := ⟨_, rfl⟩
    subst hww
    obtain ⟨x0_0, x1_0, x2_0⟩ := hS.out.cs3 0 rfl
    obtain ⟨x0_1, x1_1, x2_1⟩ := hS.out.cs3 1 rfl
    obtain ⟨x0_2, x1_2, x2_2⟩ := hS.out.cs3 2 rfl
    have hvQ : 0 < vlQ := by
      have h1 := (hS.out.get (A := AQ) (n := nQ) (c := cQ) (by repeat (first | exact List.mem_cons_self | apply List.mem_cons_of_mem)))
      have h2 := h1.1.nn0
      have h3 : vlQ ≠ 0 := fun e => hz0 (hrQ.symm.trans ((rv_eq0 huQ).2 e))
      omega
    obtain ⟨z, hz⟩ : ∃ z, iv bP vlP * iv bQ uQ = z := ⟨_, rfl⟩
    obtain ⟨d, hd⟩ : ∃ d, uP * vlQ = d := ⟨_, rfl⟩
    have hdp : 0 < d := by rw [← hd]; exact Int.mul_pos huP hvQ
    obtain ⟨q, hq⟩ : ∃ q, r / r' = q := ⟨_, rfl⟩
    have hqv : rv (sg z) (mg z) d = q := by unfold rv; rw [iv_sm, ← hz, ← hd, rv_quo bP bQ huP hvQ huQ, hrP, hrQ]; exact hq
    go_wp2_with fail
    go_at_call 30
    with_reducible refine (wmul_c hS.out (by repeat (first | exact List.mem_cons_self | apply List.mem_cons_of_mem)) (by omega) (by repeat (first | exact List.mem_cons_self | apply List.mem_cons_of_mem)) (by omega) hz).mono ?_
    rintro e v3 ⟨A5, n5, c5, rfl, h1⟩
    clear x0_0 x1_0 x2_0 x0_1 x1_1 x2_1 x0_2 x1_2 x2_2
    clear hS; have hS := Lib.hid h1; clear h1
    obtain ⟨x0_0, x1_0, x2_0⟩ := hS.out.cs3 0 rfl
    obtain ⟨x0_1, x1_1, x2_1⟩ := hS.out.cs3 1 rfl
    obtain ⟨x0_2, x1_2, x2_2⟩ := hS.out.cs3 2 rfl
    go_wp2_with fail
    generalize hwa : World.alloc v3 _ = v4
    have h1 := (hS.out.boxed (vs := [.bool (sg z), .slice A5 n5 c5]) (ty := 25) rfl hwa)
    clear hwa
    clear hS; have hS := Lib.hid h1; clear h1
    obtain ⟨x0_0, x1_0⟩ := hS.out.cs2 0 rfl
    obtain ⟨x0_1, x1_1, x2_1⟩ := hS.out.cs3 1 rfl
    obtain ⟨x0_2, x1_2, x2_2⟩ := hS.out.cs3 2 rfl
    obtain ⟨x0_3, x1_3, x2_3⟩ := hS.out.cs3 3 rfl
    go_wp2_with fail
    clear x0_0 x1_0 x0_1 x1_1 x2_1 x0_2 x1_2 x2_2 x0_3 x1_3 x2_3
    refine wp_region_rc (fs [[.val 20 (mV (.agg #[.bool (sg z), .slice A5 n5 c5]))], [.val 21 (mV (.pointer (some ⟨w.heap.size, 2, none⟩)))], [.val 22 (mV (.slice AP' nP' cP'))], [.val 23 (mV (.pointer (some ⟨w.heap.size + 1, 0, none⟩)))], [.val 24 (mV (.pointer (some ⟨w.heap.size + 1, 1, none⟩)))], [.val 25 (mV (.slice AQ nQ cQ))], [.val 26 (mN (d) (M + M'))], [.val 27 (mR2 (q) (M + M') (0))], [.val 28 (mR (q) (M + M'))], [.val 29 (mV (.int .i64 (0)))], [.old 1 (mR (q) (M + M'))], [.val 5 (mV (.int .i64 (0)))]]) [5, 20, 21, 22, 23, 24, 25, 26, 27, 28, 29] hS.out ?_ (by kernel_rfl) ?_ (fun j hj => fs_big hj)
    · intro i hi L a w' S Bn T1 O D hp hno hni
      match i, hi with
      | 0, _ =>
        have p : a.eval (.tmp 6) = .pointer (some ⟨v3.heap.size, 0, none⟩) := D.at0 rfl rfl
        obtain ⟨z0, z1⟩ := b2 (D.cells hno (i0 := 0) rfl (by kernel_rfl))
        exact st_pure (v := .agg #[.bool (sg z), .slice A5 n5 c5]) D hno rfl rfl rfl (by simp only [Act.eval] at p; simp only [execOp, Act.eval]; go_simp) (of_decide_eq_true rfl) (of_decide_eq_true rfl) (by kernel_rfl) rfl rfl
      | 1, _ =>
        have p : a.eval (.tmp 2) = .pointer (some ⟨w.heap.size, 0, none⟩) := D.at0 rfl rfl
        exact st_pure (v := .pointer (some ⟨w.heap.size, 2, none⟩)) D hno rfl rfl rfl (by simp only [Act.eval] at p; simp only [execOp, Act.eval]; go_simp) (of_decide_eq_true rfl) (of_decide_eq_true rfl) (by kernel_rfl) rfl rfl
      | 2, _ =>
        have p : a.eval (.tmp 21) = .pointer (some ⟨w.heap.size, 2, none⟩) := D.vt (hp 1 (by kernel_rfl)) rfl
        obtain ⟨z0, z1, z2⟩ := b3 (D.cells hno (i0 := 3) rfl (by kernel_rfl))
        exact st_pure (v := .slice AP' nP' cP') D hno rfl rfl rfl (by simp only [Act.eval] at p; simp only [execOp, Act.eval]; go_simp) (of_decide_eq_true rfl) (of_decide_eq_true rfl) (by kernel_rfl) rfl rfl
      | 3, _ =>
        have p : a.eval (.tmp 3) = .pointer (some ⟨w.heap.size + 1, 0, none⟩) := D.at0 rfl rfl
        exact st_pure (v := .pointer (some ⟨w.heap.size + 1, 0, none⟩)) D hno rfl rfl rfl (by simp only [Act.eval] at p; simp only [execOp, Act.eval]; go_simp) (of_decide_eq_true rfl) (of_decide_eq_true rfl) (by kernel_rfl) rfl rfl
      | 4, _ =>
        have p : a.eval (.tmp 23) = .pointer (some ⟨w.heap.size + 1, 0, none⟩) := D.vt (hp 3 (by kernel_rfl)) rfl
        exact st_pure (v := .pointer (some ⟨w.heap.size + 1, 1, none⟩)) D hno rfl rfl rfl (by simp only [Act.eval] at p; simp only [execOp, Act.eval]; go_simp) (of_decide_eq_true rfl) (of_decide_eq_true rfl) (by kernel_rfl) rfl rfl
      | 5, _ =>
        have p : a.eval (.tmp 24) = .pointer (some ⟨w.heap.size + 1, 1, none⟩) := D.vt (hp 4 (by kernel_rfl)) rfl
        obtain ⟨z0, z1, z2⟩ := b3 (D.cells hno (i0 := 2) rfl (by kernel_rfl))
        exact st_pure (v := .slice AQ nQ cQ) D hno rfl rfl rfl (by simp only [Act.eval] at p; simp only [execOp, Act.eval]; go_simp) (of_decide_eq_true rfl) (of_decide_eq_true rfl) (by kernel_rfl) rfl rfl
      | 6, _ =>
        have pq0 : a.eval (.tmp 22) = .slice AP' nP' cP' := D.vt (hp 2 (by kernel_rfl)) rfl
        have pq1 : a.eval (.tmp 25) = .slice AQ nQ cQ := D.vt (hp 5 (by kernel_rfl)) rfl
        have hv : #[Operand.tmp 22, Operand.tmp 25].map a.eval = #[.slice AP' nP' cP', .slice AQ nQ cQ] := by simp only [List.map_toArray, List.map_cons, List.map_nil, pq0, pq1]
        refine st_call D hno rfl hv Tryz.func31 (by kernel_rfl) rfl (nmul_c D.sc (D.sub _ (by repeat (first | exact List.mem_cons_self | apply List.mem_cons_of_mem))) (by omega) (D.sub _ (by repeat (first | exact List.mem_cons_self | apply List.mem_cons_of_mem))) (by omega) hd) (of_decide_eq_true rfl) (of_decide_eq_true rfl) (by kernel_rfl) rfl ?_
        rintro e w2 ⟨A, n, c, rfl, h1⟩
        exact ⟨_, _, _, rfl, h1, fun t ht => List.mem_cons_of_mem _ ht, fun t ht => List.mem_cons_of_mem _ ht, ⟨A, n, c, rfl, List.mem_cons_self, List.mem_cons_self⟩⟩
      | 7, _ =>
        have pq0 : a.eval (.tmp 20) = .agg #[.bool (sg z), .slice A5 n5 c5] := D.vt (hp 0 (by kernel_rfl)) rfl
        obtain ⟨Aq1, nq1, cq1, eq1, mq1, oq1⟩ := D.vt (t := 26) (hp 6 (by kernel_rfl)) rfl
        have hv : #[Operand.tmp 20, Operand.tmp 26].map a.eval = #[.agg #[.bool (sg z), .slice A5 n5 c5], .slice Aq1 nq1 cq1] := by simp only [List.map_toArray, List.map_cons, List.map_nil, pq0, eq1]
        refine st_call D hno rfl hv Tryz.func10 (by kernel_rfl) rfl (fmk_c (M := M + M') (k := M + M') (k' := M + M') D.sc (D.sub _ (by repeat (first | exact List.mem_cons_self | apply List.mem_cons_of_mem))) mq1 (by omega) (by omega) (by omega) hdp hqv) (of_decide_eq_true rfl) (of_decide_eq_true rfl) (by kernel_rfl) rfl ?_
        rintro e w2 ⟨A, n, c, A', n', c', rfl, h1⟩
        exact ⟨_, _, _, rfl, h1, fun t ht => List.mem_cons_of_mem _ (List.mem_cons_of_mem _ ht), fun t ht => List.mem_cons_of_mem _ (List.mem_cons_of_mem _ ht), ⟨A, n, c, A', n', c', rfl, List.mem_cons_self, List.mem_cons_of_mem _ List.mem_cons_self, List.mem_cons_self, List.mem_cons_of_mem _ List.mem_cons_self⟩⟩
      | 8, _ =>
        obtain ⟨Aq, nq, cq, Aq', nq', cq', eq, mq, mq', oq, oq'⟩ := D.vt (t := 27) (hp 7 (by kernel_rfl)) rfl
        exact st_pure (v := .agg #[.bool (sg (q).num), .slice Aq nq cq, .slice Aq' nq' cq']) D hno rfl rfl rfl (by simp only [Act.eval] at eq; simp only [execOp, Act.eval]; go_simp) (of_decide_eq_true rfl) (of_decide_eq_true rfl) (by kernel_rfl) rfl ⟨_, _, _, _, _, _, rfl, mq, mq', oq, oq'⟩
      | 9, _ =>
        obtain ⟨Aq, nq, cq, Aq', nq', cq', eq, mq, mq', oq, oq'⟩ := D.vt (t := 27) (hp 7 (by kernel_rfl)) rfl
        exact st_pure (v := .int .i64 (0)) D hno rfl rfl rfl (by simp only [Act.eval] at eq; simp only [execOp, Act.eval]; go_simp) (of_decide_eq_true rfl) (of_decide_eq_true rfl) (by kernel_rfl) rfl rfl
      | 10, _ =>
        obtain ⟨Aq, nq, cq, Aq', nq', cq', eq, mq, mq', oq, oq'⟩ := D.vt (t := 28) (hp 8 (by kernel_rfl)) rfl
        have p : a.eval (.tmp 4) = .pointer (some ⟨w.heap.size + 1 + 1, 0, none⟩) := D.at0 rfl rfl
        exact st_put (m := mR (q) (M + M')) (i0 := 1) D hni rfl (by decide) rfl ((hS.out.ge_ 1 rfl)) p eq (⟨_, _, _, _, _, _, rfl, mq, mq', oq, oq'⟩) (by kernel_rfl) rfl infoRat rfl (by simp [Value.oneCell'])
      | 11, _ =>
        have p : a.eval (.tmp 29) = .int .i64 (0) := D.vt (hp 9 (by kernel_rfl)) rfl
        exact st_pure (v := .int .i64 (0)) D hno rfl rfl rfl (by simp only [Act.eval] at p; simp only [execOp, Act.eval]; go_simp) (of_decide_eq_true rfl) (of_decide_eq_true rfl) (by kernel_rfl) rfl rfl
      | i + 12, hi => exact absurd hi (by show ¬ (i + 12 < 12); omega)
    · intro a w5 S Bn T1 O hfr hsc hs0 ho0 htags hgs hkeep hf
      have hQ_0 := hkeep 0 (fun j hj m hm => by exact absurd hm (onlyOld_spec (i := 1000) (by kernel_rfl) j (by rintro rfl; exact absurd hj (by decide)) m))
      obtain ⟨QN, hQN, AN, nN, cN, AN', nN', cN', evN, mN, mN', oN, oN'⟩ : Ft.ok a S O Bn T1 (.old 1 (mR (q) (M + M'))) := hf 10 (by decide) _ (List.mem_singleton.2 rfl)
      have hgN := blk_eq (g_old hgs (i := 1) rfl hQN) evN
      rw [hgN] at hQN
      have hQ_2 := hkeep 2 (fun j hj m hm => by exact absurd hm (onlyOld_spec (i := 1000) (by kernel_rfl) j (by rintro rfl; exact absurd hj (by decide)) m))
      have hQ_3 := hkeep 3 (fun j hj m hm => by exact absurd hm (onlyOld_spec (i := 1000) (by kernel_rfl) j (by rintro rfl; exact absurd hj (by decide)) m))
      have ek5 : a.eval (.tmp 5) = .int .i64 (0) := hf 11 (by decide) _ (List.mem_singleton.2 rfl)
      obtain rfl := list_4 (by simpa using congrArg List.length hgs) hQ_0 hQN hQ_2 hQ_3
      have h1 := end_old hsc (mem_more mN' (mem_more mN hs0)) (mem_more oN' (mem_more oN ho0))
      obtain ⟨tyN, htyN⟩ : ∃ t, QN.ty = t := ⟨_, rfl⟩
      rw [htyN] at h1
      clear htyN
      have hc := hfr.closed
      simp only [List.map_cons, List.map_nil] at hc
      rw [ek5] at hc
      clear hfr hsc hs0 ho0 htags hgs hkeep hf
      clear mN
      clear mN'
      clear oN
      clear oN'
      clear hQ_0 hQN hgN evN QN hQ_2 hQ_3
      clear ek5
      generalize a.eval (.tmp 20) = u20_ at hc
      generalize a.eval (.tmp 21) = u21_ at hc
      generalize a.eval (.tmp 22) = u22_ at hc
      generalize a.eval (.tmp 23) = u23_ at hc
      generalize a.eval (.tmp 24) = u24_ at hc
      generalize a.eval (.tmp 25) = u25_ at hc
      generalize a.eval (.tmp 26) = u26_ at hc
      generalize a.eval (.tmp 27) = u27_ at hc
      generalize a.eval (.tmp 28) = u28_ at hc
      generalize a.eval (.tmp 29) = u29_ at hc
      subst hc
      clear hS; have hS := Lib.hid h1; clear h1
      simp only [putAll, List.foldl_cons, List.foldl_nil, Act.put, List.setIfInBounds_toArray, List.set_cons_zero, List.set_cons_succ]
      obtain ⟨v5, hww⟩ : ∃ x, x = w5 := ⟨_, rfl⟩
      subst hww
      obtain ⟨x0_0, x1_0⟩ := hS.out.cs2 0 rfl
      obtain ⟨x0_1, x1_1, x2_1⟩ := hS.out.cs3 1 rfl
      obtain ⟨x0_2, x1_2, x2_2⟩ := hS.out.cs3 2 rfl
      obtain ⟨x0_3, x1_3, x2_3⟩ := hS.out.cs3 3 rfl
      go_wp2_with fail
      refine bodyPost_ret (results_B2 rfl rfl rfl (loadR (hS.out.box _ (List.mem_of_getElem? (i := 1) rfl)))) rfl ?_
      rw [hq]
      exact hS.out.toRE2 (k := M + M') (k' := M + M') (r := q) (by repeat (first | exact List.mem_cons_self | apply List.mem_cons_of_mem)) (by repeat (first | exact List.mem_cons_self | apply List.mem_cons_of_mem)) (by repeat (first | exact List.mem_cons_self | apply List.mem_cons_of_mem)) (by repeat (first | exact List.mem_cons_self | apply List.mem_cons_of_mem)) (by omega) (by omega) rfl rfl rfl
theorem fquo_zero (w : World) (h : Frm w b0 A0 n0 c0 x0 A0' n0' c0' x0' M r) (h' : Frm w b1 A1 n1 c1 x1 A1' n1' c1' x1' M' r') (h1M : 1 ≤ M) (hM : M ≤ 100000) (h1M' : 1 ≤ M') (hM' : M' ≤ 100000) (hz0 : r' = 0) :
    Calls Tryz.prog 11 #[.agg #[.bool b0, .slice A0 n0 c0, .slice A0' n0' c0'], .agg #[.bool b1, .slice A1 n1 c1, .slice A1' n1' c1']] w (OutRZ w 7) := by
  have hS := Lib.hid (((((SC.start w).old (k := M') h'.den h'.ld rfl).old (k := M') h'.num h'.ln rfl).old (k := M) h.den h.ld rfl).old (k := M) h.num h.ln rfl)
  have hr0 := h.val
  have hr1 := h'.val
  clear h h'
  go_enter Tryz.func11, Tryz.ntmps11
  go_wp2_with fail
  generalize hwa : World.alloc (World.alloc (World.alloc w _) _) _ = v1
  have h1 := (((hS.out.boxed (vs := [.bool b0, .slice A0 n0 c0, .slice A0' n0' c0']) (ty := 27) rfl rfl).boxed (vs := [.bool b1, .slice A1 n1 c1, .slice A1' n1' c1']) (ty := 27) rfl rfl).boxed (vs := [.bool false, .slice none 0 0, .slice none 0 0]) (ty := 27) rfl hwa)
  simp only [World.size_alloc] at h1
  clear hwa
  clear hS; have hS := Lib.hid h1; clear h1
  obtain ⟨x0_0, x1_0, x2_0⟩ := hS.out.cs3 0 rfl
  obtain ⟨x0_1, x1_1, x2_1⟩ := hS.out.cs3 1 rfl
  obtain ⟨x0_2, x1_2, x2_2⟩ := hS.out.cs3 2 rfl
  go_wp2_with fail
  clear x0_0 x1_0 x2_0 x0_1 x1_1 x2_1 x0_2 x1_2 x2_2
  refine wp_region_rc (fs [[.val 7 (mV (.agg #[.bool b0, .slice A0 n0 c0, .slice A0' n0' c0']))], [.val 8 (mS (r) (M))], [.val 9 (mV (.agg #[.bool b1, .slice A1 n1 c1, .slice A1' n1' c1']))], [.val 10 (mS (r') (M'))], [.old 2 (mS (r) (M))], [.old 1 (mS (r') (M'))]]) [7, 8, 9, 10] hS.out ?_ (by kernel_rfl) ?_ (fun j hj => fs_big hj)
  · intro i hi L a w' S Bn T1 O D hp hno hni
    match i, hi with
    | 0, _ =>
      have p : a.eval (.tmp 2) = .pointer (some ⟨w.heap.size, 0, none⟩) := D.at0 rfl rfl
      obtain ⟨z0, z1, z2⟩ := b3 (D.cells hno (i0 := 2) rfl (by kernel_rfl))
      exact st_pure (v := .agg #[.bool b0, .slice A0 n0 c0, .slice A0' n0' c0']) D hno rfl rfl rfl (by simp only [Act.eval] at p; simp only [execOp, Act.eval]; go_simp) (of_decide_eq_true rfl) (of_decide_eq_true rfl) (by kernel_rfl) rfl rfl
    | 1, _ =>
      have pq0 : a.eval (.tmp 7) = .agg #[.bool b0, .slice A0 n0 c0, .slice A0' n0' c0'] := D.vt (hp 0 (by kernel_rfl)) rfl
      have hv : #[Operand.tmp 7].map a.eval = #[.agg #[.bool b0, .slice A0 n0 c0, .slice A0' n0' c0']] := by simp only [List.map_toArray, List.map_cons, List.map_nil, pq0]
      refine st_call D hno rfl hv Tryz.func29 (by kernel_rfl) rfl (sound_c (k := M) D.sc (D.sub _ (by repeat (first | exact List.mem_cons_self | apply List.mem_cons_of_mem))) (D.sub _ (by repeat (first | exact List.mem_cons_self | apply List.mem_cons_of_mem))) (by omega) h1M hr0) (of_decide_eq_true rfl) (of_decide_eq_true rfl) (by kernel_rfl) rfl ?_
      rintro e w2 ⟨b, A, n, c, xs, v, A', n', c', ys, u, rfl, hu, hr, h1⟩
      exact ⟨_, _, _, rfl, h1, fun t ht => List.mem_cons_of_mem _ (List.mem_cons_of_mem _ ht), fun t ht => ht, ⟨b, A, n, c, xs, v, A', n', c', ys, u, rfl, hu, hr, List.mem_cons_self, List.mem_cons_of_mem _ List.mem_cons_self⟩⟩
    | 2, _ =>
      have p : a.eval (.tmp 3) = .pointer (some ⟨w.heap.size + 1, 0, none⟩) := D.at0 rfl rfl
      obtain ⟨z0, z1, z2⟩ := b3 (D.cells hno (i0 := 1) rfl (by kernel_rfl))
      exact st_pure (v := .agg #[.bool b1, .slice A1 n1 c1, .slice A1' n1' c1']) D hno rfl rfl rfl (by simp only [Act.eval] at p; simp only [execOp, Act.eval]; go_simp) (of_decide_eq_true rfl) (of_decide_eq_true rfl) (by kernel_rfl) rfl rfl
    | 3, _ =>
      have pq0 : a.eval (.tmp 9) = .agg #[.bool b1, .slice A1 n1 c1, .slice A1' n1' c1'] := D.vt (hp 2 (by kernel_rfl)) rfl
      have hv : #[Operand.tmp 9].map a.eval = #[.agg #[.bool b1, .slice A1 n1 c1, .slice A1' n1' c1']] := by simp only [List.map_toArray, List.map_cons, List.map_nil, pq0]
      refine st_call D hno rfl hv Tryz.func29 (by kernel_rfl) rfl (sound_c (k := M') D.sc (D.sub _ (by repeat (first | exact List.mem_cons_self | apply List.mem_cons_of_mem))) (D.sub _ (by repeat (first | exact List.mem_cons_self | apply List.mem_cons_of_mem))) (by omega) h1M' hr1) (of_decide_eq_true rfl) (of_decide_eq_true rfl) (by kernel_rfl) rfl ?_
      rintro e w2 ⟨b, A, n, c, xs, v, A', n', c', ys, u, rfl, hu, hr, h1⟩
      exact ⟨_, _, _, rfl, h1, fun t ht => List.mem_cons_of_mem _ (List.mem_cons_of_mem _ ht), fun t ht => ht, ⟨b, A, n, c, xs, v, A', n', c', ys, u, rfl, hu, hr, List.mem_cons_self, List.mem_cons_of_mem _ List.mem_cons_self⟩⟩
    | 4, _ =>
      obtain ⟨bq, Aq, nq, cq, xsq, vlq, Aq', nq', cq', ysq, uq, eq, huq, hrq, mq, mq'⟩ := D.vt (t := 8) (hp 1 (by kernel_rfl)) rfl
      have p : a.eval (.tmp 2) = .pointer (some ⟨w.heap.size, 0, none⟩) := D.at0 rfl rfl
      exact st_put (m := mS (r) (M)) (i0 := 2) D hni rfl (by decide) rfl ((hS.out.ge_ 2 rfl)) p eq (⟨bq, Aq, nq, cq, xsq, vlq, Aq', nq', cq', ysq, uq, rfl, huq, hrq, mq, mq'⟩) (by kernel_rfl) rfl infoRat rfl (by simp [Value.oneCell'])
    | 5, _ =>
      obtain ⟨bq, Aq, nq, cq, xsq, vlq, Aq', nq', cq', ysq, uq, eq, huq, hrq, mq, mq'⟩ := D.vt (t := 10) (hp 3 (by kernel_rfl)) rfl
      have p : a.eval (.tmp 3) = .pointer (some ⟨w.heap.size + 1, 0, none⟩) := D.at0 rfl rfl
      exact st_put (m := mS (r') (M')) (i0 := 1) D hni rfl (by decide) rfl ((hS.out.ge_ 1 rfl)) p eq (⟨bq, Aq, nq, cq, xsq, vlq, Aq', nq', cq', ysq, uq, rfl, huq, hrq, mq, mq'⟩) (by kernel_rfl) rfl infoRat rfl (by simp [Value.oneCell'])
    | i + 6, hi => exact absurd hi (by show ¬ (i + 6 < 6); omega)
  · intro a w5 S Bn T1 O hfr hsc hs0 ho0 htags hgs hkeep hf
    have hQ_0 := hkeep 0 (fun j hj m hm => by exact absurd hm (onlyOld_spec (i := 1000) (by kernel_rfl) j (by rintro rfl; exact absurd hj (by decide)) m))
    obtain ⟨QQ, hQQ, bQ, AQ, nQ, cQ, xsQ, vlQ, AQ', nQ', cQ', ysQ, uQ, evQ, huQ, hrQ, mQ, mQ'⟩ : Ft.ok a S O Bn T1 (.old 1 (mS (r') (M'))) := hf 5 (by decide) _ (List.mem_singleton.2 rfl)
    have hgQ := blk_eq (g_old hgs (i := 1) rfl hQQ) evQ
    rw [hgQ] at hQQ
    obtain ⟨QP, hQP, bP, AP, nP, cP, xsP, vlP, AP', nP', cP', ysP, uP, evP, huP, hrP, mP, mP'⟩ : Ft.ok a S O Bn T1 (.old 2 (mS (r) (M))) := hf 4 (by decide) _ (List.mem_singleton.2 rfl)
    have hgP := blk_eq (g_old hgs (i := 2) rfl hQP) evP
    rw [hgP] at hQP
    obtain rfl := list_3 (by simpa using congrArg List.length hgs) hQ_0 hQQ hQP
    have h1 := end_old hsc (mem_more mP' (mem_more mP (mem_more mQ' (mem_more mQ hs0)))) ho0
    obtain ⟨tyQ, htyQ⟩ : ∃ t, QQ.ty = t := ⟨_, rfl⟩
    rw [htyQ] at h1
    clear htyQ
    obtain ⟨tyP, htyP⟩ : ∃ t, QP.ty = t := ⟨_, rfl⟩
    rw [htyP] at h1
    clear htyP
    have hc := hfr.closed
    simp only [List.map_cons, List.map_nil] at hc
    clear hfr hsc hs0 ho0 htags hgs hkeep hf
    clear mQ
    clear mQ'
    clear mP
    clear mP'
    clear hQ_0 hQQ hgQ evQ QQ hQP hgP evP QP
    generalize a.eval (.tmp 7) = u7_ at hc
    generalize a.eval (.tmp 8) = u8_ at hc
    generalize a.eval (.tmp 9) = u9_ at hc
    generalize a.eval (.tmp 10) = u10_ at hc
    subst hc
    clear hS; have hS := Lib.hid h1; clear h1
    simp only [putAll, List.foldl_cons, List.foldl_nil, Act.put, List.setIfInBounds_toArray, List.set_cons_zero, List.set_cons_succ]
    obtain ⟨v2, hww⟩ : ∃ x, x = w5 := ⟨_, rfl⟩
    subst hww
    obtain ⟨x0_0, x1_0, x2_0⟩ := hS.out.cs3 0 rfl
    obtain ⟨x0_1, x1_1, x2_1⟩ := hS.out.cs3 1 rfl
    obtain ⟨x0_2, x1_2, x2_2⟩ := hS.out.cs3 2 rfl
    have hvQ : vlQ = 0 := (rv_eq0 huQ).1 (hrQ.trans hz0)
    subst hvQ
    obtain ⟨z, hz⟩ : ∃ z, iv bP vlP * iv bQ uQ = z := ⟨_, rfl⟩
    obtain ⟨d, hd⟩ : ∃ d, uP * 0 = d := ⟨_, rfl⟩
    have hdp : d = 0 := by rw [← hd, Int.mul_zero]
    go_wp2_with fail
    go_at_call 30
    with_reducible refine (wmul_c hS.out (by repeat (first | exact List.mem_cons_self | apply List.mem_cons_of_mem)) (by omega) (by repeat (first | exact List.mem_cons_self | apply List.mem_cons_of_mem)) (by omega) hz).mono ?_
    rintro e v3 ⟨A5, n5, c5, rfl, h1⟩
    clear x0_0 x1_0 x2_0 x0_1 x1_1 x2_1 x0_2 x1_2 x2_2
    clear hS; have hS := Lib.hid h1; clear h1
    obtain ⟨x0_0, x1_0, x2_0⟩ := hS.out.cs3 0 rfl
    obtain ⟨x0_1, x1_1, x2_1⟩ := hS.out.cs3 1 rfl
    obtain ⟨x0_2, x1_2, x2_2⟩ := hS.out.cs3 2 rfl
    go_wp2_with fail
    generalize hwa : World.alloc v3 _ = v4
    have h1 := (hS.out.boxed (vs := [.bool (sg z), .slice A5 n5 c5]) (ty := 25) rfl hwa)
    clear hwa
    clear hS; have hS := Lib.hid h1; clear h1
    obtain ⟨x0_0, x1_0⟩ := hS.out.cs2 0 rfl
    obtain ⟨x0_1, x1_1, x2_1⟩ := hS.out.cs3 1 rfl
    obtain ⟨x0_2, x1_2, x2_2⟩ := hS.out.cs3 2 rfl
    obtain ⟨x0_3, x1_3, x2_3⟩ := hS.out.cs3 3 rfl
    go_wp2_with fail
    clear x0_0 x1_0 x0_1 x1_1 x2_1 x0_2 x1_2 x2_2 x0_3 x1_3 x2_3
    refine wp_region_rc (fs [[.val 20 (mV (.agg #[.bool (sg z), .slice A5 n5 c5]))], [.val 21 (mV (.pointer (some ⟨w.heap.size, 2, none⟩)))], [.val 22 (mV (.slice AP' nP' cP'))], [.val 23 (mV (.pointer (some ⟨w.heap.size + 1, 0, none⟩)))], [.val 24 (mV (.pointer (some ⟨w.heap.size + 1, 1, none⟩)))], [.val 25 (mV (.slice AQ nQ cQ))], [.val 26 (mN (d) (M + M'))], [.val 27 (mV (.tuple #[.agg #[.bool false, .slice none 0 0, .slice none 0 0], .int .i64 7]))], [.val 28 (mV (.agg #[.bool false, .slice none 0 0, .slice none 0 0]))], [.val 29 (mV (.int .i64 7))], [.old 1 (mV (.agg #[.bool false, .slice none 0 0, .slice none 0 0]))], [.val 5 (mV (.int .i64 7))]]) [5, 20, 21, 22, 23, 24, 25, 26, 27, 28, 29] hS.out ?_ (by kernel_rfl) ?_ (fun j hj => fs_big hj)
    · intro i hi L a w' S Bn T1 O D hp hno hni
      match i, hi with
      | 0, _ =>
        have p : a.eval (.tmp 6) = .pointer (some ⟨v3.heap.size, 0, none⟩) := D.at0 rfl rfl
        obtain ⟨z0, z1⟩ := b2 (D.cells hno (i0 := 0) rfl (by kernel_rfl))
        exact st_pure (v := .agg #[.bool (sg z), .slice A5 n5 c5]) D hno rfl rfl rfl (by simp only [Act.eval] at p; simp only [execOp, Act.eval]; go_simp) (of_decide_eq_true rfl) (of_decide_eq_true rfl) (by kernel_rfl) rfl rfl
      | 1, _ =>
        have p : a.eval (.tmp 2) = .pointer (some ⟨w.heap.size, 0, none⟩) := D.at0 rfl rfl
        exact st_pure (v := .pointer (some ⟨w.heap.size, 2, none⟩)) D hno rfl rfl rfl (by simp only [Act.eval] at p; simp only [execOp, Act.eval]; go_simp) (of_decide_eq_true rfl) (of_decide_eq_true rfl) (by kernel_rfl) rfl rfl
      | 2, _ =>
        have p : a.eval (.tmp 21) = .pointer (some ⟨w.heap.size, 2, none⟩) := D.vt (hp 1 (by kernel_rfl)) rfl
        obtain ⟨z0, z1, z2⟩ := b3 (D.cells hno (i0 := 3) rfl (by kernel_rfl))
        exact st_pure (v := .slice AP' nP' cP') D hno rfl rfl rfl (by simp only [Act.eval] at p; simp only [execOp, Act.eval]; go_simp) (of_decide_eq_true rfl) (of_decide_eq_true rfl) (by kernel_rfl) rfl rfl
      | 3, _ =>
        have p : a.eval (.tmp 3) = .pointer (some ⟨w.heap.size + 1, 0, none⟩) := D.at0 rfl rfl
        exact st_pure (v := .pointer (some ⟨w.heap.size + 1, 0, none⟩)) D hno rfl rfl rfl (by simp only [Act.eval] at p; simp only [execOp, Act.eval]; go_simp) (of_decide_eq_true rfl) (of_decide_eq_true rfl) (by kernel_rfl) rfl rfl
      | 4, _ =>
        have p : a.eval (.tmp 23) = .pointer (some ⟨w.heap.size + 1, 0, none⟩) := D.vt (hp 3 (by kernel_rfl)) rfl
        exact st_pure (v := .pointer (some ⟨w.heap.size + 1, 1, none⟩)) D hno rfl rfl rfl (by simp only [Act.eval] at p; simp only [execOp, Act.eval]; go_simp) (of_decide_eq_true rfl) (of_decide_eq_true rfl) (by kernel_rfl) rfl rfl
      | 5, _ =>
        have p : a.eval (.tmp 24) = .pointer (some ⟨w.heap.size + 1, 1, none⟩) := D.vt (hp 4 (by kernel_rfl)) rfl
        obtain ⟨z0, z1, z2⟩ := b3 (D.cells hno (i0 := 2) rfl (by kernel_rfl))
        exact st_pure (v := .slice AQ nQ cQ) D hno rfl rfl rfl (by simp only [Act.eval] at p; simp only [execOp, Act.eval]; go_simp) (of_decide_eq_true rfl) (of_decide_eq_true rfl) (by kernel_rfl) rfl rfl
      | 6, _ =>
        have pq0 : a.eval (.tmp 22) = .slice AP' nP' cP' := D.vt (hp 2 (by kernel_rfl)) rfl
        have pq1 : a.eval (.tmp 25) = .slice AQ nQ cQ := D.vt (hp 5 (by kernel_rfl)) rfl
        have hv : #[Operand.tmp 22, Operand.tmp 25].map a.eval = #[.slice AP' nP' cP', .slice AQ nQ cQ] := by simp only [List.map_toArray, List.map_cons, List.map_nil, pq0, pq1]
        refine st_call D hno rfl hv Tryz.func31 (by kernel_rfl) rfl (nmul_c D.sc (D.sub _ (by repeat (first | exact List.mem_cons_self | apply List.mem_cons_of_mem))) (by omega) (D.sub _ (by repeat (first | exact List.mem_cons_self | apply List.mem_cons_of_mem))) (by omega) hd) (of_decide_eq_true rfl) (of_decide_eq_true rfl) (by kernel_rfl) rfl ?_
        rintro e w2 ⟨A, n, c, rfl, h1⟩
        exact ⟨_, _, _, rfl, h1, fun t ht => List.mem_cons_of_mem _ ht, fun t ht => List.mem_cons_of_mem _ ht, ⟨A, n, c, rfl, List.mem_cons_self, List.mem_cons_self⟩⟩
      | 7, _ =>
        have pq0 : a.eval (.tmp 20) = .agg #[.bool (sg z), .slice A5 n5 c5] := D.vt (hp 0 (by kernel_rfl)) rfl
        obtain ⟨Aq1, nq1, cq1, eq1, mq1, oq1⟩ := D.vt (t := 26) (hp 6 (by kernel_rfl)) rfl
        have hv : #[Operand.tmp 20, Operand.tmp 26].map a.eval = #[.agg #[.bool (sg z), .slice A5 n5 c5], .slice Aq1 nq1 cq1] := by simp only [List.map_toArray, List.map_cons, List.map_nil, pq0, eq1]
        refine st_call D hno rfl hv Tryz.func10 (by kernel_rfl) rfl (fmk_z (k := M + M') (k' := M + M') D.sc (D.sub _ (by repeat (first | exact List.mem_cons_self | apply List.mem_cons_of_mem))) mq1 (by omega) (by omega) hdp) (of_decide_eq_true rfl) (of_decide_eq_true rfl) (by kernel_rfl) rfl ?_
        rintro e w2 ⟨rfl, h1⟩
        exact ⟨_, _, _, rfl, h1, fun t ht => ht, fun t ht => ht, rfl⟩
      | 8, _ =>
        have pq : a.eval (.tmp 27) = .tuple #[.agg #[.bool false, .slice none 0 0, .slice none 0 0], .int .i64 7] := D.vt (hp 7 (by kernel_rfl)) rfl
        exact st_pure (v := .agg #[.bool false, .slice none 0 0, .slice none 0 0]) D hno rfl rfl rfl (by simp only [Act.eval] at pq; simp only [execOp, Act.eval]; go_simp) (of_decide_eq_true rfl) (of_decide_eq_true rfl) (by kernel_rfl) rfl rfl
      | 9, _ =>
        have pq : a.eval (.tmp 27) = .tuple #[.agg #[.bool false, .slice none 0 0, .slice none 0 0], .int .i64 7] := D.vt (hp 7 (by kernel_rfl)) rfl
        exact st_pure (v := .int .i64 7) D hno rfl rfl rfl (by simp only [Act.eval] at pq; simp only [execOp, Act.eval]; go_simp) (of_decide_eq_true rfl) (of_decide_eq_true rfl) (by kernel_rfl) rfl rfl
      | 10, _ =>
        have pq : a.eval (.tmp 28) = .agg #[.bool false, .slice none 0 0, .slice none 0 0] := D.vt (hp 8 (by kernel_rfl)) rfl
        have p : a.eval (.tmp 4) = .pointer (some ⟨w.heap.size + 1 + 1, 0, none⟩) := D.at0 rfl rfl
        exact st_put (m := mV (.agg #[.bool false, .slice none 0 0, .slice none 0 0])) (i0 := 1) D hni rfl (by decide) rfl ((hS.out.ge_ 1 rfl)) p pq (rfl) (by kernel_rfl) rfl infoRat rfl (by simp [Value.oneCell'])
      | 11, _ =>
        have p : a.eval (.tmp 29) = .int .i64 7 := D.vt (hp 9 (by kernel_rfl)) rfl
        exact st_pure (v := .int .i64 7) D hno rfl rfl rfl (by simp only [Act.eval] at p; simp only [execOp, Act.eval]; go_simp) (of_decide_eq_true rfl) (of_decide_eq_true rfl) (by kernel_rfl) rfl rfl
      | i + 12, hi => exact absurd hi (by show ¬ (i + 12 < 12); omega)
    · intro a w5 S Bn T1 O hfr hsc hs0 ho0 htags hgs hkeep hf
      have hQ_0 := hkeep 0 (fun j hj m hm => by exact absurd hm (onlyOld_spec (i := 1000) (by kernel_rfl) j (by rintro rfl; exact absurd hj (by decide)) m))
      obtain ⟨QN, hQN, evN⟩ : Ft.ok a S O Bn T1 (.old 1 (mV (.agg #[.bool false, .slice none 0 0, .slice none 0 0]))) := hf 10 (by decide) _ (List.mem_singleton.2 rfl)
      have hgN := blk_eq (g_old hgs (i := 1) rfl hQN) evN
      rw [hgN] at hQN
      have hQ_2 := hkeep 2 (fun j hj m hm => by exact absurd hm (onlyOld_spec (i := 1000) (by kernel_rfl) j (by rintro rfl; exact absurd hj (by decide)) m))
      have hQ_3 := hkeep 3 (fun j hj m hm => by exact absurd hm (onlyOld_spec (i := 1000) (by kernel_rfl) j (by rintro rfl; exact absurd hj (by decide)) m))
      have ek5 : a.eval (.tmp 5) = .int .i64 7 := hf 11 (by decide) _ (List.mem_singleton.2 rfl)
      obtain rfl := list_4 (by simpa using congrArg List.length hgs) hQ_0 hQN hQ_2 hQ_3
      have h1 := end_old hsc hs0 ho0
      obtain ⟨tyN, htyN⟩ : ∃ t, QN.ty = t := ⟨_, rfl⟩
      rw [htyN] at h1
      clear htyN
      have hc := hfr.closed
      simp only [List.map_cons, List.map_nil] at hc
      rw [ek5] at hc
      clear hfr hsc hs0 ho0 htags hgs hkeep hf
      clear hQ_0 hQN hgN evN QN hQ_2 hQ_3
      clear ek5
      generalize a.eval (.tmp 20) = u20_ at hc
      generalize a.eval (.tmp 21) = u21_ at hc
      generalize a.eval (.tmp 22) = u22_ at hc
      generalize a.eval (.tmp 23) = u23_ at hc
      generalize a.eval (.tmp 24) = u24_ at hc
      generalize a.eval (.tmp 25) = u25_ at hc
      generalize a.eval (.tmp 26) = u26_ at hc
      generalize a.eval (.tmp 27) = u27_ at hc
      generalize a.eval (.tmp 28) = u28_ at hc
      generalize a.eval (.tmp 29) = u29_ at hc
      subst hc
      clear hS; have hS := Lib.hid h1; clear h1
      simp only [putAll, List.foldl_cons, List.foldl_nil, Act.put, List.setIfInBounds_toArray, List.set_cons_zero, List.set_cons_succ]
      obtain ⟨v5, hww⟩ : ∃ x, x = w5 := ⟨_, rfl⟩
      subst hww
      obtain ⟨x0_0, x1_0⟩ := hS.out.cs2 0 rfl
      obtain ⟨x0_1, x1_1, x2_1⟩ := hS.out.cs3 1 rfl
      obtain ⟨x0_2, x1_2, x2_2⟩ := hS.out.cs3 2 rfl
      obtain ⟨x0_3, x1_3, x2_3⟩ := hS.out.cs3 3 rfl
      go_wp2_with fail
      refine bodyPost_ret (results_B2 rfl rfl rfl (loadR (hS.out.box _ (List.mem_of_getElem? (i := 1) rfl)))) rfl ?_
      exact ⟨rfl, hS.out.bl⟩
end
end Go.Proofs.YtpokcocfdchfeaaGreatDoor
