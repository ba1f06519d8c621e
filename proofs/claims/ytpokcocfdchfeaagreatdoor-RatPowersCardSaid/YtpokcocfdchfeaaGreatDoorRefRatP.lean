/- The document of layer 6: Mul, long, Pow (mk_refpow.py). -/
import Derived.Test.YtpokcocfdchfeaaGreatDoorRefRatCt
import Derived.Test.YtpokcocfdchfeaaGreatDoorRefRatO
import Derived.Test.YtpokcocfdchfeaaGreatDoorRegC
import Derived.Test.YtpokcocfdchfeaaGreatDoorRatFrm
namespace Go.Proofs.YtpokcocfdchfeaaGreatDoor
open Go.RowKit
set_option linter.unusedVariables false
set_option linter.unusedSimpArgs false
set_option maxRecDepth 20000
open N
open RC
namespace RC
def mJ (b : Bool) (z : Int) (k : Nat) : MP := ⟨fun x S O => ∃ A n c, x = .agg #[.bool b, .slice A n c] ∧ (⟨A, n, c, k, limbs z, z⟩ : Ent) ∈ S, fun x S S' O O' hs ho ⟨A, n, c, e, h1⟩ => ⟨A, n, c, e, hs _ h1⟩⟩
end RC
namespace N
theorem iv_bmul (b b' : Bool) (v v' : Int) : iv (b != b') (v * v') = iv b v * iv b' v' := by
  cases b <;> cases b' <;> simp [iv, Int.neg_mul, Int.mul_neg]
theorem len_zero_p {v : Int} (h0 : 0 ≤ v) (h : W.len v = 0) : v = 0 := by
  obtain ⟨k, e1, e2, _⟩ := len_spec v h0
  have hk : k = 0 := by omega
  subst hk
  have h9 : (2 : Int) ^ 0 = 1 := by decide
  omega
end N
section
variable {w0 v0 w : World} {S O : List Ent} {T : List Blk} {A A' : Option Addr} {n c m d k k' M : Nat} {xs ys : List Int} {v u : Int} {b : Bool}
theorem r6count_c (h : SC w0 v0 w S T O) (h1 : (⟨A, n, c, k, xs, v⟩ : Ent) ∈ S) (h2 : (⟨A', m, d, k', ys, u⟩ : Ent) ∈ S) (hk : k ≤ M) (hk' : k' ≤ M) (hM1 : 1 ≤ M) (hM : M ≤ 1000) {r : Rat} (hr : rv b v u = r) :
    Calls Tryz.prog 18 #[.agg #[.bool b, .slice A n c, .slice A' m d]] w fun e w' => ∃ A n c A' n' c', e = .returned (.agg #[.bool (sg r.num), .slice A n c, .slice A' n' c']) ∧
      SC w0 v0 w' (⟨A, n, c, M, limbs (mg r.num), mg r.num⟩ :: ⟨A', n', c', M, limbs r.den, r.den⟩ :: S) T (⟨A, n, c, M, limbs (mg r.num), mg r.num⟩ :: ⟨A', n', c', M, limbs r.den, r.den⟩ :: O) := by
  obtain ⟨a1, a2, rfl⟩ := h.get h1
  obtain ⟨b1, b2, rfl⟩ := h.get h2
  subst hr
  exact (r6count_any w b a1 b1 (by omega) (by omega) hM1 hM rfl).mono fun e w' ho => h.rR (Nat.le_refl _) ho
theorem SC.ltQ (h : SC w0 v0 w S T O) (h1 : (⟨A, n, c, k, xs, v⟩ : Ent) ∈ S) : 0 ≤ v ∧ v < Q B k := by
  obtain ⟨a1, a2, rfl⟩ := h.get h1
  exact ⟨val_nonneg (by decide) a1.dg, Int.lt_of_lt_of_le (val_lt (by decide) a1.dg) (QB_le (by rw [a1.len]; exact a2))⟩
theorem rmul_p (h : SC w0 v0 w S T O) (h1 : (⟨A, n, c, k, xs, v⟩ : Ent) ∈ S) (hk : k ≤ 1000) (h2 : (⟨A', m, d, k', ys, u⟩ : Ent) ∈ S) (hk' : k' ≤ 1000) {r : Int} (hr : v * u = r) :
    Calls Tryz.prog 47 #[.slice A n c, .slice A' m d] w fun e w' => ∃ A n c, e = .returned (.slice A n c) ∧ SC w0 v0 w' (⟨A, n, c, k + k', limbs r, r⟩ :: S) T (⟨A, n, c, k + k', limbs r, r⟩ :: O) := by
  have q1 := h.ltQ h1
  have q2 := h.ltQ h2
  obtain ⟨a1, a2, rfl⟩ := h.get h1
  obtain ⟨b1, b2, rfl⟩ := h.get h2
  have h0 : 0 ≤ val B xs * val B ys := Int.mul_nonneg q1.1 q2.1
  have hK : val B xs * val B ys < Q B (k + k') := by
    rw [Q_add]
    exact Int.lt_of_le_of_lt (Int.mul_le_mul_of_nonneg_left (Int.le_of_lt q2.2) q1.1) (Int.mul_lt_mul_of_pos_right q1.2 (Int.lt_of_le_of_lt q2.1 q2.2))
  subst hr
  exact (rmul_any w A A' n c m d xs ys a1 b1 (by omega) (by omega)).mono fun e w' ho => h.rNK h0 hK ho
/-- is the power too long? -/
theorem rlong_y (h : SC w0 v0 w S T O) (h1 : (⟨A, n, c, k, xs, v⟩ : Ent) ∈ S) (hk : k ≤ 200000) {J q : Int} (hJ : W.len v = J) (h0 : 0 < J) (hq : 1048576 / J < q) :
    Calls Tryz.prog 19 #[.slice A n c, .int .i64 q] w fun e w' => e = .returned (.bool true) ∧ SC w0 v0 w' S T O := by
  have HL := Lib.hid (rlen_k h h1 hk hJ)
  obtain ⟨D, hD⟩ : ∃ D, 1048576 / J = D := ⟨_, rfl⟩
  have htd : Int.tdiv 1048576 J = D := by rw [Int.tdiv_eq_ediv_of_nonneg (by decide)]; exact hD
  rw [hD] at hq
  have hD2 : 0 ≤ D ∧ D ≤ 1048576 := by rw [← hD]; exact ⟨Int.ediv_nonneg (by decide) (by omega), Int.ediv_le_self _ (by decide)⟩
  have hwD : IntKind.i64.wrap D = D := by rw [IntKind.wrap_i64]; omega
  have hne : ¬ J = 0 := by omega
  clear h h1 hJ hD
  go_enter Tryz.func19, Tryz.ntmps19
  go_wp2_with (go_at_call 45; refine HL.out.mono ?_; rintro e w1 ⟨rfl, h1⟩; have HS := Lib.hid h1; clear h1)
  go_ret
  refine ⟨?_, HS.out⟩
  simp [hq]
theorem rlong_n (h : SC w0 v0 w S T O) (h1 : (⟨A, n, c, k, xs, v⟩ : Ent) ∈ S) (hk : k ≤ 200000) {J q : Int} (hJ : W.len v = J) (h0 : 0 ≤ J) (hq : J = 0 ∨ q ≤ 1048576 / J) :
    Calls Tryz.prog 19 #[.slice A n c, .int .i64 q] w fun e w' => e = .returned (.bool false) ∧ SC w0 v0 w' S T O := by
  have HL := Lib.hid (rlen_k h h1 hk hJ)
  by_cases hz : J = 0
  · subst hz
    clear h h1 hJ hq
    go_enter Tryz.func19, Tryz.ntmps19
    go_wp2_with (go_at_call 45; refine HL.out.mono ?_; rintro e w1 ⟨rfl, h1⟩; have HS := Lib.hid h1; clear h1)
    go_ret
    exact ⟨rfl, HS.out⟩
  · obtain ⟨D, hD⟩ : ∃ D, 1048576 / J = D := ⟨_, rfl⟩
    have htd : Int.tdiv 1048576 J = D := by rw [Int.tdiv_eq_ediv_of_nonneg (by decide)]; exact hD
    have hq2 : ¬ D < q := by rcases hq with e | e <;> omega
    have hD2 : 0 ≤ D ∧ D ≤ 1048576 := by rw [← hD]; exact ⟨Int.ediv_nonneg (by decide) h0, Int.ediv_le_self _ (by decide)⟩
    have hwD : IntKind.i64.wrap D = D := by rw [IntKind.wrap_i64]; omega
    have hJ0 : 0 < J := by omega
    clear h h1 hJ hD hq
    go_enter Tryz.func19, Tryz.ntmps19
    go_wp2_with (go_at_call 45; refine HL.out.mono ?_; rintro e w1 ⟨rfl, h1⟩; have HS := Lib.hid h1; clear h1)
    go_ret
    refine ⟨?_, HS.out⟩
    simp [hq2]
end
section
variable {w : World} {b0 b1 : Bool} {A0 A0' A1 A1' : Option Addr} {n0 c0 n0' c0' n1 c1 n1' c1' M M' : Nat} {x0 x0' x1 x1' : List Int} {r r' : Rat}
set_option maxHeartbeats 1000000 in
theorem r6mul_any (w : World) (h : Frm w b0 A0 n0 c0 x0 A0' n0' c0' x0' M r) (h' : Frm w b1 A1 n1 c1 x1 A1' n1' c1' x1' M' r') (h1M : 1 ≤ M) (h1M' : 1 ≤ M') (hM : M + M' ≤ 1000) :
    Calls Tryz.prog 22 #[.agg #[.bool b0, .slice A0 n0 c0, .slice A0' n0' c0'], .agg #[.bool b1, .slice A1 n1 c1, .slice A1' n1' c1']] w (OutR w (M + M') (r * r')) := by
  have hS := Lib.hid (((((SC.start w).old (k := M') h'.den h'.ld rfl).old (k := M') h'.num h'.ln rfl).old (k := M) h.den h.ld rfl).old (k := M) h.num h.ln rfl)
  have hr0 := h.val
  have hr1 := h'.val
  clear h h'
  go_enter Tryz.func22, Tryz.ntmps22
  go_wp2_with fail
  generalize hwa : World.alloc (World.alloc (World.alloc w _) _) _ = v1
  have h1 := (((hS.out.boxed (vs := [.bool b0, .slice A0 n0 c0, .slice A0' n0' c0']) (ty := 27) rfl rfl).boxed (vs := [.bool b1, .slice A1 n1 c1, .slice A1' n1' c1']) (ty := 27) rfl rfl).boxed (vs := [.bool false, .slice none 0 0, .slice none 0 0]) (ty := 27) rfl hwa)
  simp only [World.size_alloc] at h1
  clear hwa
  clear hS; have hS := Lib.hid h1; clear h1
  obtain ⟨x0_0, x1_0, x2_0⟩ := hS.out.cs3 0 rfl
  obtain ⟨x0_1, x1_1, x2_1⟩ := hS.out.cs3 1 rfl
  obtain ⟨x0_2, x1_2, x2_2⟩ := hS.out.cs3 2 rfl
  go_wp2_with fail
  clear x0_0 x1_0 x2_0 x0_1 x1_1 x2_1 x0_2 x1_2 x2_2
  refine wp_region_rc (fs [[.val 7 (mV (.agg #[.bool b0, .slice A0 n0 c0, .slice A0' n0' c0']))], [.val 8 (mR (r) (M))], [.val 9 (mV (.agg #[.bool b1, .slice A1 n1 c1, .slice A1' n1' c1']))], [.val 10 (mR (r') (M'))], [.old 2 (mR (r) (M))], [.old 1 (mR (r') (M'))]]) [7, 8, 9, 10] hS.out ?_ (by kernel_rfl) ?_ (fun j hj => fs_big hj)
  · intro i hi L a w' S Bn T1 O D hp hno hni
    match i, hi with
    | 0, _ =>
      have p : a.eval (.tmp 2) = .pointer (some ⟨w.heap.size, 0, none⟩) := D.at0 rfl rfl
      obtain ⟨z0, z1, z2⟩ := b3 (D.cells hno (i0 := 2) rfl (by kernel_rfl))
      exact st_pure (v := .agg #[.bool b0, .slice A0 n0 c0, .slice A0' n0' c0']) D hno rfl rfl rfl (by simp only [Act.eval] at p; simp only [execOp, Act.eval]; go_simp) (of_decide_eq_true rfl) (of_decide_eq_true rfl) (by kernel_rfl) rfl rfl
    | 1, _ =>
      have pq0 : a.eval (.tmp 7) = .agg #[.bool b0, .slice A0 n0 c0, .slice A0' n0' c0'] := D.vt (hp 0 (by kernel_rfl)) rfl
      have hv : #[Operand.tmp 7].map a.eval = #[.agg #[.bool b0, .slice A0 n0 c0, .slice A0' n0' c0']] := by simp only [List.map_toArray, List.map_cons, List.map_nil, pq0]
      refine st_call D hno rfl hv Tryz.func18 (by kernel_rfl) rfl (r6count_c (M := M) D.sc (D.sub _ (by repeat (first | exact List.mem_cons_self | apply List.mem_cons_of_mem))) (D.sub _ (by repeat (first | exact List.mem_cons_self | apply List.mem_cons_of_mem))) (by omega) (by omega) (by omega) (by omega) hr0) (of_decide_eq_true rfl) (of_decide_eq_true rfl) (by kernel_rfl) rfl ?_
      rintro e w2 ⟨A, n, c, A', n', c', rfl, h1⟩
      exact ⟨_, _, _, rfl, h1, fun t ht => List.mem_cons_of_mem _ (List.mem_cons_of_mem _ ht), fun t ht => List.mem_cons_of_mem _ (List.mem_cons_of_mem _ ht), ⟨A, n, c, A', n', c', rfl, List.mem_cons_self, List.mem_cons_of_mem _ List.mem_cons_self, List.mem_cons_self, List.mem_cons_of_mem _ List.mem_cons_self⟩⟩
    | 2, _ =>
      have p : a.eval (.tmp 3) = .pointer (some ⟨w.heap.size + 1, 0, none⟩) := D.at0 rfl rfl
      obtain ⟨z0, z1, z2⟩ := b3 (D.cells hno (i0 := 1) rfl (by kernel_rfl))
      exact st_pure (v := .agg #[.bool b1, .slice A1 n1 c1, .slice A1' n1' c1']) D hno rfl rfl rfl (by simp only [Act.eval] at p; simp only [execOp, Act.eval]; go_simp) (of_decide_eq_true rfl) (of_decide_eq_true rfl) (by kernel_rfl) rfl rfl
    | 3, _ =>
      have pq0 : a.eval (.tmp 9) = .agg #[.bool b1, .slice A1 n1 c1, .slice A1' n1' c1'] := D.vt (hp 2 (by kernel_rfl)) rfl
      have hv : #[Operand.tmp 9].map a.eval = #[.agg #[.bool b1, .slice A1 n1 c1, .slice A1' n1' c1']] := by simp only [List.map_toArray, List.map_cons, List.map_nil, pq0]
      refine st_call D hno rfl hv Tryz.func18 (by kernel_rfl) rfl (r6count_c (M := M') D.sc (D.sub _ (by repeat (first | exact List.mem_cons_self | apply List.mem_cons_of_mem))) (D.sub _ (by repeat (first | exact List.mem_cons_self | apply List.mem_cons_of_mem))) (by omega) (by omega) (by omega) (by omega) hr1) (of_decide_eq_true rfl) (of_decide_eq_true rfl) (by kernel_rfl) rfl ?_
      rintro e w2 ⟨A, n, c, A', n', c', rfl, h1⟩
      exact ⟨_, _, _, rfl, h1, fun t ht => List.mem_cons_of_mem _ (List.mem_cons_of_mem _ ht), fun t ht => List.mem_cons_of_mem _ (List.mem_cons_of_mem _ ht), ⟨A, n, c, A', n', c', rfl, List.mem_cons_self, List.mem_cons_of_mem _ List.mem_cons_self, List.mem_cons_self, List.mem_cons_of_mem _ List.mem_cons_self⟩⟩
    | 4, _ =>
      obtain ⟨Aq, nq, cq, Aq', nq', cq', eq, mq, mq', oq, oq'⟩ := D.vt (t := 8) (hp 1 (by kernel_rfl)) rfl
      have p : a.eval (.tmp 2) = .pointer (some ⟨w.heap.size, 0, none⟩) := D.at0 rfl rfl
      exact st_put (m := mR (r) (M)) (i0 := 2) D hni rfl (by decide) rfl ((hS.out.ge_ 2 rfl)) p eq (⟨_, _, _, _, _, _, rfl, mq, mq', oq, oq'⟩) (by kernel_rfl) rfl infoRat rfl (by simp [Value.oneCell'])
    | 5, _ =>
      obtain ⟨Aq, nq, cq, Aq', nq', cq', eq, mq, mq', oq, oq'⟩ := D.vt (t := 10) (hp 3 (by kernel_rfl)) rfl
      have p : a.eval (.tmp 3) = .pointer (some ⟨w.heap.size + 1, 0, none⟩) := D.at0 rfl rfl
      exact st_put (m := mR (r') (M')) (i0 := 1) D hni rfl (by decide) rfl ((hS.out.ge_ 1 rfl)) p eq (⟨_, _, _, _, _, _, rfl, mq, mq', oq, oq'⟩) (by kernel_rfl) rfl infoRat rfl (by simp [Value.oneCell'])
    | i + 6, hi => exact absurd hi (by show ¬ (i + 6 < 6); omega)
  · intro a w5 S Bn T1 O hfr hsc hs0 ho0 htags hgs hkeep hf
    have hQ_0 := hkeep 0 (fun j hj m hm => by exact absurd hm (onlyOld_spec (i := 1000) (by kernel_rfl) j (by rintro rfl; exact absurd hj (by decide)) m))
    obtain ⟨QQ, hQQ, AQ, nQ, cQ, AQ', nQ', cQ', evQ, mQ, mQ', oQ, oQ'⟩ : Ft.ok a S O Bn T1 (.old 1 (mR (r') (M'))) := hf 5 (by decide) _ (List.mem_singleton.2 rfl)
    have hgQ := blk_eq (g_old hgs (i := 1) rfl hQQ) evQ
    rw [hgQ] at hQQ
    obtain ⟨QP, hQP, AP, nP, cP, AP', nP', cP', evP, mP, mP', oP, oP'⟩ : Ft.ok a S O Bn T1 (.old 2 (mR (r) (M))) := hf 4 (by decide) _ (List.mem_singleton.2 rfl)
    have hgP := blk_eq (g_old hgs (i := 2) rfl hQP) evP
    rw [hgP] at hQP
    obtain rfl := list_3 (by simpa using congrArg List.length hgs) hQ_0 hQQ hQP
    have h1 := end_old hsc (mem_more mP' (mem_more mP (mem_more mQ' (mem_more mQ hs0)))) (mem_more oP' (mem_more oP (mem_more oQ' (mem_more oQ ho0))))
    obtain ⟨tyQ, htyQ⟩ : ∃ t, QQ.ty = t := ⟨_, rfl⟩
    rw [htyQ] at h1
    clear htyQ
    obtain ⟨tyP, htyP⟩ : ∃ t, QP.ty = t := ⟨_, rfl⟩
    rw [htyP] at h1
    clear htyP
    have hc := hfr.closed
    simp only [List.map_cons, List.map_nil] at hc
    clear hfr hsc hs0 ho0 htags hgs hkeep hf
    clear mQ
    clear mQ'
    clear mP
    clear mP'
    clear oQ
    clear oQ'
    clear oP
    clear oP'
    clear hQ_0 hQQ hgQ evQ QQ hQP hgP evP QP
    generalize a.eval (.tmp 7) = u7_ at hc
    generalize a.eval (.tmp 8) = u8_ at hc
    generalize a.eval (.tmp 9) = u9_ at hc
    generalize a.eval (.tmp 10) = u10_ at hc
    subst hc
    clear hS; have hS := Lib.hid h1; clear h1
    simp only [putAll, List.foldl_cons, List.foldl_nil, Act.put, List.setIfInBounds_toArray, List.set_cons_zero, List.set_cons_succ]
    obtain ⟨v2, hww⟩ : ∃ x, x = w5 := ⟨_, rfl⟩
    subst hww
    obtain ⟨x0_0, x1_0, x2_0⟩ := hS.out.cs3 0 rfl
    obtain ⟨x0_1, x1_1, x2_1⟩ := hS.out.cs3 1 rfl
    obtain ⟨x0_2, x1_2, x2_2⟩ := hS.out.cs3 2 rfl
    obtain ⟨z, hz⟩ : ∃ z, mg r.num * mg r'.num = z := ⟨_, rfl⟩
    obtain ⟨d, hd⟩ : ∃ d, (r.den : Int) * (r'.den : Int) = d := ⟨_, rfl⟩
    have hdp : 0 < d := by rw [← hd]; exact Int.mul_pos (rden_pos r) (rden_pos r')
    obtain ⟨q, hq⟩ : ∃ q, r * r' = q := ⟨_, rfl⟩
    obtain ⟨bb, hbb⟩ : ∃ bb, (sg r.num != sg r'.num) = bb := ⟨_, rfl⟩
    have hqv : rv bb z d = q := by
      unfold rv
      rw [← hbb, ← hz, ← hd, iv_bmul, rv_mul _ _ _ _ _ _ (Int.le_of_lt (rden_pos r)) (Int.le_of_lt (rden_pos r')), rv_self, rv_self]
      exact hq
    go_wp2_with fail
    clear x0_0 x1_0 x2_0 x0_1 x1_1 x2_1 x0_2 x1_2 x2_2
    refine wp_region_rc (fs [[.val 12 (mV (.pointer (some ⟨w.heap.size, 0, none⟩)))], [.val 13 (mV (.pointer (some ⟨w.heap.size, 0, none⟩)))], [.val 14 (mV (.bool (sg (r).num)))], [.val 15 (mV (.pointer (some ⟨w.heap.size + 1, 0, none⟩)))], [.val 16 (mV (.pointer (some ⟨w.heap.size + 1, 0, none⟩)))], [.val 17 (mV (.bool (sg (r').num)))], [.val 18 (mV (.bool bb))], [.val 19 (mV (.pointer (some ⟨w.heap.size, 0, none⟩)))], [.val 20 (mV (.pointer (some ⟨w.heap.size, 1, none⟩)))], [.val 21 (mV (.slice AP nP cP))], [.val 22 (mV (.pointer (some ⟨w.heap.size + 1, 0, none⟩)))], [.val 23 (mV (.pointer (some ⟨w.heap.size + 1, 1, none⟩)))], [.val 24 (mV (.slice AQ nQ cQ))], [.val 25 (mN (z) (M + M'))], [.val 26 (mJ (bb) (z) (M + M'))], [.val 27 (mV (.pointer (some ⟨w.heap.size, 2, none⟩)))], [.val 28 (mV (.slice AP' nP' cP'))], [.val 29 (mV (.pointer (some ⟨w.heap.size + 1, 2, none⟩)))], [.val 30 (mV (.slice AQ' nQ' cQ'))], [.val 31 (mN (d) (M + M'))], [.val 32 (mR2 (q) (M + M') (0))], [.val 11 (mR2 (q) (M + M') (0))], [.val 33 (mR (q) (M + M'))], [.val 34 (mV (.int .i64 (0)))], [.blk 5 φp (mSh 3)], [.blk 5 φp (mR (q) (M + M'))], [.val 6 (mV (.int .i64 (0)))]]) [5, 6, 11, 12, 13, 14, 15, 16, 17, 18, 19, 20, 21, 22, 23, 24, 25, 26, 27, 28, 29, 30, 31, 32, 33, 34] hS.out ?_ (by kernel_rfl) ?_ (fun j hj => fs_big hj)
    · intro i hi L a w' S Bn T1 O D hp hno hni
      match i, hi with
      | 0, _ =>
        have p : a.eval (.tmp 2) = .pointer (some ⟨w.heap.size, 0, none⟩) := D.at0 rfl rfl
        exact st_pure (v := .pointer (some ⟨w.heap.size, 0, none⟩)) D hno rfl rfl rfl (by simp only [Act.eval] at p; simp only [execOp, Act.eval]; go_simp) (of_decide_eq_true rfl) (of_decide_eq_true rfl) (by kernel_rfl) rfl rfl
      | 1, _ =>
        have p : a.eval (.tmp 12) = .pointer (some ⟨w.heap.size, 0, none⟩) := D.vt (hp 0 (by kernel_rfl)) rfl
        exact st_pure (v := .pointer (some ⟨w.heap.size, 0, none⟩)) D hno rfl rfl rfl (by simp only [Act.eval] at p; simp only [execOp, Act.eval]; go_simp) (of_decide_eq_true rfl) (of_decide_eq_true rfl) (by kernel_rfl) rfl rfl
      | 2, _ =>
        have p : a.eval (.tmp 13) = .pointer (some ⟨w.heap.size, 0, none⟩) := D.vt (hp 1 (by kernel_rfl)) rfl
        obtain ⟨z0, z1, z2⟩ := b3 (D.cells hno (i0 := 2) rfl (by kernel_rfl))
        exact st_pure (v := .bool (sg (r).num)) D hno rfl rfl rfl (by simp only [Act.eval] at p; simp only [execOp, Act.eval]; go_simp) (of_decide_eq_true rfl) (of_decide_eq_true rfl) (by kernel_rfl) rfl rfl
      | 3, _ =>
        have p : a.eval (.tmp 3) = .pointer (some ⟨w.heap.size + 1, 0, none⟩) := D.at0 rfl rfl
        exact st_pure (v := .pointer (some ⟨w.heap.size + 1, 0, none⟩)) D hno rfl rfl rfl (by simp only [Act.eval] at p; simp only [execOp, Act.eval]; go_simp) (of_decide_eq_true rfl) (of_decide_eq_true rfl) (by kernel_rfl) rfl rfl
      | 4, _ =>
        have p : a.eval (.tmp 15) = .pointer (some ⟨w.heap.size + 1, 0, none⟩) := D.vt (hp 3 (by kernel_rfl)) rfl
        exact st_pure (v := .pointer (some ⟨w.heap.size + 1, 0, none⟩)) D hno rfl rfl rfl (by simp only [Act.eval] at p; simp only [execOp, Act.eval]; go_simp) (of_decide_eq_true rfl) (of_decide_eq_true rfl) (by kernel_rfl) rfl rfl
      | 5, _ =>
        have p : a.eval (.tmp 16) = .pointer (some ⟨w.heap.size + 1, 0, none⟩) := D.vt (hp 4 (by kernel_rfl)) rfl
        obtain ⟨z0, z1, z2⟩ := b3 (D.cells hno (i0 := 1) rfl (by kernel_rfl))
        exact st_pure (v := .bool (sg (r').num)) D hno rfl rfl rfl (by simp only [Act.eval] at p; simp only [execOp, Act.eval]; go_simp) (of_decide_eq_true rfl) (of_decide_eq_true rfl) (by kernel_rfl) rfl rfl
      | 6, _ =>
        have pq0 : a.eval (.tmp 14) = .bool (sg (r).num) := D.vt (hp 2 (by kernel_rfl)) rfl
        have pq1 : a.eval (.tmp 17) = .bool (sg (r').num) := D.vt (hp 5 (by kernel_rfl)) rfl
        exact st_pure (v := .bool bb) D hno rfl rfl rfl (by simp [Act.eval] at pq0 pq1; simp [execOp, Act.eval, pq0, pq1]; (try go_simp); (rw [← hbb]; simp [bne])) (of_decide_eq_true rfl) (of_decide_eq_true rfl) (by kernel_rfl) rfl rfl
      | 7, _ =>
        have p : a.eval (.tmp 2) = .pointer (some ⟨w.heap.size, 0, none⟩) := D.at0 rfl rfl
        exact st_pure (v := .pointer (some ⟨w.heap.size, 0, none⟩)) D hno rfl rfl rfl (by simp only [Act.eval] at p; simp only [execOp, Act.eval]; go_simp) (of_decide_eq_true rfl) (of_decide_eq_true rfl) (by kernel_rfl) rfl rfl
      | 8, _ =>
        have p : a.eval (.tmp 19) = .pointer (some ⟨w.heap.size, 0, none⟩) := D.vt (hp 7 (by kernel_rfl)) rfl
        exact st_pure (v := .pointer (some ⟨w.heap.size, 1, none⟩)) D hno rfl rfl rfl (by simp only [Act.eval] at p; simp only [execOp, Act.eval]; go_simp) (of_decide_eq_true rfl) (of_decide_eq_true rfl) (by kernel_rfl) rfl rfl
      | 9, _ =>
        have p : a.eval (.tmp 20) = .pointer (some ⟨w.heap.size, 1, none⟩) := D.vt (hp 8 (by kernel_rfl)) rfl
        obtain ⟨z0, z1, z2⟩ := b3 (D.cells hno (i0 := 2) rfl (by kernel_rfl))
        exact st_pure (v := .slice AP nP cP) D hno rfl rfl rfl (by simp only [Act.eval] at p; simp only [execOp, Act.eval]; go_simp) (of_decide_eq_true rfl) (of_decide_eq_true rfl) (by kernel_rfl) rfl rfl
      | 10, _ =>
        have p : a.eval (.tmp 3) = .pointer (some ⟨w.heap.size + 1, 0, none⟩) := D.at0 rfl rfl
        exact st_pure (v := .pointer (some ⟨w.heap.size + 1, 0, none⟩)) D hno rfl rfl rfl (by simp only [Act.eval] at p; simp only [execOp, Act.eval]; go_simp) (of_decide_eq_true rfl) (of_decide_eq_true rfl) (by kernel_rfl) rfl rfl
      | 11, _ =>
        have p : a.eval (.tmp 22) = .pointer (some ⟨w.heap.size + 1, 0, none⟩) := D.vt (hp 10 (by kernel_rfl)) rfl
        exact st_pure (v := .pointer (some ⟨w.heap.size + 1, 1, none⟩)) D hno rfl rfl rfl (by simp only [Act.eval] at p; simp only [execOp, Act.eval]; go_simp) (of_decide_eq_true rfl) (of_decide_eq_true rfl) (by kernel_rfl) rfl rfl
      | 12, _ =>
        have p : a.eval (.tmp 23) = .pointer (some ⟨w.heap.size + 1, 1, none⟩) := D.vt (hp 11 (by kernel_rfl)) rfl
        obtain ⟨z0, z1, z2⟩ := b3 (D.cells hno (i0 := 1) rfl (by kernel_rfl))
        exact st_pure (v := .slice AQ nQ cQ) D hno rfl rfl rfl (by simp only [Act.eval] at p; simp only [execOp, Act.eval]; go_simp) (of_decide_eq_true rfl) (of_decide_eq_true rfl) (by kernel_rfl) rfl rfl
      | 13, _ =>
        have pq0 : a.eval (.tmp 21) = .slice AP nP cP := D.vt (hp 9 (by kernel_rfl)) rfl
        have pq1 : a.eval (.tmp 24) = .slice AQ nQ cQ := D.vt (hp 12 (by kernel_rfl)) rfl
        have hv : #[Operand.tmp 21, Operand.tmp 24].map a.eval = #[.slice AP nP cP, .slice AQ nQ cQ] := by simp only [List.map_toArray, List.map_cons, List.map_nil, pq0, pq1]
        refine st_call D hno rfl hv Tryz.func47 (by kernel_rfl) rfl (rmul_p D.sc (D.sub _ (by repeat (first | exact List.mem_cons_self | apply List.mem_cons_of_mem))) (by omega) (D.sub _ (by repeat (first | exact List.mem_cons_self | apply List.mem_cons_of_mem))) (by omega) hz) (of_decide_eq_true rfl) (of_decide_eq_true rfl) (by kernel_rfl) rfl ?_
        rintro e w2 ⟨A, n, c, rfl, h1⟩
        exact ⟨_, _, _, rfl, h1, fun t ht => List.mem_cons_of_mem _ ht, fun t ht => List.mem_cons_of_mem _ ht, ⟨A, n, c, rfl, List.mem_cons_self, List.mem_cons_self⟩⟩
      | 14, _ =>
        obtain ⟨Aq, nq, cq, eq, mq, oq⟩ := D.vt (t := 25) (hp 13 (by kernel_rfl)) rfl
        have pb : a.eval (.tmp 18) = .bool bb := D.vt (hp 6 (by kernel_rfl)) rfl
        exact st_pure (v := .agg #[.bool bb, .slice Aq nq cq]) D hno rfl rfl rfl (by simp only [Act.eval, Array.getD_eq_getD_getElem?] at pb eq; simp only [execOp, List.map_toArray, List.map_cons, List.map_nil, Act.eval, Array.getD_eq_getD_getElem?, pb, eq]; go_simp; try (simp only [pb, eq]; go_simp)) (of_decide_eq_true rfl) (of_decide_eq_true rfl) (by kernel_rfl) rfl ⟨_, _, _, rfl, mq⟩
      | 15, _ =>
        have p : a.eval (.tmp 2) = .pointer (some ⟨w.heap.size, 0, none⟩) := D.at0 rfl rfl
        exact st_pure (v := .pointer (some ⟨w.heap.size, 2, none⟩)) D hno rfl rfl rfl (by simp only [Act.eval] at p; simp only [execOp, Act.eval]; go_simp) (of_decide_eq_true rfl) (of_decide_eq_true rfl) (by kernel_rfl) rfl rfl
      | 16, _ =>
        have p : a.eval (.tmp 27) = .pointer (some ⟨w.heap.size, 2, none⟩) := D.vt (hp 15 (by kernel_rfl)) rfl
        obtain ⟨z0, z1, z2⟩ := b3 (D.cells hno (i0 := 2) rfl (by kernel_rfl))
        exact st_pure (v := .slice AP' nP' cP') D hno rfl rfl rfl (by simp only [Act.eval] at p; simp only [execOp, Act.eval]; go_simp) (of_decide_eq_true rfl) (of_decide_eq_true rfl) (by kernel_rfl) rfl rfl
      | 17, _ =>
        have p : a.eval (.tmp 3) = .pointer (some ⟨w.heap.size + 1, 0, none⟩) := D.at0 rfl rfl
        exact st_pure (v := .pointer (some ⟨w.heap.size + 1, 2, none⟩)) D hno rfl rfl rfl (by simp only [Act.eval] at p; simp only [execOp, Act.eval]; go_simp) (of_decide_eq_true rfl) (of_decide_eq_true rfl) (by kernel_rfl) rfl rfl
      | 18, _ =>
        have p : a.eval (.tmp 29) = .pointer (some ⟨w.heap.size + 1, 2, none⟩) := D.vt (hp 17 (by kernel_rfl)) rfl
        obtain ⟨z0, z1, z2⟩ := b3 (D.cells hno (i0 := 1) rfl (by kernel_rfl))
        exact st_pure (v := .slice AQ' nQ' cQ') D hno rfl rfl rfl (by simp only [Act.eval] at p; simp only [execOp, Act.eval]; go_simp) (of_decide_eq_true rfl) (of_decide_eq_true rfl) (by kernel_rfl) rfl rfl
      | 19, _ =>
        have pq0 : a.eval (.tmp 28) = .slice AP' nP' cP' := D.vt (hp 16 (by kernel_rfl)) rfl
        have pq1 : a.eval (.tmp 30) = .slice AQ' nQ' cQ' := D.vt (hp 18 (by kernel_rfl)) rfl
        have hv : #[Operand.tmp 28, Operand.tmp 30].map a.eval = #[.slice AP' nP' cP', .slice AQ' nQ' cQ'] := by simp only [List.map_toArray, List.map_cons, List.map_nil, pq0, pq1]
        refine st_call D hno rfl hv Tryz.func47 (by kernel_rfl) rfl (rmul_p D.sc (D.sub _ (by repeat (first | exact List.mem_cons_self | apply List.mem_cons_of_mem))) (by omega) (D.sub _ (by repeat (first | exact List.mem_cons_self | apply List.mem_cons_of_mem))) (by omega) hd) (of_decide_eq_true rfl) (of_decide_eq_true rfl) (by kernel_rfl) rfl ?_
        rintro e w2 ⟨A, n, c, rfl, h1⟩
        exact ⟨_, _, _, rfl, h1, fun t ht => List.mem_cons_of_mem _ ht, fun t ht => List.mem_cons_of_mem _ ht, ⟨A, n, c, rfl, List.mem_cons_self, List.mem_cons_self⟩⟩
      | 20, _ =>
        obtain ⟨Aq0, nq0, cq0, eq0, mq0⟩ := D.vt (t := 26) (hp 14 (by kernel_rfl)) rfl
        obtain ⟨Aq1, nq1, cq1, eq1, mq1, oq1⟩ := D.vt (t := 31) (hp 19 (by kernel_rfl)) rfl
        have hv : #[Operand.tmp 26, Operand.tmp 31].map a.eval = #[.agg #[.bool (bb), .slice Aq0 nq0 cq0], .slice Aq1 nq1 cq1] := by simp only [List.map_toArray, List.map_cons, List.map_nil, eq0, eq1]
        refine st_call D hno rfl hv Tryz.func44 (by kernel_rfl) rfl (r6mk_c (M := M + M') D.sc mq0 mq1 (by omega) (by omega) (by omega) (by omega) hdp hqv) (of_decide_eq_true rfl) (of_decide_eq_true rfl) (by kernel_rfl) rfl ?_
        rintro e w2 ⟨A, n, c, A', n', c', rfl, h1⟩
        exact ⟨_, _, _, rfl, h1, fun t ht => List.mem_cons_of_mem _ (List.mem_cons_of_mem _ ht), fun t ht => List.mem_cons_of_mem _ (List.mem_cons_of_mem _ ht), ⟨A, n, c, A', n', c', rfl, List.mem_cons_self, List.mem_cons_of_mem _ List.mem_cons_self, List.mem_cons_self, List.mem_cons_of_mem _ List.mem_cons_self⟩⟩
      | 21, _ =>
        have p := D.vt (t := 32) (hp 20 (by kernel_rfl)) rfl
        exact st_pure (v := a.eval (.tmp 32)) D hno rfl rfl rfl (by simp only [execOp, Act.eval]; go_simp) (of_decide_eq_true rfl) (of_decide_eq_true rfl) (by kernel_rfl) rfl p
      | 22, _ =>
        obtain ⟨Aq, nq, cq, Aq', nq', cq', eq, mq, mq', oq, oq'⟩ := D.vt (t := 11) (hp 21 (by kernel_rfl)) rfl
        exact st_pure (v := .agg #[.bool (sg (q).num), .slice Aq nq cq, .slice Aq' nq' cq']) D hno rfl rfl rfl (by simp only [Act.eval] at eq; simp only [execOp, Act.eval]; go_simp) (of_decide_eq_true rfl) (of_decide_eq_true rfl) (by kernel_rfl) rfl ⟨_, _, _, _, _, _, rfl, mq, mq', oq, oq'⟩
      | 23, _ =>
        obtain ⟨Aq, nq, cq, Aq', nq', cq', eq, mq, mq', oq, oq'⟩ := D.vt (t := 11) (hp 21 (by kernel_rfl)) rfl
        exact st_pure (v := .int .i64 (0)) D hno rfl rfl rfl (by simp only [Act.eval] at eq; simp only [execOp, Act.eval]; go_simp) (of_decide_eq_true rfl) (of_decide_eq_true rfl) (by kernel_rfl) rfl rfl
      | 24, _ =>
        exact st_alloc (vs := [.bool false, .slice none 0 0, .slice none 0 0]) (bt := 27) D hno hni rfl rfl rfl (by simp only [execOp]; go_simp; try exact rfl) (of_decide_eq_true rfl) (of_decide_eq_true rfl) (by decide) (by kernel_rfl) rfl ⟨_, rfl, rfl⟩
      | 25, _ =>
        obtain ⟨Aq, nq, cq, Aq', nq', cq', eq, mq, mq', oq, oq'⟩ := D.vt (t := 33) (hp 22 (by kernel_rfl)) rfl
        exact st_store (m := mR (q) (M + M')) (j0 := 24) D rfl (by decide) (hp 24 (by kernel_rfl)) rfl eq (⟨_, _, _, _, _, _, rfl, mq, mq', oq, oq'⟩) (by kernel_rfl) rfl infoRat rfl (by simp [Value.oneCell'])
      | 26, _ =>
        have p : a.eval (.tmp 34) = .int .i64 (0) := D.vt (hp 23 (by kernel_rfl)) rfl
        exact st_pure (v := .int .i64 (0)) D hno rfl rfl rfl (by simp only [Act.eval] at p; simp only [execOp, Act.eval]; go_simp) (of_decide_eq_true rfl) (of_decide_eq_true rfl) (by kernel_rfl) rfl rfl
      | i + 27, hi => exact absurd hi (by show ¬ (i + 27 < 27); omega)
    · intro a w5 S Bn T1 O hfr hsc hs0 ho0 htags hgs hkeep hf
      have hQ_0 := hkeep 0 (fun j hj m hm => by exact absurd hm (onlyOld_spec (i := 1000) (by kernel_rfl) j (by rintro rfl; exact absurd hj (by decide)) m))
      have hQ_1 := hkeep 1 (fun j hj m hm => by exact absurd hm (onlyOld_spec (i := 1000) (by kernel_rfl) j (by rintro rfl; exact absurd hj (by decide)) m))
      have hQ_2 := hkeep 2 (fun j hj m hm => by exact absurd hm (onlyOld_spec (i := 1000) (by kernel_rfl) j (by rintro rfl; exact absurd hj (by decide)) m))
      obtain ⟨QN, hbN, epN, AN, nN, cN, AN', nN', cN', evN, mN, mN', oN, oN'⟩ : Ft.ok a S O Bn T1 (.blk 5 φp (mR (q) (M + M'))) := hf 25 (by decide) _ (List.mem_singleton.2 rfl)
      obtain ⟨GN, hGN⟩ : ∃ g, QN.g = g := ⟨_, rfl⟩
      have hgN := blk_eq hGN evN
      have epN : a.eval (.tmp 5) = .pointer (some ⟨GN, 0, none⟩) := by rw [epN, hGN]; rfl
      obtain rfl := list_3 (by simpa using congrArg List.length hgs) hQ_0 hQ_1 hQ_2
      rw [hgN] at hbN
      have h1 := end_one hsc hbN (mem_more mN' (mem_more mN hs0)) (mem_more oN' (mem_more oN ho0))
      obtain ⟨tyN, htyN⟩ : ∃ t, QN.ty = t := ⟨_, rfl⟩
      rw [htyN] at h1
      clear htyN
      have hc := hfr.closed
      simp only [List.map_cons, List.map_nil] at hc
      rw [epN] at hc
      clear hfr hsc hs0 ho0 htags hgs hkeep hf
      clear mN
      clear mN'
      clear oN
      clear oN'
      clear hQ_0 hQ_1 hQ_2 hbN hgN hGN evN
      generalize a.eval (.tmp 6) = u6_ at hc
      generalize a.eval (.tmp 11) = u11_ at hc
      generalize a.eval (.tmp 12) = u12_ at hc
      generalize a.eval (.tmp 13) = u13_ at hc
      generalize a.eval (.tmp 14) = u14_ at hc
      generalize a.eval (.tmp 15) = u15_ at hc
      generalize a.eval (.tmp 16) = u16_ at hc
      generalize a.eval (.tmp 17) = u17_ at hc
      generalize a.eval (.tmp 18) = u18_ at hc
      generalize a.eval (.tmp 19) = u19_ at hc
      generalize a.eval (.tmp 20) = u20_ at hc
      generalize a.eval (.tmp 21) = u21_ at hc
      generalize a.eval (.tmp 22) = u22_ at hc
      generalize a.eval (.tmp 23) = u23_ at hc
      generalize a.eval (.tmp 24) = u24_ at hc
      generalize a.eval (.tmp 25) = u25_ at hc
      generalize a.eval (.tmp 26) = u26_ at hc
      generalize a.eval (.tmp 27) = u27_ at hc
      generalize a.eval (.tmp 28) = u28_ at hc
      generalize a.eval (.tmp 29) = u29_ at hc
      generalize a.eval (.tmp 30) = u30_ at hc
      generalize a.eval (.tmp 31) = u31_ at hc
      generalize a.eval (.tmp 32) = u32_ at hc
      generalize a.eval (.tmp 33) = u33_ at hc
      generalize a.eval (.tmp 34) = u34_ at hc
      subst hc
      clear hS; have hS := Lib.hid h1; clear h1
      simp only [putAll, List.foldl_cons, List.foldl_nil, Act.put, List.setIfInBounds_toArray, List.set_cons_zero, List.set_cons_succ]
      obtain ⟨v3, hww⟩ : ∃ x, x = w5 := ⟨_, rfl⟩
      subst hww
      obtain ⟨x0_0, x1_0, x2_0⟩ := hS.out.cs3 0 rfl
      obtain ⟨x0_1, x1_1, x2_1⟩ := hS.out.cs3 1 rfl
      obtain ⟨x0_2, x1_2, x2_2⟩ := hS.out.cs3 2 rfl
      obtain ⟨x0_3, x1_3, x2_3⟩ := hS.out.cs3 3 rfl
      have hp0 := hS.out.put3 1 rfl (hS.out.ge_ 1 rfl) (.bool (sg (q).num)) (.slice AN nN cN) (.slice AN' nN' cN')
      simp only [List.set_cons_zero, List.set_cons_succ] at hp0
      have fz0_0 := hS.out.frs 1 rfl 0
      have fz0_1 := hS.out.frs 1 rfl 1
      have fz0_2 := hS.out.frs 1 rfl 2
      have HPUT := Lib.hid hp0
      clear hp0
      go_wp2_with fail
      refine bodyPost_ret (results_B rfl rfl (loadR (HPUT.out.box _ (List.mem_of_getElem? (i := 1) rfl)))) rfl ?_
      rw [hq]
      exact HPUT.out.toR2 (k := M + M') (k' := M + M') (r := q) (by repeat (first | exact List.mem_cons_self | apply List.mem_cons_of_mem)) (by repeat (first | exact List.mem_cons_self | apply List.mem_cons_of_mem)) (by repeat (first | exact List.mem_cons_self | apply List.mem_cons_of_mem)) (by repeat (first | exact List.mem_cons_self | apply List.mem_cons_of_mem)) (by omega) (by omega) rfl rfl rfl
theorem r6pow_neg (w : World) (h : Frm w b0 A0 n0 c0 x0 A0' n0' c0' x0' M r) (h1M : 1 ≤ M) (hM : M ≤ 1000) {q : Int} (hq : q < 0) :
    Calls Tryz.prog 6 #[.agg #[.bool b0, .slice A0 n0 c0, .slice A0' n0' c0'], .int .i64 q] w (OutRZ w 1) := by
  have hS := Lib.hid (((SC.start w).old (k := M) h.den h.ld rfl).old (k := M) h.num h.ln rfl)
  have hr0 := h.val
  clear h
  go_enter Tryz.func6, Tryz.ntmps6
  have h1 := ((hS.out.boxed (vs := [.bool b0, .slice A0 n0 c0, .slice A0' n0' c0']) (ty := 27) rfl rfl).boxed (vs := [.bool false, .slice none 0 0, .slice none 0 0]) (ty := 27) rfl rfl)
  try simp only [World.size_alloc] at h1
  obtain ⟨p0_0, p1_0, p2_0⟩ := h1.cs3 0 rfl
  obtain ⟨p0_1, p1_1, p2_1⟩ := h1.cs3 1 rfl
  clear h1
  go_wp2_with fail
  clear p0_0 p1_0 p2_0 p0_1 p1_1 p2_1
  generalize hwa : World.alloc (World.alloc w _) _ = v1
  have h1 := ((hS.out.boxed (vs := [.bool b0, .slice A0 n0 c0, .slice A0' n0' c0']) (ty := 27) rfl rfl).boxed (vs := [.bool false, .slice none 0 0, .slice none 0 0]) (ty := 27) rfl hwa)
  simp only [World.size_alloc] at h1
  have hsz : v1.heap.size = w.heap.size + 1 + 1 := by rw [← hwa]; simp only [World.size_alloc]
  try rw [← hsz]
  clear hwa hsz
  clear hS; have hS := Lib.hid h1; clear h1
  obtain ⟨x0_0, x1_0, x2_0⟩ := hS.out.cs3 0 rfl
  obtain ⟨x0_1, x1_1, x2_1⟩ := hS.out.cs3 1 rfl
  go_wp2_with fail
  go_at_call 18
  with_reducible refine (r6count_c (M := M) hS.out (by repeat (first | exact List.mem_cons_self | apply List.mem_cons_of_mem)) (by repeat (first | exact List.mem_cons_self | apply List.mem_cons_of_mem)) (by omega) (by omega) (by omega) (by omega) hr0).mono ?_
  rintro e v2 ⟨A1, n1, c1, A2, n2, c2, rfl, h1⟩
  clear x0_0 x1_0 x2_0 x0_1 x1_1 x2_1
  clear hS; have hS := Lib.hid h1; clear h1
  obtain ⟨x0_0, x1_0, x2_0⟩ := hS.out.cs3 0 rfl
  obtain ⟨x0_1, x1_1, x2_1⟩ := hS.out.cs3 1 rfl
  have hp0 := hS.out.put3 1 rfl (hS.out.ge_ 1 rfl) (.bool (sg (r).num)) (.slice A1 n1 c1) (.slice A2 n2 c2)
  simp only [List.set_cons_zero, List.set_cons_succ] at hp0
  have fz0_0 := hS.out.frs 1 rfl 0
  have fz0_1 := hS.out.frs 1 rfl 1
  have fz0_2 := hS.out.frs 1 rfl 2
  obtain ⟨p00_0, p01_0, p02_0⟩ := hp0.cs3 0 rfl
  obtain ⟨p00_1, p01_1, p02_1⟩ := hp0.cs3 1 rfl
  have hp1 := hp0.put3 0 rfl (hS.out.ge_ 0 rfl) (.bool false) (.slice none 0 0) (.slice none 0 0)
  simp only [List.set_cons_zero, List.set_cons_succ] at hp1
  have fz1_0 := hS.out.frs 0 rfl 0
  have fz1_1 := hS.out.frs 0 rfl 1
  have fz1_2 := hS.out.frs 0 rfl 2
  have HPUT := Lib.hid hp1
  clear hp1
  clear hp0
  go_wp2_with fail
  refine bodyPost_ret (results_B2 rfl rfl rfl (loadR (HPUT.out.box _ (List.mem_of_getElem? (i := 0) rfl)))) rfl ?_
  exact ⟨rfl, HPUT.out.bl⟩
theorem r6pow_big (w : World) (h : Frm w b0 A0 n0 c0 x0 A0' n0' c0' x0' M r) (h1M : 1 ≤ M) (hM : M ≤ 1000) {q : Int} (hq : 1048576 < q) :
    Calls Tryz.prog 6 #[.agg #[.bool b0, .slice A0 n0 c0, .slice A0' n0' c0'], .int .i64 q] w (OutRZ w 5) := by
  have hq0 : ¬ q < 0 := by omega
  obtain ⟨J1, hJ1⟩ : ∃ J, W.len (mg r.num) = J := ⟨_, rfl⟩
  obtain ⟨J2, hJ2⟩ : ∃ J, W.len (r.den : Int) = J := ⟨_, rfl⟩
  have hn1 := len_nonneg (mg r.num)
  have hn2 := len_nonneg (r.den : Int)
  have hz2 : J2 ≠ 0 := fun e => by
    have h1 := len_zero_p (Int.le_of_lt (rden_pos r)) (hJ2.trans e)
    have h2 := rden_pos r
    omega
  rw [hJ1] at hn1
  rw [hJ2] at hn2
  have HJ1 := Lib.hid hJ1
  have HJ2 := Lib.hid hJ2
  have hd1 : 1048576 / J2 ≤ 1048576 := Int.ediv_le_self _ (by decide)
  have hd2 : 1048576 / J1 ≤ 1048576 := Int.ediv_le_self _ (by decide)
  clear hJ1 hJ2
  by_cases hz : J1 = 0
  · subst hz
    have hS := Lib.hid (((SC.start w).old (k := M) h.den h.ld rfl).old (k := M) h.num h.ln rfl)
    have hr0 := h.val
    clear h
    go_enter Tryz.func6, Tryz.ntmps6
    have h1 := ((hS.out.boxed (vs := [.bool b0, .slice A0 n0 c0, .slice A0' n0' c0']) (ty := 27) rfl rfl).boxed (vs := [.bool false, .slice none 0 0, .slice none 0 0]) (ty := 27) rfl rfl)
    try simp only [World.size_alloc] at h1
    obtain ⟨p0_0, p1_0, p2_0⟩ := h1.cs3 0 rfl
    obtain ⟨p0_1, p1_1, p2_1⟩ := h1.cs3 1 rfl
    clear h1
    go_wp2_with fail
    clear p0_0 p1_0 p2_0 p0_1 p1_1 p2_1
    generalize hwa : World.alloc (World.alloc w _) _ = v1
    have h1 := ((hS.out.boxed (vs := [.bool b0, .slice A0 n0 c0, .slice A0' n0' c0']) (ty := 27) rfl rfl).boxed (vs := [.bool false, .slice none 0 0, .slice none 0 0]) (ty := 27) rfl hwa)
    simp only [World.size_alloc] at h1
    have hsz : v1.heap.size = w.heap.size + 1 + 1 := by rw [← hwa]; simp only [World.size_alloc]
    try rw [← hsz]
    clear hwa hsz
    clear hS; have hS := Lib.hid h1; clear h1
    obtain ⟨x0_0, x1_0, x2_0⟩ := hS.out.cs3 0 rfl
    obtain ⟨x0_1, x1_1, x2_1⟩ := hS.out.cs3 1 rfl
    go_wp2_with fail
    go_at_call 18
    with_reducible refine (r6count_c (M := M) hS.out (by repeat (first | exact List.mem_cons_self | apply List.mem_cons_of_mem)) (by repeat (first | exact List.mem_cons_self | apply List.mem_cons_of_mem)) (by omega) (by omega) (by omega) (by omega) hr0).mono ?_
    rintro e v2 ⟨A1, n1, c1, A2, n2, c2, rfl, h1⟩
    clear x0_0 x1_0 x2_0 x0_1 x1_1 x2_1
    clear hS; have hS := Lib.hid h1; clear h1
    obtain ⟨x0_0, x1_0, x2_0⟩ := hS.out.cs3 0 rfl
    obtain ⟨x0_1, x1_1, x2_1⟩ := hS.out.cs3 1 rfl
    have hp0 := hS.out.put3 1 rfl (hS.out.ge_ 1 rfl) (.bool (sg (r).num)) (.slice A1 n1 c1) (.slice A2 n2 c2)
    simp only [List.set_cons_zero, List.set_cons_succ] at hp0
    have fz0_0 := hS.out.frs 1 rfl 0
    have fz0_1 := hS.out.frs 1 rfl 1
    have fz0_2 := hS.out.frs 1 rfl 2
    obtain ⟨p00_0, p01_0, p02_0⟩ := hp0.cs3 0 rfl
    obtain ⟨p00_1, p01_1, p02_1⟩ := hp0.cs3 1 rfl
    have HPUT := Lib.hid hp0
    clear hp0
    go_wp2_with fail
    clear fz0_0 fz0_1 fz0_2
    clear p00_0 p01_0 p02_0 p00_1 p01_1 p02_1
    clear x0_0 x1_0 x2_0 x0_1 x1_1 x2_1
    have h1 := HPUT.out
    clear HPUT
    generalize hwa : World.setCell (World.setCell (World.setCell v2 _ _) _ _) _ _ = v3 at *
    clear hwa
    clear hS; have hS := Lib.hid h1; clear h1
    obtain ⟨x0_0, x1_0, x2_0⟩ := hS.out.cs3 0 rfl
    obtain ⟨x0_1, x1_1, x2_1⟩ := hS.out.cs3 1 rfl
    go_wp2_with fail
    go_at_call 19
    with_reducible refine (rlong_n hS.out (by repeat (first | exact List.mem_cons_self | apply List.mem_cons_of_mem)) (by omega) HJ1.out (by omega) (.inl rfl)).mono ?_
    rintro e v4 ⟨rfl, h1⟩
    clear x0_0 x1_0 x2_0 x0_1 x1_1 x2_1
    clear hS; have hS := Lib.hid h1; clear h1
    obtain ⟨x0_0, x1_0, x2_0⟩ := hS.out.cs3 0 rfl
    obtain ⟨x0_1, x1_1, x2_1⟩ := hS.out.cs3 1 rfl
    go_wp2_with fail
    go_at_call 19
    with_reducible refine (rlong_y hS.out (by repeat (first | exact List.mem_cons_self | apply List.mem_cons_of_mem)) (by omega) HJ2.out (by omega) (by omega)).mono ?_
    rintro e v5 ⟨rfl, h1⟩
    clear x0_0 x1_0 x2_0 x0_1 x1_1 x2_1
    clear hS; have hS := Lib.hid h1; clear h1
    obtain ⟨x0_0, x1_0, x2_0⟩ := hS.out.cs3 0 rfl
    obtain ⟨x0_1, x1_1, x2_1⟩ := hS.out.cs3 1 rfl
    have hp0 := hS.out.put3 0 rfl (hS.out.ge_ 0 rfl) (.bool false) (.slice none 0 0) (.slice none 0 0)
    simp only [List.set_cons_zero, List.set_cons_succ] at hp0
    have fz0_0 := hS.out.frs 0 rfl 0
    have fz0_1 := hS.out.frs 0 rfl 1
    have fz0_2 := hS.out.frs 0 rfl 2
    have HPUT := Lib.hid hp0
    clear hp0
    go_wp2_with fail
    refine bodyPost_ret (results_B2 rfl rfl rfl (loadR (HPUT.out.box _ (List.mem_of_getElem? (i := 0) rfl)))) rfl ?_
    exact ⟨rfl, HPUT.out.bl⟩
  · have hp1 : 0 < J1 := by omega
    have hS := Lib.hid (((SC.start w).old (k := M) h.den h.ld rfl).old (k := M) h.num h.ln rfl)
    have hr0 := h.val
    clear h
    go_enter Tryz.func6, Tryz.ntmps6
    have h1 := ((hS.out.boxed (vs := [.bool b0, .slice A0 n0 c0, .slice A0' n0' c0']) (ty := 27) rfl rfl).boxed (vs := [.bool false, .slice none 0 0, .slice none 0 0]) (ty := 27) rfl rfl)
    try simp only [World.size_alloc] at h1
    obtain ⟨p0_0, p1_0, p2_0⟩ := h1.cs3 0 rfl
    obtain ⟨p0_1, p1_1, p2_1⟩ := h1.cs3 1 rfl
    clear h1
    go_wp2_with fail
    clear p0_0 p1_0 p2_0 p0_1 p1_1 p2_1
    generalize hwa : World.alloc (World.alloc w _) _ = v1
    have h1 := ((hS.out.boxed (vs := [.bool b0, .slice A0 n0 c0, .slice A0' n0' c0']) (ty := 27) rfl rfl).boxed (vs := [.bool false, .slice none 0 0, .slice none 0 0]) (ty := 27) rfl hwa)
    simp only [World.size_alloc] at h1
    have hsz : v1.heap.size = w.heap.size + 1 + 1 := by rw [← hwa]; simp only [World.size_alloc]
    try rw [← hsz]
    clear hwa hsz
    clear hS; have hS := Lib.hid h1; clear h1
    obtain ⟨x0_0, x1_0, x2_0⟩ := hS.out.cs3 0 rfl
    obtain ⟨x0_1, x1_1, x2_1⟩ := hS.out.cs3 1 rfl
    go_wp2_with fail
    go_at_call 18
    with_reducible refine (r6count_c (M := M) hS.out (by repeat (first | exact List.mem_cons_self | apply List.mem_cons_of_mem)) (by repeat (first | exact List.mem_cons_self | apply List.mem_cons_of_mem)) (by omega) (by omega) (by omega) (by omega) hr0).mono ?_
    rintro e v2 ⟨A1, n1, c1, A2, n2, c2, rfl, h1⟩
    clear x0_0 x1_0 x2_0 x0_1 x1_1 x2_1
    clear hS; have hS := Lib.hid h1; clear h1
    obtain ⟨x0_0, x1_0, x2_0⟩ := hS.out.cs3 0 rfl
    obtain ⟨x0_1, x1_1, x2_1⟩ := hS.out.cs3 1 rfl
    have hp0 := hS.out.put3 1 rfl (hS.out.ge_ 1 rfl) (.bool (sg (r).num)) (.slice A1 n1 c1) (.slice A2 n2 c2)
    simp only [List.set_cons_zero, List.set_cons_succ] at hp0
    have fz0_0 := hS.out.frs 1 rfl 0
    have fz0_1 := hS.out.frs 1 rfl 1
    have fz0_2 := hS.out.frs 1 rfl 2
    obtain ⟨p00_0, p01_0, p02_0⟩ := hp0.cs3 0 rfl
    obtain ⟨p00_1, p01_1, p02_1⟩ := hp0.cs3 1 rfl
    have HPUT := Lib.hid hp0
    clear hp0
    go_wp2_with fail
    clear fz0_0 fz0_1 fz0_2
    clear p00_0 p01_0 p02_0 p00_1 p01_1 p02_1
    clear x0_0 x1_0 x2_0 x0_1 x1_1 x2_1
    have h1 := HPUT.out
    clear HPUT
    generalize hwa : World.setCell (World.setCell (World.setCell v2 _ _) _ _) _ _ = v3 at *
    clear hwa
    clear hS; have hS := Lib.hid h1; clear h1
    obtain ⟨x0_0, x1_0, x2_0⟩ := hS.out.cs3 0 rfl
    obtain ⟨x0_1, x1_1, x2_1⟩ := hS.out.cs3 1 rfl
    go_wp2_with fail
    go_at_call 19
    with_reducible refine (rlong_y hS.out (by repeat (first | exact List.mem_cons_self | apply List.mem_cons_of_mem)) (by omega) HJ1.out (by omega) (by omega)).mono ?_
    rintro e v4 ⟨rfl, h1⟩
    clear x0_0 x1_0 x2_0 x0_1 x1_1 x2_1
    clear hS; have hS := Lib.hid h1; clear h1
    obtain ⟨x0_0, x1_0, x2_0⟩ := hS.out.cs3 0 rfl
    obtain ⟨x0_1, x1_1, x2_1⟩ := hS.out.cs3 1 rfl
    have hp0 := hS.out.put3 0 rfl (hS.out.ge_ 0 rfl) (.bool false) (.slice none 0 0) (.slice none 0 0)
    simp only [List.set_cons_zero, List.set_cons_succ] at hp0
    have fz0_0 := hS.out.frs 0 rfl 0
    have fz0_1 := hS.out.frs 0 rfl 1
    have fz0_2 := hS.out.frs 0 rfl 2
    have HPUT := Lib.hid hp0
    clear hp0
    go_wp2_with fail
    refine bodyPost_ret (results_B2 rfl rfl rfl (loadR (HPUT.out.box _ (List.mem_of_getElem? (i := 0) rfl)))) rfl ?_
    exact ⟨rfl, HPUT.out.bl⟩
set_option maxHeartbeats 1000000 in
theorem r6pow_A (w : World) (h : Frm w b0 A0 n0 c0 x0 A0' n0' c0' x0' M r) (h1M : 1 ≤ M) (hM : M ≤ 60) {q p : Nat} (hq : q ≤ 12) (hok1 : PowOk (mg r.num) q) (hok2 : PowOk r.den q) (hs1 : decide (limbs (mg r.num) = [1]) = true) (hs2 : decide (limbs (r.den : Int) = [1]) = true) (hpp : min q (2 + q % 2) = p) (hpow : r ^ p = r ^ q) :
    Calls Tryz.prog 6 #[.agg #[.bool b0, .slice A0 n0 c0, .slice A0' n0' c0'], .int .i64 (q : Int)] w (OutRE w (1 + M * 12) (r ^ q) 0) := by
  have hq0 : ¬ (q : Int) < 0 := by omega
  obtain ⟨J1, hJ1⟩ : ∃ J, W.len (mg r.num) = J := ⟨_, rfl⟩
  obtain ⟨J2, hJ2⟩ : ∃ J, W.len (r.den : Int) = J := ⟨_, rfl⟩
  have hn1' := len_nonneg (mg r.num)
  have hn2' := len_nonneg (r.den : Int)
  have HO1 := Lib.hid (show J1 = 0 ∨ (q : Int) ≤ 1048576 / J1 by
    rcases hok1 with e | e
    · exact .inl (by rw [← hJ1, e]; decide)
    · exact .inr (by rw [← hJ1]; exact e))
  have HO2 := Lib.hid (show J2 = 0 ∨ (q : Int) ≤ 1048576 / J2 by
    rcases hok2 with e | e
    · exact .inl (by rw [← hJ2, e]; decide)
    · exact .inr (by rw [← hJ2]; exact e))
  rw [hJ1] at hn1'
  rw [hJ2] at hn2'
  have HJ1 := Lib.hid hJ1
  have HJ2 := Lib.hid hJ2
  clear hJ1 hJ2 hok1 hok2
  obtain ⟨r1, hr1⟩ : ∃ r1, mkRat 1 (1 : Int).toNat = r1 := ⟨_, rfl⟩
  have HR1 := Lib.hid hr1
  have HP0 := Lib.hid (show r ^ 0 = r1 by rw [Rat.pow_zero, ← hr1]; decide +kernel)
  clear hr1
  have HS1 := Lib.hid hs1
  have HS2 := Lib.hid hs2
  have HPQ := Lib.hid hpow
  have hp12 : M * p ≤ 720 := Nat.le_trans (Nat.mul_le_mul hM (show p ≤ 12 by omega)) (by decide)
  have hrem : (q : Int).tmod 2 = ((q % 2 : Nat) : Int) := by rw [Int.tmod_eq_emod_of_nonneg (by omega)]; rfl
  obtain ⟨u, hu⟩ : ∃ u, q % 2 = u := ⟨_, rfl⟩
  rw [hu] at hrem hpp
  have hu2 : u ≤ 1 := by omega
  have hwu : IntKind.i64.wrap (2 + (u : Int)) = ((2 + u : Nat) : Int) := by rw [IntKind.wrap_i64]; omega
  have hmin : min (q : Int) ((2 + u : Nat) : Int) = (p : Int) := by omega
  clear hu
  clear hs1 hpow hs2
  have hS := Lib.hid (((SC.start w).old (k := M) h.den h.ld rfl).old (k := M) h.num h.ln rfl)
  have hr0 := h.val
  clear h
  go_enter Tryz.func6, Tryz.ntmps6
  have h1 := ((hS.out.boxed (vs := [.bool b0, .slice A0 n0 c0, .slice A0' n0' c0']) (ty := 27) rfl rfl).boxed (vs := [.bool false, .slice none 0 0, .slice none 0 0]) (ty := 27) rfl rfl)
  try simp only [World.size_alloc] at h1
  obtain ⟨p0_0, p1_0, p2_0⟩ := h1.cs3 0 rfl
  obtain ⟨p0_1, p1_1, p2_1⟩ := h1.cs3 1 rfl
  clear h1
  go_wp2_with fail
  clear p0_0 p1_0 p2_0 p0_1 p1_1 p2_1
  generalize hwa : World.alloc (World.alloc w _) _ = v1
  have h1 := ((hS.out.boxed (vs := [.bool b0, .slice A0 n0 c0, .slice A0' n0' c0']) (ty := 27) rfl rfl).boxed (vs := [.bool false, .slice none 0 0, .slice none 0 0]) (ty := 27) rfl hwa)
  simp only [World.size_alloc] at h1
  have hsz : v1.heap.size = w.heap.size + 1 + 1 := by rw [← hwa]; simp only [World.size_alloc]
  try rw [← hsz]
  clear hwa hsz
  clear hS; have hS := Lib.hid h1; clear h1
  obtain ⟨x0_0, x1_0, x2_0⟩ := hS.out.cs3 0 rfl
  obtain ⟨x0_1, x1_1, x2_1⟩ := hS.out.cs3 1 rfl
  go_wp2_with fail
  go_at_call 18
  with_reducible refine (r6count_c (M := M) hS.out (by repeat (first | exact List.mem_cons_self | apply List.mem_cons_of_mem)) (by repeat (first | exact List.mem_cons_self | apply List.mem_cons_of_mem)) (by omega) (by omega) (by omega) (by omega) hr0).mono ?_
  rintro e v2 ⟨A1, n1, c1, A2, n2, c2, rfl, h1⟩
  clear x0_0 x1_0 x2_0 x0_1 x1_1 x2_1
  clear hS; have hS := Lib.hid h1; clear h1
  obtain ⟨x0_0, x1_0, x2_0⟩ := hS.out.cs3 0 rfl
  obtain ⟨x0_1, x1_1, x2_1⟩ := hS.out.cs3 1 rfl
  have hp0 := hS.out.put3 1 rfl (hS.out.ge_ 1 rfl) (.bool (sg (r).num)) (.slice A1 n1 c1) (.slice A2 n2 c2)
  simp only [List.set_cons_zero, List.set_cons_succ] at hp0
  have fz0_0 := hS.out.frs 1 rfl 0
  have fz0_1 := hS.out.frs 1 rfl 1
  have fz0_2 := hS.out.frs 1 rfl 2
  obtain ⟨p00_0, p01_0, p02_0⟩ := hp0.cs3 0 rfl
  obtain ⟨p00_1, p01_1, p02_1⟩ := hp0.cs3 1 rfl
  have HPUT := Lib.hid hp0
  clear hp0
  go_wp2_with fail
  clear fz0_0 fz0_1 fz0_2
  clear p00_0 p01_0 p02_0 p00_1 p01_1 p02_1
  clear x0_0 x1_0 x2_0 x0_1 x1_1 x2_1
  have h1 := HPUT.out
  clear HPUT
  generalize hwa : World.setCell (World.setCell (World.setCell v2 _ _) _ _) _ _ = v3 at *
  clear hwa
  clear hS; have hS := Lib.hid h1; clear h1
  obtain ⟨x0_0, x1_0, x2_0⟩ := hS.out.cs3 0 rfl
  obtain ⟨x0_1, x1_1, x2_1⟩ := hS.out.cs3 1 rfl
  go_wp2_with fail
  go_at_call 19
  with_reducible refine (rlong_n hS.out (by repeat (first | exact List.mem_cons_self | apply List.mem_cons_of_mem)) (by omega) HJ1.out (by omega) HO1.out).mono ?_
  rintro e v4 ⟨rfl, h1⟩
  clear x0_0 x1_0 x2_0 x0_1 x1_1 x2_1
  clear hS; have hS := Lib.hid h1; clear h1
  obtain ⟨x0_0, x1_0, x2_0⟩ := hS.out.cs3 0 rfl
  obtain ⟨x0_1, x1_1, x2_1⟩ := hS.out.cs3 1 rfl
  go_wp2_with fail
  go_at_call 19
  with_reducible refine (rlong_n hS.out (by repeat (first | exact List.mem_cons_self | apply List.mem_cons_of_mem)) (by omega) HJ2.out (by omega) HO2.out).mono ?_
  rintro e v5 ⟨rfl, h1⟩
  clear x0_0 x1_0 x2_0 x0_1 x1_1 x2_1
  clear hS; have hS := Lib.hid h1; clear h1
  obtain ⟨x0_0, x1_0, x2_0⟩ := hS.out.cs3 0 rfl
  obtain ⟨x0_1, x1_1, x2_1⟩ := hS.out.cs3 1 rfl
  have hl := hS.out.lit1 1 (by decide)
  obtain ⟨p0_0, p1_0, p2_0⟩ := hl.cs3 0 rfl
  obtain ⟨p0_1, p1_1, p2_1⟩ := hl.cs3 1 rfl
  clear hl
  go_wp2_with fail
  clear x0_0 x1_0 x2_0 x0_1 x1_1 x2_1
  clear p0_0 p1_0 p2_0 p0_1 p1_1 p2_1
  generalize hwa : World.alloc v5 _ = v6
  have h1 := hS.out.lit1 1 (by decide)
  rw [hwa] at h1
  clear hwa
  clear hS; have hS := Lib.hid h1; clear h1
  obtain ⟨x0_0, x1_0, x2_0⟩ := hS.out.cs3 0 rfl
  obtain ⟨x0_1, x1_1, x2_1⟩ := hS.out.cs3 1 rfl
  go_wp2_with fail
  go_at_call 20
  with_reducible refine (rsame9_c (q := true) hS.out (by repeat (first | exact List.mem_cons_self | apply List.mem_cons_of_mem)) (by repeat (first | exact List.mem_cons_self | apply List.mem_cons_of_mem)) HS1.out).mono ?_
  rintro e v7 ⟨rfl, h1⟩
  clear x0_0 x1_0 x2_0 x0_1 x1_1 x2_1
  clear hS; have hS := Lib.hid h1; clear h1
  obtain ⟨x0_0, x1_0, x2_0⟩ := hS.out.cs3 0 rfl
  obtain ⟨x0_1, x1_1, x2_1⟩ := hS.out.cs3 1 rfl
  go_wp2_with fail
  go_at_call 20
  with_reducible refine (rsame9_c (q := true) hS.out (by repeat (first | exact List.mem_cons_self | apply List.mem_cons_of_mem)) (by repeat (first | exact List.mem_cons_self | apply List.mem_cons_of_mem)) HS2.out).mono ?_
  rintro e v8 ⟨rfl, h1⟩
  clear x0_0 x1_0 x2_0 x0_1 x1_1 x2_1
  clear hS; have hS := Lib.hid h1; clear h1
  obtain ⟨x0_0, x1_0, x2_0⟩ := hS.out.cs3 0 rfl
  obtain ⟨x0_1, x1_1, x2_1⟩ := hS.out.cs3 1 rfl
  go_wp2_with fail
  go_at_call 21
  with_reducible refine (r6of_any _ (by decide) (by decide) HR1.out).mono ?_
  rintro e v9 ho
  clear x0_0 x1_0 x2_0 x0_1 x1_1 x2_1
  obtain ⟨A3, n3, c3, A4, n4, c4, rfl, h1⟩ := hS.out.rR (Nat.le_refl _) ho
  clear hS; have hS := Lib.hid h1; clear h1
  obtain ⟨x0_0, x1_0, x2_0⟩ := hS.out.cs3 0 rfl
  obtain ⟨x0_1, x1_1, x2_1⟩ := hS.out.cs3 1 rfl
  have h1 := (hS.out.boxed (vs := [.bool (sg (r1).num), .slice A3 n3 c3, .slice A4 n4 c4]) (ty := 27) rfl rfl)
  try simp only [World.size_alloc] at h1
  obtain ⟨p0_0, p1_0, p2_0⟩ := h1.cs3 0 rfl
  obtain ⟨p0_1, p1_1, p2_1⟩ := h1.cs3 1 rfl
  obtain ⟨p0_2, p1_2, p2_2⟩ := h1.cs3 2 rfl
  clear h1
  go_wp2_with fail
  clear x0_0 x1_0 x2_0 x0_1 x1_1 x2_1
  clear p0_0 p1_0 p2_0 p0_1 p1_1 p2_1 p0_2 p1_2 p2_2
  generalize hwa : World.alloc v9 _ = v10
  have h1 := (hS.out.boxed (vs := [.bool (sg (r1).num), .slice A3 n3 c3, .slice A4 n4 c4]) (ty := 27) rfl hwa)
  have hsz : v10.heap.size = v9.heap.size + 1 := by rw [← hwa]; simp only [World.size_alloc]
  try rw [← hsz]
  clear hwa hsz
  clear hS; have hS := Lib.hid h1; clear h1
  obtain ⟨x0_0, x1_0, x2_0⟩ := hS.out.cs3 0 rfl
  obtain ⟨x0_1, x1_1, x2_1⟩ := hS.out.cs3 1 rfl
  obtain ⟨x0_2, x1_2, x2_2⟩ := hS.out.cs3 2 rfl
  obtain ⟨go, hgo⟩ : ∃ go, v9.heap.size = go := ⟨_, rfl⟩
  rw [hgo] at hS
  try rw [hgo]
  clear hgo
  clear x0_0 x1_0 x2_0 x0_1 x1_1 x2_1 x0_2 x1_2 x2_2
  go_loopw [8] (fun i wr => ∃ (j : Nat) (rr : Rat) (A : Option Addr) (n c : Nat) (A' : Option Addr) (n' c' : Nat) (ty ty2 : TypeId), j ≤ p ∧ i = .int .i64 (j : Int) ∧ r ^ j = rr ∧ SC w w wr [⟨A, n, c, 1 + M * j, limbs (mg rr.num), mg rr.num⟩, ⟨A', n', c', 1 + M * j, limbs rr.den, rr.den⟩, ⟨A1, n1, c1, M, limbs (mg r.num), mg r.num⟩, ⟨A2, n2, c2, M, limbs r.den, r.den⟩] [⟨go, [.bool (sg (rr).num), .slice A n c, .slice A' n' c'], ty⟩, ⟨w.heap.size + 1, [.bool false, .slice none 0 0, .slice none 0 0], 27⟩, ⟨w.heap.size, [.bool (sg (r).num), .slice A1 n1 c1, .slice A2 n2 c2], ty2⟩] [⟨A, n, c, 1 + M * j, limbs (mg rr.num), mg rr.num⟩, ⟨A', n', c', 1 + M * j, limbs rr.den, rr.den⟩]) (fun i _ => p - (intOf i).toNat)
  case atStart =>
    exact ⟨0, r1, A3, n3, c3, A4, n4, c4, _, _, Nat.zero_le _, rfl, HP0.out, hS.out.sub (fun t ht => by
      simp only [List.mem_cons, List.not_mem_nil, or_false] at ht
      rcases ht with rfl | rfl | rfl | rfl <;> (repeat (first | exact List.mem_cons_self | apply List.mem_cons_of_mem))) (List.Sublist.refl _) (fun t ht => by
      simp only [List.mem_cons, List.not_mem_nil, or_false] at ht
      rcases ht with rfl | rfl <;> (repeat (first | exact List.mem_cons_self | apply List.mem_cons_of_mem)))⟩
  case round =>
    obtain ⟨j, rr, A, n, c, A', n', c', ty, ty2, hj, rfl, hrr, hS0⟩ := hrel
    obtain ⟨wo, rfl⟩ : ∃ wo : World, wo = wr := ⟨_, rfl⟩
    clear hS
    have hS := Lib.hid hS0
    have HRR := Lib.hid hrr
    clear hS0 hrr
    by_cases hlt : j < p
    · have hltI : (j : Int) < (p : Int) := by omega
      obtain ⟨r2, hr2⟩ : ∃ r2, rr * r = r2 := ⟨_, rfl⟩
      have HR2 := Lib.hid (show r ^ (j + 1) = r2 by rw [Rat.pow_succ, HRR.out]; exact hr2)
      have hMj : M * j + M ≤ 900 := by
        have h9 : M * (j + 1) ≤ M * p := Nat.mul_le_mul_left M hlt
        rw [Nat.mul_add, Nat.mul_one] at h9
        omega
      obtain ⟨x0_0, x1_0, x2_0⟩ := hS.out.cs3 0 rfl
      obtain ⟨x0_1, x1_1, x2_1⟩ := hS.out.cs3 1 rfl
      obtain ⟨x0_2, x1_2, x2_2⟩ := hS.out.cs3 2 rfl
      go_wp2_with fail
      go_at_call 22
      with_reducible refine (r6mul_any _ (hS.out.frm0 (r := rr) (M := 1 + M * j) (by repeat (first | exact List.mem_cons_self | apply List.mem_cons_of_mem)) (by repeat (first | exact List.mem_cons_self | apply List.mem_cons_of_mem)) (Nat.le_refl _) (Nat.le_refl _) (rv_self _)) (hS.out.frm0 (r := r) (M := M) (by repeat (first | exact List.mem_cons_self | apply List.mem_cons_of_mem)) (by repeat (first | exact List.mem_cons_self | apply List.mem_cons_of_mem)) (Nat.le_refl _) (Nat.le_refl _) (rv_self _)) (by omega) h1M (by omega)).mono ?_
      rintro e v12 ho
      clear x0_0 x1_0 x2_0 x0_1 x1_1 x2_1 x0_2 x1_2 x2_2
      rw [hr2] at ho
      obtain ⟨A5, n5, c5, A6, n6, c6, rfl, h1⟩ := hS.out.rR (k := 1 + M * (j + 1)) (by rw [Nat.mul_add]; omega) ho
      clear hS; have hS := Lib.hid h1; clear h1
      obtain ⟨x0_0, x1_0, x2_0⟩ := hS.out.cs3 0 rfl
      obtain ⟨x0_1, x1_1, x2_1⟩ := hS.out.cs3 1 rfl
      obtain ⟨x0_2, x1_2, x2_2⟩ := hS.out.cs3 2 rfl
      have hp0 := hS.out.put3 0 rfl (hS.out.ge_ 0 rfl) (.bool (sg (r2).num)) (.slice A5 n5 c5) (.slice A6 n6 c6)
      simp only [List.set_cons_zero, List.set_cons_succ] at hp0
      have fz0_0 := hS.out.frs 0 rfl 0
      have fz0_1 := hS.out.frs 0 rfl 1
      have fz0_2 := hS.out.frs 0 rfl 2
      obtain ⟨p00_0, p01_0, p02_0⟩ := hp0.cs3 0 rfl
      obtain ⟨p00_1, p01_1, p02_1⟩ := hp0.cs3 1 rfl
      obtain ⟨p00_2, p01_2, p02_2⟩ := hp0.cs3 2 rfl
      have HPUT := Lib.hid hp0
      clear hp0
      go_wp2_with fail
      clear fz0_0 fz0_1 fz0_2
      clear p00_0 p01_0 p02_0 p00_1 p01_1 p02_1 p00_2 p01_2 p02_2
      clear x0_0 x1_0 x2_0 x0_1 x1_1 x2_1 x0_2 x1_2 x2_2
      have h1 := HPUT.out
      clear HPUT
      generalize hwa : World.setCell (World.setCell (World.setCell v12 _ _) _ _) _ _ = v13 at *
      clear hwa
      clear hS; have hS := Lib.hid h1; clear h1
      obtain ⟨x0_0, x1_0, x2_0⟩ := hS.out.cs3 0 rfl
      obtain ⟨x0_1, x1_1, x2_1⟩ := hS.out.cs3 1 rfl
      obtain ⟨x0_2, x1_2, x2_2⟩ := hS.out.cs3 2 rfl
      go_roundw
      case rel =>
        exact ⟨j + 1, r2, A5, n5, c5, A6, n6, c6, _, _, hlt, by go_num, HR2.out, hS.out.sub (fun t ht => by
          simp only [List.mem_cons, List.not_mem_nil, or_false] at ht
          rcases ht with rfl | rfl | rfl | rfl <;> (repeat (first | exact List.mem_cons_self | apply List.mem_cons_of_mem))) (List.Sublist.refl _) (fun t ht => by
          simp only [List.mem_cons, List.not_mem_nil, or_false] at ht
          rcases ht with rfl | rfl <;> (repeat (first | exact List.mem_cons_self | apply List.mem_cons_of_mem)))⟩
      case measure => simp [intOf]; omega
    · obtain rfl : j = p := by omega
      have hMj12 : M * j ≤ M * 12 := Nat.mul_le_mul_left M (show j ≤ 12 by omega)
      have hltI : ¬ (j : Int) < (j : Int) := by omega
      obtain ⟨x0_0, x1_0, x2_0⟩ := hS.out.cs3 0 rfl
      obtain ⟨x0_1, x1_1, x2_1⟩ := hS.out.cs3 1 rfl
      obtain ⟨x0_2, x1_2, x2_2⟩ := hS.out.cs3 2 rfl
      have hp0 := hS.out.put3 1 rfl (hS.out.ge_ 1 rfl) (.bool (sg (rr).num)) (.slice A n c) (.slice A' n' c')
      simp only [List.set_cons_zero, List.set_cons_succ] at hp0
      have fz0_0 := hS.out.frs 1 rfl 0
      have fz0_1 := hS.out.frs 1 rfl 1
      have fz0_2 := hS.out.frs 1 rfl 2
      have HPUT := Lib.hid hp0
      clear hp0
      go_wp2_with fail
      refine bodyPost_ret (results_B2 rfl rfl rfl (loadR (HPUT.out.box _ (List.mem_of_getElem? (i := 1) rfl)))) rfl ?_
      rw [show r ^ q = rr by rw [← HRR.out]; exact HPQ.out.symm]
      exact HPUT.out.toRE2 (r := rr) (by repeat (first | exact List.mem_cons_self | apply List.mem_cons_of_mem)) (by repeat (first | exact List.mem_cons_self | apply List.mem_cons_of_mem)) (by repeat (first | exact List.mem_cons_self | apply List.mem_cons_of_mem)) (by repeat (first | exact List.mem_cons_self | apply List.mem_cons_of_mem)) (by omega) (by omega) rfl rfl rfl
set_option maxHeartbeats 1000000 in
theorem r6pow_B (w : World) (h : Frm w b0 A0 n0 c0 x0 A0' n0' c0' x0' M r) (h1M : 1 ≤ M) (hM : M ≤ 60) {q p : Nat} (hq : q ≤ 12) (hok1 : PowOk (mg r.num) q) (hok2 : PowOk r.den q) (hs1 : decide (limbs (mg r.num) = [1]) = true) (hs2 : decide (limbs (r.den : Int) = [1]) = false) (hz : mg r.num ≠ 0) (hpp : q = p) (hpow : r ^ p = r ^ q) :
    Calls Tryz.prog 6 #[.agg #[.bool b0, .slice A0 n0 c0, .slice A0' n0' c0'], .int .i64 (q : Int)] w (OutRE w (1 + M * 12) (r ^ q) 0) := by
  have hq0 : ¬ (q : Int) < 0 := by omega
  obtain ⟨J1, hJ1⟩ : ∃ J, W.len (mg r.num) = J := ⟨_, rfl⟩
  obtain ⟨J2, hJ2⟩ : ∃ J, W.len (r.den : Int) = J := ⟨_, rfl⟩
  have hn1' := len_nonneg (mg r.num)
  have hn2' := len_nonneg (r.den : Int)
  have HO1 := Lib.hid (show J1 = 0 ∨ (q : Int) ≤ 1048576 / J1 by
    rcases hok1 with e | e
    · exact .inl (by rw [← hJ1, e]; decide)
    · exact .inr (by rw [← hJ1]; exact e))
  have HO2 := Lib.hid (show J2 = 0 ∨ (q : Int) ≤ 1048576 / J2 by
    rcases hok2 with e | e
    · exact .inl (by rw [← hJ2, e]; decide)
    · exact .inr (by rw [← hJ2]; exact e))
  rw [hJ1] at hn1'
  rw [hJ2] at hn2'
  have HJ1 := Lib.hid hJ1
  have HJ2 := Lib.hid hJ2
  clear hJ1 hJ2 hok1 hok2
  obtain ⟨r1, hr1⟩ : ∃ r1, mkRat 1 (1 : Int).toNat = r1 := ⟨_, rfl⟩
  have HR1 := Lib.hid hr1
  have HP0 := Lib.hid (show r ^ 0 = r1 by rw [Rat.pow_zero, ← hr1]; decide +kernel)
  clear hr1
  have HS1 := Lib.hid hs1
  have HS2 := Lib.hid hs2
  have HZ := Lib.hid hz
  have HPQ := Lib.hid hpow
  have hp12 : M * p ≤ 720 := Nat.le_trans (Nat.mul_le_mul hM (show p ≤ 12 by omega)) (by decide)
  obtain rfl : p = q := hpp.symm
  clear hs1 hpow hs2 hz
  have hS := Lib.hid (((SC.start w).old (k := M) h.den h.ld rfl).old (k := M) h.num h.ln rfl)
  have hr0 := h.val
  clear h
  go_enter Tryz.func6, Tryz.ntmps6
  have h1 := ((hS.out.boxed (vs := [.bool b0, .slice A0 n0 c0, .slice A0' n0' c0']) (ty := 27) rfl rfl).boxed (vs := [.bool false, .slice none 0 0, .slice none 0 0]) (ty := 27) rfl rfl)
  try simp only [World.size_alloc] at h1
  obtain ⟨p0_0, p1_0, p2_0⟩ := h1.cs3 0 rfl
  obtain ⟨p0_1, p1_1, p2_1⟩ := h1.cs3 1 rfl
  clear h1
  go_wp2_with fail
  clear p0_0 p1_0 p2_0 p0_1 p1_1 p2_1
  generalize hwa : World.alloc (World.alloc w _) _ = v1
  have h1 := ((hS.out.boxed (vs := [.bool b0, .slice A0 n0 c0, .slice A0' n0' c0']) (ty := 27) rfl rfl).boxed (vs := [.bool false, .slice none 0 0, .slice none 0 0]) (ty := 27) rfl hwa)
  simp only [World.size_alloc] at h1
  have hsz : v1.heap.size = w.heap.size + 1 + 1 := by rw [← hwa]; simp only [World.size_alloc]
  try rw [← hsz]
  clear hwa hsz
  clear hS; have hS := Lib.hid h1; clear h1
  obtain ⟨x0_0, x1_0, x2_0⟩ := hS.out.cs3 0 rfl
  obtain ⟨x0_1, x1_1, x2_1⟩ := hS.out.cs3 1 rfl
  go_wp2_with fail
  go_at_call 18
  with_reducible refine (r6count_c (M := M) hS.out (by repeat (first | exact List.mem_cons_self | apply List.mem_cons_of_mem)) (by repeat (first | exact List.mem_cons_self | apply List.mem_cons_of_mem)) (by omega) (by omega) (by omega) (by omega) hr0).mono ?_
  rintro e v2 ⟨A1, n1, c1, A2, n2, c2, rfl, h1⟩
  clear x0_0 x1_0 x2_0 x0_1 x1_1 x2_1
  clear hS; have hS := Lib.hid h1; clear h1
  obtain ⟨x0_0, x1_0, x2_0⟩ := hS.out.cs3 0 rfl
  obtain ⟨x0_1, x1_1, x2_1⟩ := hS.out.cs3 1 rfl
  have hp0 := hS.out.put3 1 rfl (hS.out.ge_ 1 rfl) (.bool (sg (r).num)) (.slice A1 n1 c1) (.slice A2 n2 c2)
  simp only [List.set_cons_zero, List.set_cons_succ] at hp0
  have fz0_0 := hS.out.frs 1 rfl 0
  have fz0_1 := hS.out.frs 1 rfl 1
  have fz0_2 := hS.out.frs 1 rfl 2
  obtain ⟨p00_0, p01_0, p02_0⟩ := hp0.cs3 0 rfl
  obtain ⟨p00_1, p01_1, p02_1⟩ := hp0.cs3 1 rfl
  have HPUT := Lib.hid hp0
  clear hp0
  go_wp2_with fail
  clear fz0_0 fz0_1 fz0_2
  clear p00_0 p01_0 p02_0 p00_1 p01_1 p02_1
  clear x0_0 x1_0 x2_0 x0_1 x1_1 x2_1
  have h1 := HPUT.out
  clear HPUT
  generalize hwa : World.setCell (World.setCell (World.setCell v2 _ _) _ _) _ _ = v3 at *
  clear hwa
  clear hS; have hS := Lib.hid h1; clear h1
  obtain ⟨x0_0, x1_0, x2_0⟩ := hS.out.cs3 0 rfl
  obtain ⟨x0_1, x1_1, x2_1⟩ := hS.out.cs3 1 rfl
  go_wp2_with fail
  go_at_call 19
  with_reducible refine (rlong_n hS.out (by repeat (first | exact List.mem_cons_self | apply List.mem_cons_of_mem)) (by omega) HJ1.out (by omega) HO1.out).mono ?_
  rintro e v4 ⟨rfl, h1⟩
  clear x0_0 x1_0 x2_0 x0_1 x1_1 x2_1
  clear hS; have hS := Lib.hid h1; clear h1
  obtain ⟨x0_0, x1_0, x2_0⟩ := hS.out.cs3 0 rfl
  obtain ⟨x0_1, x1_1, x2_1⟩ := hS.out.cs3 1 rfl
  go_wp2_with fail
  go_at_call 19
  with_reducible refine (rlong_n hS.out (by repeat (first | exact List.mem_cons_self | apply List.mem_cons_of_mem)) (by omega) HJ2.out (by omega) HO2.out).mono ?_
  rintro e v5 ⟨rfl, h1⟩
  clear x0_0 x1_0 x2_0 x0_1 x1_1 x2_1
  clear hS; have hS := Lib.hid h1; clear h1
  obtain ⟨x0_0, x1_0, x2_0⟩ := hS.out.cs3 0 rfl
  obtain ⟨x0_1, x1_1, x2_1⟩ := hS.out.cs3 1 rfl
  have hn1 : ¬ (n1 : Int) = 0 := by
    have h9 := (hS.out.get (A := A1) (n := n1) (c := c1) (k := M) (xs := limbs (mg r.num)) (v := mg r.num) (by repeat (first | exact List.mem_cons_self | apply List.mem_cons_of_mem))).1.len
    have h8 := (limbs_len_le (mg_nn r.num) 0)
    have h7 : Q B 0 = 1 := by decide +kernel
    have h6 := mg_nn r.num
    have h5 := HZ.out
    rw [h7] at h8
    omega
  have hl := hS.out.lit1 1 (by decide)
  obtain ⟨p0_0, p1_0, p2_0⟩ := hl.cs3 0 rfl
  obtain ⟨p0_1, p1_1, p2_1⟩ := hl.cs3 1 rfl
  clear hl
  go_wp2_with fail
  clear x0_0 x1_0 x2_0 x0_1 x1_1 x2_1
  clear p0_0 p1_0 p2_0 p0_1 p1_1 p2_1
  generalize hwa : World.alloc v5 _ = v6
  have h1 := hS.out.lit1 1 (by decide)
  rw [hwa] at h1
  clear hwa
  clear hS; have hS := Lib.hid h1; clear h1
  obtain ⟨x0_0, x1_0, x2_0⟩ := hS.out.cs3 0 rfl
  obtain ⟨x0_1, x1_1, x2_1⟩ := hS.out.cs3 1 rfl
  go_wp2_with fail
  go_at_call 20
  with_reducible refine (rsame9_c (q := true) hS.out (by repeat (first | exact List.mem_cons_self | apply List.mem_cons_of_mem)) (by repeat (first | exact List.mem_cons_self | apply List.mem_cons_of_mem)) HS1.out).mono ?_
  rintro e v7 ⟨rfl, h1⟩
  clear x0_0 x1_0 x2_0 x0_1 x1_1 x2_1
  clear hS; have hS := Lib.hid h1; clear h1
  obtain ⟨x0_0, x1_0, x2_0⟩ := hS.out.cs3 0 rfl
  obtain ⟨x0_1, x1_1, x2_1⟩ := hS.out.cs3 1 rfl
  go_wp2_with fail
  go_at_call 20
  with_reducible refine (rsame9_c (q := false) hS.out (by repeat (first | exact List.mem_cons_self | apply List.mem_cons_of_mem)) (by repeat (first | exact List.mem_cons_self | apply List.mem_cons_of_mem)) HS2.out).mono ?_
  rintro e v8 ⟨rfl, h1⟩
  clear x0_0 x1_0 x2_0 x0_1 x1_1 x2_1
  clear hS; have hS := Lib.hid h1; clear h1
  obtain ⟨x0_0, x1_0, x2_0⟩ := hS.out.cs3 0 rfl
  obtain ⟨x0_1, x1_1, x2_1⟩ := hS.out.cs3 1 rfl
  go_wp2_with fail
  go_at_call 21
  with_reducible refine (r6of_any _ (by decide) (by decide) HR1.out).mono ?_
  rintro e v9 ho
  clear x0_0 x1_0 x2_0 x0_1 x1_1 x2_1
  obtain ⟨A3, n3, c3, A4, n4, c4, rfl, h1⟩ := hS.out.rR (Nat.le_refl _) ho
  clear hS; have hS := Lib.hid h1; clear h1
  obtain ⟨x0_0, x1_0, x2_0⟩ := hS.out.cs3 0 rfl
  obtain ⟨x0_1, x1_1, x2_1⟩ := hS.out.cs3 1 rfl
  have h1 := (hS.out.boxed (vs := [.bool (sg (r1).num), .slice A3 n3 c3, .slice A4 n4 c4]) (ty := 27) rfl rfl)
  try simp only [World.size_alloc] at h1
  obtain ⟨p0_0, p1_0, p2_0⟩ := h1.cs3 0 rfl
  obtain ⟨p0_1, p1_1, p2_1⟩ := h1.cs3 1 rfl
  obtain ⟨p0_2, p1_2, p2_2⟩ := h1.cs3 2 rfl
  clear h1
  go_wp2_with fail
  clear x0_0 x1_0 x2_0 x0_1 x1_1 x2_1
  clear p0_0 p1_0 p2_0 p0_1 p1_1 p2_1 p0_2 p1_2 p2_2
  generalize hwa : World.alloc v9 _ = v10
  have h1 := (hS.out.boxed (vs := [.bool (sg (r1).num), .slice A3 n3 c3, .slice A4 n4 c4]) (ty := 27) rfl hwa)
  have hsz : v10.heap.size = v9.heap.size + 1 := by rw [← hwa]; simp only [World.size_alloc]
  try rw [← hsz]
  clear hwa hsz
  clear hS; have hS := Lib.hid h1; clear h1
  obtain ⟨x0_0, x1_0, x2_0⟩ := hS.out.cs3 0 rfl
  obtain ⟨x0_1, x1_1, x2_1⟩ := hS.out.cs3 1 rfl
  obtain ⟨x0_2, x1_2, x2_2⟩ := hS.out.cs3 2 rfl
  obtain ⟨go, hgo⟩ : ∃ go, v9.heap.size = go := ⟨_, rfl⟩
  rw [hgo] at hS
  try rw [hgo]
  clear hgo
  clear x0_0 x1_0 x2_0 x0_1 x1_1 x2_1 x0_2 x1_2 x2_2
  go_loopw [8] (fun i wr => ∃ (j : Nat) (rr : Rat) (A : Option Addr) (n c : Nat) (A' : Option Addr) (n' c' : Nat) (ty ty2 : TypeId), j ≤ p ∧ i = .int .i64 (j : Int) ∧ r ^ j = rr ∧ SC w w wr [⟨A, n, c, 1 + M * j, limbs (mg rr.num), mg rr.num⟩, ⟨A', n', c', 1 + M * j, limbs rr.den, rr.den⟩, ⟨A1, n1, c1, M, limbs (mg r.num), mg r.num⟩, ⟨A2, n2, c2, M, limbs r.den, r.den⟩] [⟨go, [.bool (sg (rr).num), .slice A n c, .slice A' n' c'], ty⟩, ⟨w.heap.size + 1, [.bool false, .slice none 0 0, .slice none 0 0], 27⟩, ⟨w.heap.size, [.bool (sg (r).num), .slice A1 n1 c1, .slice A2 n2 c2], ty2⟩] [⟨A, n, c, 1 + M * j, limbs (mg rr.num), mg rr.num⟩, ⟨A', n', c', 1 + M * j, limbs rr.den, rr.den⟩]) (fun i _ => p - (intOf i).toNat)
  case atStart =>
    exact ⟨0, r1, A3, n3, c3, A4, n4, c4, _, _, Nat.zero_le _, rfl, HP0.out, hS.out.sub (fun t ht => by
      simp only [List.mem_cons, List.not_mem_nil, or_false] at ht
      rcases ht with rfl | rfl | rfl | rfl <;> (repeat (first | exact List.mem_cons_self | apply List.mem_cons_of_mem))) (List.Sublist.refl _) (fun t ht => by
      simp only [List.mem_cons, List.not_mem_nil, or_false] at ht
      rcases ht with rfl | rfl <;> (repeat (first | exact List.mem_cons_self | apply List.mem_cons_of_mem)))⟩
  case round =>
    obtain ⟨j, rr, A, n, c, A', n', c', ty, ty2, hj, rfl, hrr, hS0⟩ := hrel
    obtain ⟨wo, rfl⟩ : ∃ wo : World, wo = wr := ⟨_, rfl⟩
    clear hS
    have hS := Lib.hid hS0
    have HRR := Lib.hid hrr
    clear hS0 hrr
    by_cases hlt : j < p
    · have hltI : (j : Int) < (p : Int) := by omega
      obtain ⟨r2, hr2⟩ : ∃ r2, rr * r = r2 := ⟨_, rfl⟩
      have HR2 := Lib.hid (show r ^ (j + 1) = r2 by rw [Rat.pow_succ, HRR.out]; exact hr2)
      have hMj : M * j + M ≤ 900 := by
        have h9 : M * (j + 1) ≤ M * p := Nat.mul_le_mul_left M hlt
        rw [Nat.mul_add, Nat.mul_one] at h9
        omega
      obtain ⟨x0_0, x1_0, x2_0⟩ := hS.out.cs3 0 rfl
      obtain ⟨x0_1, x1_1, x2_1⟩ := hS.out.cs3 1 rfl
      obtain ⟨x0_2, x1_2, x2_2⟩ := hS.out.cs3 2 rfl
      go_wp2_with fail
      go_at_call 22
      with_reducible refine (r6mul_any _ (hS.out.frm0 (r := rr) (M := 1 + M * j) (by repeat (first | exact List.mem_cons_self | apply List.mem_cons_of_mem)) (by repeat (first | exact List.mem_cons_self | apply List.mem_cons_of_mem)) (Nat.le_refl _) (Nat.le_refl _) (rv_self _)) (hS.out.frm0 (r := r) (M := M) (by repeat (first | exact List.mem_cons_self | apply List.mem_cons_of_mem)) (by repeat (first | exact List.mem_cons_self | apply List.mem_cons_of_mem)) (Nat.le_refl _) (Nat.le_refl _) (rv_self _)) (by omega) h1M (by omega)).mono ?_
      rintro e v12 ho
      clear x0_0 x1_0 x2_0 x0_1 x1_1 x2_1 x0_2 x1_2 x2_2
      rw [hr2] at ho
      obtain ⟨A5, n5, c5, A6, n6, c6, rfl, h1⟩ := hS.out.rR (k := 1 + M * (j + 1)) (by rw [Nat.mul_add]; omega) ho
      clear hS; have hS := Lib.hid h1; clear h1
      obtain ⟨x0_0, x1_0, x2_0⟩ := hS.out.cs3 0 rfl
      obtain ⟨x0_1, x1_1, x2_1⟩ := hS.out.cs3 1 rfl
      obtain ⟨x0_2, x1_2, x2_2⟩ := hS.out.cs3 2 rfl
      have hp0 := hS.out.put3 0 rfl (hS.out.ge_ 0 rfl) (.bool (sg (r2).num)) (.slice A5 n5 c5) (.slice A6 n6 c6)
      simp only [List.set_cons_zero, List.set_cons_succ] at hp0
      have fz0_0 := hS.out.frs 0 rfl 0
      have fz0_1 := hS.out.frs 0 rfl 1
      have fz0_2 := hS.out.frs 0 rfl 2
      obtain ⟨p00_0, p01_0, p02_0⟩ := hp0.cs3 0 rfl
      obtain ⟨p00_1, p01_1, p02_1⟩ := hp0.cs3 1 rfl
      obtain ⟨p00_2, p01_2, p02_2⟩ := hp0.cs3 2 rfl
      have HPUT := Lib.hid hp0
      clear hp0
      go_wp2_with fail
      clear fz0_0 fz0_1 fz0_2
      clear p00_0 p01_0 p02_0 p00_1 p01_1 p02_1 p00_2 p01_2 p02_2
      clear x0_0 x1_0 x2_0 x0_1 x1_1 x2_1 x0_2 x1_2 x2_2
      have h1 := HPUT.out
      clear HPUT
      generalize hwa : World.setCell (World.setCell (World.setCell v12 _ _) _ _) _ _ = v13 at *
      clear hwa
      clear hS; have hS := Lib.hid h1; clear h1
      obtain ⟨x0_0, x1_0, x2_0⟩ := hS.out.cs3 0 rfl
      obtain ⟨x0_1, x1_1, x2_1⟩ := hS.out.cs3 1 rfl
      obtain ⟨x0_2, x1_2, x2_2⟩ := hS.out.cs3 2 rfl
      go_roundw
      case rel =>
        exact ⟨j + 1, r2, A5, n5, c5, A6, n6, c6, _, _, hlt, by go_num, HR2.out, hS.out.sub (fun t ht => by
          simp only [List.mem_cons, List.not_mem_nil, or_false] at ht
          rcases ht with rfl | rfl | rfl | rfl <;> (repeat (first | exact List.mem_cons_self | apply List.mem_cons_of_mem))) (List.Sublist.refl _) (fun t ht => by
          simp only [List.mem_cons, List.not_mem_nil, or_false] at ht
          rcases ht with rfl | rfl <;> (repeat (first | exact List.mem_cons_self | apply List.mem_cons_of_mem)))⟩
      case measure => simp [intOf]; omega
    · obtain rfl : j = p := by omega
      have hMj12 : M * j ≤ M * 12 := Nat.mul_le_mul_left M (show j ≤ 12 by omega)
      have hltI : ¬ (j : Int) < (j : Int) := by omega
      obtain ⟨x0_0, x1_0, x2_0⟩ := hS.out.cs3 0 rfl
      obtain ⟨x0_1, x1_1, x2_1⟩ := hS.out.cs3 1 rfl
      obtain ⟨x0_2, x1_2, x2_2⟩ := hS.out.cs3 2 rfl
      have hp0 := hS.out.put3 1 rfl (hS.out.ge_ 1 rfl) (.bool (sg (rr).num)) (.slice A n c) (.slice A' n' c')
      simp only [List.set_cons_zero, List.set_cons_succ] at hp0
      have fz0_0 := hS.out.frs 1 rfl 0
      have fz0_1 := hS.out.frs 1 rfl 1
      have fz0_2 := hS.out.frs 1 rfl 2
      have HPUT := Lib.hid hp0
      clear hp0
      go_wp2_with fail
      refine bodyPost_ret (results_B2 rfl rfl rfl (loadR (HPUT.out.box _ (List.mem_of_getElem? (i := 1) rfl)))) rfl ?_
      rw [HRR.out]
      exact HPUT.out.toRE2 (r := rr) (by repeat (first | exact List.mem_cons_self | apply List.mem_cons_of_mem)) (by repeat (first | exact List.mem_cons_self | apply List.mem_cons_of_mem)) (by repeat (first | exact List.mem_cons_self | apply List.mem_cons_of_mem)) (by repeat (first | exact List.mem_cons_self | apply List.mem_cons_of_mem)) (by omega) (by omega) rfl rfl rfl
set_option maxHeartbeats 1000000 in
theorem r6pow_C (w : World) (h : Frm w b0 A0 n0 c0 x0 A0' n0' c0' x0' M r) (h1M : 1 ≤ M) (hM : M ≤ 60) {q p : Nat} (hq : q ≤ 12) (hok1 : PowOk (mg r.num) q) (hok2 : PowOk r.den q) (hs1 : decide (limbs (mg r.num) = [1]) = false) (hz : mg r.num = 0) (hpp : min q (2 + q % 2) = p) (hpow : r ^ p = r ^ q) :
    Calls Tryz.prog 6 #[.agg #[.bool b0, .slice A0 n0 c0, .slice A0' n0' c0'], .int .i64 (q : Int)] w (OutRE w (1 + M * 12) (r ^ q) 0) := by
  have hq0 : ¬ (q : Int) < 0 := by omega
  obtain ⟨J1, hJ1⟩ : ∃ J, W.len (mg r.num) = J := ⟨_, rfl⟩
  obtain ⟨J2, hJ2⟩ : ∃ J, W.len (r.den : Int) = J := ⟨_, rfl⟩
  have hn1' := len_nonneg (mg r.num)
  have hn2' := len_nonneg (r.den : Int)
  have HO1 := Lib.hid (show J1 = 0 ∨ (q : Int) ≤ 1048576 / J1 by
    rcases hok1 with e | e
    · exact .inl (by rw [← hJ1, e]; decide)
    · exact .inr (by rw [← hJ1]; exact e))
  have HO2 := Lib.hid (show J2 = 0 ∨ (q : Int) ≤ 1048576 / J2 by
    rcases hok2 with e | e
    · exact .inl (by rw [← hJ2, e]; decide)
    · exact .inr (by rw [← hJ2]; exact e))
  rw [hJ1] at hn1'
  rw [hJ2] at hn2'
  have HJ1 := Lib.hid hJ1
  have HJ2 := Lib.hid hJ2
  clear hJ1 hJ2 hok1 hok2
  obtain ⟨r1, hr1⟩ : ∃ r1, mkRat 1 (1 : Int).toNat = r1 := ⟨_, rfl⟩
  have HR1 := Lib.hid hr1
  have HP0 := Lib.hid (show r ^ 0 = r1 by rw [Rat.pow_zero, ← hr1]; decide +kernel)
  clear hr1
  have HS1 := Lib.hid hs1
  have HZ := Lib.hid hz
  have HPQ := Lib.hid hpow
  have hp12 : M * p ≤ 720 := Nat.le_trans (Nat.mul_le_mul hM (show p ≤ 12 by omega)) (by decide)
  have hrem : (q : Int).tmod 2 = ((q % 2 : Nat) : Int) := by rw [Int.tmod_eq_emod_of_nonneg (by omega)]; rfl
  obtain ⟨u, hu⟩ : ∃ u, q % 2 = u := ⟨_, rfl⟩
  rw [hu] at hrem hpp
  have hu2 : u ≤ 1 := by omega
  have hwu : IntKind.i64.wrap (2 + (u : Int)) = ((2 + u : Nat) : Int) := by rw [IntKind.wrap_i64]; omega
  have hmin : min (q : Int) ((2 + u : Nat) : Int) = (p : Int) := by omega
  clear hu
  clear hs1 hpow hz
  have hS := Lib.hid (((SC.start w).old (k := M) h.den h.ld rfl).old (k := M) h.num h.ln rfl)
  have hr0 := h.val
  clear h
  go_enter Tryz.func6, Tryz.ntmps6
  have h1 := ((hS.out.boxed (vs := [.bool b0, .slice A0 n0 c0, .slice A0' n0' c0']) (ty := 27) rfl rfl).boxed (vs := [.bool false, .slice none 0 0, .slice none 0 0]) (ty := 27) rfl rfl)
  try simp only [World.size_alloc] at h1
  obtain ⟨p0_0, p1_0, p2_0⟩ := h1.cs3 0 rfl
  obtain ⟨p0_1, p1_1, p2_1⟩ := h1.cs3 1 rfl
  clear h1
  go_wp2_with fail
  clear p0_0 p1_0 p2_0 p0_1 p1_1 p2_1
  generalize hwa : World.alloc (World.alloc w _) _ = v1
  have h1 := ((hS.out.boxed (vs := [.bool b0, .slice A0 n0 c0, .slice A0' n0' c0']) (ty := 27) rfl rfl).boxed (vs := [.bool false, .slice none 0 0, .slice none 0 0]) (ty := 27) rfl hwa)
  simp only [World.size_alloc] at h1
  have hsz : v1.heap.size = w.heap.size + 1 + 1 := by rw [← hwa]; simp only [World.size_alloc]
  try rw [← hsz]
  clear hwa hsz
  clear hS; have hS := Lib.hid h1; clear h1
  obtain ⟨x0_0, x1_0, x2_0⟩ := hS.out.cs3 0 rfl
  obtain ⟨x0_1, x1_1, x2_1⟩ := hS.out.cs3 1 rfl
  go_wp2_with fail
  go_at_call 18
  with_reducible refine (r6count_c (M := M) hS.out (by repeat (first | exact List.mem_cons_self | apply List.mem_cons_of_mem)) (by repeat (first | exact List.mem_cons_self | apply List.mem_cons_of_mem)) (by omega) (by omega) (by omega) (by omega) hr0).mono ?_
  rintro e v2 ⟨A1, n1, c1, A2, n2, c2, rfl, h1⟩
  clear x0_0 x1_0 x2_0 x0_1 x1_1 x2_1
  clear hS; have hS := Lib.hid h1; clear h1
  obtain ⟨x0_0, x1_0, x2_0⟩ := hS.out.cs3 0 rfl
  obtain ⟨x0_1, x1_1, x2_1⟩ := hS.out.cs3 1 rfl
  have hp0 := hS.out.put3 1 rfl (hS.out.ge_ 1 rfl) (.bool (sg (r).num)) (.slice A1 n1 c1) (.slice A2 n2 c2)
  simp only [List.set_cons_zero, List.set_cons_succ] at hp0
  have fz0_0 := hS.out.frs 1 rfl 0
  have fz0_1 := hS.out.frs 1 rfl 1
  have fz0_2 := hS.out.frs 1 rfl 2
  obtain ⟨p00_0, p01_0, p02_0⟩ := hp0.cs3 0 rfl
  obtain ⟨p00_1, p01_1, p02_1⟩ := hp0.cs3 1 rfl
  have HPUT := Lib.hid hp0
  clear hp0
  go_wp2_with fail
  clear fz0_0 fz0_1 fz0_2
  clear p00_0 p01_0 p02_0 p00_1 p01_1 p02_1
  clear x0_0 x1_0 x2_0 x0_1 x1_1 x2_1
  have h1 := HPUT.out
  clear HPUT
  generalize hwa : World.setCell (World.setCell (World.setCell v2 _ _) _ _) _ _ = v3 at *
  clear hwa
  clear hS; have hS := Lib.hid h1; clear h1
  obtain ⟨x0_0, x1_0, x2_0⟩ := hS.out.cs3 0 rfl
  obtain ⟨x0_1, x1_1, x2_1⟩ := hS.out.cs3 1 rfl
  go_wp2_with fail
  go_at_call 19
  with_reducible refine (rlong_n hS.out (by repeat (first | exact List.mem_cons_self | apply List.mem_cons_of_mem)) (by omega) HJ1.out (by omega) HO1.out).mono ?_
  rintro e v4 ⟨rfl, h1⟩
  clear x0_0 x1_0 x2_0 x0_1 x1_1 x2_1
  clear hS; have hS := Lib.hid h1; clear h1
  obtain ⟨x0_0, x1_0, x2_0⟩ := hS.out.cs3 0 rfl
  obtain ⟨x0_1, x1_1, x2_1⟩ := hS.out.cs3 1 rfl
  go_wp2_with fail
  go_at_call 19
  with_reducible refine (rlong_n hS.out (by repeat (first | exact List.mem_cons_self | apply List.mem_cons_of_mem)) (by omega) HJ2.out (by omega) HO2.out).mono ?_
  rintro e v5 ⟨rfl, h1⟩
  clear x0_0 x1_0 x2_0 x0_1 x1_1 x2_1
  clear hS; have hS := Lib.hid h1; clear h1
  obtain ⟨x0_0, x1_0, x2_0⟩ := hS.out.cs3 0 rfl
  obtain ⟨x0_1, x1_1, x2_1⟩ := hS.out.cs3 1 rfl
  obtain rfl : n1 = 0 := by
    have h9 := (hS.out.get (A := A1) (n := n1) (c := c1) (k := M) (xs := limbs (mg r.num)) (v := mg r.num) (by repeat (first | exact List.mem_cons_self | apply List.mem_cons_of_mem))).1.len
    rw [HZ.out, limbs_zero] at h9
    exact h9.symm
  have hl := hS.out.lit1 1 (by decide)
  obtain ⟨p0_0, p1_0, p2_0⟩ := hl.cs3 0 rfl
  obtain ⟨p0_1, p1_1, p2_1⟩ := hl.cs3 1 rfl
  clear hl
  go_wp2_with fail
  clear x0_0 x1_0 x2_0 x0_1 x1_1 x2_1
  clear p0_0 p1_0 p2_0 p0_1 p1_1 p2_1
  generalize hwa : World.alloc v5 _ = v6
  have h1 := hS.out.lit1 1 (by decide)
  rw [hwa] at h1
  clear hwa
  clear hS; have hS := Lib.hid h1; clear h1
  obtain ⟨x0_0, x1_0, x2_0⟩ := hS.out.cs3 0 rfl
  obtain ⟨x0_1, x1_1, x2_1⟩ := hS.out.cs3 1 rfl
  go_wp2_with fail
  go_at_call 20
  with_reducible refine (rsame9_c (q := false) hS.out (by repeat (first | exact List.mem_cons_self | apply List.mem_cons_of_mem)) (by repeat (first | exact List.mem_cons_self | apply List.mem_cons_of_mem)) HS1.out).mono ?_
  rintro e v7 ⟨rfl, h1⟩
  clear x0_0 x1_0 x2_0 x0_1 x1_1 x2_1
  clear hS; have hS := Lib.hid h1; clear h1
  obtain ⟨x0_0, x1_0, x2_0⟩ := hS.out.cs3 0 rfl
  obtain ⟨x0_1, x1_1, x2_1⟩ := hS.out.cs3 1 rfl
  go_wp2_with fail
  go_at_call 21
  with_reducible refine (r6of_any _ (by decide) (by decide) HR1.out).mono ?_
  rintro e v8 ho
  clear x0_0 x1_0 x2_0 x0_1 x1_1 x2_1
  obtain ⟨A3, n3, c3, A4, n4, c4, rfl, h1⟩ := hS.out.rR (Nat.le_refl _) ho
  clear hS; have hS := Lib.hid h1; clear h1
  obtain ⟨x0_0, x1_0, x2_0⟩ := hS.out.cs3 0 rfl
  obtain ⟨x0_1, x1_1, x2_1⟩ := hS.out.cs3 1 rfl
  have h1 := (hS.out.boxed (vs := [.bool (sg (r1).num), .slice A3 n3 c3, .slice A4 n4 c4]) (ty := 27) rfl rfl)
  try simp only [World.size_alloc] at h1
  obtain ⟨p0_0, p1_0, p2_0⟩ := h1.cs3 0 rfl
  obtain ⟨p0_1, p1_1, p2_1⟩ := h1.cs3 1 rfl
  obtain ⟨p0_2, p1_2, p2_2⟩ := h1.cs3 2 rfl
  clear h1
  go_wp2_with fail
  clear x0_0 x1_0 x2_0 x0_1 x1_1 x2_1
  clear p0_0 p1_0 p2_0 p0_1 p1_1 p2_1 p0_2 p1_2 p2_2
  generalize hwa : World.alloc v8 _ = v9
  have h1 := (hS.out.boxed (vs := [.bool (sg (r1).num), .slice A3 n3 c3, .slice A4 n4 c4]) (ty := 27) rfl hwa)
  have hsz : v9.heap.size = v8.heap.size + 1 := by rw [← hwa]; simp only [World.size_alloc]
  try rw [← hsz]
  clear hwa hsz
  clear hS; have hS := Lib.hid h1; clear h1
  obtain ⟨x0_0, x1_0, x2_0⟩ := hS.out.cs3 0 rfl
  obtain ⟨x0_1, x1_1, x2_1⟩ := hS.out.cs3 1 rfl
  obtain ⟨x0_2, x1_2, x2_2⟩ := hS.out.cs3 2 rfl
  obtain ⟨go, hgo⟩ : ∃ go, v8.heap.size = go := ⟨_, rfl⟩
  rw [hgo] at hS
  try rw [hgo]
  clear hgo
  clear x0_0 x1_0 x2_0 x0_1 x1_1 x2_1 x0_2 x1_2 x2_2
  go_loopw [8] (fun i wr => ∃ (j : Nat) (rr : Rat) (A : Option Addr) (n c : Nat) (A' : Option Addr) (n' c' : Nat) (ty ty2 : TypeId), j ≤ p ∧ i = .int .i64 (j : Int) ∧ r ^ j = rr ∧ SC w w wr [⟨A, n, c, 1 + M * j, limbs (mg rr.num), mg rr.num⟩, ⟨A', n', c', 1 + M * j, limbs rr.den, rr.den⟩, ⟨A1, 0, c1, M, limbs (mg r.num), mg r.num⟩, ⟨A2, n2, c2, M, limbs r.den, r.den⟩] [⟨go, [.bool (sg (rr).num), .slice A n c, .slice A' n' c'], ty⟩, ⟨w.heap.size + 1, [.bool false, .slice none 0 0, .slice none 0 0], 27⟩, ⟨w.heap.size, [.bool (sg (r).num), .slice A1 0 c1, .slice A2 n2 c2], ty2⟩] [⟨A, n, c, 1 + M * j, limbs (mg rr.num), mg rr.num⟩, ⟨A', n', c', 1 + M * j, limbs rr.den, rr.den⟩]) (fun i _ => p - (intOf i).toNat)
  case atStart =>
    exact ⟨0, r1, A3, n3, c3, A4, n4, c4, _, _, Nat.zero_le _, rfl, HP0.out, hS.out.sub (fun t ht => by
      simp only [List.mem_cons, List.not_mem_nil, or_false] at ht
      rcases ht with rfl | rfl | rfl | rfl <;> (repeat (first | exact List.mem_cons_self | apply List.mem_cons_of_mem))) (List.Sublist.refl _) (fun t ht => by
      simp only [List.mem_cons, List.not_mem_nil, or_false] at ht
      rcases ht with rfl | rfl <;> (repeat (first | exact List.mem_cons_self | apply List.mem_cons_of_mem)))⟩
  case round =>
    obtain ⟨j, rr, A, n, c, A', n', c', ty, ty2, hj, rfl, hrr, hS0⟩ := hrel
    obtain ⟨wo, rfl⟩ : ∃ wo : World, wo = wr := ⟨_, rfl⟩
    clear hS
    have hS := Lib.hid hS0
    have HRR := Lib.hid hrr
    clear hS0 hrr
    by_cases hlt : j < p
    · have hltI : (j : Int) < (p : Int) := by omega
      obtain ⟨r2, hr2⟩ : ∃ r2, rr * r = r2 := ⟨_, rfl⟩
      have HR2 := Lib.hid (show r ^ (j + 1) = r2 by rw [Rat.pow_succ, HRR.out]; exact hr2)
      have hMj : M * j + M ≤ 900 := by
        have h9 : M * (j + 1) ≤ M * p := Nat.mul_le_mul_left M hlt
        rw [Nat.mul_add, Nat.mul_one] at h9
        omega
      obtain ⟨x0_0, x1_0, x2_0⟩ := hS.out.cs3 0 rfl
      obtain ⟨x0_1, x1_1, x2_1⟩ := hS.out.cs3 1 rfl
      obtain ⟨x0_2, x1_2, x2_2⟩ := hS.out.cs3 2 rfl
      go_wp2_with fail
      go_at_call 22
      with_reducible refine (r6mul_any _ (hS.out.frm0 (r := rr) (M := 1 + M * j) (by repeat (first | exact List.mem_cons_self | apply List.mem_cons_of_mem)) (by repeat (first | exact List.mem_cons_self | apply List.mem_cons_of_mem)) (Nat.le_refl _) (Nat.le_refl _) (rv_self _)) (hS.out.frm0 (r := r) (M := M) (by repeat (first | exact List.mem_cons_self | apply List.mem_cons_of_mem)) (by repeat (first | exact List.mem_cons_self | apply List.mem_cons_of_mem)) (Nat.le_refl _) (Nat.le_refl _) (rv_self _)) (by omega) h1M (by omega)).mono ?_
      rintro e v11 ho
      clear x0_0 x1_0 x2_0 x0_1 x1_1 x2_1 x0_2 x1_2 x2_2
      rw [hr2] at ho
      obtain ⟨A5, n5, c5, A6, n6, c6, rfl, h1⟩ := hS.out.rR (k := 1 + M * (j + 1)) (by rw [Nat.mul_add]; omega) ho
      clear hS; have hS := Lib.hid h1; clear h1
      obtain ⟨x0_0, x1_0, x2_0⟩ := hS.out.cs3 0 rfl
      obtain ⟨x0_1, x1_1, x2_1⟩ := hS.out.cs3 1 rfl
      obtain ⟨x0_2, x1_2, x2_2⟩ := hS.out.cs3 2 rfl
      have hp0 := hS.out.put3 0 rfl (hS.out.ge_ 0 rfl) (.bool (sg (r2).num)) (.slice A5 n5 c5) (.slice A6 n6 c6)
      simp only [List.set_cons_zero, List.set_cons_succ] at hp0
      have fz0_0 := hS.out.frs 0 rfl 0
      have fz0_1 := hS.out.frs 0 rfl 1
      have fz0_2 := hS.out.frs 0 rfl 2
      obtain ⟨p00_0, p01_0, p02_0⟩ := hp0.cs3 0 rfl
      obtain ⟨p00_1, p01_1, p02_1⟩ := hp0.cs3 1 rfl
      obtain ⟨p00_2, p01_2, p02_2⟩ := hp0.cs3 2 rfl
      have HPUT := Lib.hid hp0
      clear hp0
      go_wp2_with fail
      clear fz0_0 fz0_1 fz0_2
      clear p00_0 p01_0 p02_0 p00_1 p01_1 p02_1 p00_2 p01_2 p02_2
      clear x0_0 x1_0 x2_0 x0_1 x1_1 x2_1 x0_2 x1_2 x2_2
      have h1 := HPUT.out
      clear HPUT
      generalize hwa : World.setCell (World.setCell (World.setCell v11 _ _) _ _) _ _ = v12 at *
      clear hwa
      clear hS; have hS := Lib.hid h1; clear h1
      obtain ⟨x0_0, x1_0, x2_0⟩ := hS.out.cs3 0 rfl
      obtain ⟨x0_1, x1_1, x2_1⟩ := hS.out.cs3 1 rfl
      obtain ⟨x0_2, x1_2, x2_2⟩ := hS.out.cs3 2 rfl
      go_roundw
      case rel =>
        exact ⟨j + 1, r2, A5, n5, c5, A6, n6, c6, _, _, hlt, by go_num, HR2.out, hS.out.sub (fun t ht => by
          simp only [List.mem_cons, List.not_mem_nil, or_false] at ht
          rcases ht with rfl | rfl | rfl | rfl <;> (repeat (first | exact List.mem_cons_self | apply List.mem_cons_of_mem))) (List.Sublist.refl _) (fun t ht => by
          simp only [List.mem_cons, List.not_mem_nil, or_false] at ht
          rcases ht with rfl | rfl <;> (repeat (first | exact List.mem_cons_self | apply List.mem_cons_of_mem)))⟩
      case measure => simp [intOf]; omega
    · obtain rfl : j = p := by omega
      have hMj12 : M * j ≤ M * 12 := Nat.mul_le_mul_left M (show j ≤ 12 by omega)
      have hltI : ¬ (j : Int) < (j : Int) := by omega
      obtain ⟨x0_0, x1_0, x2_0⟩ := hS.out.cs3 0 rfl
      obtain ⟨x0_1, x1_1, x2_1⟩ := hS.out.cs3 1 rfl
      obtain ⟨x0_2, x1_2, x2_2⟩ := hS.out.cs3 2 rfl
      have hp0 := hS.out.put3 1 rfl (hS.out.ge_ 1 rfl) (.bool (sg (rr).num)) (.slice A n c) (.slice A' n' c')
      simp only [List.set_cons_zero, List.set_cons_succ] at hp0
      have fz0_0 := hS.out.frs 1 rfl 0
      have fz0_1 := hS.out.frs 1 rfl 1
      have fz0_2 := hS.out.frs 1 rfl 2
      have HPUT := Lib.hid hp0
      clear hp0
      go_wp2_with fail
      refine bodyPost_ret (results_B2 rfl rfl rfl (loadR (HPUT.out.box _ (List.mem_of_getElem? (i := 1) rfl)))) rfl ?_
      rw [show r ^ q = rr by rw [← HRR.out]; exact HPQ.out.symm]
      exact HPUT.out.toRE2 (r := rr) (by repeat (first | exact List.mem_cons_self | apply List.mem_cons_of_mem)) (by repeat (first | exact List.mem_cons_self | apply List.mem_cons_of_mem)) (by repeat (first | exact List.mem_cons_self | apply List.mem_cons_of_mem)) (by repeat (first | exact List.mem_cons_self | apply List.mem_cons_of_mem)) (by omega) (by omega) rfl rfl rfl
set_option maxHeartbeats 1000000 in
theorem r6pow_D (w : World) (h : Frm w b0 A0 n0 c0 x0 A0' n0' c0' x0' M r) (h1M : 1 ≤ M) (hM : M ≤ 60) {q p : Nat} (hq : q ≤ 12) (hok1 : PowOk (mg r.num) q) (hok2 : PowOk r.den q) (hs1 : decide (limbs (mg r.num) = [1]) = false) (hz : mg r.num ≠ 0) (hpp : q = p) (hpow : r ^ p = r ^ q) :
    Calls Tryz.prog 6 #[.agg #[.bool b0, .slice A0 n0 c0, .slice A0' n0' c0'], .int .i64 (q : Int)] w (OutRE w (1 + M * 12) (r ^ q) 0) := by
  have hq0 : ¬ (q : Int) < 0 := by omega
  obtain ⟨J1, hJ1⟩ : ∃ J, W.len (mg r.num) = J := ⟨_, rfl⟩
  obtain ⟨J2, hJ2⟩ : ∃ J, W.len (r.den : Int) = J := ⟨_, rfl⟩
  have hn1' := len_nonneg (mg r.num)
  have hn2' := len_nonneg (r.den : Int)
  have HO1 := Lib.hid (show J1 = 0 ∨ (q : Int) ≤ 1048576 / J1 by
    rcases hok1 with e | e
    · exact .inl (by rw [← hJ1, e]; decide)
    · exact .inr (by rw [← hJ1]; exact e))
  have HO2 := Lib.hid (show J2 = 0 ∨ (q : Int) ≤ 1048576 / J2 by
    rcases hok2 with e | e
    · exact .inl (by rw [← hJ2, e]; decide)
    · exact .inr (by rw [← hJ2]; exact e))
  rw [hJ1] at hn1'
  rw [hJ2] at hn2'
  have HJ1 := Lib.hid hJ1
  have HJ2 := Lib.hid hJ2
  clear hJ1 hJ2 hok1 hok2
  obtain ⟨r1, hr1⟩ : ∃ r1, mkRat 1 (1 : Int).toNat = r1 := ⟨_, rfl⟩
  have HR1 := Lib.hid hr1
  have HP0 := Lib.hid (show r ^ 0 = r1 by rw [Rat.pow_zero, ← hr1]; decide +kernel)
  clear hr1
  have HS1 := Lib.hid hs1
  have HZ := Lib.hid hz
  have HPQ := Lib.hid hpow
  have hp12 : M * p ≤ 720 := Nat.le_trans (Nat.mul_le_mul hM (show p ≤ 12 by omega)) (by decide)
  obtain rfl : p = q := hpp.symm
  clear hs1 hpow hz
  have hS := Lib.hid (((SC.start w).old (k := M) h.den h.ld rfl).old (k := M) h.num h.ln rfl)
  have hr0 := h.val
  clear h
  go_enter Tryz.func6, Tryz.ntmps6
  have h1 := ((hS.out.boxed (vs := [.bool b0, .slice A0 n0 c0, .slice A0' n0' c0']) (ty := 27) rfl rfl).boxed (vs := [.bool false, .slice none 0 0, .slice none 0 0]) (ty := 27) rfl rfl)
  try simp only [World.size_alloc] at h1
  obtain ⟨p0_0, p1_0, p2_0⟩ := h1.cs3 0 rfl
  obtain ⟨p0_1, p1_1, p2_1⟩ := h1.cs3 1 rfl
  clear h1
  go_wp2_with fail
  clear p0_0 p1_0 p2_0 p0_1 p1_1 p2_1
  generalize hwa : World.alloc (World.alloc w _) _ = v1
  have h1 := ((hS.out.boxed (vs := [.bool b0, .slice A0 n0 c0, .slice A0' n0' c0']) (ty := 27) rfl rfl).boxed (vs := [.bool false, .slice none 0 0, .slice none 0 0]) (ty := 27) rfl hwa)
  simp only [World.size_alloc] at h1
  have hsz : v1.heap.size = w.heap.size + 1 + 1 := by rw [← hwa]; simp only [World.size_alloc]
  try rw [← hsz]
  clear hwa hsz
  clear hS; have hS := Lib.hid h1; clear h1
  obtain ⟨x0_0, x1_0, x2_0⟩ := hS.out.cs3 0 rfl
  obtain ⟨x0_1, x1_1, x2_1⟩ := hS.out.cs3 1 rfl
  go_wp2_with fail
  go_at_call 18
  with_reducible refine (r6count_c (M := M) hS.out (by repeat (first | exact List.mem_cons_self | apply List.mem_cons_of_mem)) (by repeat (first | exact List.mem_cons_self | apply List.mem_cons_of_mem)) (by omega) (by omega) (by omega) (by omega) hr0).mono ?_
  rintro e v2 ⟨A1, n1, c1, A2, n2, c2, rfl, h1⟩
  clear x0_0 x1_0 x2_0 x0_1 x1_1 x2_1
  clear hS; have hS := Lib.hid h1; clear h1
  obtain ⟨x0_0, x1_0, x2_0⟩ := hS.out.cs3 0 rfl
  obtain ⟨x0_1, x1_1, x2_1⟩ := hS.out.cs3 1 rfl
  have hp0 := hS.out.put3 1 rfl (hS.out.ge_ 1 rfl) (.bool (sg (r).num)) (.slice A1 n1 c1) (.slice A2 n2 c2)
  simp only [List.set_cons_zero, List.set_cons_succ] at hp0
  have fz0_0 := hS.out.frs 1 rfl 0
  have fz0_1 := hS.out.frs 1 rfl 1
  have fz0_2 := hS.out.frs 1 rfl 2
  obtain ⟨p00_0, p01_0, p02_0⟩ := hp0.cs3 0 rfl
  obtain ⟨p00_1, p01_1, p02_1⟩ := hp0.cs3 1 rfl
  have HPUT := Lib.hid hp0
  clear hp0
  go_wp2_with fail
  clear fz0_0 fz0_1 fz0_2
  clear p00_0 p01_0 p02_0 p00_1 p01_1 p02_1
  clear x0_0 x1_0 x2_0 x0_1 x1_1 x2_1
  have h1 := HPUT.out
  clear HPUT
  generalize hwa : World.setCell (World.setCell (World.setCell v2 _ _) _ _) _ _ = v3 at *
  clear hwa
  clear hS; have hS := Lib.hid h1; clear h1
  obtain ⟨x0_0, x1_0, x2_0⟩ := hS.out.cs3 0 rfl
  obtain ⟨x0_1, x1_1, x2_1⟩ := hS.out.cs3 1 rfl
  go_wp2_with fail
  go_at_call 19
  with_reducible refine (rlong_n hS.out (by repeat (first | exact List.mem_cons_self | apply List.mem_cons_of_mem)) (by omega) HJ1.out (by omega) HO1.out).mono ?_
  rintro e v4 ⟨rfl, h1⟩
  clear x0_0 x1_0 x2_0 x0_1 x1_1 x2_1
  clear hS; have hS := Lib.hid h1; clear h1
  obtain ⟨x0_0, x1_0, x2_0⟩ := hS.out.cs3 0 rfl
  obtain ⟨x0_1, x1_1, x2_1⟩ := hS.out.cs3 1 rfl
  go_wp2_with fail
  go_at_call 19
  with_reducible refine (rlong_n hS.out (by repeat (first | exact List.mem_cons_self | apply List.mem_cons_of_mem)) (by omega) HJ2.out (by omega) HO2.out).mono ?_
  rintro e v5 ⟨rfl, h1⟩
  clear x0_0 x1_0 x2_0 x0_1 x1_1 x2_1
  clear hS; have hS := Lib.hid h1; clear h1
  obtain ⟨x0_0, x1_0, x2_0⟩ := hS.out.cs3 0 rfl
  obtain ⟨x0_1, x1_1, x2_1⟩ := hS.out.cs3 1 rfl
  have hn1 : ¬ (n1 : Int) = 0 := by
    have h9 := (hS.out.get (A := A1) (n := n1) (c := c1) (k := M) (xs := limbs (mg r.num)) (v := mg r.num) (by repeat (first | exact List.mem_cons_self | apply List.mem_cons_of_mem))).1.len
    have h8 := (limbs_len_le (mg_nn r.num) 0)
    have h7 : Q B 0 = 1 := by decide +kernel
    have h6 := mg_nn r.num
    have h5 := HZ.out
    rw [h7] at h8
    omega
  have hl := hS.out.lit1 1 (by decide)
  obtain ⟨p0_0, p1_0, p2_0⟩ := hl.cs3 0 rfl
  obtain ⟨p0_1, p1_1, p2_1⟩ := hl.cs3 1 rfl
  clear hl
  go_wp2_with fail
  clear x0_0 x1_0 x2_0 x0_1 x1_1 x2_1
  clear p0_0 p1_0 p2_0 p0_1 p1_1 p2_1
  generalize hwa : World.alloc v5 _ = v6
  have h1 := hS.out.lit1 1 (by decide)
  rw [hwa] at h1
  clear hwa
  clear hS; have hS := Lib.hid h1; clear h1
  obtain ⟨x0_0, x1_0, x2_0⟩ := hS.out.cs3 0 rfl
  obtain ⟨x0_1, x1_1, x2_1⟩ := hS.out.cs3 1 rfl
  go_wp2_with fail
  go_at_call 20
  with_reducible refine (rsame9_c (q := false) hS.out (by repeat (first | exact List.mem_cons_self | apply List.mem_cons_of_mem)) (by repeat (first | exact List.mem_cons_self | apply List.mem_cons_of_mem)) HS1.out).mono ?_
  rintro e v7 ⟨rfl, h1⟩
  clear x0_0 x1_0 x2_0 x0_1 x1_1 x2_1
  clear hS; have hS := Lib.hid h1; clear h1
  obtain ⟨x0_0, x1_0, x2_0⟩ := hS.out.cs3 0 rfl
  obtain ⟨x0_1, x1_1, x2_1⟩ := hS.out.cs3 1 rfl
  go_wp2_with fail
  go_at_call 21
  with_reducible refine (r6of_any _ (by decide) (by decide) HR1.out).mono ?_
  rintro e v8 ho
  clear x0_0 x1_0 x2_0 x0_1 x1_1 x2_1
  obtain ⟨A3, n3, c3, A4, n4, c4, rfl, h1⟩ := hS.out.rR (Nat.le_refl _) ho
  clear hS; have hS := Lib.hid h1; clear h1
  obtain ⟨x0_0, x1_0, x2_0⟩ := hS.out.cs3 0 rfl
  obtain ⟨x0_1, x1_1, x2_1⟩ := hS.out.cs3 1 rfl
  have h1 := (hS.out.boxed (vs := [.bool (sg (r1).num), .slice A3 n3 c3, .slice A4 n4 c4]) (ty := 27) rfl rfl)
  try simp only [World.size_alloc] at h1
  obtain ⟨p0_0, p1_0, p2_0⟩ := h1.cs3 0 rfl
  obtain ⟨p0_1, p1_1, p2_1⟩ := h1.cs3 1 rfl
  obtain ⟨p0_2, p1_2, p2_2⟩ := h1.cs3 2 rfl
  clear h1
  go_wp2_with fail
  clear x0_0 x1_0 x2_0 x0_1 x1_1 x2_1
  clear p0_0 p1_0 p2_0 p0_1 p1_1 p2_1 p0_2 p1_2 p2_2
  generalize hwa : World.alloc v8 _ = v9
  have h1 := (hS.out.boxed (vs := [.bool (sg (r1).num), .slice A3 n3 c3, .slice A4 n4 c4]) (ty := 27) rfl hwa)
  have hsz : v9.heap.size = v8.heap.size + 1 := by rw [← hwa]; simp only [World.size_alloc]
  try rw [← hsz]
  clear hwa hsz
  clear hS; have hS := Lib.hid h1; clear h1
  obtain ⟨x0_0, x1_0, x2_0⟩ := hS.out.cs3 0 rfl
  obtain ⟨x0_1, x1_1, x2_1⟩ := hS.out.cs3 1 rfl
  obtain ⟨x0_2, x1_2, x2_2⟩ := hS.out.cs3 2 rfl
  obtain ⟨go, hgo⟩ : ∃ go, v8.heap.size = go := ⟨_, rfl⟩
  rw [hgo] at hS
  try rw [hgo]
  clear hgo
  clear x0_0 x1_0 x2_0 x0_1 x1_1 x2_1 x0_2 x1_2 x2_2
  go_loopw [8] (fun i wr => ∃ (j : Nat) (rr : Rat) (A : Option Addr) (n c : Nat) (A' : Option Addr) (n' c' : Nat) (ty ty2 : TypeId), j ≤ p ∧ i = .int .i64 (j : Int) ∧ r ^ j = rr ∧ SC w w wr [⟨A, n, c, 1 + M * j, limbs (mg rr.num), mg rr.num⟩, ⟨A', n', c', 1 + M * j, limbs rr.den, rr.den⟩, ⟨A1, n1, c1, M, limbs (mg r.num), mg r.num⟩, ⟨A2, n2, c2, M, limbs r.den, r.den⟩] [⟨go, [.bool (sg (rr).num), .slice A n c, .slice A' n' c'], ty⟩, ⟨w.heap.size + 1, [.bool false, .slice none 0 0, .slice none 0 0], 27⟩, ⟨w.heap.size, [.bool (sg (r).num), .slice A1 n1 c1, .slice A2 n2 c2], ty2⟩] [⟨A, n, c, 1 + M * j, limbs (mg rr.num), mg rr.num⟩, ⟨A', n', c', 1 + M * j, limbs rr.den, rr.den⟩]) (fun i _ => p - (intOf i).toNat)
  case atStart =>
    exact ⟨0, r1, A3, n3, c3, A4, n4, c4, _, _, Nat.zero_le _, rfl, HP0.out, hS.out.sub (fun t ht => by
      simp only [List.mem_cons, List.not_mem_nil, or_false] at ht
      rcases ht with rfl | rfl | rfl | rfl <;> (repeat (first | exact List.mem_cons_self | apply List.mem_cons_of_mem))) (List.Sublist.refl _) (fun t ht => by
      simp only [List.mem_cons, List.not_mem_nil, or_false] at ht
      rcases ht with rfl | rfl <;> (repeat (first | exact List.mem_cons_self | apply List.mem_cons_of_mem)))⟩
  case round =>
    obtain ⟨j, rr, A, n, c, A', n', c', ty, ty2, hj, rfl, hrr, hS0⟩ := hrel
    obtain ⟨wo, rfl⟩ : ∃ wo : World, wo = wr := ⟨_, rfl⟩
    clear hS
    have hS := Lib.hid hS0
    have HRR := Lib.hid hrr
    clear hS0 hrr
    by_cases hlt : j < p
    · have hltI : (j : Int) < (p : Int) := by omega
      obtain ⟨r2, hr2⟩ : ∃ r2, rr * r = r2 := ⟨_, rfl⟩
      have HR2 := Lib.hid (show r ^ (j + 1) = r2 by rw [Rat.pow_succ, HRR.out]; exact hr2)
      have hMj : M * j + M ≤ 900 := by
        have h9 : M * (j + 1) ≤ M * p := Nat.mul_le_mul_left M hlt
        rw [Nat.mul_add, Nat.mul_one] at h9
        omega
      obtain ⟨x0_0, x1_0, x2_0⟩ := hS.out.cs3 0 rfl
      obtain ⟨x0_1, x1_1, x2_1⟩ := hS.out.cs3 1 rfl
      obtain ⟨x0_2, x1_2, x2_2⟩ := hS.out.cs3 2 rfl
      go_wp2_with fail
      go_at_call 22
      with_reducible refine (r6mul_any _ (hS.out.frm0 (r := rr) (M := 1 + M * j) (by repeat (first | exact List.mem_cons_self | apply List.mem_cons_of_mem)) (by repeat (first | exact List.mem_cons_self | apply List.mem_cons_of_mem)) (Nat.le_refl _) (Nat.le_refl _) (rv_self _)) (hS.out.frm0 (r := r) (M := M) (by repeat (first | exact List.mem_cons_self | apply List.mem_cons_of_mem)) (by repeat (first | exact List.mem_cons_self | apply List.mem_cons_of_mem)) (Nat.le_refl _) (Nat.le_refl _) (rv_self _)) (by omega) h1M (by omega)).mono ?_
      rintro e v11 ho
      clear x0_0 x1_0 x2_0 x0_1 x1_1 x2_1 x0_2 x1_2 x2_2
      rw [hr2] at ho
      obtain ⟨A5, n5, c5, A6, n6, c6, rfl, h1⟩ := hS.out.rR (k := 1 + M * (j + 1)) (by rw [Nat.mul_add]; omega) ho
      clear hS; have hS := Lib.hid h1; clear h1
      obtain ⟨x0_0, x1_0, x2_0⟩ := hS.out.cs3 0 rfl
      obtain ⟨x0_1, x1_1, x2_1⟩ := hS.out.cs3 1 rfl
      obtain ⟨x0_2, x1_2, x2_2⟩ := hS.out.cs3 2 rfl
      have hp0 := hS.out.put3 0 rfl (hS.out.ge_ 0 rfl) (.bool (sg (r2).num)) (.slice A5 n5 c5) (.slice A6 n6 c6)
      simp only [List.set_cons_zero, List.set_cons_succ] at hp0
      have fz0_0 := hS.out.frs 0 rfl 0
      have fz0_1 := hS.out.frs 0 rfl 1
      have fz0_2 := hS.out.frs 0 rfl 2
      obtain ⟨p00_0, p01_0, p02_0⟩ := hp0.cs3 0 rfl
      obtain ⟨p00_1, p01_1, p02_1⟩ := hp0.cs3 1 rfl
      obtain ⟨p00_2, p01_2, p02_2⟩ := hp0.cs3 2 rfl
      have HPUT := Lib.hid hp0
      clear hp0
      go_wp2_with fail
      clear fz0_0 fz0_1 fz0_2
      clear p00_0 p01_0 p02_0 p00_1 p01_1 p02_1 p00_2 p01_2 p02_2
      clear x0_0 x1_0 x2_0 x0_1 x1_1 x2_1 x0_2 x1_2 x2_2
      have h1 := HPUT.out
      clear HPUT
      generalize hwa : World.setCell (World.setCell (World.setCell v11 _ _) _ _) _ _ = v12 at *
      clear hwa
      clear hS; have hS := Lib.hid h1; clear h1
      obtain ⟨x0_0, x1_0, x2_0⟩ := hS.out.cs3 0 rfl
      obtain ⟨x0_1, x1_1, x2_1⟩ := hS.out.cs3 1 rfl
      obtain ⟨x0_2, x1_2, x2_2⟩ := hS.out.cs3 2 rfl
      go_roundw
      case rel =>
        exact ⟨j + 1, r2, A5, n5, c5, A6, n6, c6, _, _, hlt, by go_num, HR2.out, hS.out.sub (fun t ht => by
          simp only [List.mem_cons, List.not_mem_nil, or_false] at ht
          rcases ht with rfl | rfl | rfl | rfl <;> (repeat (first | exact List.mem_cons_self | apply List.mem_cons_of_mem))) (List.Sublist.refl _) (fun t ht => by
          simp only [List.mem_cons, List.not_mem_nil, or_false] at ht
          rcases ht with rfl | rfl <;> (repeat (first | exact List.mem_cons_self | apply List.mem_cons_of_mem)))⟩
      case measure => simp [intOf]; omega
    · obtain rfl : j = p := by omega
      have hMj12 : M * j ≤ M * 12 := Nat.mul_le_mul_left M (show j ≤ 12 by omega)
      have hltI : ¬ (j : Int) < (j : Int) := by omega
      obtain ⟨x0_0, x1_0, x2_0⟩ := hS.out.cs3 0 rfl
      obtain ⟨x0_1, x1_1, x2_1⟩ := hS.out.cs3 1 rfl
      obtain ⟨x0_2, x1_2, x2_2⟩ := hS.out.cs3 2 rfl
      have hp0 := hS.out.put3 1 rfl (hS.out.ge_ 1 rfl) (.bool (sg (rr).num)) (.slice A n c) (.slice A' n' c')
      simp only [List.set_cons_zero, List.set_cons_succ] at hp0
      have fz0_0 := hS.out.frs 1 rfl 0
      have fz0_1 := hS.out.frs 1 rfl 1
      have fz0_2 := hS.out.frs 1 rfl 2
      have HPUT := Lib.hid hp0
      clear hp0
      go_wp2_with fail
      refine bodyPost_ret (results_B2 rfl rfl rfl (loadR (HPUT.out.box _ (List.mem_of_getElem? (i := 1) rfl)))) rfl ?_
      rw [HRR.out]
      exact HPUT.out.toRE2 (r := rr) (by repeat (first | exact List.mem_cons_self | apply List.mem_cons_of_mem)) (by repeat (first | exact List.mem_cons_self | apply List.mem_cons_of_mem)) (by repeat (first | exact List.mem_cons_self | apply List.mem_cons_of_mem)) (by repeat (first | exact List.mem_cons_self | apply List.mem_cons_of_mem)) (by omega) (by omega) rfl rfl rfl
end
end Go.Proofs.YtpokcocfdchfeaaGreatDoor
