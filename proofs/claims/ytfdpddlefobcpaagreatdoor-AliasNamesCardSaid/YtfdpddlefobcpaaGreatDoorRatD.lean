/- Package rat: Sum, Add, Sub. -/
import Derived.Test.YtfdpddlefobcpaaGreatDoorRatC
namespace Go.Proofs.YtfdpddlefobcpaaGreatDoor
open Go.RowKit
set_option linter.unusedVariables false
set_option linter.unusedSimpArgs false
set_option maxRecDepth 20000
open N
open Go.Lib (decDigits nDigits decDigits_length nDigits_pos)
open RC
namespace N
/-- a fraction that is handed in a row -/
structure Fm where
  b : Bool
  A : Option Addr
  n : Nat
  c : Nat
  xs : List Int
  A' : Option Addr
  n' : Nat
  c' : Nat
  ys : List Int
  r : Rat
/-- the row of fractions at P -/
def Fms (w : World) (P : Option Addr) (l : List Fm) : Prop := ∀ k (hk : k < l.length), ∃ g, P = some ⟨g, 0, none⟩ ∧ g < w.heap.size ∧ w.cell? ⟨g, k * 3, none⟩ = some (.bool l[k].b) ∧ w.cell? ⟨g, k * 3 + 1, none⟩ = some (.slice l[k].A l[k].n l[k].c) ∧ w.cell? ⟨g, k * 3 + 2, none⟩ = some (.slice l[k].A' l[k].n' l[k].c')
def fsum (l : List Fm) : Rat := l.foldl (fun s f => s + f.r) 0
theorem fsum_succ (l : List Fm) (k : Nat) (hk : k < l.length) : fsum (l.take (k + 1)) = fsum (l.take k) + l[k].r := by
  unfold fsum
  rw [List.take_succ_eq_append_getElem hk, List.foldl_append]
  rfl
theorem cell_below {w w' : World} {B g o : Nat} (hb : Below B w w') (hg : g < B) : w'.cell? ⟨g, o, none⟩ = w.cell? ⟨g, o, none⟩ := by
  simp [World.cell?, hb.block g hg]
end N
theorem SC.wider {w0 v0 w : World} {S O : List Ent} {T : List Blk} {A : Option Addr} {n c k k' : Nat} {xs : List Int} {v : Int} (h : SC w0 v0 w S T O) (h1 : (⟨A, n, c, k, xs, v⟩ : Ent) ∈ S) (hk : k ≤ k') : SC w0 v0 w (⟨A, n, c, k', xs, v⟩ :: S) T O := by
  obtain ⟨a1, a2, a3⟩ := h.get h1
  refine ⟨h.st.cons a1 (by omega) a3, h.bl, h.box, h.from_, h.nd, fun t ht => ?_, h.own, h.apo⟩
  rcases List.mem_cons.1 ht with e | e
  · subst e; exact h.apart ⟨A, n, c, k, xs, v⟩ h1
  · exact h.apart t e
set_option maxHeartbeats 1000000 in
theorem fsum_any (w : World) (P : Option Addr) (l : List Fm) (M : Nat) (cp : Nat) (hl : Fms w P l) (hr : ∀ f ∈ l, Frm w f.b f.A f.n f.c f.xs f.A' f.n' f.c' f.ys M f.r) (hlen : l.length ≤ 6) (h1M : 1 ≤ M) (hM : M ≤ 5000) {r : Rat} (hsm : fsum l = r) :
    Calls Tryz.prog 66 #[.slice P l.length cp] w (OutR w (60 * M) r) := by
  obtain ⟨N, hN⟩ : ∃ N, l.length = N := ⟨_, rfl⟩
  rw [hN] at hlen ⊢
  have HL := Lib.hid hl
  have HR := Lib.hid hr
  have HN := Lib.hid hN
  clear hl hr hN
  have hS := Lib.hid (SC.start w)
  go_enter Tryz.func66, Tryz.ntmps66
  go_wp2_with fail
  generalize hwa : World.alloc w _ = v1
  have h1 := (hS.out.boxed (vs := [.bool false, .slice none 0 0, .slice none 0 0]) (ty := 62) rfl hwa)
  clear hwa
  clear hS; have hS := Lib.hid h1; clear h1
  obtain ⟨x0_0, x1_0, x2_0⟩ := hS.out.cs3 0 rfl
  go_wp2_with fail
  go_at_call 56
  with_reducible refine (nof_c (x := 1) hS.out wd1).mono ?_
  rintro e v2 ⟨A1, n1, c1, rfl, h1⟩
  clear x0_0 x1_0 x2_0
  clear hS; have hS := Lib.hid h1; clear h1
  obtain ⟨x0_0, x1_0, x2_0⟩ := hS.out.cs3 0 rfl
  go_wp2_with fail
  generalize hwa : World.alloc v2 _ = v3
  have h1 := (hS.out.boxed (vs := [.bool false, .slice none 0 0]) (ty := 60) rfl hwa)
  clear hwa
  clear hS; have hS := Lib.hid h1; clear h1
  obtain ⟨x0_0, x1_0⟩ := hS.out.cs2 0 rfl
  obtain ⟨x0_1, x1_1, x2_1⟩ := hS.out.cs3 1 rfl
  clear x0_0 x1_0 x0_1 x1_1 x2_1
  go_loopw [4, 15] (fun dn i wr => ∃ (k : Nat) (z dv : Int) (An : Option Addr) (nn cn : Nat) (Ad : Option Addr) (nd cd : Nat) (ty3 : TypeId), k ≤ N ∧ i = .int .i64 k ∧ dn = .slice Ad nd cd ∧ 0 < dv ∧ mkRat z dv.toNat = fsum (l.take k) ∧
    SC w w wr [⟨An, nn, cn, 9 * M * k, limbs (mg z), mg z⟩, ⟨Ad, nd, cd, M * k + 1, limbs dv, dv⟩] [⟨v2.heap.size, [.bool (sg z), .slice An nn cn], ty3⟩, ⟨w.heap.size, [.bool false, .slice none 0 0, .slice none 0 0], 62⟩] []) (fun _ i _ => N - (intOf i).toNat)
  case atStart =>
    exact ⟨0, 0, 1, none, 0, 0, A1, n1, c1, _, Nat.zero_le _, rfl, rfl, by decide, by rw [List.take_zero]; decide, by
      have h1 := hS.out.none_
      have h2 : SC w w v3 [⟨none, 0, 0, 0, [], 0⟩, ⟨A1, n1, c1, 1, limbs 1, 1⟩] _ _ := h1
      rw [Nat.mul_zero, Nat.mul_zero, Nat.zero_add, show limbs (mg 0) = [] by rw [mg_0, limbs_zero], mg_0]
      exact h2.sub (fun t ht => ht) (List.Sublist.refl _) (fun t ht => by cases ht)⟩
  case round =>
    obtain ⟨k, z, dv, An, nn, cn, Ad, nd, cd, ty3, hk, rfl, rfl, hdv, hsum, h1⟩ := hrel
    obtain ⟨wo, rfl⟩ : ∃ wo : World, wo = wr := ⟨_, rfl⟩
    clear hS; have hS := Lib.hid h1; clear h1
    by_cases hlt : k < N
    · have hkl : k < l.length := by have := HN.out; omega
      obtain ⟨g, rfl, hg, e0, e1, e2⟩ := HL.out k hkl
      obtain ⟨f1, f2, f3, f4, f5⟩ := HR.out _ (List.getElem_mem hkl)
      have hs1 := fsum_succ l k hkl
      generalize l[k] = f at *
      obtain ⟨fb, fA, fn, fc, fxs, fA', fn', fc', fys, fr⟩ := f
      simp only at e0 e1 e2 f1 f2 f3 f4 f5 hs1
      have y0 := (cell_below hS.out.st.1 hg).trans e0
      have y1 := (cell_below hS.out.st.1 hg).trans e1
      have y2 := (cell_below hS.out.st.1 hg).trans e2
      clear e0 e1 e2
      have h1 := (hS.out.old (k := M) f2 f4 rfl).old (k := M) f1 f3 rfl
      clear hS; have hS := Lib.hid h1; clear h1
      obtain ⟨x0_0, x1_0⟩ := hS.out.cs2 0 rfl
      obtain ⟨x0_1, x1_1, x2_1⟩ := hS.out.cs3 1 rfl
      have hb1 : M * k ≤ 5 * M := by rw [Nat.mul_comm 5 M]; exact Nat.mul_le_mul_left M (by omega)
      have hb2 : 9 * M * k = 9 * (M * k) := Nat.mul_assoc _ _ _
      go_wp2_with fail
      generalize hwa : World.alloc wo _ = v4
      have h1 := (hS.out.boxed (vs := [.bool fb, .slice fA fn fc, .slice fA' fn' fc']) (ty := 62) rfl hwa)
      clear hwa
      clear hS; have hS := Lib.hid h1; clear h1
      obtain ⟨x0_0, x1_0, x2_0⟩ := hS.out.cs3 0 rfl
      obtain ⟨x0_1, x1_1⟩ := hS.out.cs2 1 rfl
      obtain ⟨x0_2, x1_2, x2_2⟩ := hS.out.cs3 2 rfl
      clear y0 y1 y2
      go_wp2_with fail
      go_at_call 100
      with_reducible refine (sound_c (k := M) hS.out (by repeat (first | exact List.mem_cons_self | apply List.mem_cons_of_mem)) (by repeat (first | exact List.mem_cons_self | apply List.mem_cons_of_mem)) (by omega) h1M f5).mono ?_
      rintro e v5 ⟨b1, A1, n1, c1, xs1, v1, A2, n2, c2, ys1, u1, rfl, hu1, hr1, h1⟩
      clear x0_0 x1_0 x2_0 x0_1 x1_1 x0_2 x1_2 x2_2
      clear hS; have hS := Lib.hid h1; clear h1
      obtain ⟨x0_0, x1_0, x2_0⟩ := hS.out.cs3 0 rfl
      obtain ⟨x0_1, x1_1⟩ := hS.out.cs2 1 rfl
      obtain ⟨x0_2, x1_2, x2_2⟩ := hS.out.cs3 2 rfl
      have hp0 := hS.out.put3 0 rfl (hS.out.ge_ 0 rfl) (.bool (b1)) (.slice A1 n1 c1) (.slice A2 n2 c2)
      simp only [List.set_cons_zero, List.set_cons_succ] at hp0
      have fz0_0 := hS.out.frs 0 rfl 0
      have fz0_1 := hS.out.frs 0 rfl 1
      have fz0_2 := hS.out.frs 0 rfl 2
      obtain ⟨p00_0, p01_0, p02_0⟩ := hp0.cs3 0 rfl
      obtain ⟨p00_1, p01_1⟩ := hp0.cs2 1 rfl
      obtain ⟨p00_2, p01_2, p02_2⟩ := hp0.cs3 2 rfl
      have HPUT := Lib.hid hp0
      clear hp0
      go_wp2_with fail
      clear fz0_0 fz0_1 fz0_2
      clear p00_0 p01_0 p02_0 p00_1 p01_1 p00_2 p01_2 p02_2
      clear x0_0 x1_0 x2_0 x0_1 x1_1 x0_2 x1_2 x2_2
      have h1 := HPUT.out
      clear HPUT
      generalize hwa : World.setCell (World.setCell (World.setCell v5 _ _) _ _) _ _ = v6 at *
      clear hwa
      clear hS; have hS := Lib.hid h1; clear h1
      obtain ⟨x0_0, x1_0, x2_0⟩ := hS.out.cs3 0 rfl
      obtain ⟨x0_1, x1_1⟩ := hS.out.cs2 1 rfl
      obtain ⟨x0_2, x1_2, x2_2⟩ := hS.out.cs3 2 rfl
      obtain ⟨c, hc⟩ : ∃ c, gI dv u1 = c := ⟨_, rfl⟩
      have hcp : 0 < c := by rw [← hc]; exact gI_pos hu1
      have hd1 : c ∣ dv := by rw [← hc]; exact gI_dvd_l (Int.le_of_lt hdv)
      have hd2 : c ∣ u1 := by rw [← hc]; exact gI_dvd_r (Int.le_of_lt hu1)
      go_wp2_with fail
      go_at_call 80
      with_reducible refine (gcd_c hS.out (by repeat (first | exact List.mem_cons_self | apply List.mem_cons_of_mem)) (by omega) (by repeat (first | exact List.mem_cons_self | apply List.mem_cons_of_mem)) (by omega) hc).mono ?_
      rintro e v7 ⟨A7, n7, c7, rfl, h1⟩
      clear x0_0 x1_0 x2_0 x0_1 x1_1 x0_2 x1_2 x2_2
      clear hS; have hS := Lib.hid h1; clear h1
      obtain ⟨x0_0, x1_0, x2_0⟩ := hS.out.cs3 0 rfl
      obtain ⟨x0_1, x1_1⟩ := hS.out.cs2 1 rfl
      obtain ⟨x0_2, x1_2, x2_2⟩ := hS.out.cs3 2 rfl
      obtain ⟨mo, hmo⟩ : ∃ x, u1 / c = x := ⟨_, rfl⟩
      obtain ⟨kq, hkq⟩ : ∃ x, dv / c = x := ⟨_, rfl⟩
      have he1 : u1 = mo * c := by rw [← hmo]; exact (Int.ediv_mul_cancel hd2).symm
      have he2 : dv = kq * c := by rw [← hkq]; exact (Int.ediv_mul_cancel hd1).symm
      go_wp2_with fail
      go_at_call 81
      with_reducible refine (quotient_c hS.out (by repeat (first | exact List.mem_cons_self | apply List.mem_cons_of_mem)) (by omega) (by repeat (first | exact List.mem_cons_self | apply List.mem_cons_of_mem)) (by omega) hcp hmo).mono ?_
      rintro e v8 ⟨A8, n8, c8, rfl, h1⟩
      clear x0_0 x1_0 x2_0 x0_1 x1_1 x0_2 x1_2 x2_2
      clear hS; have hS := Lib.hid h1; clear h1
      obtain ⟨x0_0, x1_0, x2_0⟩ := hS.out.cs3 0 rfl
      obtain ⟨x0_1, x1_1⟩ := hS.out.cs2 1 rfl
      obtain ⟨x0_2, x1_2, x2_2⟩ := hS.out.cs3 2 rfl
      obtain ⟨t1, ht1⟩ : ∃ x, iv (sg z) (mg z) * mo = x := ⟨_, rfl⟩
      obtain ⟨t2, ht2⟩ : ∃ x, iv b1 v1 * kq = x := ⟨_, rfl⟩
      obtain ⟨z2, hz2⟩ : ∃ x, iv (sg t1) (mg t1) + iv (sg t2) (mg t2) = x := ⟨_, rfl⟩
      obtain ⟨d2, hd2'⟩ : ∃ x, dv * mo = x := ⟨_, rfl⟩
      go_wp2_with fail
      clear x0_0 x1_0 x2_0 x0_1 x1_1 x0_2 x1_2 x2_2
      refine wp_region_rc (fs [[.val 29 (mV (.agg #[.bool (sg z), .slice An nn cn]))], [.val 30 (mV (.slice A8 n8 c8))], [.val 31 (mI (t1) (9 * M * k + M))], [.val 32 (mV (.pointer (some ⟨wo.heap.size, 0, none⟩)))], [.val 33 (mV (.agg #[.bool (b1), .slice A1 n1 c1]))], [.val 34 (mV (.slice Ad nd cd))], [.val 35 (mV (.slice A7 n7 c7))], [.val 36 (mN (kq) (M * k + 1))], [.val 37 (mI (t2) (M + (M * k + 1)))], [.val 38 (mI (z2) (9 * M * k + M + (M + (M * k + 1)) + 1))], [.old 1 (mI (z2) (9 * M * k + M + (M + (M * k + 1)) + 1))]]) [29, 30, 31, 32, 33, 34, 35, 36, 37, 38] hS.out ?_ (by kernel_rfl) ?_ (fun j hj => fs_big hj)
      · intro i hi L a w' S Bn T1 O D hp hno hni
        match i, hi with
        | 0, _ =>
          have p : a.eval (.tmp 3) = .pointer (some ⟨v2.heap.size, 0, none⟩) := D.at0 rfl rfl
          obtain ⟨z0, z1⟩ := b2 (D.cells hno (i0 := 1) rfl (by kernel_rfl))
          exact st_pure (v := .agg #[.bool (sg z), .slice An nn cn]) D hno rfl rfl rfl (by simp only [Act.eval] at p; simp only [execOp, Act.eval]; go_simp) (of_decide_eq_true rfl) (of_decide_eq_true rfl) (by kernel_rfl) rfl rfl
        | 1, _ =>
          have p : a.eval (.tmp 8) = .slice A8 n8 c8 := D.at0 rfl rfl
          exact st_pure (v := .slice A8 n8 c8) D hno rfl rfl rfl (by simp only [Act.eval] at p; simp only [execOp, Act.eval]; go_simp) (of_decide_eq_true rfl) (of_decide_eq_true rfl) (by kernel_rfl) rfl rfl
        | 2, _ =>
          have pq0 : a.eval (.tmp 29) = .agg #[.bool (sg z), .slice An nn cn] := D.vt (hp 0 (by kernel_rfl)) rfl
          have pq1 : a.eval (.tmp 30) = .slice A8 n8 c8 := D.vt (hp 1 (by kernel_rfl)) rfl
          have hv : #[Operand.tmp 29, Operand.tmp 30].map a.eval = #[.agg #[.bool (sg z), .slice An nn cn], .slice A8 n8 c8] := by simp only [List.map_toArray, List.map_cons, List.map_nil, pq0, pq1]
          refine st_call D hno rfl hv Tryz.func102 (by kernel_rfl) rfl (times_c D.sc (D.sub _ (by repeat (first | exact List.mem_cons_self | apply List.mem_cons_of_mem))) (by omega) (D.sub _ (by repeat (first | exact List.mem_cons_self | apply List.mem_cons_of_mem))) (by omega) ht1) (of_decide_eq_true rfl) (of_decide_eq_true rfl) (by kernel_rfl) rfl ?_
          rintro e w2 ⟨A, n, c, rfl, h1⟩
          exact ⟨_, _, _, rfl, h1, fun t ht => List.mem_cons_of_mem _ ht, fun t ht => List.mem_cons_of_mem _ ht, ⟨A, n, c, rfl, List.mem_cons_self, List.mem_cons_self⟩⟩
        | 3, _ =>
          have p : a.eval (.tmp 6) = .pointer (some ⟨wo.heap.size, 0, none⟩) := D.at0 rfl rfl
          exact st_pure (v := .pointer (some ⟨wo.heap.size, 0, none⟩)) D hno rfl rfl rfl (by simp only [Act.eval] at p; simp only [execOp, Act.eval]; go_simp) (of_decide_eq_true rfl) (of_decide_eq_true rfl) (by kernel_rfl) rfl rfl
        | 4, _ =>
          have p : a.eval (.tmp 32) = .pointer (some ⟨wo.heap.size, 0, none⟩) := D.vt (hp 3 (by kernel_rfl)) rfl
          obtain ⟨z0, z1, z2⟩ := b3 (D.cells hno (i0 := 0) rfl (by kernel_rfl))
          exact st_pure (v := .agg #[.bool (b1), .slice A1 n1 c1]) D hno rfl rfl rfl (by simp only [Act.eval] at p; simp only [execOp, Act.eval]; go_simp) (of_decide_eq_true rfl) (of_decide_eq_true rfl) (by kernel_rfl) rfl rfl
        | 5, _ =>
          have p : a.eval (.tmp 4) = .slice Ad nd cd := D.at0 rfl rfl
          exact st_pure (v := .slice Ad nd cd) D hno rfl rfl rfl (by simp only [Act.eval] at p; simp only [execOp, Act.eval]; go_simp) (of_decide_eq_true rfl) (of_decide_eq_true rfl) (by kernel_rfl) rfl rfl
        | 6, _ =>
          have p : a.eval (.tmp 7) = .slice A7 n7 c7 := D.at0 rfl rfl
          exact st_pure (v := .slice A7 n7 c7) D hno rfl rfl rfl (by simp only [Act.eval] at p; simp only [execOp, Act.eval]; go_simp) (of_decide_eq_true rfl) (of_decide_eq_true rfl) (by kernel_rfl) rfl rfl
        | 7, _ =>
          have pq0 : a.eval (.tmp 34) = .slice Ad nd cd := D.vt (hp 5 (by kernel_rfl)) rfl
          have pq1 : a.eval (.tmp 35) = .slice A7 n7 c7 := D.vt (hp 6 (by kernel_rfl)) rfl
          have hv : #[Operand.tmp 34, Operand.tmp 35].map a.eval = #[.slice Ad nd cd, .slice A7 n7 c7] := by simp only [List.map_toArray, List.map_cons, List.map_nil, pq0, pq1]
          refine st_call D hno rfl hv Tryz.func81 (by kernel_rfl) rfl (quotient_c D.sc (D.sub _ (by repeat (first | exact List.mem_cons_self | apply List.mem_cons_of_mem))) (by omega) (D.sub _ (by repeat (first | exact List.mem_cons_self | apply List.mem_cons_of_mem))) (by omega) hcp hkq) (of_decide_eq_true rfl) (of_decide_eq_true rfl) (by kernel_rfl) rfl ?_
          rintro e w2 ⟨A, n, c, rfl, h1⟩
          exact ⟨_, _, _, rfl, h1, fun t ht => List.mem_cons_of_mem _ ht, fun t ht => List.mem_cons_of_mem _ ht, ⟨A, n, c, rfl, List.mem_cons_self, List.mem_cons_self⟩⟩
        | 8, _ =>
          have pq0 : a.eval (.tmp 33) = .agg #[.bool (b1), .slice A1 n1 c1] := D.vt (hp 4 (by kernel_rfl)) rfl
          obtain ⟨Aq1, nq1, cq1, eq1, mq1, oq1⟩ := D.vt (t := 36) (hp 7 (by kernel_rfl)) rfl
          have hv : #[Operand.tmp 33, Operand.tmp 36].map a.eval = #[.agg #[.bool (b1), .slice A1 n1 c1], .slice Aq1 nq1 cq1] := by simp only [List.map_toArray, List.map_cons, List.map_nil, pq0, eq1]
          refine st_call D hno rfl hv Tryz.func102 (by kernel_rfl) rfl (times_c D.sc (D.sub _ (by repeat (first | exact List.mem_cons_self | apply List.mem_cons_of_mem))) (by omega) mq1 (by omega) ht2) (of_decide_eq_true rfl) (of_decide_eq_true rfl) (by kernel_rfl) rfl ?_
          rintro e w2 ⟨A, n, c, rfl, h1⟩
          exact ⟨_, _, _, rfl, h1, fun t ht => List.mem_cons_of_mem _ ht, fun t ht => List.mem_cons_of_mem _ ht, ⟨A, n, c, rfl, List.mem_cons_self, List.mem_cons_self⟩⟩
        | 9, _ =>
          obtain ⟨Aq0, nq0, cq0, eq0, mq0, oq0⟩ := D.vt (t := 31) (hp 2 (by kernel_rfl)) rfl
          obtain ⟨Aq1, nq1, cq1, eq1, mq1, oq1⟩ := D.vt (t := 37) (hp 8 (by kernel_rfl)) rfl
          have hv : #[Operand.tmp 31, Operand.tmp 37].map a.eval = #[.agg #[.bool (sg (t1)), .slice Aq0 nq0 cq0], .agg #[.bool (sg (t2)), .slice Aq1 nq1 cq1]] := by simp only [List.map_toArray, List.map_cons, List.map_nil, eq0, eq1]
          refine st_call D hno rfl hv Tryz.func101 (by kernel_rfl) rfl (wadd_c D.sc mq0 (by omega) mq1 (by omega) hz2) (of_decide_eq_true rfl) (of_decide_eq_true rfl) (by kernel_rfl) rfl ?_
          rintro e w2 ⟨A, n, c, rfl, h1⟩
          exact ⟨_, _, _, rfl, h1, fun t ht => List.mem_cons_of_mem _ ht, fun t ht => List.mem_cons_of_mem _ ht, ⟨A, n, c, rfl, List.mem_cons_self, List.mem_cons_self⟩⟩
        | 10, _ =>
          obtain ⟨Aq, nq, cq, eq, mq, oq⟩ := D.vt (t := 38) (hp 9 (by kernel_rfl)) rfl
          have p : a.eval (.tmp 3) = .pointer (some ⟨v2.heap.size, 0, none⟩) := D.at0 rfl rfl
          exact st_put (m := mI (z2) (9 * M * k + M + (M + (M * k + 1)) + 1)) (i0 := 1) D hni rfl (by decide) rfl ((hS.out.ge_ 1 rfl)) p eq (⟨_, _, _, rfl, mq, oq⟩) (by kernel_rfl) rfl infoInt rfl (by simp [Value.oneCell'])
        | i + 11, hi => exact absurd hi (by show ¬ (i + 11 < 11); omega)
      · intro a w5 S Bn T1 O hfr hsc hs0 ho0 htags hgs hkeep hf
        have hQ_0 := hkeep 0 (fun j hj m hm => by exact absurd hm (onlyOld_spec (i := 1000) (by kernel_rfl) j (by rintro rfl; exact absurd hj (by decide)) m))
        obtain ⟨QZ, hQZ, AZ, nZ, cZ, evZ, mZ, oZ⟩ : Ft.ok a S O Bn T1 (.old 1 (mI (z2) (9 * M * k + M + (M + (M * k + 1)) + 1))) := hf 10 (by decide) _ (List.mem_singleton.2 rfl)
        have hgZ := blk_eq (g_old hgs (i := 1) rfl hQZ) evZ
        rw [hgZ] at hQZ
        have hQ_2 := hkeep 2 (fun j hj m hm => by exact absurd hm (onlyOld_spec (i := 1000) (by kernel_rfl) j (by rintro rfl; exact absurd hj (by decide)) m))
        obtain rfl := list_3 (by simpa using congrArg List.length hgs) hQ_0 hQZ hQ_2
        have h1 := end_old hsc (mem_more mZ hs0) (mem_more oZ ho0)
        obtain ⟨tyZ, htyZ⟩ : ∃ t, QZ.ty = t := ⟨_, rfl⟩
        rw [htyZ] at h1
        clear htyZ
        have hc := hfr.closed
        simp only [List.map_cons, List.map_nil] at hc
        clear hfr hsc hs0 ho0 htags hgs hkeep hf
        clear mZ
        clear oZ
        clear hQ_0 hQZ hgZ evZ QZ hQ_2
        generalize a.eval (.tmp 29) = u29_ at hc
        generalize a.eval (.tmp 30) = u30_ at hc
        generalize a.eval (.tmp 31) = u31_ at hc
        generalize a.eval (.tmp 32) = u32_ at hc
        generalize a.eval (.tmp 33) = u33_ at hc
        generalize a.eval (.tmp 34) = u34_ at hc
        generalize a.eval (.tmp 35) = u35_ at hc
        generalize a.eval (.tmp 36) = u36_ at hc
        generalize a.eval (.tmp 37) = u37_ at hc
        generalize a.eval (.tmp 38) = u38_ at hc
        subst hc
        clear hS; have hS := Lib.hid h1; clear h1
        simp only [putAll, List.foldl_cons, List.foldl_nil, Act.put, List.setIfInBounds_toArray, List.set_cons_zero, List.set_cons_succ]
        obtain ⟨v9, hww⟩ : ∃ x, x = w5 := ⟨_, rfl⟩
        subst hww
        obtain ⟨x0_0, x1_0, x2_0⟩ := hS.out.cs3 0 rfl
        obtain ⟨x0_1, x1_1⟩ := hS.out.cs2 1 rfl
        obtain ⟨x0_2, x1_2, x2_2⟩ := hS.out.cs3 2 rfl
        go_wp2_with fail
        go_at_call 103
        with_reducible refine (nmul_c hS.out (by repeat (first | exact List.mem_cons_self | apply List.mem_cons_of_mem)) (by omega) (by repeat (first | exact List.mem_cons_self | apply List.mem_cons_of_mem)) (by omega) hd2').mono ?_
        rintro e v10 ⟨A9, n9, c9, rfl, h1⟩
        clear x0_0 x1_0 x2_0 x0_1 x1_1 x0_2 x1_2 x2_2
        clear hS; have hS := Lib.hid h1; clear h1
        obtain ⟨x0_0, x1_0, x2_0⟩ := hS.out.cs3 0 rfl
        obtain ⟨x0_1, x1_1⟩ := hS.out.cs2 1 rfl
        obtain ⟨x0_2, x1_2, x2_2⟩ := hS.out.cs3 2 rfl
        go_wp2_with fail
        go_roundw
        case rel =>
          refine ⟨k + 1, z2, d2, AZ, nZ, cZ, A9, n9, c9, tyZ, by omega, by go_num, rfl, ?_, ?_, ?_⟩
          · rw [← hd2']
            refine Int.mul_pos hdv ?_
            apply Classical.byContradiction; intro hneg
            have h5 : mo * c ≤ 0 := Int.mul_nonpos_of_nonpos_of_nonneg (by omega) (by omega)
            omega
          · rw [hs1, ← hsum]
            have h6 := rv_sum (num := z) (v := v1) b1 hdv hu1 hcp he1 kq he2
            rw [← hz2, iv_sm, iv_sm, ← ht1, ← ht2, iv_sm, ← hd2', h6, hr1]
          · have h7 := hS.out.wider (A := A9) (n := n9) (c := c9) (k' := M * (k + 1) + 1) (by repeat (first | exact List.mem_cons_self | apply List.mem_cons_of_mem)) (by rw [Nat.mul_add]; omega)
            have h8 := h7.wider (A := AZ) (n := nZ) (c := cZ) (k' := 9 * M * (k + 1)) (by repeat (first | exact List.mem_cons_self | apply List.mem_cons_of_mem)) (by rw [Nat.mul_add]; omega)
            exact h8.sub (fun t ht => by
              simp only [List.mem_cons, List.not_mem_nil, or_false] at ht
              rcases ht with rfl | rfl
              · exact List.mem_cons_self
              · exact List.mem_cons_of_mem _ List.mem_cons_self) (List.sublist_cons_self _ _) (fun t ht => by cases ht)
        case measure => simp [intOf]; omega
    · obtain rfl : k = N := by omega
      rw [show l.take k = l by rw [← HN.out, List.take_length]] at hsum
      have hb1 : M * k ≤ 6 * M := by rw [Nat.mul_comm 6 M]; exact Nat.mul_le_mul_left M (by omega)
      have hb2 : 9 * M * k = 9 * (M * k) := Nat.mul_assoc _ _ _
      have hrr : rv (sg z) (mg z) dv = r := by unfold rv; rw [iv_sm]; exact hsum.trans hsm
      obtain ⟨x0_0, x1_0⟩ := hS.out.cs2 0 rfl
      obtain ⟨x0_1, x1_1, x2_1⟩ := hS.out.cs3 1 rfl
      go_wp2_with fail
      go_at_call 55
      with_reducible refine (fmk_c (M := 60 * M) (k := 9 * M * k) (k' := M * k + 1) hS.out (by repeat (first | exact List.mem_cons_self | apply List.mem_cons_of_mem)) (by repeat (first | exact List.mem_cons_self | apply List.mem_cons_of_mem)) (by omega) (by omega) (by omega) hdv hrr).mono ?_
      rintro e v4 ⟨A3, n3, c3, A4, n4, c4, rfl, h1⟩
      clear x0_0 x1_0 x0_1 x1_1 x2_1
      clear hS; have hS := Lib.hid h1; clear h1
      obtain ⟨x0_0, x1_0⟩ := hS.out.cs2 0 rfl
      obtain ⟨x0_1, x1_1, x2_1⟩ := hS.out.cs3 1 rfl
      have hm0 := hS.out.boxed (vs := [.bool (sg r.num), .slice A3 n3 c3, .slice A4 n4 c4]) (ty := 62) rfl rfl
      try simp only [World.size_alloc] at hm0
      obtain ⟨m00_0, m01_0, m02_0⟩ := hm0.cs3 0 rfl
      obtain ⟨m00_1, m01_1⟩ := hm0.cs2 1 rfl
      obtain ⟨m00_2, m01_2, m02_2⟩ := hm0.cs3 2 rfl
      have hp0 := hm0.put3 2 rfl (hm0.ge_ 2 rfl) (.bool (sg r.num)) (.slice A3 n3 c3) (.slice A4 n4 c4)
      simp only [List.set_cons_zero, List.set_cons_succ] at hp0
      have fz0_0 := hm0.frs 2 rfl 0
      have fz0_1 := hm0.frs 2 rfl 1
      have fz0_2 := hm0.frs 2 rfl 2
      have HPUT := Lib.hid hp0
      clear hp0
      clear hm0
      go_wp2_with fail
      refine bodyPost_ret (results_B rfl rfl (loadR (HPUT.out.box _ (List.mem_of_getElem? (i := 2) rfl)))) rfl ?_
      exact HPUT.out.toR2 (k := 60 * M) (k' := 60 * M) (r := r) (by repeat (first | exact List.mem_cons_self | apply List.mem_cons_of_mem)) (by repeat (first | exact List.mem_cons_self | apply List.mem_cons_of_mem)) (by repeat (first | exact List.mem_cons_self | apply List.mem_cons_of_mem)) (by repeat (first | exact List.mem_cons_self | apply List.mem_cons_of_mem)) (Nat.le_refl _) (Nat.le_refl _) rfl rfl rfl
theorem fms_lit (w : World) (l : List Fm) (cs : Array Value) (ty : TypeId) (h : cs = (l.flatMap fun f => [Value.bool f.b, .slice f.A f.n f.c, .slice f.A' f.n' f.c']).toArray) : Fms (w.alloc (.cells cs ty)) (some ⟨w.heap.size, 0, none⟩) l := by
  have key : ∀ (l : List Fm) (k : Nat) (hk : k < l.length), (l.flatMap fun f => [Value.bool f.b, .slice f.A f.n f.c, .slice f.A' f.n' f.c'])[k * 3]? = some (.bool l[k].b) ∧ (l.flatMap fun f => [Value.bool f.b, .slice f.A f.n f.c, .slice f.A' f.n' f.c'])[k * 3 + 1]? = some (.slice l[k].A l[k].n l[k].c) ∧ (l.flatMap fun f => [Value.bool f.b, .slice f.A f.n f.c, .slice f.A' f.n' f.c'])[k * 3 + 2]? = some (.slice l[k].A' l[k].n' l[k].c') := by
    intro l
    induction l with
    | nil => intro k hk; exact absurd hk (by simp)
    | cons t l ih =>
      intro k hk
      cases k with
      | zero => exact ⟨rfl, rfl, rfl⟩
      | succ k =>
        have h1 := ih k (by simpa using hk)
        rw [show (k + 1) * 3 = k * 3 + 1 + 1 + 1 by omega]
        simp only [List.flatMap_cons, List.cons_append, List.nil_append, List.getElem?_cons_succ, List.getElem_cons_succ]
        exact h1
  intro k hk
  obtain ⟨h1, h2, h3⟩ := key l k hk
  refine ⟨w.heap.size, rfl, by rw [World.size_alloc]; omega, ?_, ?_, ?_⟩ <;> rw [World.cell?_alloc_new, h] <;> simpa using (by assumption)
section
variable {w : World} {b0 b1 : Bool} {A0 A0' A1 A1' : Option Addr} {n0 c0 n0' c0' n1 c1 n1' c1' M M' : Nat} {x0 x0' x1 x1' : List Int} {r r' : Rat}
theorem Frm.wide {w : World} {b : Bool} {A A' : Option Addr} {n c n' c' M M' : Nat} {xs ys : List Int} {r : Rat} (h : Frm w b A n c xs A' n' c' ys M r) (hM : M ≤ M') : Frm w b A n c xs A' n' c' ys M' r := ⟨h.num, h.den, Nat.le_trans h.ln hM, Nat.le_trans h.ld hM, h.val⟩
theorem fadd_any (w : World) (h : Frm w b0 A0 n0 c0 x0 A0' n0' c0' x0' M r) (h' : Frm w b1 A1 n1 c1 x1 A1' n1' c1' x1' M r') (h1M : 1 ≤ M) (hM : M ≤ 5000) :
    Calls Tryz.prog 46 #[.agg #[.bool b0, .slice A0 n0 c0, .slice A0' n0' c0'], .agg #[.bool b1, .slice A1 n1 c1, .slice A1' n1' c1']] w (OutR w (60 * M) (r + r')) := by
  have hrr : fsum [⟨b0, A0, n0, c0, x0, A0', n0', c0', x0', r⟩, ⟨b1, A1, n1, c1, x1, A1', n1', c1', x1', r'⟩] = r + r' := by show 0 + r + r' = r + r'; rw [Rat.zero_add]
  generalize hqq : r + r' = q at hrr ⊢
  have hS := Lib.hid (SC.start w)
  have H0 := Lib.hid h
  have H1 := Lib.hid h'
  clear h h'
  go_enter Tryz.func46, Tryz.ntmps46
  go_wp2_with fail
  generalize hwa : World.alloc (World.alloc (World.alloc w _) _) _ = v1
  have h1 := (((hS.out.boxed (vs := [.bool b0, .slice A0 n0 c0, .slice A0' n0' c0']) (ty := 62) rfl rfl).boxed (vs := [.bool b1, .slice A1 n1 c1, .slice A1' n1' c1']) (ty := 62) rfl rfl).boxed (vs := [.bool false, .slice none 0 0, .slice none 0 0]) (ty := 62) rfl hwa)
  simp only [World.size_alloc] at h1
  have hsz : v1.heap.size = w.heap.size + 1 + 1 + 1 := by rw [← hwa]; simp only [World.size_alloc]
  try rw [← hsz]
  clear hwa hsz
  clear hS; have hS := Lib.hid h1; clear h1
  obtain ⟨x0_0, x1_0, x2_0⟩ := hS.out.cs3 0 rfl
  obtain ⟨x0_1, x1_1, x2_1⟩ := hS.out.cs3 1 rfl
  obtain ⟨x0_2, x1_2, x2_2⟩ := hS.out.cs3 2 rfl
  have HF := Lib.hid (fms_lit v1 [⟨b0, A0, n0, c0, x0, A0', n0', c0', x0', r⟩, ⟨b1, A1, n1, c1, x1, A1', n1', c1', x1', r'⟩] #[.bool b0, .slice A0 n0 c0, .slice A0' n0' c0', .bool b1, .slice A1 n1 c1, .slice A1' n1' c1'] 62 rfl)
  go_wp2_with fail
  go_at_call 66
  refine (fsum_any (v1.alloc (.cells #[.bool b0, .slice A0 n0 c0, .slice A0' n0' c0', .bool b1, .slice A1 n1 c1, .slice A1' n1' c1'] 62)) (some ⟨v1.heap.size, 0, none⟩) [⟨b0, A0, n0, c0, x0, A0', n0', c0', x0', r⟩, ⟨b1, A1, n1, c1, x1, A1', n1', c1', x1', r'⟩] M 2 HF.out ?_ (by simp) h1M hM hrr).mono ?_
  · intro f hf
    have hbb : Below w.heap.size w (v1.alloc (.cells #[.bool b0, .slice A0 n0 c0, .slice A0' n0' c0', .bool b1, .slice A1 n1 c1, .slice A1' n1' c1'] 62)) := (hS.out.alloc _).bl
    simp only [List.mem_cons, List.not_mem_nil, or_false] at hf
    rcases hf with rfl | rfl
    · exact H0.out.below hbb
    · exact H1.out.below hbb
  rintro e v9 ho
  obtain ⟨A3, n3, c3, A4, n4, c4, rfl, h1⟩ := (hS.out.alloc (.cells #[.bool b0, .slice A0 n0 c0, .slice A0' n0' c0', .bool b1, .slice A1 n1 c1, .slice A1' n1' c1'] 62)).rR (Nat.le_refl _) ho
  clear x0_0 x1_0 x2_0 x0_1 x1_1 x2_1 x0_2 x1_2 x2_2
  clear hS; have hS := Lib.hid h1; clear h1
  obtain ⟨x0_0, x1_0, x2_0⟩ := hS.out.cs3 0 rfl
  obtain ⟨x0_1, x1_1, x2_1⟩ := hS.out.cs3 1 rfl
  obtain ⟨x0_2, x1_2, x2_2⟩ := hS.out.cs3 2 rfl
  have hp0 := hS.out.put3 0 rfl (hS.out.ge_ 0 rfl) (.bool (sg q.num)) (.slice A3 n3 c3) (.slice A4 n4 c4)
  simp only [List.set_cons_zero, List.set_cons_succ] at hp0
  have fz0_0 := hS.out.frs 0 rfl 0
  have fz0_1 := hS.out.frs 0 rfl 1
  have fz0_2 := hS.out.frs 0 rfl 2
  have HPUT := Lib.hid hp0
  clear hp0
  go_wp2_with fail
  refine bodyPost_ret (results_B rfl rfl (loadR (HPUT.out.box _ (List.mem_of_getElem? (i := 0) rfl)))) rfl ?_
  exact HPUT.out.toR2 (k := 60 * M) (k' := 60 * M) (r := q) (by repeat (first | exact List.mem_cons_self | apply List.mem_cons_of_mem)) (by repeat (first | exact List.mem_cons_self | apply List.mem_cons_of_mem)) (by repeat (first | exact List.mem_cons_self | apply List.mem_cons_of_mem)) (by repeat (first | exact List.mem_cons_self | apply List.mem_cons_of_mem)) (Nat.le_refl _) (Nat.le_refl _) rfl rfl rfl
end
end Go.Proofs.YtfdpddlefobcpaaGreatDoor
