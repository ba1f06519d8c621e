/- Package rat: Show. -/
import Derived.Test.YtpokcocfdchfeaaGreatDoorRatB
import Derived.Test.YtpokcocfdchfeaaGreatDoorRatFrm
import Derived.Test.YtpokcocfdchfeaaGreatDoorRegC
namespace Go.Proofs.YtpokcocfdchfeaaGreatDoor
open Go.RowKit
set_option linter.unusedVariables false
set_option linter.unusedSimpArgs false
set_option maxRecDepth 20000
open N
open Go.Lib (decDigits nDigits decDigits_length nDigits_pos)
open RC
section
variable {w : World} {b0 b1 : Bool} {A0 A0' A1 A1' : Option Addr} {n0 c0 n0' c0' n1 c1 n1' c1' M : Nat} {x0 x0' x1 x1' : List Int} {r r' : Rat}
theorem shI_len (z : Int) : (shI z).length ≤ nDigits z.natAbs + 1 := by
  by_cases h : z < 0
  · rw [shI_neg h, List.length_cons, decDigits_length]; omega
  · rw [shI_pos (by omega), decDigits_length]; omega
theorem fshow_any (w : World) (h : Frm w b0 A0 n0 c0 x0 A0' n0' c0' x0' M r) (h1M : 1 ≤ M) (hM : M ≤ 100000) {Z : List UInt8} (hZ : shR r = Z) :
    Calls Tryz.prog 16 #[.agg #[.bool b0, .slice A0 n0 c0, .slice A0' n0' c0']] w fun e w' => e = .returned (.string ⟨Z.toArray⟩) ∧ Below w.heap.size w w' := by
  by_cases h1d : (r.den : Int) = 1
  · obtain ⟨X, hX0⟩ : ∃ X, shI r.num = X := ⟨_, rfl⟩
    have hX : shI (iv (sg r.num) (mg r.num)) = X := by rw [iv_sm]; exact hX0
    have hZX : Z = X := by rw [← hZ, ← hX0]; unfold shR; rw [if_pos (by omega)]
    subst hZX
    have hr0 := h.val
    have hS := Lib.hid (((SC.start w).old (k := M) h.den h.ld rfl).old (k := M) h.num h.ln rfl)
    clear h
    go_enter Tryz.func16, Tryz.ntmps16
    go_wp2_with fail
    generalize hwa : World.alloc w _ = v1
    have h1 := (hS.out.boxed (vs := [.bool b0, .slice A0 n0 c0, .slice A0' n0' c0']) (ty := 27) rfl hwa)
    clear hwa
    clear hS; have hS := Lib.hid h1; clear h1
    obtain ⟨x0_0, x1_0, x2_0⟩ := hS.out.cs3 0 rfl
    go_wp2_with fail
    go_at_call 23
    with_reducible refine (value_c (k := M) hS.out (by repeat (first | exact List.mem_cons_self | apply List.mem_cons_of_mem)) (by repeat (first | exact List.mem_cons_self | apply List.mem_cons_of_mem)) h1M (by omega) hr0).mono ?_
    rintro e v2 ⟨A1, n1, c1, A2, n2, c2, rfl, h1⟩
    clear x0_0 x1_0 x2_0
    clear hS; have hS := Lib.hid h1; clear h1
    obtain ⟨x0_0, x1_0, x2_0⟩ := hS.out.cs3 0 rfl
    have hp0 := hS.out.put3 0 rfl (hS.out.ge_ 0 rfl) (.bool (sg r.num)) (.slice A1 n1 c1) (.slice A2 n2 c2)
    simp only [List.set_cons_zero, List.set_cons_succ] at hp0
    have fz0_0 := hS.out.frs 0 rfl 0
    have fz0_1 := hS.out.frs 0 rfl 1
    have fz0_2 := hS.out.frs 0 rfl 2
    obtain ⟨p00_0, p01_0, p02_0⟩ := hp0.cs3 0 rfl
    have HPUT := Lib.hid hp0
    clear hp0
    go_wp2_with fail
    clear fz0_0 fz0_1 fz0_2
    clear p00_0 p01_0 p02_0
    clear x0_0 x1_0 x2_0
    have h1 := HPUT.out
    clear HPUT
    generalize hwa : World.setCell (World.setCell (World.setCell v2 _ _) _ _) _ _ = v3 at *
    clear hwa
    clear hS; have hS := Lib.hid h1; clear h1
    obtain ⟨x0_0, x1_0, x2_0⟩ := hS.out.cs3 0 rfl
    go_wp2_with fail
    go_at_call 38
    with_reducible refine (one_c (q := true) hS.out (by repeat (first | exact List.mem_cons_self | apply List.mem_cons_of_mem)) (by omega) (decide_eq_true h1d)).mono ?_
    rintro e v4 ⟨rfl, h1⟩
    clear x0_0 x1_0 x2_0
    clear hS; have hS := Lib.hid h1; clear h1
    obtain ⟨x0_0, x1_0, x2_0⟩ := hS.out.cs3 0 rfl
    go_wp2_with fail
    go_at_call 41
    with_reducible refine (wshow_c hS.out (by repeat (first | exact List.mem_cons_self | apply List.mem_cons_of_mem)) (by omega) hX).mono ?_
    rintro e v5 ⟨rfl, h1⟩
    clear x0_0 x1_0 x2_0
    clear hS; have hS := Lib.hid h1; clear h1
    obtain ⟨x0_0, x1_0, x2_0⟩ := hS.out.cs3 0 rfl
    go_wp2_with fail
    go_ret
    exact ⟨rfl, hS.out.bl⟩
  · obtain ⟨X, hX0⟩ : ∃ X, shI r.num = X := ⟨_, rfl⟩
    have hX : shI (iv (sg r.num) (mg r.num)) = X := by rw [iv_sm]; exact hX0
    obtain ⟨Y, hY⟩ : ∃ Y, decDigits ((r.den : Int)).toNat = Y := ⟨_, rfl⟩
    have hZX : Z = X ++ [47] ++ Y := by rw [← hZ, ← hX0, ← hY]; unfold shR; rw [if_neg (by omega), Int.toNat_natCast, List.append_assoc]; rfl
    subst hZX
    have hr0 := h.val
    have hS := Lib.hid (((SC.start w).old (k := M) h.den h.ld rfl).old (k := M) h.num h.ln rfl)
    clear h
    go_enter Tryz.func16, Tryz.ntmps16
    go_wp2_with fail
    generalize hwa : World.alloc w _ = v1
    have h1 := (hS.out.boxed (vs := [.bool b0, .slice A0 n0 c0, .slice A0' n0' c0']) (ty := 27) rfl hwa)
    clear hwa
    clear hS; have hS := Lib.hid h1; clear h1
    obtain ⟨x0_0, x1_0, x2_0⟩ := hS.out.cs3 0 rfl
    go_wp2_with fail
    go_at_call 23
    with_reducible refine (value_c (k := M) hS.out (by repeat (first | exact List.mem_cons_self | apply List.mem_cons_of_mem)) (by repeat (first | exact List.mem_cons_self | apply List.mem_cons_of_mem)) h1M (by omega) hr0).mono ?_
    rintro e v2 ⟨A1, n1, c1, A2, n2, c2, rfl, h1⟩
    clear x0_0 x1_0 x2_0
    clear hS; have hS := Lib.hid h1; clear h1
    obtain ⟨x0_0, x1_0, x2_0⟩ := hS.out.cs3 0 rfl
    have hp0 := hS.out.put3 0 rfl (hS.out.ge_ 0 rfl) (.bool (sg r.num)) (.slice A1 n1 c1) (.slice A2 n2 c2)
    simp only [List.set_cons_zero, List.set_cons_succ] at hp0
    have fz0_0 := hS.out.frs 0 rfl 0
    have fz0_1 := hS.out.frs 0 rfl 1
    have fz0_2 := hS.out.frs 0 rfl 2
    obtain ⟨p00_0, p01_0, p02_0⟩ := hp0.cs3 0 rfl
    have HPUT := Lib.hid hp0
    clear hp0
    go_wp2_with fail
    clear fz0_0 fz0_1 fz0_2
    clear p00_0 p01_0 p02_0
    clear x0_0 x1_0 x2_0
    have h1 := HPUT.out
    clear HPUT
    generalize hwa : World.setCell (World.setCell (World.setCell v2 _ _) _ _) _ _ = v3 at *
    clear hwa
    clear hS; have hS := Lib.hid h1; clear h1
    obtain ⟨x0_0, x1_0, x2_0⟩ := hS.out.cs3 0 rfl
    go_wp2_with fail
    go_at_call 38
    with_reducible refine (one_c (q := false) hS.out (by repeat (first | exact List.mem_cons_self | apply List.mem_cons_of_mem)) (by omega) (decide_eq_false h1d)).mono ?_
    rintro e v4 ⟨rfl, h1⟩
    clear x0_0 x1_0 x2_0
    clear hS; have hS := Lib.hid h1; clear h1
    obtain ⟨x0_0, x1_0, x2_0⟩ := hS.out.cs3 0 rfl
    have g1 := hS.out.get (A := A1) (n := n1) (c := c1) (by repeat (first | exact List.mem_cons_self | apply List.mem_cons_of_mem))
    have g2 := hS.out.get (A := A2) (n := n2) (c := c2) (by repeat (first | exact List.mem_cons_self | apply List.mem_cons_of_mem))
    have hX1 : X.length ≤ 20 * M + 2 := by
      have h1 := nDigits_val g1.1.dg g1.1.len (v := r.num.natAbs) (by rw [g1.2.2]; rfl)
      have h2 := shI_len r.num
      rw [hX0] at h2
      have := g1.2.1
      omega
    have hY1 : Y.length ≤ 20 * M + 1 := by
      have h1 := nDigits_val g2.1.dg g2.1.len (v := r.den) (by rw [g2.2.2])
      rw [← hY, decDigits_length, Int.toNat_natCast]
      have := g2.2.1
      omega
    have hap1 : (⟨X.toArray⟩ : ByteArray) ++ ⟨#[47]⟩ = ⟨(X ++ [(47 : UInt8)]).toArray⟩ := ByteArray.mk_append_mk X [47]
    have hsz1 : (⟨X.toArray⟩ : ByteArray).size + (⟨#[47]⟩ : ByteArray).size ≤ 9223372036854775807 := by show X.length + 1 ≤ _; omega
    have hap2 : (⟨(X ++ [(47 : UInt8)]).toArray⟩ : ByteArray) ++ ⟨Y.toArray⟩ = ⟨(X ++ [(47 : UInt8)] ++ Y).toArray⟩ := ByteArray.mk_append_mk (X ++ [47]) Y
    have hsz2 : (⟨(X ++ [(47 : UInt8)]).toArray⟩ : ByteArray).size + (⟨Y.toArray⟩ : ByteArray).size ≤ 9223372036854775807 := by show (X ++ [(47 : UInt8)]).length + Y.length ≤ _; rw [List.length_append]; show X.length + 1 + Y.length ≤ _; omega
    clear g1 g2
    go_wp2_with fail
    clear x0_0 x1_0 x2_0
    refine wp_region_rc (fs [[.val 11 (mV (.pointer (some ⟨w.heap.size, 0, none⟩)))], [.val 12 (mV (.agg #[.bool (sg r.num), .slice A1 n1 c1]))], [.val 13 (mV (.string ⟨X.toArray⟩))], [.val 14 (mV (.string ⟨(X ++ [(47 : UInt8)]).toArray⟩))], [.val 15 (mV (.pointer (some ⟨w.heap.size, 2, none⟩)))], [.val 16 (mV (.slice A2 n2 c2))], [.val 17 (mV (.string ⟨Y.toArray⟩))], [.val 18 (mV (.string ⟨(X ++ [(47 : UInt8)] ++ Y).toArray⟩))], [.val 2 (mV (.string ⟨(X ++ [(47 : UInt8)] ++ Y).toArray⟩))]]) [2, 11, 12, 13, 14, 15, 16, 17, 18] hS.out ?_ (by kernel_rfl) ?_ (fun j hj => fs_big hj)
    · intro i hi L a w' S Bn T1 O D hp hno hni
      match i, hi with
      | 0, _ =>
        have p : a.eval (.tmp 1) = .pointer (some ⟨w.heap.size, 0, none⟩) := D.at0 rfl rfl
        exact st_pure (v := .pointer (some ⟨w.heap.size, 0, none⟩)) D hno rfl rfl rfl (by simp only [Act.eval] at p; simp only [execOp, Act.eval]; go_simp) (of_decide_eq_true rfl) (of_decide_eq_true rfl) (by kernel_rfl) rfl rfl
      | 1, _ =>
        have p : a.eval (.tmp 11) = .pointer (some ⟨w.heap.size, 0, none⟩) := D.vt (hp 0 (by kernel_rfl)) rfl
        obtain ⟨z0, z1, z2⟩ := b3 (D.cells hno (i0 := 0) rfl (by kernel_rfl))
        exact st_pure (v := .agg #[.bool (sg r.num), .slice A1 n1 c1]) D hno rfl rfl rfl (by simp only [Act.eval] at p; simp only [execOp, Act.eval]; go_simp) (of_decide_eq_true rfl) (of_decide_eq_true rfl) (by kernel_rfl) rfl rfl
      | 2, _ =>
        have pq0 : a.eval (.tmp 12) = .agg #[.bool (sg r.num), .slice A1 n1 c1] := D.vt (hp 1 (by kernel_rfl)) rfl
        have hv : #[Operand.tmp 12].map a.eval = #[.agg #[.bool (sg r.num), .slice A1 n1 c1]] := by simp only [List.map_toArray, List.map_cons, List.map_nil, pq0]
        refine st_call D hno rfl hv Tryz.func41 (by kernel_rfl) rfl (wshow_c D.sc (D.sub _ (by repeat (first | exact List.mem_cons_self | apply List.mem_cons_of_mem))) (by omega) hX) (of_decide_eq_true rfl) (of_decide_eq_true rfl) (by kernel_rfl) rfl ?_
        rintro e w2 ⟨rfl, h1⟩
        exact ⟨_, _, _, rfl, h1, fun t ht => ht, fun t ht => ht, rfl⟩
      | 3, _ =>
        have pq0 : a.eval (.tmp 13) = .string ⟨X.toArray⟩ := D.vt (hp 2 (by kernel_rfl)) rfl
        exact st_pure (v := .string ⟨(X ++ [(47 : UInt8)]).toArray⟩) D hno rfl rfl rfl (by simp [Act.eval] at pq0; simp [execOp, Act.eval, pq0]; go_simp; omega) (of_decide_eq_true rfl) (of_decide_eq_true rfl) (by kernel_rfl) rfl rfl
      | 4, _ =>
        have p : a.eval (.tmp 1) = .pointer (some ⟨w.heap.size, 0, none⟩) := D.at0 rfl rfl
        exact st_pure (v := .pointer (some ⟨w.heap.size, 2, none⟩)) D hno rfl rfl rfl (by simp only [Act.eval] at p; simp only [execOp, Act.eval]; go_simp) (of_decide_eq_true rfl) (of_decide_eq_true rfl) (by kernel_rfl) rfl rfl
      | 5, _ =>
        have p : a.eval (.tmp 15) = .pointer (some ⟨w.heap.size, 2, none⟩) := D.vt (hp 4 (by kernel_rfl)) rfl
        obtain ⟨z0, z1, z2⟩ := b3 (D.cells hno (i0 := 0) rfl (by kernel_rfl))
        exact st_pure (v := .slice A2 n2 c2) D hno rfl rfl rfl (by simp only [Act.eval] at p; simp only [execOp, Act.eval]; go_simp) (of_decide_eq_true rfl) (of_decide_eq_true rfl) (by kernel_rfl) rfl rfl
      | 6, _ =>
        have pq0 : a.eval (.tmp 16) = .slice A2 n2 c2 := D.vt (hp 5 (by kernel_rfl)) rfl
        have hv : #[Operand.tmp 16].map a.eval = #[.slice A2 n2 c2] := by simp only [List.map_toArray, List.map_cons, List.map_nil, pq0]
        refine st_call D hno rfl hv Tryz.func42 (by kernel_rfl) rfl (dshow_c D.sc (D.sub _ (by repeat (first | exact List.mem_cons_self | apply List.mem_cons_of_mem))) (by omega) hY) (of_decide_eq_true rfl) (of_decide_eq_true rfl) (by kernel_rfl) rfl ?_
        rintro e w2 ⟨rfl, h1⟩
        exact ⟨_, _, _, rfl, h1, fun t ht => ht, fun t ht => ht, rfl⟩
      | 7, _ =>
        have pq0 : a.eval (.tmp 14) = .string ⟨(X ++ [(47 : UInt8)]).toArray⟩ := D.vt (hp 3 (by kernel_rfl)) rfl
        have pq1 : a.eval (.tmp 17) = .string ⟨Y.toArray⟩ := D.vt (hp 6 (by kernel_rfl)) rfl
        exact st_pure (v := .string ⟨(X ++ [(47 : UInt8)] ++ Y).toArray⟩) D hno rfl rfl rfl (by simp [Act.eval] at pq0 pq1; simp [execOp, Act.eval, pq0, pq1]; go_simp; omega) (of_decide_eq_true rfl) (of_decide_eq_true rfl) (by kernel_rfl) rfl rfl
      | 8, _ =>
        have p : a.eval (.tmp 18) = .string ⟨(X ++ [(47 : UInt8)] ++ Y).toArray⟩ := D.vt (hp 7 (by kernel_rfl)) rfl
        exact st_pure (v := .string ⟨(X ++ [(47 : UInt8)] ++ Y).toArray⟩) D hno rfl rfl rfl (by simp only [Act.eval] at p; simp only [execOp, Act.eval]; go_simp) (of_decide_eq_true rfl) (of_decide_eq_true rfl) (by kernel_rfl) rfl rfl
      | i + 9, hi => exact absurd hi (by show ¬ (i + 9 < 9); omega)
    · intro a w5 S Bn T1 O hfr hsc hs0 ho0 htags hgs hkeep hf
      have hQ_0 := hkeep 0 (fun j hj m hm => by exact absurd hm (onlyOld_spec (i := 1000) (by kernel_rfl) j (by rintro rfl; exact absurd hj (by decide)) m))
      have ek2 : a.eval (.tmp 2) = .string ⟨(X ++ [(47 : UInt8)] ++ Y).toArray⟩ := hf 8 (by decide) _ (List.mem_singleton.2 rfl)
      obtain rfl := list_1 (by simpa using congrArg List.length hgs) hQ_0
      have h1 := end_old hsc hs0 ho0
      have hc := hfr.closed
      simp only [List.map_cons, List.map_nil] at hc
      rw [ek2] at hc
      clear hfr hsc hs0 ho0 htags hgs hkeep hf
      clear hQ_0
      clear ek2
      generalize a.eval (.tmp 11) = u11_ at hc
      generalize a.eval (.tmp 12) = u12_ at hc
      generalize a.eval (.tmp 13) = u13_ at hc
      generalize a.eval (.tmp 14) = u14_ at hc
      generalize a.eval (.tmp 15) = u15_ at hc
      generalize a.eval (.tmp 16) = u16_ at hc
      generalize a.eval (.tmp 17) = u17_ at hc
      generalize a.eval (.tmp 18) = u18_ at hc
      subst hc
      clear hS; have hS := Lib.hid h1; clear h1
      simp only [putAll, List.foldl_cons, List.foldl_nil, Act.put, List.setIfInBounds_toArray, List.set_cons_zero, List.set_cons_succ]
      obtain ⟨v5, hww⟩ : ∃ x, x = w5 := ⟨_, rfl⟩
      subst hww
      obtain ⟨x0_0, x1_0, x2_0⟩ := hS.out.cs3 0 rfl
      go_wp2_with fail
      go_ret
      exact ⟨rfl, hS.out.bl⟩
end
end Go.Proofs.YtpokcocfdchfeaaGreatDoor
