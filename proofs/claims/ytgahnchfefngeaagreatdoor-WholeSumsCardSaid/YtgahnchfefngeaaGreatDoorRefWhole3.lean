/- What the document's own package of whole numbers answers, over this translation: Div. -/
import Derived.Test.YtgahnchfefngeaaGreatDoorRefWhole2
import Derived.Test.YtgahnchfefngeaaGreatDoorWholeProgD
import Derived.Test.YtgahnchfefngeaaGreatDoorWholeRefState
namespace Go.Proofs.YtgahnchfefngeaaGreatDoor
open Go.RowKit
set_option linter.unusedVariables false
set_option maxRecDepth 20000
open N
section
variable {w w' : World} {A A' : Option Addr} {n c m d : Nat} {xs ys : List Int}
/-- the results' blocks of a call with two whole numbers for arguments -/
theorem N.Held.r22 {w W : World} {a2 a3 : Nat × Array Value × TypeId} {g g' : Nat} (h : Held w [(g', #[.bool false, .slice none 0 0], 25), (g, #[.bool false, .slice none 0 0], 25), a2, a3] W) (hne : g ≠ g') : R2 w W.heap.size g g' W :=
  ⟨h.below, h.ge 1 rfl, h.ge 0 rfl, h.lt 1 rfl, h.lt 0 rfl, h.below.size, Nat.le_refl _, hne, ⟨_, _, _, _, h.row 1 rfl⟩, ⟨_, _, _, _, h.row 0 rfl⟩⟩
theorem rdiv_zz {w0 w : World} {S : List Ent} {A A' : Option Addr} {n c m d k k' : Nat} {xs ys : List Int} {va vb : Int} (h : St w0 w S) (h1 : (⟨A, n, c, k, xs, va⟩ : Ent) ∈ S) (h2 : (⟨A', m, d, k', ys, vb⟩ : Ent) ∈ S) (hk' : k' ≤ 1000) (hb : vb = 0) :
    Calls Tryz.prog 49 #[.slice A n c, .slice A' m d] w fun e w' => e = .returned (.tuple #[.slice none 0 0, .slice none 0 0, .int .i64 7]) ∧ St w0 w' S := by
  have HZ := Lib.hid (show W.len vb = 0 by rw [hb]; exact len_0)
  have hS := Lib.hid h
  have H2 := Lib.hid h2
  clear hb h h2 h1
  go_enter Tryz.func49, Tryz.ntmps49
  go_wp2_with (go_at_call 75; refine (rlen_v hS.out H2.out (by omega)).mono ?_; rw [HZ.out]; rintro e w' ⟨rfl, h1⟩; clear hS; have hS := Lib.hid h1; clear h1)
  go_ret3
  exact ⟨rfl, hS.out⟩
/-- over a state: the quotient of the magnitudes -/
theorem rdiv_m (w : World) (h : Sl w A n c xs) (hn : n ≤ 1000) (h' : Sl w A' m d ys) (hm : m ≤ 1000) (hu : 0 < val B ys) :
    Calls Tryz.prog 49 #[.slice A n c, .slice A' m d] w fun e w' => ∃ A1 n1 c1 A2 n2 c2, e = .returned (.tuple #[.slice A1 n1 c1, .slice A2 n2 c2, .int .i64 0]) ∧
      Sl w' A1 n1 c1 (limbs (val B xs / val B ys)) ∧ n1 ≤ n + m + 1 ∧ Sl w' A2 n2 c2 (limbs (val B xs % val B ys)) ∧ n2 ≤ n + m + 1 ∧ Below w.heap.size w w' := by
  have hN : val B xs + val B xs + val B ys + val B ys < Q B (n + m + 1) := by
    have h1 := h.lt
    have h2 := h'.lt
    have h3 := QB_le (show n ≤ n + m by omega)
    have h4 := QB_le (show m ≤ n + m by omega)
    have h5 := QB_pos (n + m)
    rw [show Q B (n + m + 1) = Q B (n + m) * Q B 1 from QB_add _ _, show Q B 1 = 18446744073709551616 by unfold Q; decide]
    omega
  have hS := ((St.nil_ w).cons h (Nat.le_refl n) rfl).cons h' (Nat.le_refl m) rfl
  refine (rdiv_v (N := n + m + 1) hS (List.mem_cons_of_mem _ List.mem_cons_self) List.mem_cons_self hn hm hu hN (by omega)).mono ?_
  rintro e w2 ⟨A1, n1, c1, A2, n2, c2, he, h2⟩
  obtain ⟨g1, g2, _⟩ := h2.get List.mem_cons_self
  obtain ⟨g3, g4, _⟩ := h2.get (List.mem_cons_of_mem _ List.mem_cons_self)
  exact ⟨A1, n1, c1, A2, n2, c2, he, g3, g4, g1, g2, h2.1⟩
theorem rdiv_i0 (w : World) (b : Bool) (h : Sl w A n c xs) (hn : n ≤ 1000) (b' : Bool) (h' : Sl w A' m d ys) (hm : m ≤ 1000) (hu : val B ys = 0) :
    Calls Tryz.prog 22 #[.agg #[.bool b, .slice A n c], .agg #[.bool b', .slice A' m d]] w (OutI2 w 0 0 0 7) := by
  have HS := Lib.hid h
  have HS' := Lib.hid h'
  clear h h'
  go_enter Tryz.func22, Tryz.ntmps22
  go_wp2_with fail
  go_at_call 49
  generalize hwa : World.alloc (World.alloc (World.alloc (World.alloc w _) _) _) _ = w4
  have h1 := ((((Held.start w).alloc rfl).alloc rfl).alloc rfl).alloc hwa
  simp only [World.size_alloc] at h1
  clear hwa
  have HT := Lib.hid h1
  clear h1
  refine (rdiv_zz (((St.nil_ w4).cons (HS.out.below HT.out.below) (Nat.le_refl n) rfl).cons (HS'.out.below HT.out.below) (Nat.le_refl m) rfl) (List.mem_cons_of_mem _ List.mem_cons_self) List.mem_cons_self hm hu).mono ?_
  rintro e w5 ⟨rfl, h2⟩
  have h3 := HT.out.on h2.1
  have HR := Lib.hid (h3.r22 (by omega))
  clear h2 h3 HT
  obtain ⟨⟨a0, a1, x0, x1⟩, ⟨a2, a3, x2, x3⟩, ⟨y0, y1⟩, ⟨y2, y3⟩⟩ := HR.out.cells
  go_wp2
  refine bodyPost_ret (results_I3 rfl rfl rfl rfl (HR.out.put _ _ _ _ _ _ _ _).1 (HR.out.put _ _ _ _ _ _ _ _).2.1) rfl ?_
  exact HR.out.fin (z := 0) (y := 0) own_nil0 own_nil0 (Nat.le_refl 0) (Nat.le_refl 0)
theorem rdiv_i (w : World) (b : Bool) (h : Sl w A n c xs) (hn : n ≤ 1000) (b' : Bool) (h' : Sl w A' m d ys) (hm : m ≤ 1000) (hu : 0 < val B ys) :
    Calls Tryz.prog 22 #[.agg #[.bool b, .slice A n c], .agg #[.bool b', .slice A' m d]] w (OutI2 w (4 * n + 4 * m + 40) (iv b (val B xs) / iv b' (val B ys)) (iv b (val B xs) % iv b' (val B ys)) 0) := by
  have HD := Lib.hid (fun W (hb : Below w.heap.size w W) => rdiv_m W (h.below hb) hn (h'.below hb) hm hu)
  have HS' := Lib.hid h'
  have hv := h.nn0
  have hq0 : 0 ≤ val B xs / val B ys := Int.ediv_nonneg hv (by omega)
  have hr0 : 0 ≤ val B xs % val B ys := Int.emod_nonneg _ (by omega)
  have hrl := Int.emod_lt_of_pos (val B xs) hu
  cases b with
  | false =>
    obtain ⟨e1, e2⟩ := iv_div (b := false) (b' := b') (v := val B xs) hu (.inl rfl)
    rw [e1, e2, Bool.false_bne]
    obtain ⟨q, hq⟩ : ∃ q, val B xs / val B ys = q := ⟨_, rfl⟩
    obtain ⟨r, hr⟩ : ∃ r, val B xs % val B ys = r := ⟨_, rfl⟩
    obtain ⟨Z, hZ⟩ : ∃ Z, iv b' (val B xs / val B ys) = Z := ⟨_, rfl⟩
    rw [hq, hr] at HD
    rw [hq] at hZ
    rw [hq, hr, hZ]
    have HQ := Lib.hid (show 0 ≤ q by omega)
    have HR0 := Lib.hid (show 0 ≤ r by omega)
    have HE1 := Lib.hid hZ
    clear hv hq0 hr0 hrl e1 e2 hq hr h h' hZ
    go_enter Tryz.func22, Tryz.ntmps22
    go_wp2_with fail
    go_at_call 49
    generalize hwa : World.alloc (World.alloc (World.alloc (World.alloc w _) _) _) _ = w4
    have h1 := ((((Held.start w).alloc rfl).alloc rfl).alloc rfl).alloc hwa
    simp only [World.size_alloc] at h1
    clear hwa
    have HT := Lib.hid h1
    have HR := Lib.hid (h1.r22 (by omega))
    clear h1
    refine (HD.out w4 HT.out.below).mono ?_
    rintro e w5 ⟨A1, n1, c1, A2, n2, c2, rfl, s1, k1, s2, k2, hb⟩
    have h3 := HT.out.on hb
    have h4 := HR.out.on hb
    have HS1 := Lib.hid s1
    have HS2 := Lib.hid s2
    have HZ5 := Lib.hid hb.size
    have hl2 := s2.len
    clear s1 s2 hb HT HR
    have HT := Lib.hid h3
    have HR := Lib.hid h4
    clear h3 h4
    obtain ⟨x2, x3⟩ := HT.out.c2 2 rfl
    obtain ⟨x4, x5⟩ := HT.out.c2 3 rfl
    go_wp2_with fail
    go_at_call 12
    have hm1 := rmake_any w5 b' HS1.out (by omega)
    rw [limbs_val HQ.out, HE1.out] at hm1
    refine hm1.mono ?_
    clear hm1
    rintro e w6 ⟨A3, n3, c3, rfl, hn3, ho3, hb3⟩
    clear x2 x3 x4 x5
    have h3 := HT.out.on hb3
    have h4 := HR.out.on hb3
    have hm2 := rmake_any w6 false (HS2.out.below hb3) (by omega)
    rw [limbs_val HR0.out, iv_f] at hm2
    have HM2 := Lib.hid hm2
    have HO3 := Lib.hid (ho3.mono HZ5.out)
    have HZ6 := Lib.hid (Nat.le_trans HZ5.out hb3.size)
    clear ho3 hb3 HT HR hm2
    have HT := Lib.hid h3
    have HR := Lib.hid h4
    clear h3 h4
    obtain ⟨x2, x3⟩ := HT.out.c2 2 rfl
    obtain ⟨x4, x5⟩ := HT.out.c2 3 rfl
    go_wp2_with fail
    go_at_call 12
    refine HM2.out.mono ?_
    rintro e w7 ⟨A4, n4, c4, rfl, hn4, ho4, hb4⟩
    clear x2 x3 x4 x5
    have h4 := HR.out.on hb4
    have HO4 := Lib.hid (ho4.mono HZ6.out)
    have HO5 := Lib.hid (HO3.out.below hb4)
    clear ho4 hb4 HT HR HO3
    have HR := Lib.hid h4
    clear h4
    obtain ⟨⟨a0, a1, x0, x1⟩, ⟨a2, a3, x2, x3⟩, ⟨y0, y1⟩, ⟨y2, y3⟩⟩ := HR.out.cells
    go_wp2
    refine bodyPost_ret (results_I3 rfl rfl rfl rfl (HR.out.put _ _ _ _ _ _ _ _).1 (HR.out.put _ _ _ _ _ _ _ _).2.1) rfl ?_
    exact HR.out.fin HO5.out HO4.out (by omega) (by omega)
  | true =>
    by_cases hc : val B xs % val B ys = 0
    · obtain ⟨e1, e2⟩ := iv_div (b := true) (b' := b') (v := val B xs) hu (.inr hc)
      rw [e1, e2, Bool.true_bne]
      have hl0 : (limbs (val B xs % val B ys)).length = 0 := by rw [hc, limbs_zero]; rfl
      obtain ⟨q, hq⟩ : ∃ q, val B xs / val B ys = q := ⟨_, rfl⟩
      obtain ⟨r, hr⟩ : ∃ r, val B xs % val B ys = r := ⟨_, rfl⟩
      obtain ⟨Z, hZ⟩ : ∃ Z, iv (!b') (val B xs / val B ys) = Z := ⟨_, rfl⟩
      rw [hq, hr] at HD
      rw [hq] at hZ
      rw [hq, hr, hZ]
      have HQ := Lib.hid (show 0 ≤ q by omega)
      have HR0 := Lib.hid (show 0 ≤ r by omega)
      have HE1 := Lib.hid hZ
      rw [hr] at hl0
      clear hv hq0 hr0 hrl e1 e2 hq hr h h' hZ hc
      go_enter Tryz.func22, Tryz.ntmps22
      go_wp2_with fail
      go_at_call 49
      generalize hwa : World.alloc (World.alloc (World.alloc (World.alloc w _) _) _) _ = w4
      have h1 := ((((Held.start w).alloc rfl).alloc rfl).alloc rfl).alloc hwa
      simp only [World.size_alloc] at h1
      clear hwa
      have HT := Lib.hid h1
      have HR := Lib.hid (h1.r22 (by omega))
      clear h1
      refine (HD.out w4 HT.out.below).mono ?_
      rintro e w5 ⟨A1, n1, c1, A2, n2, c2, rfl, s1, k1, s2, k2, hb⟩
      have h3 := HT.out.on hb
      have h4 := HR.out.on hb
      have HS1 := Lib.hid s1
      have HS2 := Lib.hid s2
      have HZ5 := Lib.hid hb.size
      have hl2 := s2.len
      clear s1 s2 hb HT HR
      have HT := Lib.hid h3
      have HR := Lib.hid h4
      clear h3 h4
      obtain rfl : n2 = 0 := hl2.symm.trans hl0
      obtain ⟨x2, x3⟩ := HT.out.c2 2 rfl
      obtain ⟨x4, x5⟩ := HT.out.c2 3 rfl
      go_wp2_with fail
      go_at_call 12
      have hm1 := rmake_any w5 (!b') HS1.out (by omega)
      rw [limbs_val HQ.out, HE1.out] at hm1
      refine hm1.mono ?_
      clear hm1
      rintro e w6 ⟨A3, n3, c3, rfl, hn3, ho3, hb3⟩
      clear x2 x3 x4 x5
      have h3 := HT.out.on hb3
      have h4 := HR.out.on hb3
      have hm2 := rmake_any w6 false (HS2.out.below hb3) (by omega)
      rw [limbs_val HR0.out, iv_f] at hm2
      have HM2 := Lib.hid hm2
      have HO3 := Lib.hid (ho3.mono HZ5.out)
      have HZ6 := Lib.hid (Nat.le_trans HZ5.out hb3.size)
      clear ho3 hb3 HT HR hm2
      have HT := Lib.hid h3
      have HR := Lib.hid h4
      clear h3 h4
      obtain ⟨x2, x3⟩ := HT.out.c2 2 rfl
      obtain ⟨x4, x5⟩ := HT.out.c2 3 rfl
      go_wp2_with fail
      go_at_call 12
      refine HM2.out.mono ?_
      rintro e w7 ⟨A4, n4, c4, rfl, hn4, ho4, hb4⟩
      clear x2 x3 x4 x5
      have h4 := HR.out.on hb4
      have HO4 := Lib.hid (ho4.mono HZ6.out)
      have HO5 := Lib.hid (HO3.out.below hb4)
      clear ho4 hb4 HT HR HO3
      have HR := Lib.hid h4
      clear h4
      obtain ⟨⟨a0, a1, x0, x1⟩, ⟨a2, a3, x2, x3⟩, ⟨y0, y1⟩, ⟨y2, y3⟩⟩ := HR.out.cells
      go_wp2
      refine bodyPost_ret (results_I3 rfl rfl rfl rfl (HR.out.put _ _ _ _ _ _ _ _).1 (HR.out.put _ _ _ _ _ _ _ _).2.1) rfl ?_
      exact HR.out.fin HO5.out HO4.out (by omega) (by omega)
    · obtain ⟨e1, e2⟩ := iv_div' (b' := b') (v := val B xs) hu hc
      rw [e1, e2, Bool.true_bne]
      obtain ⟨q0, hq⟩ : ∃ q, val B xs / val B ys = q := ⟨_, rfl⟩
      obtain ⟨r0, hr⟩ : ∃ r, val B xs % val B ys = r := ⟨_, rfl⟩
      obtain ⟨r, hrr⟩ : ∃ r, val B ys - r0 = r := ⟨_, rfl⟩
      obtain ⟨q, hqq⟩ : ∃ q, q0 + 1 = q := ⟨_, rfl⟩
      obtain ⟨Z, hZ⟩ : ∃ Z, iv (!b') q = Z := ⟨_, rfl⟩
      rw [hq, hr] at HD
      rw [hq, hr, hqq, hrr, hZ]
      have hlr : 0 < (limbs r0).length := by
        rcases Nat.eq_zero_or_pos (limbs r0).length with e | e
        · have h1 := limbs_val (show 0 ≤ r0 by omega)
          rw [List.eq_nil_of_length_eq_zero e] at h1
          exact absurd (hr.trans h1.symm) hc
        · exact e
      have HQ0 := Lib.hid (show 0 ≤ q0 by omega)
      have HRR0 := Lib.hid (show 0 ≤ r0 by omega)
      have HQ := Lib.hid (show 0 ≤ q by omega)
      have HR0 := Lib.hid (show 0 ≤ r by omega)
      have HLE := Lib.hid (show r0 ≤ val B ys by omega)
      have HQQ := Lib.hid hqq
      have HRR := Lib.hid hrr
      have HE1 := Lib.hid hZ
      clear hv hq0 hr0 hrl e1 e2 hq hr h h' hZ hc hrr hqq
      go_enter Tryz.func22, Tryz.ntmps22
      go_wp2_with fail
      go_at_call 49
      generalize hwa : World.alloc (World.alloc (World.alloc (World.alloc w _) _) _) _ = w4
      have h1 := ((((Held.start w).alloc rfl).alloc rfl).alloc rfl).alloc hwa
      simp only [World.size_alloc] at h1
      clear hwa
      have HT := Lib.hid h1
      have HR := Lib.hid (h1.r22 (by omega))
      clear h1
      refine (HD.out w4 HT.out.below).mono ?_
      rintro e w5 ⟨A1, n1, c1, A2, n2, c2, rfl, s1, k1, s2, k2, hb⟩
      have h3 := HT.out.on hb
      have h4 := HR.out.on hb
      have HS1 := Lib.hid s1
      have HS2 := Lib.hid s2
      have HZ5 := Lib.hid hb.size
      have hl2 := s2.len
      clear s1 s2 hb HT HR
      have HT := Lib.hid h3
      have HR := Lib.hid h4
      clear h3 h4
      have hn2 : 0 < n2 := by rw [← hl2]; exact hlr
      clear hlr
      obtain ⟨x2, x3⟩ := HT.out.c2 2 rfl
      obtain ⟨x4, x5⟩ := HT.out.c2 3 rfl
      go_wp2_with fail
      go_at_call 45
      refine (rof_any w5 1 ⟨by omega, by omega⟩).mono ?_
      rintro e w6 ⟨A3, n3, c3, rfl, hn3, ho3, hb3⟩
      clear x2 x3 x4 x5
      have h3 := HT.out.on hb3
      have h4 := HR.out.on hb3
      have ha := radd_any w6 A1 A3 n1 c1 n3 c3 _ _ (HS1.out.below hb3) ho3.sl (by omega) (by omega)
      rw [limbs_val HQ0.out, limbs_val (show (0 : Int) ≤ 1 by decide), HQQ.out] at ha
      have HA := Lib.hid ha
      have HS2' := Lib.hid (HS2.out.below hb3)
      have HZ6 := Lib.hid (Nat.le_trans HZ5.out hb3.size)
      clear ho3 hb3 HT HR ha HS1 HS2 HZ5
      have HT := Lib.hid h3
      have HR := Lib.hid h4
      clear h3 h4
      obtain ⟨x2, x3⟩ := HT.out.c2 2 rfl
      obtain ⟨x4, x5⟩ := HT.out.c2 3 rfl
      go_wp2_with fail
      go_at_call 44
      refine HA.out.mono ?_
      rintro e w7 ⟨A4, n4, c4, rfl, hn4, ho4, hb4⟩
      clear x2 x3 x4 x5
      have h3 := HT.out.on hb4
      have h4 := HR.out.on hb4
      have HS1 := Lib.hid ho4.sl
      have HS2 := Lib.hid (HS2'.out.below hb4)
      have HZ7 := Lib.hid (Nat.le_trans HZ6.out hb4.size)
      clear ho4 hb4 HT HR HS2' HZ6
      have HT := Lib.hid h3
      have HR := Lib.hid h4
      clear h3 h4
      obtain ⟨x2, x3⟩ := HT.out.c2 2 rfl
      obtain ⟨x4, x5⟩ := HT.out.c2 3 rfl
      go_wp2_with fail
      go_at_call 50
      have hs := rsub_yes w7 A' A2 m d n2 c2 ys _ (HS'.out.below HT.out.below) HS2.out (by omega) (by omega) (by rw [limbs_val HRR0.out]; exact HLE.out)
      rw [limbs_val HRR0.out, HRR.out] at hs
      refine hs.mono ?_
      clear hs
      rintro e w8 ⟨A5, n5, c5, rfl, hn5, ho5, hb5⟩
      clear x2 x3 x4 x5
      have h3 := HT.out.on hb5
      have h4 := HR.out.on hb5
      have HS1' := Lib.hid (HS1.out.below hb5)
      have HS2' := Lib.hid ho5.sl
      have HZ5 := Lib.hid (Nat.le_trans HZ7.out hb5.size)
      clear ho5 hb5 HT HR HS1 HS2 HZ7
      have HT := Lib.hid h3
      have HR := Lib.hid h4
      have HS1 := HS1'
      have HS2 := HS2'
      clear h3 h4 HS1' HS2'
      obtain ⟨x2, x3⟩ := HT.out.c2 2 rfl
      obtain ⟨x4, x5⟩ := HT.out.c2 3 rfl
      go_wp2_with fail
      go_at_call 12
      have hm1 := rmake_any w8 (!b') HS1.out (by omega)
      rw [limbs_val HQ.out, HE1.out] at hm1
      refine hm1.mono ?_
      clear hm1
      rintro e w6 ⟨A3, n3, c3, rfl, hn3, ho3, hb3⟩
      clear x2 x3 x4 x5
      have h3 := HT.out.on hb3
      have h4 := HR.out.on hb3
      have hm2 := rmake_any w6 false (HS2.out.below hb3) (by omega)
      rw [limbs_val HR0.out, iv_f] at hm2
      have HM2 := Lib.hid hm2
      have HO3 := Lib.hid (ho3.mono HZ5.out)
      have HZ6 := Lib.hid (Nat.le_trans HZ5.out hb3.size)
      clear ho3 hb3 HT HR hm2
      have HT := Lib.hid h3
      have HR := Lib.hid h4
      clear h3 h4
      obtain ⟨x2, x3⟩ := HT.out.c2 2 rfl
      obtain ⟨x4, x5⟩ := HT.out.c2 3 rfl
      go_wp2_with fail
      go_at_call 12
      refine HM2.out.mono ?_
      rintro e w7 ⟨A4, n4, c4, rfl, hn4, ho4, hb4⟩
      clear x2 x3 x4 x5
      have h4 := HR.out.on hb4
      have HO4 := Lib.hid (ho4.mono HZ6.out)
      have HO5 := Lib.hid (HO3.out.below hb4)
      clear ho4 hb4 HT HR HO3
      have HR := Lib.hid h4
      clear h4
      obtain ⟨⟨a0, a1, x0, x1⟩, ⟨a2, a3, x2, x3⟩, ⟨y0, y1⟩, ⟨y2, y3⟩⟩ := HR.out.cells
      go_wp2
      refine bodyPost_ret (results_I3 rfl rfl rfl rfl (HR.out.put _ _ _ _ _ _ _ _).1 (HR.out.put _ _ _ _ _ _ _ _).2.1) rfl ?_
      exact HR.out.fin HO5.out HO4.out (by omega) (by omega)
end
end Go.Proofs.YtgahnchfefngeaaGreatDoor
