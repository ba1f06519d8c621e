/- What the document's own package of whole numbers answers, over this translation: May, Of, Small, Neg, Add, Sub, Cmp, Mul. -/
import Derived.Test.YtgahnchfefngeaaGreatDoorRefWhole
import Derived.Test.YtgahnchfefngeaaGreatDoorGRefC
import Derived.Test.YtgahnchfefngeaaGreatDoorWholeProgB
namespace Go.Proofs.YtgahnchfefngeaaGreatDoor
open Go.RowKit
set_option linter.unusedVariables false
set_option maxRecDepth 20000
open N
section
variable {w w' : World} {A A' : Option Addr} {n c m d : Nat} {xs ys : List Int}
theorem rmay_any (w : World) (b : Bool) (h : Sl w A n c xs) (hn : n ≤ 1099511627776) :
    Calls Tryz.prog 14 #[.agg #[.bool b, .slice A n c]] w fun e w' => e = .returned (.bool (mayB b xs)) ∧ Below w.heap.size w w' := by
  have hl := h.len
  by_cases h0 : n = 0
  · subst h0
    have HM := Lib.hid (show mayB b xs = !b by
      unfold mayB
      rw [List.eq_nil_of_length_eq_zero hl]
      cases b <;> rfl)
    clear h
    go_enter Tryz.func14, Tryz.ntmps14
    go_wp2
    go_ret
    exact ⟨by rw [HM.out]; rfl, (BoxI.made rfl).2⟩
  · have hnn := nn_le xs
    rw [hl] at hnn
    obtain ⟨q, hq⟩ : ∃ q, mayB b xs = q := ⟨_, rfl⟩
    have hq' : (lim xs (n - 1) != 0) = q := by
      rw [← hq]
      unfold mayB
      rw [hl, decide_eq_false h0, Bool.and_false, Bool.not_false, Bool.and_true]
      by_cases hz : lim xs (n - 1) = 0
      · have := nn_step xs (n - 1) (by omega) hz
        rw [hz, decide_eq_false (by omega)]; rfl
      · have := nn_eq xs n hnn (.inr hz)
        rw [decide_eq_true this]
        simpa using hz
    rw [hq]
    obtain ⟨ad, rfl, _, hcell⟩ := (h.below (BoxI.made (b := b) (A := A) (n := n) (c := c) (rfl : w.alloc _ = _)).2).cell (k := n - 1) (by omega)
    have e1 : ((n : Int) - 1).toNat = n - 1 := by omega
    have e2 : ((n : Int) == 0) = false := by simpa using h0
    have hm := h.max
    have hcap := h.cap
    unfold maxLen at hm
    have hp : 0 < n := by omega
    clear h hl hnn hq h0
    go_enter Tryz.func14, Tryz.ntmps14
    go_wp2
    go_ret
    exact ⟨rfl, (BoxI.made rfl).2⟩
theorem rneg_any (w : World) (b : Bool) (h : Sl w A n c xs) (hn : n ≤ 1099511627776) :
    Calls Tryz.prog 28 #[.agg #[.bool b, .slice A n c]] w (OutI w n (-(iv b (val B xs)))) := by
  rw [← iv_neg]
  have HS := Lib.hid h
  clear h
  go_enter Tryz.func28, Tryz.ntmps28
  go_wp2_with fail
  go_at_call 12
  generalize hw1 : World.alloc (World.alloc w _) _ = w1
  have HR := Lib.hid (RC.over (BoxI.made rfl).2 (by simp only [World.size_alloc]; omega) hw1)
  rw [World.size_alloc] at HR
  clear hw1
  refine (rmake_any w1 _ (HS.out.below HR.out.below) hn).mono ?_
  rintro e w3 ho
  obtain ⟨A3, n3, c3, rfl, ⟨x0, x1⟩, ⟨y0, y1⟩, HB, HO⟩ := HR.out.out ho
  clear ho
  go_wp2
  refine bodyPost_ret (results_I rfl rfl HB.out) rfl ?_
  exact HO.out
/-- a natural of the call's own, made a whole number -/
theorem rmake_own {W w : World} {m : Nat} {v : Int} {z : Int} (b : Bool) (hv : 0 ≤ v) (hz : iv b v = z) (ho : N.Own w W.heap.size A n c (limbs v)) (hn : n ≤ 1099511627776) (hb : Below W.heap.size W w) (hm : mg z < Q B m) :
    Calls Tryz.prog 12 #[.bool b, .slice A n c] w (OutI W m z) := by
  have h1 := rmake_any w b ho.sl hn
  rw [limbs_val hv, hz] at h1
  exact h1.mono fun e w' h => ((h.from hb).tight hm)
/-- the same, where it is made -/
theorem rmake_at {w : World} {base m : Nat} {v : Int} {z : Int} (b : Bool) (hv : 0 ≤ v) (hz : iv b v = z) (ho : N.Own w base A n c (limbs v)) (hn : n ≤ 1099511627776) (hm : mg z < Q B m) :
    Calls Tryz.prog 12 #[.bool b, .slice A n c] w (OutI w m z) := by
  have h1 := rmake_any w b ho.sl hn
  rw [limbs_val hv, hz] at h1
  exact h1.mono fun e w' h => h.tight hm
theorem rofi_any (w : World) (z : Int) (h1 : -9223372036854775808 ≤ z) (h2 : z ≤ 9223372036854775807) :
    Calls Tryz.prog 16 #[.int .i64 z] w (OutI w 1 z) := by
  have HT := Lib.hid (show mg z < Q B 1 by rw [QB_one]; unfold mg; omega)
  by_cases hz : z < 0
  · have HO := Lib.hid (fun W => rof_any W (-(z + 1)) ⟨by omega, by omega⟩)
    have HO1 := Lib.hid (fun W => rof_any W 1 ⟨by omega, by omega⟩)
    have HV := Lib.hid (show 0 ≤ -(z + 1) by omega)
    have HZ := Lib.hid (show iv true (-z) = z by rw [iv_t]; omega)
    have HN := Lib.hid (show 0 ≤ -z by omega)
    go_enter Tryz.func16, Tryz.ntmps16
    go_wp2_with fail
    go_at_call 45
    generalize hw1 : World.alloc w _ = w1
    have HR := Lib.hid (RC.made hw1)
    clear hw1
    refine (HO.out w1).mono ?_
    rintro e w2 ⟨A1, n1, c1, rfl, hn1, ho, hb⟩
    have HS1 := Lib.hid ho.sl
    have HB1 := Lib.hid hb
    clear ho hb
    go_wp2_with fail
    go_at_call 45
    refine (HO1.out w2).mono ?_
    rintro e w3 ⟨A2, n2, c2, rfl, hn2, ho, hb⟩
    have ha := radd_any w3 A1 A2 n1 c1 n2 c2 _ _ (HS1.out.below hb) ho.sl (by omega) (by omega)
    rw [limbs_val HV.out, limbs_val (show (0 : Int) ≤ 1 by decide), show -(z + 1) + 1 = -z by omega] at ha
    have HA := Lib.hid ha
    have HB2 := Lib.hid (HB1.out.trans (hb.mono HB1.out.size))
    clear ho hb ha
    go_wp2_with fail
    go_at_call 44
    refine HA.out.mono ?_
    rintro e w4 ⟨A4, n4, c4, rfl, hn4, ho, hb⟩
    have HM := Lib.hid (rmake_own (m := 1) true HN.out HZ.out (ho.mono HB2.out.size) (by omega) (HB2.out.trans (hb.mono HB2.out.size)) HT.out)
    clear ho hb
    go_wp2_with fail
    go_at_call 12
    refine HM.out.mono ?_
    rintro e w5 ho
    obtain ⟨A3, n3, c3, rfl, ⟨x0, x1⟩, ⟨y0, y1⟩, HB, HO⟩ := HR.out.out ho
    clear ho
    go_wp2
    refine bodyPost_ret (results_I rfl rfl HB.out) rfl ?_
    exact HO.out
  · have HO := Lib.hid (fun W => rof_any W z ⟨by omega, by omega⟩)
    have e1 : IntKind.u64.wrap z = z := by rw [IntKind.wrap_u64]; omega
    have HZ := Lib.hid (show iv false z = z from rfl)
    have HV := Lib.hid (show 0 ≤ z by omega)
    clear h1 h2
    go_enter Tryz.func16, Tryz.ntmps16
    go_wp2_with fail
    go_at_call 45
    generalize hw1 : World.alloc w _ = w1
    have HR := Lib.hid (RC.made hw1)
    clear hw1
    refine (HO.out w1).mono ?_
    rintro e w2 ⟨A1, n1, c1, rfl, hn1, ho, hb⟩
    have HM := Lib.hid (rmake_own (m := 1) false HV.out HZ.out ho (by omega) hb HT.out)
    clear ho hb
    go_wp2_with fail
    go_at_call 12
    refine HM.out.mono ?_
    rintro e w3 ho
    obtain ⟨A3, n3, c3, rfl, ⟨x0, x1⟩, ⟨y0, y1⟩, HB, HO⟩ := HR.out.out ho
    clear ho
    go_wp2
    refine bodyPost_ret (results_I rfl rfl HB.out) rfl ?_
    exact HO.out
theorem radd_i (w : World) (b : Bool) (h : Sl w A n c xs) (hn : n ≤ 1000000) (b' : Bool) (h' : Sl w A' m d ys) (hm : m ≤ 1000000) :
    Calls Tryz.prog 29 #[.agg #[.bool b, .slice A n c], .agg #[.bool b', .slice A' m d]] w (OutI w (n + m + 1) (iv b (val B xs) + iv b' (val B ys))) := by
  have hv := h.nn0
  have hu := h'.nn0
  obtain ⟨Z, hZ⟩ : ∃ Z, iv b (val B xs) + iv b' (val B ys) = Z := ⟨_, rfl⟩
  have hT := QB_sum h.lt h'.lt
  have HT9 := Lib.hid (show mg Z < Q B (n + m + 1) by
    rw [← hZ]
    cases b <;> cases b' <;> simp only [iv_f, iv_t] <;> unfold mg <;> omega)
  rw [hZ]
  have HS := Lib.hid h
  have HS' := Lib.hid h'
  by_cases hbb : b = b'
  · subst hbb
    have HZ := Lib.hid (show iv b (val B xs + val B ys) = Z by rw [← hZ, iv_add])
    have HN := Lib.hid (show 0 ≤ val B xs + val B ys by omega)
    have ebb : (b == b) = true := by cases b <;> rfl
    clear hv hu hT hZ h h'
    go_enter Tryz.func29, Tryz.ntmps29
    go_wp2_with fail
    generalize hwa : World.alloc (World.alloc (World.alloc w _) _) _ = w4
    have h1 := (((Held.start w).alloc rfl).alloc rfl).alloc hwa
    simp only [World.size_alloc] at h1
    clear hwa
    have h2 := h1.drew
    clear h1
    have HT := Lib.hid h2
    clear h2
    go_region_held3 (fun W => (W.cell? ⟨w.heap.size + 1, 0, none⟩ = some (.bool b) ∧ W.cell? ⟨w.heap.size + 1, 1, none⟩ = some (.slice A' m d)) ∧ (W.cell? ⟨w.heap.size, 0, none⟩ = some (.bool b) ∧ W.cell? ⟨w.heap.size, 1, none⟩ = some (.slice A n c))) (first | with_reducible exact ⟨HT.out.c2 1 rfl, HT.out.c2 2 rfl⟩ | with_reducible exact ⟨HF.out.c2 0 rfl, HF.out.c2 1 rfl⟩) (first
      | (go_at_call 44; (with_reducible refine (radd_any _ _ _ _ _ _ _ _ _ (HS.out.below HT.out.below) (HS'.out.below HT.out.below) hn hm).mono ?_); rintro e w2 ⟨A1, n1, c1, rfl, hn1, ho, hb⟩; have h3 := HT.out.on hb; have HM := Lib.hid (rmake_at b HN.out HZ.out ho (by omega) HT9.out); clear ho hb HT; have HT := Lib.hid h3; clear h3)
      | (go_at_call 12; (with_reducible refine HM.out.mono ?_); rintro e w' ho; have h3 := HT.out.on ho.below; obtain ⟨A5, n5, c5, rfl, ⟨x0, x1⟩, ⟨y0, y1⟩, HB, HO⟩ := (HT.out.rc 0 rfl).out ho; have HF := Lib.hid (h3.put0 (by intro q hq; simp only [List.mem_cons, List.not_mem_nil, or_false] at hq; rcases hq with rfl | rfl <;> first | (show w.heap.size + 1 ≠ w.heap.size + 1 + 1; omega) | (show w.heap.size ≠ w.heap.size + 1 + 1; omega)) (.bool (sg Z)) (.slice A5 n5 c5)); clear HT ho; have HT := Lib.hid h3; clear h3))
    go_wp2
    refine bodyPost_ret (results_I rfl rfl HB.out) rfl ?_
    exact HO.out
  · obtain rfl : b' = !b := by cases b <;> cases b' <;> first | rfl | exact absurd rfl hbb
    have ebb : (b == !b) = false := by cases b <;> rfl
    rw [iv_sub] at hZ
    clear hbb h h'
    by_cases hle : val B ys ≤ val B xs
    · have HZ := Lib.hid hZ
      have HN := Lib.hid (show 0 ≤ val B xs - val B ys by omega)
      have HL := Lib.hid hle
      clear hv hu hT hZ hle
      go_enter Tryz.func29, Tryz.ntmps29
      go_wp2_with fail
      go_at_call 50
      generalize hwa : World.alloc (World.alloc (World.alloc w _) _) _ = w4
      have h1 := (((Held.start w).alloc rfl).alloc rfl).alloc hwa
      simp only [World.size_alloc] at h1
      clear hwa
      have HT := Lib.hid h1
      clear h1
      refine (rsub_yes _ _ _ _ _ _ _ _ _ (HS.out.below HT.out.below) (HS'.out.below HT.out.below) hn hm HL.out).mono ?_
      rintro e w2 ⟨A1, n1, c1, rfl, hn1, ho, hb⟩
      have h3 := HT.out.on hb
      have HM := Lib.hid (rmake_at (m := n + m + 1) b HN.out HZ.out ho (by omega) HT9.out)
      clear ho hb HT
      have HT := Lib.hid h3
      clear h3
      obtain ⟨x2, x3⟩ := HT.out.c2 1 rfl
      obtain ⟨x4, x5⟩ := HT.out.c2 2 rfl
      go_wp2_with fail
      go_at_call 12
      refine HM.out.mono ?_
      rintro e w3 ho
      clear x2 x3 x4 x5
      obtain ⟨A3, n3, c3, rfl, ⟨x0, x1⟩, ⟨y0, y1⟩, HB, HO⟩ := (HT.out.rc 0 rfl).out ho
      clear ho
      go_wp2
      refine bodyPost_ret (results_I rfl rfl HB.out) rfl ?_
      exact HO.out
    · have HZ := Lib.hid (show iv (!b) (val B ys - val B xs) = Z by rw [← hZ]; cases b <;> simp only [Bool.not_false, Bool.not_true, iv_f, iv_t] <;> omega)
      have HN := Lib.hid (show 0 ≤ val B ys - val B xs by omega)
      have HL := Lib.hid (show val B xs < val B ys by omega)
      clear hv hu hT hZ hle
      go_enter Tryz.func29, Tryz.ntmps29
      go_wp2_with fail
      go_at_call 50
      generalize hwa : World.alloc (World.alloc (World.alloc w _) _) _ = w4
      have h1 := (((Held.start w).alloc rfl).alloc rfl).alloc hwa
      simp only [World.size_alloc] at h1
      clear hwa
      have HT := Lib.hid h1
      clear h1
      refine (rsub_no _ _ _ _ _ _ _ _ _ (HS.out.below HT.out.below) (HS'.out.below HT.out.below) hn hm HL.out).mono ?_
      rintro e w2 ⟨rfl, hb⟩
      have h3 := HT.out.on hb
      clear hb HT
      have HT := Lib.hid h3
      clear h3
      obtain ⟨x2, x3⟩ := HT.out.c2 1 rfl
      obtain ⟨x4, x5⟩ := HT.out.c2 2 rfl
      go_wp2_with fail
      go_at_call 50
      refine (rsub_yes _ _ _ _ _ _ _ _ _ (HS'.out.below HT.out.below) (HS.out.below HT.out.below) hm hn (by have := HL.out; omega)).mono ?_
      rintro e w3 ⟨A1, n1, c1, rfl, hn1, ho, hb⟩
      clear x2 x3 x4 x5
      have h3 := HT.out.on hb
      have HM := Lib.hid (rmake_at (m := n + m + 1) (!b) HN.out HZ.out ho (by omega) HT9.out)
      clear ho hb HT
      have HT := Lib.hid h3
      clear h3
      obtain ⟨x2, x3⟩ := HT.out.c2 1 rfl
      obtain ⟨x4, x5⟩ := HT.out.c2 2 rfl
      go_wp2_with fail
      go_at_call 12
      refine HM.out.mono ?_
      rintro e w4 ho
      clear x2 x3 x4 x5
      obtain ⟨A3, n3, c3, rfl, ⟨x0, x1⟩, ⟨y0, y1⟩, HB, HO⟩ := (HT.out.rc 0 rfl).out ho
      clear ho
      go_wp2
      refine bodyPost_ret (results_I rfl rfl HB.out) rfl ?_
      exact HO.out
theorem rsub_i (w : World) (b : Bool) (h : Sl w A n c xs) (hn : n ≤ 1000000) (b' : Bool) (h' : Sl w A' m d ys) (hm : m ≤ 1000000) :
    Calls Tryz.prog 30 #[.agg #[.bool b, .slice A n c], .agg #[.bool b', .slice A' m d]] w (OutI w (n + m + 1) (iv b (val B xs) - iv b' (val B ys))) := by
  have HS' := Lib.hid h'
  have HS := Lib.hid h
  rw [show iv b (val B xs) - iv b' (val B ys) = iv b (val B xs) + -(iv b' (val B ys)) from Int.sub_eq_add_neg]
  obtain ⟨y, hy⟩ : ∃ y, -(iv b' (val B ys)) = y := ⟨_, rfl⟩
  have HY := Lib.hid hy
  rw [hy]
  obtain ⟨Z, hZ⟩ : ∃ Z, iv b (val B xs) + y = Z := ⟨_, rfl⟩
  have HZ := Lib.hid hZ
  rw [hZ]
  clear h h' hy hZ
  go_enter Tryz.func30, Tryz.ntmps30
  go_wp2_with fail
  generalize hwa : World.alloc (World.alloc (World.alloc w _) _) _ = w4
  have h1 := (((Held.start w).alloc rfl).alloc rfl).alloc hwa
  simp only [World.size_alloc] at h1
  clear hwa
  have h2 := h1.drew
  clear h1
  have HT := Lib.hid h2
  clear h2
  go_region_held3 (fun W => (W.cell? ⟨w.heap.size + 1, 0, none⟩ = some (.bool b') ∧ W.cell? ⟨w.heap.size + 1, 1, none⟩ = some (.slice A' m d)) ∧ (W.cell? ⟨w.heap.size, 0, none⟩ = some (.bool b) ∧ W.cell? ⟨w.heap.size, 1, none⟩ = some (.slice A n c))) (first | with_reducible exact ⟨HT.out.c2 1 rfl, HT.out.c2 2 rfl⟩ | with_reducible exact ⟨HF.out.c2 0 rfl, HF.out.c2 1 rfl⟩) (first
    | (go_at_call 28; (with_reducible refine (rneg_any _ b' (HS'.out.below HT.out.below) (by omega)).mono ?_); rw [HY.out]; rintro e w2 ho; have h3 := HT.out.on ho.below; obtain ⟨A1, n1, c1, rfl, hn1, ho, hb⟩ := ho; have hM := radd_i w2 b (HS.out.below h3.below) hn (sg y) ho.sl (by omega); rw [limbs_val (mg_nn y), iv_sm, HZ.out] at hM; have HM := Lib.hid hM; clear ho hb hM HT; have HT := Lib.hid h3; clear h3)
    | (go_at_call 29; (with_reducible refine HM.out.mono ?_); rintro e w' ho; have ho := ho.le (show n + n1 + 1 ≤ n + m + 1 by omega); have h3 := HT.out.on ho.below; obtain ⟨A5, n5, c5, rfl, ⟨x0, x1⟩, ⟨y0, y1⟩, HB, HO⟩ := (HT.out.rc 0 rfl).out ho; have HF := Lib.hid (h3.put0 (by intro q hq; simp only [List.mem_cons, List.not_mem_nil, or_false] at hq; rcases hq with rfl | rfl <;> first | (show w.heap.size + 1 ≠ w.heap.size + 1 + 1; omega) | (show w.heap.size ≠ w.heap.size + 1 + 1; omega)) (.bool (sg Z)) (.slice A5 n5 c5)); clear HT ho; have HT := Lib.hid h3; clear h3))
  go_wp2
  refine bodyPost_ret (results_I rfl rfl HB.out) rfl ?_
  exact HO.out
theorem rcmp_i (w : World) (b : Bool) (h : Sl w A n c xs) (hn : n ≤ 1000000) (b' : Bool) (h' : Sl w A' m d ys) (hm : m ≤ 1000000) :
    Calls Tryz.prog 20 #[.agg #[.bool b, .slice A n c], .agg #[.bool b', .slice A' m d]] w fun e w' => e = .returned (.int .i64 (sgn (iv b (val B xs) - iv b' (val B ys)))) ∧ Below w.heap.size w w' := by
  have HSB := Lib.hid (fun W (hb : Below w.heap.size w W) => rsub_i W b (h.below hb) hn b' (h'.below hb) hm)
  obtain ⟨Z, hZ⟩ : ∃ Z, iv b (val B xs) - iv b' (val B ys) = Z := ⟨_, rfl⟩
  rw [hZ] at HSB ⊢
  clear h h' hZ
  go_enter Tryz.func20, Tryz.ntmps20
  go_wp2_with fail
  go_at_call 30
  generalize hwa : World.alloc (World.alloc w _) _ = w2
  have HT := Lib.hid (((Held.start w).alloc rfl).alloc hwa)
  clear hwa
  refine (HSB.out w2 HT.out.below).mono ?_
  rintro e w3 ⟨A1, n1, c1, rfl, hn1, ho, hb⟩
  have hs := rsign_any w3 (sg Z) ho.sl (by omega)
  rw [limbs_val (mg_nn Z), iv_sm] at hs
  have HS := Lib.hid hs
  have HB := Lib.hid (HT.out.on hb).below
  clear ho hb hs HT
  go_wp2_with (go_at_call 18; refine HS.out.mono ?_; rintro e w4 ⟨rfl, hb4⟩)
  go_ret
  exact ⟨rfl, HB.out.trans (hb4.mono HB.out.size)⟩
theorem rmul_i (w : World) (b : Bool) (h : Sl w A n c xs) (hn : n ≤ 1000000) (b' : Bool) (h' : Sl w A' m d ys) (hm : m ≤ 1000000) :
    Calls Tryz.prog 31 #[.agg #[.bool b, .slice A n c], .agg #[.bool b', .slice A' m d]] w (OutI w (n + m) (iv b (val B xs) * iv b' (val B ys))) := by
  rw [iv_mul]
  obtain ⟨Z, hZ⟩ : ∃ Z, iv (b != b') (val B xs * val B ys) = Z := ⟨_, rfl⟩
  have hN : 0 ≤ val B xs * val B ys := Int.mul_nonneg h.nn0 h'.nn0
  have HT9 := Lib.hid (show mg Z < Q B (n + m) by rw [← hZ, mg_iv hN]; exact QB_prod h.nn0 h'.nn0 h.lt h'.lt)
  have HZ := Lib.hid hZ
  have HN := Lib.hid hN
  have HS := Lib.hid h
  have HS' := Lib.hid h'
  rw [hZ]
  clear h h' hZ hN
  go_enter Tryz.func31, Tryz.ntmps31
  go_wp2_with fail
  generalize hwa : World.alloc (World.alloc (World.alloc w _) _) _ = w4
  have h1 := (((Held.start w).alloc rfl).alloc rfl).alloc hwa
  simp only [World.size_alloc] at h1
  clear hwa
  have h2 := h1.drew
  clear h1
  have HT := Lib.hid h2
  clear h2
  go_region_held3 (fun W => (W.cell? ⟨w.heap.size + 1, 0, none⟩ = some (.bool b') ∧ W.cell? ⟨w.heap.size + 1, 1, none⟩ = some (.slice A' m d)) ∧ (W.cell? ⟨w.heap.size, 0, none⟩ = some (.bool b) ∧ W.cell? ⟨w.heap.size, 1, none⟩ = some (.slice A n c))) (first | with_reducible exact ⟨HT.out.c2 1 rfl, HT.out.c2 2 rfl⟩ | with_reducible exact ⟨HF.out.c2 0 rfl, HF.out.c2 1 rfl⟩) (first
    | (go_at_call 62; (with_reducible refine (rmul_any _ _ _ _ _ _ _ _ _ (HS.out.below HT.out.below) (HS'.out.below HT.out.below) hn hm).mono ?_); rintro e w2 ⟨A1, n1, c1, rfl, hn1, ho, hb⟩; have h3 := HT.out.on hb; have HM := Lib.hid (rmake_at (b != b') HN.out HZ.out ho (by omega) HT9.out); clear ho hb HT; have HT := Lib.hid h3; clear h3)
    | (go_at_call 12; refine HM.out.mono ?_; rintro e w' ho; have h3 := HT.out.on ho.below; obtain ⟨A5, n5, c5, rfl, ⟨x0, x1⟩, ⟨y0, y1⟩, HB, HO⟩ := (HT.out.rc 0 rfl).out ho; have HF := Lib.hid (h3.put0 (by intro q hq; simp only [List.mem_cons, List.not_mem_nil, or_false] at hq; rcases hq with rfl | rfl <;> first | (show w.heap.size + 1 ≠ w.heap.size + 1 + 1; omega) | (show w.heap.size ≠ w.heap.size + 1 + 1; omega)) (.bool (sg Z)) (.slice A5 n5 c5)); clear HT ho; have HT := Lib.hid h3; clear h3))
  go_wp2
  refine bodyPost_ret (results_I rfl rfl HB.out) rfl ?_
  exact HO.out
theorem rsmall_i (w : World) (b : Bool) (h : Sl w A n c xs) (hn : n ≤ 1000000) {z : Int} (hz : iv b (val B xs) = z) {q : Int} {is : Bool} (hq : (-9223372036854775808 ≤ z ∧ z ≤ 9223372036854775807 ∧ q = z ∧ is = true) ∨ (¬ (-9223372036854775808 ≤ z ∧ z ≤ 9223372036854775807) ∧ q = 0 ∧ is = false)) :
    Calls Tryz.prog 9 #[.agg #[.bool b, .slice A n c]] w fun e w' => e = .returned (.tuple #[.int .i64 q, .bool is]) ∧ Below w.heap.size w w' := by
  have HS := Lib.hid h
  have hm := fun W (hb : Below w.heap.size w W) => rmake_any W b (h.below hb) (by omega)
  rw [hz] at hm
  have HM := Lib.hid hm
  clear h hz hm
  go_enter Tryz.func9, Tryz.ntmps9
  go_wp2_with fail
  go_at_call 12
  generalize hwa : World.alloc w _ = w1
  have HT := Lib.hid ((Held.start w).alloc hwa)
  clear hwa
  refine (HM.out w1 HT.out.below).mono ?_
  rintro e w2 ⟨A1, n1, c1, rfl, hn1, ho, hb⟩
  have h3 := HT.out.on hb
  have h4 := (h3.set (fun q hq => by cases hq) 0 (.bool (sg z))).set (fun q hq => by cases hq) 1 (.slice A1 n1 c1)
  have HT2 := Lib.hid h4
  have hsl : Sl ((w2.setCell ⟨w.heap.size, 0, none⟩ (.bool (sg z))).setCell ⟨w.heap.size, 1, none⟩ (.slice A1 n1 c1)) A1 n1 c1 (limbs (mg z)) :=
    ((ho.keep (grow_set w2 w.heap.size 0 _) (fun k hk => by injection hk with hk; have := HT.out.lt 0 rfl; omega)).keep (grow_set _ w.heap.size 1 _) (fun k hk => by injection hk with hk; have := HT.out.lt 0 rfl; omega)).sl
  have HSL := Lib.hid hsl
  obtain ⟨x0, x1⟩ := h3.c2 0 rfl
  obtain ⟨y0, y1⟩ := h3.f2 0 rfl
  clear ho hb h3 h4 hsl HT
  go_wp2_with fail
  go_at_call 39
  clear x0 x1 y0 y1
  generalize hwb : World.setCell (World.setCell w2 _ _) _ _ = w3 at *
  have h5 := HT2.out
  have hls : (limbs (mg z)).length = n1 := HSL.out.len
  have x2 : w3.cell? ⟨w.heap.size, 0, none⟩ = some (.bool (sg z)) := h5.cell 0 0 rfl rfl
  clear hwb
  have hv : val B (limbs (mg z)) = mg z := limbs_val (mg_nn z)
  by_cases hbig : 18446744073709551616 ≤ mg z
  · obtain ⟨rfl, rfl⟩ : q = 0 ∧ is = false := by
      rcases hq with ⟨h1, h2, _⟩ | ⟨_, h1, h2⟩
      · unfold mg at hbig; omega
      · exact ⟨h1, h2⟩
    refine (rsmall_no w3 A1 n1 c1 _ HSL.out (by omega) (by rw [hv]; exact hbig)).mono ?_
    rintro e w4 ⟨rfl, hb4⟩
    have HE := Lib.hid (h5.on hb4).below
    clear hbig hq hv hb4 h5 x2 hls
    go_wp2
    go_ret2
    exact ⟨rfl, HE.out⟩
  · refine (rsmall_yes w3 A1 n1 c1 _ HSL.out (by omega) (by rw [hv]; omega)).mono ?_
    rw [hv]
    rintro e w4 ⟨rfl, hb4⟩
    have h6 := h5.on hb4
    have HE := Lib.hid h6.below
    have x2 : w4.cell? ⟨w.heap.size, 0, none⟩ = some (.bool (sg z)) := h6.cell 0 0 rfl rfl
    clear hb4 h5 h6 hls hv
    by_cases hz : z < 0
    · have hs : sg z = true := sg_t hz
      obtain ⟨u, hu⟩ : ∃ u, mg z = u := ⟨_, rfl⟩
      have hu' : u = -z := by rw [← hu]; exact mg_t (by omega)
      rw [hs] at x2
      rw [hu] at hbig ⊢
      clear hs hu
      rcases hq with ⟨h1, h2, rfl, rfl⟩ | ⟨h1, rfl, rfl⟩
      · have e1 : u ≤ 9223372036854775808 := by omega
        have E2 := Lib.hid (show wrap64 (wrap64 (-wrap64 (u - 1)) - 1) = q by unfold wrap64; omega)
        have e3 : IntKind.u64.wrap (u - 1) = u - 1 := by rw [IntKind.wrap_u64]; omega
        clear h1 h2 hz hu' hbig
        go_wp2
        go_ret2
        exact ⟨by show Ending.returned (.tuple #[.int .i64 (wrap64 (wrap64 (-wrap64 (u - 1)) - 1)), .bool true]) = _; rw [E2.out], HE.out⟩
      · have e1 : 9223372036854775808 < u := by omega
        clear h1 hz hu' hbig
        go_wp2
        go_ret2
        exact ⟨rfl, HE.out⟩
    · have hs : sg z = false := sg_f (by omega)
      have hu : mg z = z := mg_f (by omega)
      rw [hs] at x2
      rw [hu] at hbig ⊢
      clear hs hu
      rcases hq with ⟨h1, h2, rfl, rfl⟩ | ⟨h1, rfl, rfl⟩
      · have e1 : q ≤ 9223372036854775807 := h2
        have E2 := Lib.hid (show wrap64 q = q by unfold wrap64; omega)
        clear h1 h2 hz hbig
        go_wp2
        go_ret2
        exact ⟨by first | rfl | (show Ending.returned (.tuple #[.int .i64 (wrap64 q), .bool true]) = _; rw [E2.out]), HE.out⟩
      · have e1 : 9223372036854775807 < z := by omega
        clear h1 hz hbig
        go_wp2
        go_ret2
        exact ⟨rfl, HE.out⟩
end
end Go.Proofs.YtgahnchfefngeaaGreatDoor
