/- Fractions: when one may be; their texts. Plain: no program, no walk. -/
import Derived.Test.YtfdpddlefobcpaaGreatDoorRatMath
namespace Go.Proofs.YtfdpddlefobcpaaGreatDoor
set_option linter.unusedVariables false
set_option maxRecDepth 20000
namespace N
open Go.Lib (decDigits nDigits nDigits_small nDigits_big nDigits_pos lt_pow_nDigits decDigits_length)
/-- has a fraction the form that results have? -/
def mayR (b : Bool) (xs ds : List Int) : Bool := mayB b xs && (mayB false ds && (!decide (val B ds = 0) && decide (gI (val B xs) (val B ds) = 1)))
theorem mayB_iff {b : Bool} {xs : List Int} (hd : Dg B xs) : mayB b xs = true ↔ xs = limbs (val B xs) ∧ (b = true → 0 < val B xs) := by
  have h0 := val_nonneg (b := B) (by decide) hd
  have hz := nn_zero_iff hd
  unfold mayB
  rw [Bool.and_eq_true, decide_eq_true_iff]
  constructor
  · rintro ⟨h1, h2⟩
    refine ⟨by rw [limbs_of hd, tr_full h1], fun hb => ?_⟩
    subst hb
    have h3 : ¬ xs.length = 0 := by simpa using h2
    apply Classical.byContradiction
    intro hc
    have : nn xs = 0 := hz.2 (by omega)
    omega
  · rintro ⟨h1, h2⟩
    have h3 : nn xs = xs.length := by rw [h1]; exact limbs_nn _
    refine ⟨h3, ?_⟩
    cases b with
    | false => rfl
    | true =>
      have h4 := h2 rfl
      have h5 : ¬ xs.length = 0 := fun e => by
        have : nn xs = 0 := by omega
        have := hz.1 this
        omega
      rw [decide_eq_false h5]; rfl
theorem mayR_iff {b : Bool} {xs ds : List Int} (hx : Dg B xs) (hy : Dg B ds) {r : Rat} (hr : rv b (val B xs) (val B ds) = r) : mayR b xs ds = true ↔ 0 < val B ds ∧ b = sg r.num ∧ xs = limbs (mg r.num) ∧ ds = limbs r.den := by
  have hv := val_nonneg (b := B) (by decide) hx
  have hd := val_nonneg (b := B) (by decide) hy
  subst hr
  unfold mayR
  rw [Bool.and_eq_true, Bool.and_eq_true, Bool.and_eq_true, mayB_iff hx, mayB_iff hy]
  constructor
  · rintro ⟨⟨h1, h2⟩, ⟨h3, _⟩, h4, h5⟩
    have h6 : ¬ val B ds = 0 := by simpa using h4
    have h7 : gI (val B xs) (val B ds) = 1 := of_decide_eq_true h5
    obtain ⟨e1, e2⟩ := rv_nd (b := b) hv (show 0 < val B ds by omega)
    rw [h7, Int.ediv_one] at e1 e2
    refine ⟨by omega, ?_, ?_, ?_⟩
    · rw [e1, sg_iv hv]
      cases b with
      | false => rfl
      | true => rw [decide_eq_true (h2 rfl)]; rfl
    · rw [e1, mg_iv hv]; exact h1
    · rw [e2]; exact h3
  · rintro ⟨h0, h1, h2, h3⟩
    have e1 : val B xs = mg (rv b (val B xs) (val B ds)).num := by
      have := congrArg (val B) h2
      rwa [limbs_val (mg_nn _)] at this
    have e2 : val B ds = (rv b (val B xs) (val B ds)).den := by
      have := congrArg (val B) h3
      rwa [limbs_val (Int.le_of_lt (rden_pos _))] at this
    refine ⟨⟨by rw [← e1] at h2; exact h2, fun hb => ?_⟩, ⟨by rw [← e2] at h3; exact h3, fun hb => by cases hb⟩, by rw [decide_eq_false (by omega)]; rfl, decide_eq_true ?_⟩
    · rw [hb] at h1
      have h4 : (rv b (val B xs) (val B ds)).num < 0 := by rw [hb]; exact of_decide_eq_true h1.symm
      rw [e1]; unfold mg; omega
    · have := rv_gcd (rv b (val B xs) (val B ds))
      rwa [← e1, ← e2] at this
theorem mayR_told (r : Rat) : mayR (sg r.num) (limbs (mg r.num)) (limbs r.den) = true := by
  refine (mayR_iff (limbs_dg _) (limbs_dg _) (r := r) ?_).2 ⟨by rw [limbs_val (Int.le_of_lt (rden_pos r))]; exact rden_pos r, rfl, rfl, rfl⟩
  rw [limbs_val (mg_nn _), limbs_val (Int.le_of_lt (rden_pos r))]
  exact rv_self r
/-- the text of a fraction -/
def shR (r : Rat) : List UInt8 := if r.den = 1 then shI r.num else shI r.num ++ 47 :: decDigits r.den
/-- what stands ahead of the first / -/
def fP (bs : List UInt8) : List UInt8 := bs.takeWhile (fun x => x != 47)
def fQ (bs : List UInt8) : List UInt8 := bs.drop ((fP bs).length + 1)
def noS (bs : List UInt8) : Bool := decide ((fP bs).length = bs.length)
/-- why a text is no fraction's, 0 if it is -/
def rdK (bs : List UInt8) : Int := if noS bs = true then rdJ bs else if rdJ (fP bs) = 0 then (if rdE (fQ bs) = 0 then (if 1 < rdV (fQ bs) ∧ gI (mg (rdW (fP bs))) (rdV (fQ bs)) = 1 then 0 else 3) else rdE (fQ bs)) else rdJ (fP bs)
/-- what a text tells -/
def rdR (bs : List UInt8) : Rat := if noS bs = true then mkRat (rdW bs) 1 else mkRat (rdW (fP bs)) (rdV (fQ bs)).toNat
theorem fP_no (bs : List UInt8) : (47 : UInt8) ∉ fP bs := fun h => by
  have := List.all_takeWhile (p := fun x : UInt8 => x != 47) (l := bs)
  have h1 := List.all_eq_true.1 this 47 h
  simp at h1
theorem fP_of {p q : List UInt8} (h : (47 : UInt8) ∉ p) : fP (p ++ 47 :: q) = p ∧ fQ (p ++ 47 :: q) = q ∧ noS (p ++ 47 :: q) = false := by
  have h1 : fP (p ++ 47 :: q) = p := by
    unfold fP
    rw [List.takeWhile_append_of_pos (fun a ha => by simpa using fun e : a = 47 => h (e ▸ ha))]
    simp
  refine ⟨h1, ?_, ?_⟩
  · unfold fQ
    rw [h1]; simp
  · unfold noS
    rw [h1]; simp
theorem fP_none {p : List UInt8} (h : (47 : UInt8) ∉ p) : fP p = p ∧ noS p = true := by
  have h1 : fP p = p := by
    have := List.takeWhile_append_of_pos (p := fun x : UInt8 => x != 47) (l₁ := p) (l₂ := []) (fun a ha => by simpa using fun e : a = 47 => h (e ▸ ha))
    rw [List.append_nil, List.takeWhile_nil, List.append_nil] at this
    exact this
  exact ⟨h1, by unfold noS; rw [h1]; simp⟩
theorem f_split {bs : List UInt8} (h : noS bs = false) : bs = fP bs ++ 47 :: fQ bs := by
  have h1 : bs.takeWhile (fun x => x != 47) ++ bs.dropWhile (fun x => x != 47) = bs := List.takeWhile_append_dropWhile
  cases hd : bs.dropWhile (fun x => x != 47) with
  | nil =>
    rw [hd, List.append_nil] at h1
    unfold noS fP at h
    rw [h1] at h
    simp at h
  | cons x t =>
    rw [hd] at h1
    have hx : x = 47 := by
      have h2 : (bs.dropWhile (fun x => x != 47)).head? = some x := by rw [hd]; rfl
      have h3 := List.head?_dropWhile_not (fun x : UInt8 => x != 47) bs
      rw [h2] at h3
      simpa using h3
    subst hx
    have h4 : fP bs = bs.takeWhile (fun x => x != 47) := rfl
    have h5 : fQ bs = t := by
      unfold fQ
      rw [h4]
      have h6 := congrArg (List.drop ((bs.takeWhile (fun x => x != 47)).length + 1)) h1
      rw [← h6, List.drop_append, List.drop_of_length_le (by omega), show (bs.takeWhile (fun x => x != 47)).length + 1 - (bs.takeWhile (fun x => x != 47)).length = 1 by omega]
      rfl
    rw [h5, h4]
    exact h1.symm
theorem shI_no (z : Int) : (47 : UInt8) ∉ shI z := by
  intro h
  have hd : ∀ u, (47 : UInt8) ∉ decDigits u := fun u hm => by
    have := dd_isD u 47 hm
    unfold IsD at this
    have h2 : (47 : UInt8).toNat = 47 := rfl
    omega
  by_cases hz : z < 0
  · rw [shI_neg hz] at h
    rcases List.mem_cons.1 h with e | e
    · exact absurd e (by decide)
    · exact hd _ e
  · rw [shI_pos (by omega)] at h
    exact hd _ h
theorem rd_shR {r : Rat} (h1 : nDigits r.num.natAbs ≤ 20000) (h2 : nDigits r.den ≤ 20000) : rdK (shR r) = 0 ∧ rdR (shR r) = r := by
  obtain ⟨e1, e2⟩ := rd_shI h1
  obtain ⟨e3, e4⟩ := rdV_dd h2
  have hp := rden_pos r
  unfold shR
  by_cases hd : r.den = 1
  · rw [if_pos hd]
    obtain ⟨f1, f2⟩ := fP_none (shI_no r.num)
    unfold rdK rdR
    rw [if_pos f2, if_pos f2, e1, e2]
    refine ⟨rfl, ?_⟩
    have := Rat.mkRat_self r
    rwa [hd] at this
  · rw [if_neg hd]
    obtain ⟨f1, f2, f3⟩ := fP_of (q := decDigits r.den) (shI_no r.num)
    unfold rdK rdR
    rw [f3, if_neg Bool.false_ne_true, if_neg Bool.false_ne_true, f1, f2, e1, if_pos rfl, e3, if_pos rfl, e4, e2, rv_gcd, if_pos ⟨by omega, rfl⟩]
    exact ⟨rfl, by rw [Int.toNat_natCast]; exact Rat.mkRat_self r⟩
theorem sh_rdR {bs : List UInt8} (h : rdK bs = 0) : shR (rdR bs) = bs := by
  unfold rdK at h
  unfold rdR
  cases hn : noS bs with
  | true =>
    rw [hn, if_pos rfl] at h
    rw [if_pos rfl]
    have h1 : mkRat (rdW bs) 1 = ((rdW bs : Int) : Rat) := by rw [Rat.mkRat_eq_div]; grind
    rw [h1]
    unfold shR
    rw [if_pos (Rat.den_intCast _), Rat.num_intCast]
    exact sh_rdW h
  | false =>
    rw [hn, if_neg (by decide)] at h
    rw [if_neg (by decide)]
    by_cases h1 : rdJ (fP bs) = 0
    · rw [if_pos h1] at h
      by_cases h2 : rdE (fQ bs) = 0
      · rw [if_pos h2] at h
        by_cases h3 : 1 < rdV (fQ bs) ∧ gI (mg (rdW (fP bs))) (rdV (fQ bs)) = 1
        · obtain ⟨h4, h5⟩ := h3
          have hne : (rdV (fQ bs)).toNat ≠ 0 := by omega
          have hco : (rdW (fP bs)).natAbs.Coprime (rdV (fQ bs)).toNat := by
            unfold gI mg at h5
            rw [Int.toNat_natCast] at h5
            exact_mod_cast h5
          rw [← Rat.mk_eq_mkRat _ _ hne hco]
          unfold shR
          show (if (rdV (fQ bs)).toNat = 1 then shI (rdW (fP bs)) else shI (rdW (fP bs)) ++ 47 :: decDigits (rdV (fQ bs)).toNat) = bs
          rw [if_neg (by omega), sh_rdW h1, dd_rdV h2]
          exact (f_split hn).symm
        · rw [if_neg h3] at h; exact absurd h (by decide)
      · rw [if_neg h2] at h; exact absurd h h2
    · rw [if_neg h1] at h; exact absurd h h1
end N
end Go.Proofs.YtfdpddlefobcpaaGreatDoor
