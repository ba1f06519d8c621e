/- Plain arithmetic of decimal texts: the value of a row of digits and back, groups of digits, order. No program, no walk. -/
import Derived.Lib.ItoaNum
import GoSem.Op.String
namespace Go.Proofs.YtbadbjmhmadbmaaDoor
set_option linter.unusedVariables false
set_option maxRecDepth 20000
namespace N
open Go.Lib (decDigits nDigits nDigits_small nDigits_big nDigits_pos lt_pow_nDigits decDigits_length)
/-- what a row of digits tells -/
def dv (bs : List UInt8) : Nat := bs.foldl (fun a b => a * 10 + (b.toNat - 48)) 0
def IsD (b : UInt8) : Prop := 48 ≤ b.toNat ∧ b.toNat ≤ 57
instance (b : UInt8) : Decidable (IsD b) := by unfold IsD; infer_instance
/-- the digits of a natural, and nothing else -/
def GoodD (bs : List UInt8) : Prop := bs ≠ [] ∧ (∀ b ∈ bs, IsD b) ∧ (bs.head? = some 48 → bs.length = 1)
theorem dv_nil : dv [] = 0 := rfl
theorem dv_snoc (bs : List UInt8) (b : UInt8) : dv (bs ++ [b]) = dv bs * 10 + (b.toNat - 48) := by
  unfold dv; rw [List.foldl_append]; rfl
theorem dv_fold (bs : List UInt8) (a : Nat) : bs.foldl (fun a b => a * 10 + (b.toNat - 48)) a = a * 10 ^ bs.length + dv bs := by
  induction bs generalizing a with
  | nil => simp [dv]
  | cons b t ih =>
    unfold dv
    rw [List.foldl_cons, List.foldl_cons, ih, ih (0 * 10 + (b.toNat - 48)), List.length_cons, Nat.pow_succ, Nat.add_mul, Nat.add_mul, Nat.zero_mul, Nat.zero_add, Nat.mul_assoc, Nat.mul_comm 10, Nat.add_assoc]
theorem dv_append (x y : List UInt8) : dv (x ++ y) = dv x * 10 ^ y.length + dv y := by
  rw [← dv_fold y (dv x)]; unfold dv; rw [List.foldl_append]
theorem dv_cons (b : UInt8) (t : List UInt8) : dv (b :: t) = (b.toNat - 48) * 10 ^ t.length + dv t := by
  have h := dv_append [b] t
  rw [show dv [b] = b.toNat - 48 by simp [dv]] at h
  exact h
theorem dv_one (b : UInt8) : dv [b] = b.toNat - 48 := by simp [dv]
theorem dig_nat {d : Nat} (h : d < 10) : (UInt8.ofNat (48 + d)).toNat = 48 + d := by
  rw [UInt8.toNat_ofNat']; omega
theorem dig_isD {d : Nat} (h : d < 10) : IsD (UInt8.ofNat (48 + d)) := by unfold IsD; rw [dig_nat h]; omega
theorem isD_dig {b : UInt8} (h : IsD b) : UInt8.ofNat (48 + (b.toNat - 48)) = b := by
  unfold IsD at h
  rw [show 48 + (b.toNat - 48) = b.toNat by omega]
  exact UInt8.ofNat_toNat
theorem dd_small {u : Nat} (h : u < 10) : decDigits u = [UInt8.ofNat (48 + u)] := by rw [decDigits, dif_pos h]
theorem dd_big {u : Nat} (h : ¬ u < 10) : decDigits u = decDigits (u / 10) ++ [UInt8.ofNat (48 + u % 10)] := by rw [decDigits, dif_neg h]
theorem dd_zero : decDigits 0 = [48] := by rw [dd_small (by omega)]; rfl
theorem dv_dd (u : Nat) : dv (decDigits u) = u := by
  induction u using Nat.strongRecOn with
  | _ u ih =>
    by_cases h : u < 10
    · rw [dd_small h, dv_one, dig_nat h]; omega
    · rw [dd_big h, dv_snoc, ih (u / 10) (by omega), dig_nat (by omega)]; omega
theorem dd_isD (u : Nat) : ∀ b ∈ decDigits u, IsD b := by
  induction u using Nat.strongRecOn with
  | _ u ih =>
    by_cases h : u < 10
    · rw [dd_small h]; intro b hb; rw [List.mem_singleton.1 hb]; exact dig_isD h
    · rw [dd_big h]; intro b hb
      rcases List.mem_append.1 hb with hb | hb
      · exact ih (u / 10) (by omega) b hb
      · rw [List.mem_singleton.1 hb]; exact dig_isD (by omega)
theorem dd_ne (u : Nat) : decDigits u ≠ [] := by
  intro h; have h1 := decDigits_length u; rw [h] at h1; have := nDigits_pos u; simp at h1; omega
theorem dd_inj {u v : Nat} (h : decDigits u = decDigits v) : u = v := by rw [← dv_dd u, ← dv_dd v, h]
theorem head_append {x y : List UInt8} (h : x ≠ []) : (x ++ y).head? = x.head? := by cases x with | nil => exact absurd rfl h | cons a t => rfl
theorem dd_head (u : Nat) (h : 0 < u) : (decDigits u).head? ≠ some 48 := by
  induction u using Nat.strongRecOn with
  | _ u ih =>
    by_cases h' : u < 10
    · rw [dd_small h']; intro e
      have e1 : UInt8.ofNat (48 + u) = 48 := by simpa using e
      have e2 := dig_nat h'
      rw [e1] at e2
      have : (48 : UInt8).toNat = 48 := rfl
      omega
    · rw [dd_big h', head_append (dd_ne _)]
      exact ih (u / 10) (by omega) (by omega)
theorem good_dd (u : Nat) : GoodD (decDigits u) := by
  refine ⟨dd_ne u, dd_isD u, fun h => ?_⟩
  by_cases h0 : u = 0
  · rw [h0, dd_zero]; rfl
  · exact absurd h (dd_head u (by omega))
theorem dd_ten {u d : Nat} (hu : 0 < u) (hd : d < 10) : decDigits (u * 10 + d) = decDigits u ++ [UInt8.ofNat (48 + d)] := by
  rw [dd_big (by omega), show (u * 10 + d) / 10 = u by omega, show (u * 10 + d) % 10 = d by omega]
theorem dd_dv : ∀ (k : Nat) (bs : List UInt8), bs.length = k → GoodD bs → decDigits (dv bs) = bs := by
  intro k
  induction k with
  | zero => intro bs hl h; exact absurd (List.eq_nil_of_length_eq_zero hl) h.1
  | succ k ih =>
    intro bs hl ⟨h0, hd, hz⟩
    have hs : bs = bs.dropLast ++ [bs.getLast h0] := (List.dropLast_concat_getLast h0).symm
    obtain ⟨t, ht⟩ : ∃ t, bs.dropLast = t := ⟨_, rfl⟩
    obtain ⟨b, hb⟩ : ∃ b, bs.getLast h0 = b := ⟨_, rfl⟩
    rw [ht, hb] at hs
    clear ht hb
    subst hs
    have hbD : IsD b := hd b (by simp)
    have hbd := hbD
    unfold IsD at hbd
    by_cases htn : t = []
    · subst htn
      rw [List.nil_append, dv_one, dd_small (by omega), isD_dig hbD]
    · have hg : GoodD t := ⟨htn, fun c hc => hd c (List.mem_append_left _ hc), fun h => by
        rw [← head_append (y := [b]) htn] at h
        have h1 := hz h
        have h2 : t.length ≠ 0 := fun e => htn (List.eq_nil_of_length_eq_zero e)
        rw [List.length_append, List.length_singleton] at h1
        omega⟩
      have he := ih t (by rw [List.length_append, List.length_singleton] at hl; omega) hg
      have hp : 0 < dv t := by
        rcases Nat.eq_zero_or_pos (dv t) with e | e
        · rw [e, dd_zero] at he
          have h1 := hz (by rw [head_append htn, ← he]; rfl)
          rw [← he] at h1
          simp at h1
        · exact e
      rw [dv_snoc, dd_ten hp (by omega), he, isD_dig hbD]
theorem dd_of_good {bs : List UInt8} (h : GoodD bs) : decDigits (dv bs) = bs := dd_dv _ bs rfl h
theorem dv_lt (bs : List UInt8) (h : ∀ b ∈ bs, IsD b) : dv bs < 10 ^ bs.length := by
  induction bs with
  | nil => simp [dv]
  | cons b t ih =>
    have h1 := ih fun c hc => h c (List.mem_cons_of_mem _ hc)
    have hb := h b List.mem_cons_self
    unfold IsD at hb
    rw [dv_cons, List.length_cons, Nat.pow_succ]
    have : (b.toNat - 48) * 10 ^ t.length ≤ 9 * 10 ^ t.length := Nat.mul_le_mul_right _ (by omega)
    omega
theorem pow_le_nDigits {u : Nat} (h : 0 < u) : 10 ^ (nDigits u - 1) ≤ u := by
  induction u using Nat.strongRecOn with
  | _ u ih =>
    by_cases h' : u < 10
    · rw [nDigits_small h']; exact (show 1 ≤ u from h)
    · rw [nDigits_big h']
      have h1 := ih (u / 10) (by omega) (by omega)
      have h2 := nDigits_pos (u / 10)
      rw [show nDigits (u / 10) + 1 - 1 = (nDigits (u / 10) - 1) + 1 by omega, Nat.pow_succ]
      omega
theorem lt_of_nDigits {u v : Nat} (h : nDigits u < nDigits v) : u < v := by
  have h1 := lt_pow_nDigits u
  rcases Nat.eq_zero_or_pos v with e | e
  · subst e; rw [nDigits_small (u := 0) (by omega)] at h; have := nDigits_pos u; omega
  · have h2 := pow_le_nDigits e
    have h3 : 10 ^ nDigits u ≤ 10 ^ (nDigits v - 1) := Nat.pow_le_pow_right (by omega) (by omega)
    omega
theorem less_dv : ∀ (x y : List UInt8), x.length = y.length → (∀ b ∈ x, IsD b) → (∀ b ∈ y, IsD b) → Go.Op.bytesLess x y = decide (dv x < dv y) := by
  intro x
  induction x with
  | nil => intro y hl _ _; cases y with
    | nil => rfl
    | cons b t => simp at hl
  | cons a x ih =>
    intro y hl hx hy
    cases y with
    | nil => simp at hl
    | cons b y =>
      have hl' : x.length = y.length := by simpa using hl
      have hx' : ∀ c ∈ x, IsD c := fun c hc => hx c (List.mem_cons_of_mem _ hc)
      have hy' : ∀ c ∈ y, IsD c := fun c hc => hy c (List.mem_cons_of_mem _ hc)
      have h1 := dv_lt x hx'
      have h2 := dv_lt y hy'
      have ha := hx a List.mem_cons_self
      have hb := hy b List.mem_cons_self
      unfold IsD at ha hb
      rw [← hl'] at h2
      unfold Go.Op.bytesLess
      rw [ih y hl' hx' hy', dv_cons, dv_cons, ← hl']
      have hlt : (a < b) = (a.toNat < b.toNat) := propext UInt8.lt_iff_toNat_lt
      have heq : (a == b) = decide (a.toNat = b.toNat) := by
        rw [Bool.eq_iff_iff, beq_iff_eq, decide_eq_true_iff, UInt8.toNat_inj]
      rw [heq]
      obtain ⟨P, hP⟩ : ∃ P, 10 ^ x.length = P := ⟨_, rfl⟩
      rw [hP] at h1 h2 ⊢
      rw [Bool.eq_iff_iff, Bool.or_eq_true, Bool.and_eq_true, decide_eq_true_iff, decide_eq_true_iff, decide_eq_true_iff, decide_eq_true_iff, hlt]
      obtain ⟨p, hp⟩ : ∃ p, a.toNat - 48 = p := ⟨_, rfl⟩
      obtain ⟨q, hq⟩ : ∃ q, b.toNat - 48 = q := ⟨_, rfl⟩
      rw [hp, hq]
      constructor
      · rintro (h | ⟨h, h'⟩)
        · have : (p + 1) * P ≤ q * P := Nat.mul_le_mul_right _ (by omega)
          rw [Nat.add_mul, Nat.one_mul] at this; omega
        · have : p = q := by omega
          rw [this]; omega
      · intro h
        rcases Nat.lt_trichotomy p q with h' | h' | h'
        · left; omega
        · right; subst h'; exact ⟨by omega, by omega⟩
        · have : (q + 1) * P ≤ p * P := Nat.mul_le_mul_right _ (by omega)
          rw [Nat.add_mul, Nat.one_mul] at this; omega
/-- of as many digits the texts stand as the naturals do -/
theorem less_dd {u v : Nat} (h : (decDigits u).length = (decDigits v).length) : Go.Op.bytesLess (decDigits u) (decDigits v) = decide (u < v) := by
  rw [less_dv _ _ h (dd_isD u) (dd_isD v), dv_dd, dv_dd]
/-- just k digits, 0s ahead -/
def padD : Nat → Nat → List UInt8
  | 0, _ => []
  | k + 1, r => padD k (r / 10) ++ [UInt8.ofNat (48 + r % 10)]
theorem padD_length : ∀ k r, (padD k r).length = k := by
  intro k; induction k with
  | zero => intro r; rfl
  | succ k ih => intro r; unfold padD; rw [List.length_append, ih, List.length_singleton]
theorem padD_isD : ∀ k r, ∀ b ∈ padD k r, IsD b := by
  intro k; induction k with
  | zero => intro r b hb; cases hb
  | succ k ih =>
    intro r b hb; unfold padD at hb
    rcases List.mem_append.1 hb with hb | hb
    · exact ih _ b hb
    · rw [List.mem_singleton.1 hb]; exact dig_isD (by omega)
/-- digits, and a group of k digits behind them -/
theorem dd_pad : ∀ (k q r : Nat), 0 < q → r < 10 ^ k → decDigits (q * 10 ^ k + r) = decDigits q ++ padD k r := by
  intro k; induction k with
  | zero => intro q r hq hr; rw [show r = 0 by simpa using hr]; simp [padD]
  | succ k ih =>
    intro q r hq hr
    rw [Nat.pow_succ] at hr ⊢
    have h1 := ih q (r / 10) hq (by omega)
    have hp : 0 < 10 ^ k := Nat.pow_pos (by omega)
    have hq1 : 1 * 10 ^ k ≤ q * 10 ^ k := Nat.mul_le_mul_right _ hq
    rw [← Nat.mul_assoc]
    unfold padD
    rw [show q * 10 ^ k * 10 + r = (q * 10 ^ k + r / 10) * 10 + r % 10 by omega, dd_ten (by omega) (by omega), h1, List.append_assoc]
theorem padD_add : ∀ (k j q r : Nat), r < 10 ^ k → padD (j + k) (q * 10 ^ k + r) = padD j q ++ padD k r := by
  intro k; induction k with
  | zero => intro j q r hr; rw [show r = 0 by simpa using hr]; simp [padD]
  | succ k ih =>
    intro j q r hr
    rw [Nat.pow_succ] at hr ⊢
    have h1 := ih j q (r / 10) (by omega)
    rw [← Nat.mul_assoc, ← Nat.add_assoc]
    rw [show padD (j + k + 1) (q * 10 ^ k * 10 + r) = padD (j + k) ((q * 10 ^ k * 10 + r) / 10) ++ [UInt8.ofNat (48 + (q * 10 ^ k * 10 + r) % 10)] from rfl]
    rw [show padD (k + 1) r = padD k (r / 10) ++ [UInt8.ofNat (48 + r % 10)] from rfl]
    rw [show (q * 10 ^ k * 10 + r) / 10 = q * 10 ^ k + r / 10 by omega, show (q * 10 ^ k * 10 + r) % 10 = r % 10 by omega, h1, List.append_assoc]
theorem dv_pad : ∀ (k r : Nat), r < 10 ^ k → dv (padD k r) = r := by
  intro k; induction k with
  | zero => intro r hr; rw [show r = 0 by simpa using hr]; rfl
  | succ k ih =>
    intro r hr
    rw [Nat.pow_succ] at hr
    unfold padD
    rw [dv_snoc, ih (r / 10) (by omega), dig_nat (by omega)]; omega
theorem padD_zero : ∀ k, padD k 0 = List.replicate k 48 := by
  intro k; induction k with
  | zero => rfl
  | succ k ih => unfold padD; rw [show (0 : Nat) / 10 = 0 from rfl, ih, List.replicate_succ']; rfl
/-- a group's digits: its own, with 0s ahead -/
theorem padD_dd : ∀ (k r : Nat), r < 10 ^ k → 1 ≤ k → nDigits r ≤ k ∧ padD k r = List.replicate (k - nDigits r) 48 ++ decDigits r := by
  intro k; induction k with
  | zero => intro r hr hk; omega
  | succ k ih =>
    intro r hr _
    by_cases h : r < 10
    · rw [nDigits_small h, dd_small h]
      refine ⟨by omega, ?_⟩
      unfold padD
      rw [show r / 10 = 0 by omega, padD_zero, show k + 1 - 1 = k by omega, show r % 10 = r by omega]
    · have hk : 1 ≤ k := by
        rcases Nat.eq_zero_or_pos k with e | e
        · subst e; simp at hr; omega
        · exact e
      rw [Nat.pow_succ] at hr
      obtain ⟨h1, h2⟩ := ih (r / 10) (by omega) hk
      rw [nDigits_big h, dd_big h]
      refine ⟨by omega, ?_⟩
      unfold padD
      rw [h2, show k + 1 - (nDigits (r / 10) + 1) = k - nDigits (r / 10) by omega, List.append_assoc]
/-- is it a digit? -/
def isDb (b : UInt8) : Bool := decide (48 ≤ b.toNat) && decide (b.toNat ≤ 57)
theorem isDb_iff (b : UInt8) : isDb b = true ↔ IsD b := by unfold isDb IsD; rw [Bool.and_eq_true, decide_eq_true_iff, decide_eq_true_iff]
/-- why a text is no natural's digits, 0 if it is -/
def rdE (bs : List UInt8) : Int := if bs.length = 0 then 4 else if bs.all isDb = false then 3 else if (bs.getD 0 0).toNat = 48 ∧ 1 < bs.length then 3 else if 20000 < bs.length then 5 else 0
/-- what a text tells, 0 if nothing -/
def rdV (bs : List UInt8) : Int := if rdE bs = 0 then (dv bs : Int) else 0
theorem rdV_nonneg (bs : List UInt8) : 0 ≤ rdV bs := by unfold rdV; split <;> omega
theorem all_iff (bs : List UInt8) : bs.all isDb = true ↔ ∀ j, j < bs.length → IsD (bs.getD j 0) := by
  rw [List.all_eq_true]
  constructor
  · intro h j hj
    rw [List.getD_eq_getElem?_getD, List.getElem?_eq_getElem hj]
    exact (isDb_iff _).1 (h _ (List.getElem_mem hj))
  · intro h b hb
    obtain ⟨j, hj, rfl⟩ := List.mem_iff_getElem.1 hb
    have := h j hj
    rw [List.getD_eq_getElem?_getD, List.getElem?_eq_getElem hj] at this
    exact (isDb_iff _).2 this
theorem rdE_short {bs : List UInt8} (h : bs.length = 0) : rdE bs = 4 := by unfold rdE; rw [if_pos h]
theorem rdE_form {bs : List UInt8} {k : Nat} (h : k < bs.length) (h1 : ¬ IsD (bs.getD k 0)) : rdE bs = 3 := by
  unfold rdE; rw [if_neg (by omega), if_pos]
  cases e : bs.all isDb
  · rfl
  · exact absurd ((all_iff bs).1 e k h) h1
theorem rdE_zero {bs : List UInt8} (h : bs.all isDb = true) (h1 : (bs.getD 0 0).toNat = 48) (h2 : 1 < bs.length) : rdE bs = 3 := by
  unfold rdE; rw [if_neg (by omega), if_neg (by rw [h]; decide), if_pos ⟨h1, h2⟩]
theorem rdE_long {bs : List UInt8} (h : bs.all isDb = true) (h1 : ¬ ((bs.getD 0 0).toNat = 48 ∧ 1 < bs.length)) (h2 : 20000 < bs.length) : rdE bs = 5 := by
  unfold rdE; rw [if_neg (by omega), if_neg (by rw [h]; decide), if_neg h1, if_pos h2]
theorem rdE_ok {bs : List UInt8} (h0 : bs.length ≠ 0) (h : bs.all isDb = true) (h1 : ¬ ((bs.getD 0 0).toNat = 48 ∧ 1 < bs.length)) (h2 : ¬ 20000 < bs.length) : rdE bs = 0 := by
  unfold rdE; rw [if_neg h0, if_neg (by rw [h]; decide), if_neg h1, if_neg h2]
theorem rdE_cases (bs : List UInt8) : rdE bs = 0 ∨ rdE bs = 3 ∨ rdE bs = 4 ∨ rdE bs = 5 := by
  unfold rdE; repeat' split
  all_goals simp
theorem head_getD (bs : List UInt8) (h : bs ≠ []) : bs.head? = some 48 ↔ (bs.getD 0 0).toNat = 48 := by
  cases bs with
  | nil => exact absurd rfl h
  | cons b t =>
    show some b = some 48 ↔ b.toNat = 48
    rw [Option.some.injEq]
    exact ⟨fun e => by rw [e]; rfl, fun e => UInt8.toNat_inj.1 e⟩
theorem rdE_iff (bs : List UInt8) : rdE bs = 0 ↔ GoodD bs ∧ bs.length ≤ 20000 := by
  constructor
  · intro h
    unfold rdE at h
    split at h
    · omega
    · rename_i h0
      split at h
      · omega
      · rename_i h1
        split at h
        · omega
        · rename_i h2
          split at h
          · omega
          · rename_i h3
            have hne : bs ≠ [] := fun e => h0 (by rw [e]; rfl)
            have ha : bs.all isDb = true := by cases e : bs.all isDb; exact absurd e h1; rfl
            refine ⟨⟨hne, fun b hb => (isDb_iff b).1 (List.all_eq_true.1 ha b hb), fun e => ?_⟩, by omega⟩
            rw [head_getD bs hne] at e
            have : ¬ 1 < bs.length := fun e' => h2 ⟨e, e'⟩
            omega
  · rintro ⟨⟨h0, h1, h2⟩, h3⟩
    refine rdE_ok (fun e => h0 (List.eq_nil_of_length_eq_zero e)) (List.all_eq_true.2 fun b hb => (isDb_iff b).2 (h1 b hb)) (fun ⟨e, e'⟩ => ?_) (by omega)
    rw [← head_getD bs h0] at e
    have := h2 e
    omega
theorem rdV_dd {v : Nat} (h : nDigits v ≤ 20000) : rdE (decDigits v) = 0 ∧ rdV (decDigits v) = (v : Int) := by
  have e : rdE (decDigits v) = 0 := (rdE_iff _).2 ⟨good_dd v, by rw [decDigits_length]; exact h⟩
  refine ⟨e, ?_⟩
  unfold rdV; rw [if_pos e, dv_dd]
theorem dd_rdV {bs : List UInt8} (h : rdE bs = 0) : decDigits (rdV bs).toNat = bs := by
  have hg := ((rdE_iff bs).1 h).1
  unfold rdV; rw [if_pos h, Int.toNat_natCast, dd_of_good hg]
end N
end Go.Proofs.YtbadbjmhmadbmaaDoor
