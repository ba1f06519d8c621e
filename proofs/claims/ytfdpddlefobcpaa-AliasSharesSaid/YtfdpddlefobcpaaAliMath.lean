/- Alias tables: how they are made of weights, what holds of them, what they pick; all strings by which a pair is drawn. No function of the program. -/
import Derived.Test.YtfdpddlefobcpaaFreMath
import Derived.Test.YtfdpddlefobcpaaBelMath
namespace Go.Proofs.Ytfdpddlefobcpaa
open Go.RowKit
set_option linter.unusedVariables false
set_option linter.unusedSimpArgs false
namespace N
/-! sums of whole numbers -/
def sumZ (f : Nat → Int) : Nat → Int
  | 0 => 0
  | n + 1 => sumZ f n + f n
section
variable {f g : Nat → Int} {n l : Nat}
theorem sumZ_congr (h : ∀ j, j < n → f j = g j) : sumZ f n = sumZ g n := by
  induction n with
  | zero => rfl
  | succ n ih => rw [sumZ, sumZ, ih (fun j hj => h j (by omega)), h n (by omega)]
theorem sumZ_plus : sumZ (fun j => f j + g j) n = sumZ f n + sumZ g n := by
  induction n with
  | zero => rfl
  | succ n ih => simp only [sumZ, ih]; omega
theorem sumZ_zero : sumZ (fun _ => 0) n = 0 := by
  induction n with
  | zero => rfl
  | succ n ih => simp only [sumZ, ih]; omega
theorem sumZ_nonneg (h : ∀ j, j < n → 0 ≤ f j) : 0 ≤ sumZ f n := by
  induction n with
  | zero => exact Int.le_refl _
  | succ n ih => have h1 := ih (fun j hj => h j (by omega)); have h2 := h n (by omega); simp only [sumZ]; omega
/-- where all but one are the same -/
theorem sumZ_but (hl : l < n) (h : ∀ j, j < n → j ≠ l → f j = g j) : sumZ f n = sumZ g n + (f l - g l) := by
  induction n with
  | zero => omega
  | succ n ih =>
    by_cases e : l = n
    · subst e
      rw [sumZ, sumZ, sumZ_congr (fun j hj => h j (by omega) (by omega))]
      omega
    · rw [sumZ, sumZ, ih (by omega) (fun j hj hne => h j (by omega) hne), h n (by omega) (fun h' => e h'.symm)]
      omega
theorem sumZ_one (x : Int) (hl : l < n) : sumZ (fun j => if j = l then x else 0) n = x := by
  rw [sumZ_but (g := fun _ => 0) hl (fun j _ hne => if_neg hne), sumZ_zero]
  simp
end
/-- the number at a place put in place of what was there -/
def up {α : Type} (f : Nat → α) (k : Nat) (x : α) : Nat → α := fun j => if j = k then x else f j
section
variable {α : Type} {f : Nat → α} {k j : Nat} {x : α}
theorem up_at : up f k x k = x := if_pos rfl
theorem up_far (h : j ≠ k) : up f k x j = f j := if_neg h
end
/-- at work: heights, cuts, other places, the low list and the high one (the last one first) -/
structure Al where
  h : Nat → Int
  c : Nat → Int
  o : Nat → Nat
  lo : List Nat
  hi : List Nat
def Al.cut (W : Int) (s : Al) (l h : Nat) (lo hi : List Nat) : Al :=
  if s.h h - (W - s.h l) < W then ⟨up s.h h (s.h h - (W - s.h l)), up s.c l (s.h l), up s.o l h, h :: lo, hi⟩
  else ⟨up s.h h (s.h h - (W - s.h l)), up s.c l (s.h l), up s.o l h, lo, h :: hi⟩
def runA (W : Int) : Nat → Al → Al
  | 0, s => s
  | k + 1, s => match s.lo, s.hi with
    | l :: lo, h :: hi => runA W k (s.cut W l h lo hi)
    | _, _ => s
section
variable {W : Int} {k : Nat} {s : Al} {l h : Nat} {lo hi : List Nat}
theorem runA_step (e1 : s.lo = l :: lo) (e2 : s.hi = h :: hi) : runA W (k + 1) s = runA W k (s.cut W l h lo hi) := by
  rw [runA, e1, e2]
theorem runA_end (e : s.lo = [] ∨ s.hi = []) : runA W k s = s := by
  cases k with
  | zero => rfl
  | succ k =>
    rw [runA]
    rcases e with e | e
    · rw [e]
    · rw [e]; cases s.lo <;> rfl
end
/-- which of the first k heights are low, which are high -/
def lows (f : Nat → Int) (W : Int) : Nat → List Nat
  | 0 => []
  | k + 1 => if f k < W then k :: lows f W k else lows f W k
def highs (f : Nat → Int) (W : Int) : Nat → List Nat
  | 0 => []
  | k + 1 => if f k < W then highs f W k else k :: highs f W k
section
variable {f : Nat → Int} {W : Int} {k j : Nat}
theorem lows_mem : j ∈ lows f W k ↔ j < k ∧ f j < W := by
  induction k with
  | zero => simp [lows]
  | succ k ih =>
    rw [lows]
    split
    · rename_i h
      rw [List.mem_cons, ih]
      constructor
      · rintro (rfl | ⟨h1, h2⟩)
        · exact ⟨Nat.lt_succ_self _, h⟩
        · exact ⟨by omega, h2⟩
      · rintro ⟨h1, h2⟩
        by_cases e : j = k
        · exact .inl e
        · exact .inr ⟨by omega, h2⟩
    · rename_i h
      rw [ih]
      constructor
      · rintro ⟨h1, h2⟩; exact ⟨by omega, h2⟩
      · rintro ⟨h1, h2⟩
        refine ⟨?_, h2⟩
        by_cases e : j = k
        · subst e; exact absurd h2 h
        · omega
theorem highs_mem : j ∈ highs f W k ↔ j < k ∧ ¬ f j < W := by
  induction k with
  | zero => simp [highs]
  | succ k ih =>
    rw [highs]
    split
    · rename_i h
      rw [ih]
      constructor
      · rintro ⟨h1, h2⟩; exact ⟨by omega, h2⟩
      · rintro ⟨h1, h2⟩
        refine ⟨?_, h2⟩
        by_cases e : j = k
        · subst e; exact absurd h h2
        · omega
    · rename_i h
      rw [List.mem_cons, ih]
      constructor
      · rintro (rfl | ⟨h1, h2⟩)
        · exact ⟨Nat.lt_succ_self _, h⟩
        · exact ⟨by omega, h2⟩
      · rintro ⟨h1, h2⟩
        by_cases e : j = k
        · exact .inl e
        · exact .inr ⟨by omega, h2⟩
theorem lows_nodup : (lows f W k ++ highs f W k).Nodup := by
  induction k with
  | zero => exact List.nodup_nil
  | succ k ih =>
    rw [lows, highs]
    have hn : k ∉ lows f W k ++ highs f W k := fun h => by
      rcases List.mem_append.1 h with e | e
      · have := (lows_mem.1 e).1; omega
      · have := (highs_mem.1 e).1; omega
    split
    · rw [List.cons_append]; exact List.nodup_cons.2 ⟨hn, ih⟩
    · exact (List.perm_middle (a := k)).nodup_iff.2 (List.nodup_cons.2 ⟨hn, ih⟩)
theorem lows_len : (lows f W k).length + (highs f W k).length = k := by
  induction k with
  | zero => rfl
  | succ k ih =>
    rw [lows, highs]
    split <;> simp only [List.length_cons] <;> omega
/-- a sum over the two lists -/
def sumL (g : Nat → Int) : List Nat → Int
  | [] => 0
  | x :: t => g x + sumL g t
theorem sumL_app {g : Nat → Int} {a b : List Nat} : sumL g (a ++ b) = sumL g a + sumL g b := by
  induction a with
  | nil => simp [sumL]
  | cons x t ih => rw [List.cons_append, sumL, ih, sumL]; omega
theorem sumL_congr {g g' : Nat → Int} {a : List Nat} (h : ∀ x ∈ a, g x = g' x) : sumL g a = sumL g' a := by
  induction a with
  | nil => rfl
  | cons x t ih => rw [sumL, sumL, h x List.mem_cons_self, ih (fun y hy => h y (List.mem_cons_of_mem _ hy))]
theorem sumL_nonneg {g : Nat → Int} {a : List Nat} (h : ∀ x ∈ a, 0 ≤ g x) : 0 ≤ sumL g a := by
  induction a with
  | nil => exact Int.le_refl _
  | cons x t ih => have h1 := h x List.mem_cons_self; have h2 := ih (fun y hy => h y (List.mem_cons_of_mem _ hy)); rw [sumL]; omega
theorem sumL_neg {g : Nat → Int} {a : List Nat} (h : ∀ x ∈ a, g x < 0) (hz : 0 ≤ sumL g a) : a = [] := by
  cases a with
  | nil => rfl
  | cons x t =>
    have h1 := h x List.mem_cons_self
    have h2 : 0 ≤ sumL (fun y => - g y) t := sumL_nonneg (fun y hy => by have := h y (List.mem_cons_of_mem _ hy); omega)
    have h3 : ∀ b, sumL (fun y => - g y) b = - sumL g b := fun b => by
      induction b with
      | nil => rfl
      | cons y b ih => rw [sumL, sumL, ih]; omega
    rw [h3] at h2
    rw [sumL] at hz
    omega
theorem sumL_all {g : Nat → Int} {a : List Nat} (h : ∀ x ∈ a, 0 ≤ g x) (hz : sumL g a = 0) : ∀ x ∈ a, g x = 0 := by
  induction a with
  | nil => intro x hx; cases hx
  | cons y t ih =>
    have h1 := h y List.mem_cons_self
    have h2 := sumL_nonneg (fun x hx => h x (List.mem_cons_of_mem _ hx))
    rw [sumL] at hz
    intro x hx
    rcases List.mem_cons.1 hx with e | e
    · subst e; omega
    · exact ih (fun x hx => h x (List.mem_cons_of_mem _ hx)) (by omega) x e
theorem sumL_split {g : Nat → Int} : sumL g (lows f W k) + sumL g (highs f W k) = sumZ g k := by
  induction k with
  | zero => rfl
  | succ k ih =>
    rw [lows, highs]
    split <;> simp only [sumL, sumZ] <;> omega
end
/-- how many numbers pick i -/
def prs (c : Nat → Int) (o : Nat → Nat) (W : Int) (n i : Nat) : Int := sumZ (fun k => (if k = i then c k else 0) + (if o k = i then W - c k else 0)) n
/-- what holds at each turn -/
structure AlInv (W : Int) (n : Nat) (q : Nat → Int) (s : Al) : Prop where
  lt : ∀ j ∈ s.lo ++ s.hi, j < n ∧ s.c j = W ∧ s.o j = j
  low : ∀ j ∈ s.lo, 0 ≤ s.h j ∧ s.h j < W
  high : ∀ j ∈ s.hi, W ≤ s.h j ∧ s.h j ≤ q j
  nd : (s.lo ++ s.hi).Nodup
  off : ∀ j, j < n → j ∉ s.lo ++ s.hi → 0 ≤ s.c j ∧ s.c j < W ∧ s.o j ≠ j ∧ s.o j < n
  sum : sumL (fun j => s.h j - W) s.lo + sumL (fun j => s.h j - W) s.hi = 0
  prs : ∀ i, i < n → q i = prs s.c s.o W n i + (if i ∈ s.lo ++ s.hi then s.h i - W else 0)
  some : s.lo ++ s.hi ≠ []
section
variable {W : Int} {n : Nat} {q : Nat → Int} {s : Al} {l h : Nat} {lo hi : List Nat}
theorem AlInv.ne (I : AlInv W n q s) (e1 : s.lo = l :: lo) (e2 : s.hi = h :: hi) : l ≠ h ∧ l ∉ lo ∧ l ∉ hi ∧ h ∉ lo ∧ h ∉ hi := by
  have h1 := I.nd
  rw [e1, e2] at h1
  obtain ⟨a1, a2, a3⟩ := List.nodup_append.1 h1
  obtain ⟨b1, b2⟩ := List.nodup_cons.1 a1
  obtain ⟨c1, c2⟩ := List.nodup_cons.1 a2
  exact ⟨a3 l List.mem_cons_self h List.mem_cons_self, b1, fun e => a3 l List.mem_cons_self l (List.mem_cons_of_mem _ e) rfl, fun e => a3 h (List.mem_cons_of_mem _ e) h List.mem_cons_self rfl, c1⟩
theorem AlInv.cut (I : AlInv W n q s) (e1 : s.lo = l :: lo) (e2 : s.hi = h :: hi) : AlInv W n q (s.cut W l h lo hi) := by
  obtain ⟨n1, n2, n3, n4, n5⟩ := I.ne e1 e2
  obtain ⟨l0, l1⟩ := I.low l (by rw [e1]; exact List.mem_cons_self)
  obtain ⟨h0, h1⟩ := I.high h (by rw [e2]; exact List.mem_cons_self)
  obtain ⟨lt1, lc, lo1⟩ := I.lt l (by rw [e1]; exact List.mem_append_left _ List.mem_cons_self)
  obtain ⟨lt2, hc, ho1⟩ := I.lt h (by rw [e2]; exact List.mem_append_right _ List.mem_cons_self)
  obtain ⟨g, hg⟩ : ∃ g, s.h h - (W - s.h l) = g := ⟨_, rfl⟩
  have hnd := I.nd
  rw [e1, e2] at hnd
  have hmem : ∀ j, j ∈ s.lo ++ s.hi ↔ (j = l ∨ j = h ∨ j ∈ lo ∨ j ∈ hi) := fun j => by
    rw [e1, e2]; simp only [List.mem_append, List.mem_cons]; constructor
    · rintro ((a | a) | (a | a)) <;> simp [a]
    · rintro (a | a | a | a) <;> simp [a]
  -- what holds of both ways
  have key : ∀ (lo' hi' : List Nat), (∀ j, j ∈ lo' ++ hi' ↔ (j = h ∨ j ∈ lo ∨ j ∈ hi)) → (∀ j ∈ lo', (j = h ∧ g < W) ∨ j ∈ lo) → (∀ j ∈ hi', (j = h ∧ W ≤ g) ∨ j ∈ hi) → (lo' ++ hi').Nodup → (∀ f : Nat → Int, sumL f lo' + sumL f hi' = f h + sumL f lo + sumL f hi) →
      AlInv W n q ⟨up s.h h g, up s.c l (s.h l), up s.o l h, lo', hi'⟩ := by
    intro lo' hi' hm hl2 hh2 hnd' hsum
    have hold : ∀ j, (j = h ∨ j ∈ lo ∨ j ∈ hi) → j ≠ l := by
      rintro j (rfl | a | a) e
      · exact n1 e.symm
      · exact n2 (e ▸ a)
      · exact n3 (e ▸ a)
    have hin : ∀ j, (j = h ∨ j ∈ lo ∨ j ∈ hi) → j ∈ s.lo ++ s.hi := fun j hj => (hmem j).2 (.inr hj)
    refine ⟨fun j hj => ?_, fun j hj => ?_, fun j hj => ?_, hnd', fun j hj hn => ?_, ?_, fun i hin_ => ?_, fun e => ?_⟩
    · have hj := (hm j).1 hj
      obtain ⟨a, b, c⟩ := I.lt j (hin j hj)
      simp only [up_far (hold j hj)]
      exact ⟨a, b, c⟩
    · rcases hl2 j hj with ⟨rfl, hgw⟩ | hj
      · simp only [up_at]
        omega
      · simp only [up_far (show j ≠ h from fun e => n4 (e ▸ hj))]
        exact I.low j (by rw [e1]; exact List.mem_cons_of_mem _ hj)
    · rcases hh2 j hj with ⟨rfl, hgw⟩ | hj
      · simp only [up_at]
        omega
      · simp only [up_far (show j ≠ h from fun e => n5 (e ▸ hj))]
        exact I.high j (by rw [e2]; exact List.mem_cons_of_mem _ hj)
    · by_cases e : j = l
      · subst e
        simp only [up_at]
        exact ⟨l0, l1, fun e => n1 e.symm, lt2⟩
      · simp only [up_far e]
        refine I.off j hj fun hx => hn ((hm j).2 ?_)
        rcases (hmem j).1 hx with a | a
        · exact absurd a e
        · exact a
    · have h2 := I.sum
      rw [e1, e2] at h2
      simp only [sumL] at h2
      rw [hsum]
      simp only [up_at]
      rw [sumL_congr (g := fun j => up s.h h g j - W) (g' := fun j => s.h j - W) (a := lo) (fun x hx => by rw [up_far (show x ≠ h from fun e => n4 (e ▸ hx))]), sumL_congr (g := fun j => up s.h h g j - W) (g' := fun j => s.h j - W) (a := hi) (fun x hx => by rw [up_far (show x ≠ h from fun e => n5 (e ▸ hx))])]
      omega
    · have h2 := I.prs i hin_
      have h3 : N.prs (up s.c l (s.h l)) (up s.o l h) W n i = N.prs s.c s.o W n i + (((if l = i then s.h l else 0) + (if h = i then W - s.h l else 0)) - (if l = i then W else 0)) := by
        unfold N.prs
        rw [sumZ_but (l := l) lt1 (g := fun k => (if k = i then s.c k else 0) + (if s.o k = i then W - s.c k else 0)) (fun j _ hne => by rw [up_far hne, up_far hne])]
        simp only [up_at, lc, lo1]
        by_cases e : l = i <;> simp [e]
      rw [h3, h2]
      show _ = _ + (if i ∈ lo' ++ hi' then up s.h h g i - W else 0)
      by_cases ei : i = l
      · subst ei
        have a1 := (hmem i).2 (.inl rfl)
        have a2 : ¬ i ∈ lo' ++ hi' := fun e => hold i ((hm i).1 e) rfl
        have a3 : ¬ h = i := fun e => n1 e.symm
        simp only [if_pos a1, if_neg a2, if_neg a3, if_true]
        omega
      · have b1 : ¬ l = i := fun e => ei e.symm
        by_cases eh : i = h
        · subst eh
          have a1 := (hmem i).2 (.inr (.inl rfl))
          have a2 := (hm i).2 (.inl rfl)
          simp only [if_pos a1, if_pos a2, if_neg b1, if_true, up_at]
          omega
        · have b2 : ¬ h = i := fun e => eh e.symm
          rw [up_far eh]
          by_cases em : i ∈ lo ∨ i ∈ hi
          · have a1 := (hmem i).2 (.inr (.inr em))
            have a2 := (hm i).2 (.inr em)
            simp only [if_pos a1, if_pos a2, if_neg b1, if_neg b2]
            omega
          · have a1 : ¬ i ∈ s.lo ++ s.hi := fun e => by
              rcases (hmem i).1 e with a | a | a
              · exact ei a
              · exact eh a
              · exact em a
            have a2 : ¬ i ∈ lo' ++ hi' := fun e => by
              rcases (hm i).1 e with a | a
              · exact eh a
              · exact em a
            simp only [if_neg a1, if_neg a2, if_neg b1, if_neg b2]
            omega
    · have := (hm h).2 (.inl rfl)
      simp only at e
      rw [e] at this
      cases this
  have hnd2 : (h :: lo ++ hi).Nodup ∧ (lo ++ h :: hi).Nodup := by
    rw [List.cons_append] at hnd
    have h3 := (List.nodup_cons.1 hnd).2
    have h4 := (List.perm_middle (a := h) (l₁ := lo) (l₂ := hi)).nodup_iff.1 h3
    exact ⟨h4, h3⟩
  unfold Al.cut
  rw [hg]
  split
  · rename_i hw
    refine key (h :: lo) hi (fun j => by simp only [List.cons_append, List.mem_cons, List.mem_append]) (fun j hj => ?_) (fun j hj => .inr hj) hnd2.1 (fun f => by rw [sumL])
    rcases List.mem_cons.1 hj with e | e
    · exact .inl ⟨e, hw⟩
    · exact .inr e
  · rename_i hw
    refine key lo (h :: hi) (fun j => ?_) (fun j hj => .inr hj) (fun j hj => ?_) hnd2.2 (fun f => by rw [sumL]; omega)
    · simp only [List.mem_append, List.mem_cons]
      constructor
      · rintro (a | a | a) <;> simp [a]
      · rintro (a | a | a) <;> simp [a]
    · rcases List.mem_cons.1 hj with e | e
      · exact .inl ⟨e, by omega⟩
      · exact .inr e
theorem Al.cut_len : (s.cut W l h lo hi).lo.length + (s.cut W l h lo hi).hi.length = lo.length + hi.length + 1 := by
  unfold Al.cut
  split <;> simp only [List.length_cons] <;> omega
theorem AlInv.run {k : Nat} (I : AlInv W n q s) (hk : s.lo.length + s.hi.length ≤ k) : AlInv W n q (runA W k s) ∧ ((runA W k s).lo = [] ∨ (runA W k s).hi = []) := by
  induction k generalizing s with
  | zero => exact ⟨I, .inl (List.eq_nil_of_length_eq_zero (by rw [runA]; omega))⟩
  | succ k ih =>
    cases e1 : s.lo with
    | nil => rw [runA_end (.inl e1)]; exact ⟨I, .inl e1⟩
    | cons l lo =>
      cases e2 : s.hi with
      | nil => rw [runA_end (.inr e2)]; exact ⟨I, .inr e2⟩
      | cons h hi =>
        rw [runA_step e1 e2]
        refine ih (I.cut e1 e2) ?_
        rw [Al.cut_len]
        rw [e1, e2] at hk
        simp only [List.length_cons] at hk
        omega
/-- what holds of a table -/
structure Tab (W : Int) (n : Nat) (q : Nat → Int) (c : Nat → Int) (o : Nat → Nat) : Prop where
  cut : ∀ j, j < n → 0 ≤ c j ∧ c j ≤ W ∧ o j < n ∧ (c j = W ↔ o j = j)
  prs : ∀ i, i < n → prs c o W n i = q i
  some : ∃ j, j < n ∧ c j = W
theorem AlInv.fin (I : AlInv W n q s) (he : s.lo = [] ∨ s.hi = []) (hW : 0 < W) : Tab W n q s.c s.o := by
  have hh : ∀ j ∈ s.hi, 0 ≤ s.h j - W := fun j hj => by have := I.high j hj; omega
  have hlo : s.lo = [] := by
    rcases he with e | e
    · exact e
    · refine sumL_neg (g := fun j => s.h j - W) (fun j hj => by have := I.low j hj; omega) ?_
      have h2 := I.sum
      rw [e] at h2
      simp only [sumL] at h2
      omega
  have hz : ∀ j ∈ s.hi, s.h j - W = 0 := by
    refine sumL_all (g := fun j => s.h j - W) hh ?_
    have h2 := I.sum
    rw [hlo] at h2
    simp only [sumL] at h2
    omega
  refine ⟨fun j hj => ?_, fun i hi => ?_, ?_⟩
  · by_cases hm : j ∈ s.lo ++ s.hi
    · obtain ⟨_, h1, h2⟩ := I.lt j hm
      exact ⟨by omega, by omega, by omega, fun _ => h2, fun _ => h1⟩
    · obtain ⟨h1, h2, h3, h4⟩ := I.off j hj hm
      exact ⟨h1, by omega, h4, fun e => by omega, fun e => absurd e h3⟩
  · have h1 := I.prs i hi
    split at h1
    · rename_i hm
      rw [hlo, List.nil_append] at hm
      have := hz i hm
      omega
    · omega
  · cases e : s.lo ++ s.hi with
    | nil => exact absurd e I.some
    | cons j t =>
      have h1 := I.lt j (by rw [e]; exact List.mem_cons_self)
      exact ⟨j, h1.1, h1.2.1⟩
end
/-- the heights, and the table, of weights -/
def hts (ws : List Int) (i : Nat) : Int := (ws.length : Int) * ws.getD i 0
def al0 (ws : List Int) : Al := ⟨hts ws, fun _ => pre ws ws.length, fun i => i, lows (hts ws) (pre ws ws.length) ws.length, highs (hts ws) (pre ws ws.length) ws.length⟩
def altab (ws : List Int) : Al := runA (pre ws ws.length) ws.length (al0 ws)
def cutA (ws : List Int) : Nat → Int := (altab ws).c
def othA (ws : List Int) : Nat → Nat := (altab ws).o
section
variable {ws : List Int} {i k : Nat}
theorem hts_le (h : Wt ws) (hi : i < ws.length) : 0 ≤ hts ws i ∧ hts ws i ≤ 67108864 := by
  obtain ⟨x, hx, h0, h1⟩ := h.ok.at hi
  have h2 := h.l1
  have e : ws.getD i 0 = x := by rw [List.getD_eq_getElem?_getD, hx]; rfl
  unfold hts
  rw [e]
  obtain ⟨y, rfl⟩ := Int.eq_ofNat_of_zero_le h0
  obtain ⟨n, hn⟩ : ∃ n, ws.length = n := ⟨_, rfl⟩
  rw [hn] at h2 ⊢
  have h3 : n * y ≤ 64 * 1048576 := Nat.mul_le_mul h2 (by omega)
  rw [← Int.natCast_mul]
  omega
theorem hts_sum (h : k ≤ ws.length) : sumZ (hts ws) k = (ws.length : Int) * pre ws k := by
  induction k with
  | zero => rw [pre_zero, sumZ]; omega
  | succ k ih =>
    have hx : ws[k]? = some ws[k] := List.getElem?_eq_getElem (by omega)
    rw [sumZ, ih (by omega), pre_succ hx, Int.mul_add]
    unfold hts
    rw [List.getD_eq_getElem?_getD, hx]
    rfl
theorem al0_inv (h : Wt ws) : AlInv (pre ws ws.length) ws.length (hts ws) (al0 ws) := by
  have hW := h.pos
  have hl := h.l0
  refine ⟨fun j hj => ?_, fun j hj => ?_, fun j hj => ?_, lows_nodup, fun j hj hn => ?_, ?_, fun i hi => ?_, fun e => ?_⟩
  · refine ⟨?_, rfl, rfl⟩
    rcases List.mem_append.1 hj with e | e
    · exact (lows_mem.1 e).1
    · exact (highs_mem.1 e).1
  · have h1 := lows_mem.1 hj
    exact ⟨(hts_le h h1.1).1, h1.2⟩
  · have h1 := highs_mem.1 hj
    exact ⟨by have := h1.2; simp only [al0]; omega, Int.le_refl _⟩
  · refine absurd ?_ hn
    by_cases e : hts ws j < pre ws ws.length
    · exact List.mem_append_left _ (lows_mem.2 ⟨hj, e⟩)
    · exact List.mem_append_right _ (highs_mem.2 ⟨hj, e⟩)
  · simp only [al0]
    rw [sumL_split]
    have e : ∀ (n : Nat) (W : Int), sumZ (fun j => hts ws j - W) n = sumZ (hts ws) n - n * W := fun n W => by
      induction n with
      | zero => simp [sumZ]
      | succ n ih => rw [sumZ, ih, sumZ, Int.natCast_succ, Int.add_mul]; omega
    rw [e, hts_sum (Nat.le_refl _)]
    omega
  · have hm : i ∈ (al0 ws).lo ++ (al0 ws).hi := by
      by_cases e : hts ws i < pre ws ws.length
      · exact List.mem_append_left _ (lows_mem.2 ⟨hi, e⟩)
      · exact List.mem_append_right _ (highs_mem.2 ⟨hi, e⟩)
    rw [if_pos hm]
    simp only [al0]
    unfold prs
    rw [sumZ_congr (g := fun k => if k = i then pre ws ws.length else 0) (fun k _ => by simp), sumZ_one _ hi]
    omega
  · have h1 : (al0 ws).lo.length + (al0 ws).hi.length = ws.length := lows_len
    rw [← List.length_append, e] at h1
    simp at h1
    omega
theorem altab_tab (h : Wt ws) : Tab (pre ws ws.length) ws.length (hts ws) (cutA ws) (othA ws) := by
  obtain ⟨h1, h2⟩ := (al0_inv h).run (k := ws.length) (by have : (al0 ws).lo.length + (al0 ws).hi.length = ws.length := lows_len; omega)
  exact h1.fin h2 h.pos
end
/-! all weights so many times as great -/
def Al.by (b : Int) (s : Al) : Al := ⟨fun i => b * s.h i, fun i => b * s.c i, s.o, s.lo, s.hi⟩
section
variable {b W : Int} {s : Al} {k : Nat} {ws : List Int}
theorem up_by {f : Nat → Int} {k : Nat} {x : Int} : up (fun i => b * f i) k (b * x) = fun i => b * up f k x i := by
  funext j
  unfold up
  split <;> rfl
theorem runA_by (hb : 0 < b) : runA (b * W) k (s.by b) = (runA W k s).by b := by
  induction k generalizing s with
  | zero => rfl
  | succ k ih =>
    cases e1 : s.lo with
    | nil => rw [runA_end (.inl e1), runA_end (.inl (show (s.by b).lo = [] from e1))]
    | cons l lo =>
      cases e2 : s.hi with
      | nil => rw [runA_end (.inr e2), runA_end (.inr (show (s.by b).hi = [] from e2))]
      | cons h hi =>
        rw [runA_step e1 e2, runA_step (s := s.by b) e1 e2, ← ih]
        congr 1
        have e : b * s.h h - (b * W - b * s.h l) = b * (s.h h - (W - s.h l)) := by rw [Int.mul_sub, Int.mul_sub]
        have e3 : b * (s.h h - (W - s.h l)) < b * W ↔ s.h h - (W - s.h l) < W := ⟨fun h => Int.lt_of_mul_lt_mul_left h (by omega), fun h => Int.mul_lt_mul_of_pos_left h hb⟩
        unfold Al.cut
        show (if b * s.h h - (b * W - b * s.h l) < b * W then (_ : Al) else _) = _
        rw [e]
        by_cases hw : s.h h - (W - s.h l) < W
        · rw [if_pos (e3.2 hw), if_pos hw]
          unfold Al.by
          simp only
          rw [← up_by, ← up_by, e]
        · rw [if_neg (fun x => hw (e3.1 x)), if_neg hw]
          unfold Al.by
          simp only
          rw [← up_by, ← up_by, e]
theorem lows_by {f : Nat → Int} (hb : 0 < b) : lows (fun i => b * f i) (b * W) k = lows f W k ∧ highs (fun i => b * f i) (b * W) k = highs f W k := by
  induction k with
  | zero => exact ⟨rfl, rfl⟩
  | succ k ih =>
    have e3 : b * f k < b * W ↔ f k < W := ⟨fun h => Int.lt_of_mul_lt_mul_left h (by omega), fun h => Int.mul_lt_mul_of_pos_left h hb⟩
    rw [lows, lows, highs, highs, ih.1, ih.2]
    by_cases h : f k < W
    · simp [h, e3.2 h]
    · rw [if_neg h, if_neg (fun x => h (e3.1 x)), if_neg h, if_neg (fun x => h (e3.1 x))]; exact ⟨rfl, rfl⟩
theorem altab_by (hb : 0 < b) : cutA (ws.map (· * b)) = (fun i => b * cutA ws i) ∧ othA (ws.map (· * b)) = othA ws := by
  have e : al0 (ws.map (· * b)) = (al0 ws).by b := by
    have h1 : hts (ws.map (· * b)) = fun i => b * hts ws i := by
      funext i
      unfold hts
      rw [List.length_map, List.getD_eq_getElem?_getD, List.getElem?_map, List.getD_eq_getElem?_getD]
      cases ws[i]? with
      | none => simp
      | some x => simp only [Option.map_some, Option.getD_some]; rw [Int.mul_comm x b, Int.mul_left_comm]
    have h2 : pre (ws.map (· * b)) (ws.map (· * b)).length = b * pre ws ws.length := by rw [List.length_map, pre_map, Int.mul_comm]
    unfold al0 Al.by
    simp only
    rw [h2, List.length_map, h1, (lows_by hb).1, (lows_by hb).2]
  unfold cutA othA altab
  rw [e, List.length_map, pre_map, Int.mul_comm, runA_by hb]
  exact ⟨rfl, rfl⟩
end
/-- how many of the first k cuts are below W -/
def cutsN (c : Nat → Int) (W : Int) : Nat → Nat
  | 0 => 0
  | k + 1 => cutsN c W k + (if c k < W then 1 else 0)
theorem cutsN_le (c : Nat → Int) (W : Int) (k : Nat) : cutsN c W k ≤ k := by
  induction k with
  | zero => exact Nat.le_refl _
  | succ k ih => rw [cutsN]; split <;> omega
theorem cutsN_lt {c : Nat → Int} {W : Int} {k j : Nat} (hj : j < k) (h : c j = W) : cutsN c W k < k := by
  induction k with
  | zero => omega
  | succ k ih =>
    rw [cutsN]
    by_cases e : j = k
    · subst e
      rw [if_neg (by omega)]
      have := cutsN_le c W j
      omega
    · have := ih (by omega)
      split <;> omega
/-- what a place and a number pick -/
def pkA (c : Nat → Int) (o : Nat → Nat) (i : Nat) (r : Int) : Nat := if r < c i then i else o i
/-! a list read as a stack in a row: the last one first -/
def Stk (f : Nat → Int) (off : Nat) (l : List Nat) : Prop := ∀ (j x : Nat), l.reverse[j]? = some x → f (off + j) = (x : Int)
section
variable {f : Nat → Int} {off k x : Nat} {l : List Nat}
theorem Stk.nil : Stk f off [] := fun j x h => by simp at h
theorem Stk.top (h : Stk f off (x :: l)) : f (off + l.length) = (x : Int) := h l.length x (by rw [List.reverse_cons, List.getElem?_append_right (by simp)]; simp)
theorem Stk.pop (h : Stk f off (x :: l)) : Stk f off l := fun j y hy => h j y (by
  have := (List.getElem?_eq_some_iff.1 hy).1
  rw [List.reverse_cons, List.getElem?_append_left this]; exact hy)
theorem Stk.push (h : Stk f off l) (x : Nat) : Stk (up f (off + l.length) (x : Int)) off (x :: l) := fun j y hy => by
  rw [List.reverse_cons] at hy
  rcases Nat.lt_or_ge j l.length with e | e
  · rw [List.getElem?_append_left (by simpa using e)] at hy
    rw [up_far (by omega)]
    exact h j y hy
  · rw [List.getElem?_append_right (by simpa using e)] at hy
    have hj := (List.getElem?_eq_some_iff.1 hy).1
    simp only [List.length_reverse, List.length_cons, List.length_nil] at hj
    obtain rfl : j = l.length := by omega
    simp at hy
    subst hy
    exact up_at
theorem Stk.far {v : Int} (h : Stk f off l) (hk : k < off ∨ off + l.length ≤ k) : Stk (up f k v) off l := fun j y hy => by
  have := (List.getElem?_eq_some_iff.1 hy).1
  rw [List.length_reverse] at this
  rw [up_far (by omega)]
  exact h j y hy
end
/-! all strings of n bits by which a pair is drawn -/
section
variable {b m k n : Nat}
theorem dN_sum (g : Nat → Nat) (hm : m ≤ 2 ^ b) : sumN (fun j => if (dN b m k n j).2.1 = true then g (dN b m k n j).1 else 0) (2 ^ n) = sumN g m * wayN b m k n := by
  induction k generalizing n with
  | zero => rw [wayN, sumN_congr (g := fun _ => 0) (fun j _ => by simp [dN]), sumN_const, Nat.mul_zero, Nat.mul_zero]
  | succ k ih =>
    by_cases h : n < b
    · rw [wayN, if_pos h, sumN_congr (g := fun _ => 0) (fun j _ => by rw [dN, if_pos h]; simp), sumN_const, Nat.mul_zero, Nat.mul_zero]
    · have hb : b ≤ n := by omega
      rw [wayN, if_neg h, sumN_bits _ hb, sumN_congr (g := fun t => if t < m then g t * 2 ^ (n - b) else sumN g m * wayN b m k (n - b)) ?_, sumN_two hm, sumN_times, Nat.mul_add, Nat.mul_left_comm]
      intro t _
      show sumN _ _ = _
      by_cases ht : t < m
      · rw [if_pos ht, sumN_congr (g := fun _ => g t) (fun r hr => by rw [dN_part hb hr, if_pos ht]; simp), sumN_const, Nat.mul_comm]
      · rw [if_neg ht, ← ih]
        exact sumN_congr fun r hr => by rw [dN_part hb hr, if_neg ht]
/-- the ways of two draws, one behind the other -/
def way2 (b m b' m' k' : Nat) : Nat → Nat → Nat
  | 0, _ => 0
  | k + 1, n => if n < b then 0 else wayN b' m' k' (n - b) + (2 ^ b - m) * way2 b m b' m' k' k (n - b)
/-- the second draw reads what the first one left -/
def dN2 (b m b' m' k k' n j : Nat) : Nat × Bool × Nat := dN b' m' k' (n - (dN b m k n j).2.2) (j % 2 ^ (n - (dN b m k n j).2.2))
theorem dN2_sum (f : Nat → Nat → Nat) {b' m' k' : Nat} (hm : m ≤ 2 ^ b) (hm' : m' ≤ 2 ^ b') :
    sumN (fun j => if (dN b m k n j).2.1 = true ∧ (dN2 b m b' m' k k' n j).2.1 = true then f (dN b m k n j).1 (dN2 b m b' m' k k' n j).1 else 0) (2 ^ n) = sumN (fun x => sumN (f x) m') m * way2 b m b' m' k' k n := by
  induction k generalizing n with
  | zero => rw [way2, sumN_congr (g := fun _ => 0) (fun j _ => by simp [dN]), sumN_const, Nat.mul_zero, Nat.mul_zero]
  | succ k ih =>
    by_cases h : n < b
    · rw [way2, if_pos h, sumN_congr (g := fun _ => 0) (fun j _ => by rw [dN, if_pos h]; simp), sumN_const, Nat.mul_zero, Nat.mul_zero]
    · have hb : b ≤ n := by omega
      rw [way2, if_neg h, sumN_bits _ hb, sumN_congr (g := fun t => if t < m then sumN (f t) m' * wayN b' m' k' (n - b) else sumN (fun x => sumN (f x) m') m * way2 b m b' m' k' k (n - b)) ?_, sumN_two hm, sumN_times, Nat.mul_add, Nat.mul_left_comm]
      intro t _
      show sumN _ _ = _
      by_cases ht : t < m
      · rw [if_pos ht, ← dN_sum (f t) hm']
        refine sumN_congr fun r hr => ?_
        have e := dN_part (k := k) (m := m) (t := t) hb hr
        rw [if_pos ht] at e
        unfold dN2
        rw [e]
        simp only [true_and]
        have e2 : (t * 2 ^ (n - b) + r) % 2 ^ (n - b) = r := by rw [Nat.mul_comm, Nat.mul_add_mod, Nat.mod_eq_of_lt hr]
        rw [e2]
      · rw [if_neg ht, ← ih]
        refine sumN_congr fun r hr => ?_
        have e := dN_part (k := k) (m := m) (t := t) hb hr
        rw [if_neg ht] at e
        unfold dN2
        rw [e]
        simp only
        have e3 : n - ((dN b m k (n - b) r).2.2 + b) = n - b - (dN b m k (n - b) r).2.2 := by omega
        have e4 : (t * 2 ^ (n - b) + r) % 2 ^ (n - b - (dN b m k (n - b) r).2.2) = r % 2 ^ (n - b - (dN b m k (n - b) r).2.2) := by
          have : 2 ^ (n - b) = 2 ^ (n - b - (dN b m k (n - b) r).2.2) * 2 ^ (n - b - (n - b - (dN b m k (n - b) r).2.2)) := by rw [← Nat.pow_add]; congr 1; omega
          rw [this, Nat.mul_left_comm, Nat.mul_add_mod]
        rw [e3, e4]
theorem sumN_cast (f : Nat → Nat) (g : Nat → Int) (n : Nat) (h : ∀ j, j < n → ((f j : Nat) : Int) = g j) : ((sumN f n : Nat) : Int) = sumZ g n := by
  induction n with
  | zero => rfl
  | succ n ih => rw [sumN, sumZ, Int.natCast_add, ih (fun j hj => h j (by omega)), h n (by omega)]
/-- how many numbers with a place pick p -/
theorem pick_row {c : Nat → Int} {o : Nat → Nat} {W p x : Nat} (h0 : 0 ≤ c x) (h1 : c x ≤ (W : Int)) : ((sumN (fun r => if pkA c o x (r : Int) = p then 1 else 0) W : Nat) : Int) = (if x = p then c x else 0) + (if o x = p then (W : Int) - c x else 0) := by
  obtain ⟨C, hC⟩ := Int.eq_ofNat_of_zero_le h0
  rw [hC] at h1
  have e : sumN (fun r => if pkA c o x (r : Int) = p then 1 else 0) W = sumN (fun _ => if x = p then 1 else 0) C + (W - C) * (if o x = p then 1 else 0) := by
    rw [← sumN_two (g := fun _ => if x = p then 1 else 0) (m := C) (C := if o x = p then 1 else 0) (D := W) (by omega)]
    refine sumN_congr fun r _ => ?_
    unfold pkA
    rw [hC]
    by_cases hr : r < C
    · have h9 : (r : Int) < (C : Int) := by omega
      simp only [if_pos hr, if_pos h9]
    · have h9 : ¬ (r : Int) < (C : Int) := by omega
      simp only [if_neg hr, if_neg h9]
  rw [e, sumN_const, hC]
  clear e
  split <;> split <;> omega
theorem pick_pairs {c : Nat → Int} {o : Nat → Nat} {W n p : Nat} {q : Nat → Int} (h : Tab (W : Int) n q c o) (hp : p < n) : ((sumN (fun x => sumN (fun r => if pkA c o x (r : Int) = p then 1 else 0) W) n : Nat) : Int) = q p := by
  rw [← h.prs p hp]
  unfold prs
  exact sumN_cast _ _ _ fun j hj => pick_row (h.cut j hj).1 (h.cut j hj).2.1
end
end N
end Go.Proofs.Ytfdpddlefobcpaa
