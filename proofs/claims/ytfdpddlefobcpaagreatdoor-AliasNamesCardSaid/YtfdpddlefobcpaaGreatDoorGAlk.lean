/- Gathered: AliMath, AliMem, AliUncut, AliSplit, AliCut, AliNew, AliPick, AliRat, AliTa, AliAwake, AliDrZ. -/
import Derived.Test.YtfdpddlefobcpaaGreatDoorGAlm
import Derived.Test.YtfdpddlefobcpaaGreatDoorBelMath
import Derived.ArgAppend
import Derived.Deep.RegionHeld3
import Derived.Test.YtfdpddlefobcpaaGreatDoorBelCost
import Derived.Test.YtfdpddlefobcpaaGreatDoorRatIs
import Derived.Test.YtfdpddlefobcpaaGreatDoorRatD
import Derived.Test.YtfdpddlefobcpaaGreatDoorBelProg
/- Alias tables: how they are made of weights, what holds of them, what they pick; all strings by which a pair is drawn. No function of the program. -/
namespace Go.Proofs.YtfdpddlefobcpaaGreatDoor
open Go.RowKit
set_option linter.unusedVariables false
set_option linter.unusedSimpArgs false
namespace N
/-! sums of whole numbers -/
def sumZ (f : Nat → Int) : Nat → Int
  | 0 => 0
  | n + 1 => sumZ f n + f n
section
variable {f g : Nat → Int} {n l : Nat}
theorem sumZ_congr (h : ∀ j, j < n → f j = g j) : sumZ f n = sumZ g n := by
  induction n with
  | zero => rfl
  | succ n ih => rw [sumZ, sumZ, ih (fun j hj => h j (by omega)), h n (by omega)]
theorem sumZ_plus : sumZ (fun j => f j + g j) n = sumZ f n + sumZ g n := by
  induction n with
  | zero => rfl
  | succ n ih => simp only [sumZ, ih]; omega
theorem sumZ_zero : sumZ (fun _ => 0) n = 0 := by
  induction n with
  | zero => rfl
  | succ n ih => simp only [sumZ, ih]; omega
theorem sumZ_nonneg (h : ∀ j, j < n → 0 ≤ f j) : 0 ≤ sumZ f n := by
  induction n with
  | zero => exact Int.le_refl _
  | succ n ih => have h1 := ih (fun j hj => h j (by omega)); have h2 := h n (by omega); simp only [sumZ]; omega
/-- where all but one are the same -/
theorem sumZ_but (hl : l < n) (h : ∀ j, j < n → j ≠ l → f j = g j) : sumZ f n = sumZ g n + (f l - g l) := by
  induction n with
  | zero => omega
  | succ n ih =>
    by_cases e : l = n
    · subst e
      rw [sumZ, sumZ, sumZ_congr (fun j hj => h j (by omega) (by omega))]
      omega
    · rw [sumZ, sumZ, ih (by omega) (fun j hj hne => h j (by omega) hne), h n (by omega) (fun h' => e h'.symm)]
      omega
theorem sumZ_one (x : Int) (hl : l < n) : sumZ (fun j => if j = l then x else 0) n = x := by
  rw [sumZ_but (g := fun _ => 0) hl (fun j _ hne => if_neg hne), sumZ_zero]
  simp
end
/-- the number at a place put in place of what was there -/
def up {α : Type} (f : Nat → α) (k : Nat) (x : α) : Nat → α := fun j => if j = k then x else f j
section
variable {α : Type} {f : Nat → α} {k j : Nat} {x : α}
theorem up_at : up f k x k = x := if_pos rfl
theorem up_far (h : j ≠ k) : up f k x j = f j := if_neg h
end
/-- at work: heights, cuts, other places, the low list and the high one (the last one first) -/
structure Al where
  h : Nat → Int
  c : Nat → Int
  o : Nat → Nat
  lo : List Nat
  hi : List Nat
def Al.cut (W : Int) (s : Al) (l h : Nat) (lo hi : List Nat) : Al :=
  if s.h h - (W - s.h l) < W then ⟨up s.h h (s.h h - (W - s.h l)), up s.c l (s.h l), up s.o l h, h :: lo, hi⟩
  else ⟨up s.h h (s.h h - (W - s.h l)), up s.c l (s.h l), up s.o l h, lo, h :: hi⟩
def runA (W : Int) : Nat → Al → Al
  | 0, s => s
  | k + 1, s => match s.lo, s.hi with
    | l :: lo, h :: hi => runA W k (s.cut W l h lo hi)
    | _, _ => s
section
variable {W : Int} {k : Nat} {s : Al} {l h : Nat} {lo hi : List Nat}
theorem runA_step (e1 : s.lo = l :: lo) (e2 : s.hi = h :: hi) : runA W (k + 1) s = runA W k (s.cut W l h lo hi) := by
  rw [runA, e1, e2]
theorem runA_end (e : s.lo = [] ∨ s.hi = []) : runA W k s = s := by
  cases k with
  | zero => rfl
  | succ k =>
    rw [runA]
    rcases e with e | e
    · rw [e]
    · rw [e]; cases s.lo <;> rfl
end
/-- which of the first k heights are low, which are high -/
def lows (f : Nat → Int) (W : Int) : Nat → List Nat
  | 0 => []
  | k + 1 => if f k < W then k :: lows f W k else lows f W k
def highs (f : Nat → Int) (W : Int) : Nat → List Nat
  | 0 => []
  | k + 1 => if f k < W then highs f W k else k :: highs f W k
section
variable {f : Nat → Int} {W : Int} {k j : Nat}
theorem lows_mem : j ∈ lows f W k ↔ j < k ∧ f j < W := by
  induction k with
  | zero => simp [lows]
  | succ k ih =>
    rw [lows]
    split
    · rename_i h
      rw [List.mem_cons, ih]
      constructor
      · rintro (rfl | ⟨h1, h2⟩)
        · exact ⟨Nat.lt_succ_self _, h⟩
        · exact ⟨by omega, h2⟩
      · rintro ⟨h1, h2⟩
        by_cases e : j = k
        · exact .inl e
        · exact .inr ⟨by omega, h2⟩
    · rename_i h
      rw [ih]
      constructor
      · rintro ⟨h1, h2⟩; exact ⟨by omega, h2⟩
      · rintro ⟨h1, h2⟩
        refine ⟨?_, h2⟩
        by_cases e : j = k
        · subst e; exact absurd h2 h
        · omega
theorem highs_mem : j ∈ highs f W k ↔ j < k ∧ ¬ f j < W := by
  induction k with
  | zero => simp [highs]
  | succ k ih =>
    rw [highs]
    split
    · rename_i h
      rw [ih]
      constructor
      · rintro ⟨h1, h2⟩; exact ⟨by omega, h2⟩
      · rintro ⟨h1, h2⟩
        refine ⟨?_, h2⟩
        by_cases e : j = k
        · subst e; exact absurd h h2
        · omega
    · rename_i h
      rw [List.mem_cons, ih]
      constructor
      · rintro (rfl | ⟨h1, h2⟩)
        · exact ⟨Nat.lt_succ_self _, h⟩
        · exact ⟨by omega, h2⟩
      · rintro ⟨h1, h2⟩
        by_cases e : j = k
        · exact .inl e
        · exact .inr ⟨by omega, h2⟩
theorem lows_nodup : (lows f W k ++ highs f W k).Nodup := by
  induction k with
  | zero => exact List.nodup_nil
  | succ k ih =>
    rw [lows, highs]
    have hn : k ∉ lows f W k ++ highs f W k := fun h => by
      rcases List.mem_append.1 h with e | e
      · have := (lows_mem.1 e).1; omega
      · have := (highs_mem.1 e).1; omega
    split
    · rw [List.cons_append]; exact List.nodup_cons.2 ⟨hn, ih⟩
    · exact (List.perm_middle (a := k)).nodup_iff.2 (List.nodup_cons.2 ⟨hn, ih⟩)
theorem lows_len : (lows f W k).length + (highs f W k).length = k := by
  induction k with
  | zero => rfl
  | succ k ih =>
    rw [lows, highs]
    split <;> simp only [List.length_cons] <;> omega
/-- a sum over the two lists -/
def sumL (g : Nat → Int) : List Nat → Int
  | [] => 0
  | x :: t => g x + sumL g t
theorem sumL_app {g : Nat → Int} {a b : List Nat} : sumL g (a ++ b) = sumL g a + sumL g b := by
  induction a with
  | nil => simp [sumL]
  | cons x t ih => rw [List.cons_append, sumL, ih, sumL]; omega
theorem sumL_congr {g g' : Nat → Int} {a : List Nat} (h : ∀ x ∈ a, g x = g' x) : sumL g a = sumL g' a := by
  induction a with
  | nil => rfl
  | cons x t ih => rw [sumL, sumL, h x List.mem_cons_self, ih (fun y hy => h y (List.mem_cons_of_mem _ hy))]
theorem sumL_nonneg {g : Nat → Int} {a : List Nat} (h : ∀ x ∈ a, 0 ≤ g x) : 0 ≤ sumL g a := by
  induction a with
  | nil => exact Int.le_refl _
  | cons x t ih => have h1 := h x List.mem_cons_self; have h2 := ih (fun y hy => h y (List.mem_cons_of_mem _ hy)); rw [sumL]; omega
theorem sumL_neg {g : Nat → Int} {a : List Nat} (h : ∀ x ∈ a, g x < 0) (hz : 0 ≤ sumL g a) : a = [] := by
  cases a with
  | nil => rfl
  | cons x t =>
    have h1 := h x List.mem_cons_self
    have h2 : 0 ≤ sumL (fun y => - g y) t := sumL_nonneg (fun y hy => by have := h y (List.mem_cons_of_mem _ hy); omega)
    have h3 : ∀ b, sumL (fun y => - g y) b = - sumL g b := fun b => by
      induction b with
      | nil => rfl
      | cons y b ih => rw [sumL, sumL, ih]; omega
    rw [h3] at h2
    rw [sumL] at hz
    omega
theorem sumL_all {g : Nat → Int} {a : List Nat} (h : ∀ x ∈ a, 0 ≤ g x) (hz : sumL g a = 0) : ∀ x ∈ a, g x = 0 := by
  induction a with
  | nil => intro x hx; cases hx
  | cons y t ih =>
    have h1 := h y List.mem_cons_self
    have h2 := sumL_nonneg (fun x hx => h x (List.mem_cons_of_mem _ hx))
    rw [sumL] at hz
    intro x hx
    rcases List.mem_cons.1 hx with e | e
    · subst e; omega
    · exact ih (fun x hx => h x (List.mem_cons_of_mem _ hx)) (by omega) x e
theorem sumL_split {g : Nat → Int} : sumL g (lows f W k) + sumL g (highs f W k) = sumZ g k := by
  induction k with
  | zero => rfl
  | succ k ih =>
    rw [lows, highs]
    split <;> simp only [sumL, sumZ] <;> omega
end
/-- how many numbers pick i -/
def prs (c : Nat → Int) (o : Nat → Nat) (W : Int) (n i : Nat) : Int := sumZ (fun k => (if k = i then c k else 0) + (if o k = i then W - c k else 0)) n
/-- what holds at each turn -/
structure AlInv (W : Int) (n : Nat) (q : Nat → Int) (s : Al) : Prop where
  lt : ∀ j ∈ s.lo ++ s.hi, j < n ∧ s.c j = W ∧ s.o j = j
  low : ∀ j ∈ s.lo, 0 ≤ s.h j ∧ s.h j < W
  high : ∀ j ∈ s.hi, W ≤ s.h j ∧ s.h j ≤ q j
  nd : (s.lo ++ s.hi).Nodup
  off : ∀ j, j < n → j ∉ s.lo ++ s.hi → 0 ≤ s.c j ∧ s.c j < W ∧ s.o j ≠ j ∧ s.o j < n
  sum : sumL (fun j => s.h j - W) s.lo + sumL (fun j => s.h j - W) s.hi = 0
  prs : ∀ i, i < n → q i = prs s.c s.o W n i + (if i ∈ s.lo ++ s.hi then s.h i - W else 0)
  some : s.lo ++ s.hi ≠ []
section
variable {W : Int} {n : Nat} {q : Nat → Int} {s : Al} {l h : Nat} {lo hi : List Nat}
theorem AlInv.ne (I : AlInv W n q s) (e1 : s.lo = l :: lo) (e2 : s.hi = h :: hi) : l ≠ h ∧ l ∉ lo ∧ l ∉ hi ∧ h ∉ lo ∧ h ∉ hi := by
  have h1 := I.nd
  rw [e1, e2] at h1
  obtain ⟨a1, a2, a3⟩ := List.nodup_append.1 h1
  obtain ⟨b1, b2⟩ := List.nodup_cons.1 a1
  obtain ⟨c1, c2⟩ := List.nodup_cons.1 a2
  exact ⟨a3 l List.mem_cons_self h List.mem_cons_self, b1, fun e => a3 l List.mem_cons_self l (List.mem_cons_of_mem _ e) rfl, fun e => a3 h (List.mem_cons_of_mem _ e) h List.mem_cons_self rfl, c1⟩
theorem AlInv.cut (I : AlInv W n q s) (e1 : s.lo = l :: lo) (e2 : s.hi = h :: hi) : AlInv W n q (s.cut W l h lo hi) := by
  obtain ⟨n1, n2, n3, n4, n5⟩ := I.ne e1 e2
  obtain ⟨l0, l1⟩ := I.low l (by rw [e1]; exact List.mem_cons_self)
  obtain ⟨h0, h1⟩ := I.high h (by rw [e2]; exact List.mem_cons_self)
  obtain ⟨lt1, lc, lo1⟩ := I.lt l (by rw [e1]; exact List.mem_append_left _ List.mem_cons_self)
  obtain ⟨lt2, hc, ho1⟩ := I.lt h (by rw [e2]; exact List.mem_append_right _ List.mem_cons_self)
  obtain ⟨g, hg⟩ : ∃ g, s.h h - (W - s.h l) = g := ⟨_, rfl⟩
  have hnd := I.nd
  rw [e1, e2] at hnd
  have hmem : ∀ j, j ∈ s.lo ++ s.hi ↔ (j = l ∨ j = h ∨ j ∈ lo ∨ j ∈ hi) := fun j => by
    rw [e1, e2]; simp only [List.mem_append, List.mem_cons]; constructor
    · rintro ((a | a) | (a | a)) <;> simp [a]
    · rintro (a | a | a | a) <;> simp [a]
  -- what holds of both ways
  have key : ∀ (lo' hi' : List Nat), (∀ j, j ∈ lo' ++ hi' ↔ (j = h ∨ j ∈ lo ∨ j ∈ hi)) → (∀ j ∈ lo', (j = h ∧ g < W) ∨ j ∈ lo) → (∀ j ∈ hi', (j = h ∧ W ≤ g) ∨ j ∈ hi) → (lo' ++ hi').Nodup → (∀ f : Nat → Int, sumL f lo' + sumL f hi' = f h + sumL f lo + sumL f hi) →
      AlInv W n q ⟨up s.h h g, up s.c l (s.h l), up s.o l h, lo', hi'⟩ := by
    intro lo' hi' hm hl2 hh2 hnd' hsum
    have hold : ∀ j, (j = h ∨ j ∈ lo ∨ j ∈ hi) → j ≠ l := by
      rintro j (rfl | a | a) e
      · exact n1 e.symm
      · exact n2 (e ▸ a)
      · exact n3 (e ▸ a)
    have hin : ∀ j, (j = h ∨ j ∈ lo ∨ j ∈ hi) → j ∈ s.lo ++ s.hi := fun j hj => (hmem j).2 (.inr hj)
    refine ⟨fun j hj => ?_, fun j hj => ?_, fun j hj => ?_, hnd', fun j hj hn => ?_, ?_, fun i hin_ => ?_, fun e => ?_⟩
    · have hj := (hm j).1 hj
      obtain ⟨a, b, c⟩ := I.lt j (hin j hj)
      simp only [up_far (hold j hj)]
      exact ⟨a, b, c⟩
    · rcases hl2 j hj with ⟨rfl, hgw⟩ | hj
      · simp only [up_at]
        omega
      · simp only [up_far (show j ≠ h from fun e => n4 (e ▸ hj))]
        exact I.low j (by rw [e1]; exact List.mem_cons_of_mem _ hj)
    · rcases hh2 j hj with ⟨rfl, hgw⟩ | hj
      · simp only [up_at]
        omega
      · simp only [up_far (show j ≠ h from fun e => n5 (e ▸ hj))]
        exact I.high j (by rw [e2]; exact List.mem_cons_of_mem _ hj)
    · by_cases e : j = l
      · subst e
        simp only [up_at]
        exact ⟨l0, l1, fun e => n1 e.symm, lt2⟩
      · simp only [up_far e]
        refine I.off j hj fun hx => hn ((hm j).2 ?_)
        rcases (hmem j).1 hx with a | a
        · exact absurd a e
        · exact a
    · have h2 := I.sum
      rw [e1, e2] at h2
      simp only [sumL] at h2
      rw [hsum]
      simp only [up_at]
      rw [sumL_congr (g := fun j => up s.h h g j - W) (g' := fun j => s.h j - W) (a := lo) (fun x hx => by rw [up_far (show x ≠ h from fun e => n4 (e ▸ hx))]), sumL_congr (g := fun j => up s.h h g j - W) (g' := fun j => s.h j - W) (a := hi) (fun x hx => by rw [up_far (show x ≠ h from fun e => n5 (e ▸ hx))])]
      omega
    · have h2 := I.prs i hin_
      have h3 : N.prs (up s.c l (s.h l)) (up s.o l h) W n i = N.prs s.c s.o W n i + (((if l = i then s.h l else 0) + (if h = i then W - s.h l else 0)) - (if l = i then W else 0)) := by
        unfold N.prs
        rw [sumZ_but (l := l) lt1 (g := fun k => (if k = i then s.c k else 0) + (if s.o k = i then W - s.c k else 0)) (fun j _ hne => by rw [up_far hne, up_far hne])]
        simp only [up_at, lc, lo1]
        by_cases e : l = i <;> simp [e]
      rw [h3, h2]
      show _ = _ + (if i ∈ lo' ++ hi' then up s.h h g i - W else 0)
      by_cases ei : i = l
      · subst ei
        have a1 := (hmem i).2 (.inl rfl)
        have a2 : ¬ i ∈ lo' ++ hi' := fun e => hold i ((hm i).1 e) rfl
        have a3 : ¬ h = i := fun e => n1 e.symm
        simp only [if_pos a1, if_neg a2, if_neg a3, if_true]
        omega
      · have b1 : ¬ l = i := fun e => ei e.symm
        by_cases eh : i = h
        · subst eh
          have a1 := (hmem i).2 (.inr (.inl rfl))
          have a2 := (hm i).2 (.inl rfl)
          simp only [if_pos a1, if_pos a2, if_neg b1, if_true, up_at]
          omega
        · have b2 : ¬ h = i := fun e => eh e.symm
          rw [up_far eh]
          by_cases em : i ∈ lo ∨ i ∈ hi
          · have a1 := (hmem i).2 (.inr (.inr em))
            have a2 := (hm i).2 (.inr em)
            simp only [if_pos a1, if_pos a2, if_neg b1, if_neg b2]
            omega
          · have a1 : ¬ i ∈ s.lo ++ s.hi := fun e => by
              rcases (hmem i).1 e with a | a | a
              · exact ei a
              · exact eh a
              · exact em a
            have a2 : ¬ i ∈ lo' ++ hi' := fun e => by
              rcases (hm i).1 e with a | a
              · exact eh a
              · exact em a
            simp only [if_neg a1, if_neg a2, if_neg b1, if_neg b2]
            omega
    · have := (hm h).2 (.inl rfl)
      simp only at e
      rw [e] at this
      cases this
  have hnd2 : (h :: lo ++ hi).Nodup ∧ (lo ++ h :: hi).Nodup := by
    rw [List.cons_append] at hnd
    have h3 := (List.nodup_cons.1 hnd).2
    have h4 := (List.perm_middle (a := h) (l₁ := lo) (l₂ := hi)).nodup_iff.1 h3
    exact ⟨h4, h3⟩
  unfold Al.cut
  rw [hg]
  split
  · rename_i hw
    refine key (h :: lo) hi (fun j => by simp only [List.cons_append, List.mem_cons, List.mem_append]) (fun j hj => ?_) (fun j hj => .inr hj) hnd2.1 (fun f => by rw [sumL])
    rcases List.mem_cons.1 hj with e | e
    · exact .inl ⟨e, hw⟩
    · exact .inr e
  · rename_i hw
    refine key lo (h :: hi) (fun j => ?_) (fun j hj => .inr hj) (fun j hj => ?_) hnd2.2 (fun f => by rw [sumL]; omega)
    · simp only [List.mem_append, List.mem_cons]
      constructor
      · rintro (a | a | a) <;> simp [a]
      · rintro (a | a | a) <;> simp [a]
    · rcases List.mem_cons.1 hj with e | e
      · exact .inl ⟨e, by omega⟩
      · exact .inr e
theorem Al.cut_len : (s.cut W l h lo hi).lo.length + (s.cut W l h lo hi).hi.length = lo.length + hi.length + 1 := by
  unfold Al.cut
  split <;> simp only [List.length_cons] <;> omega
theorem AlInv.run {k : Nat} (I : AlInv W n q s) (hk : s.lo.length + s.hi.length ≤ k) : AlInv W n q (runA W k s) ∧ ((runA W k s).lo = [] ∨ (runA W k s).hi = []) := by
  induction k generalizing s with
  | zero => exact ⟨I, .inl (List.eq_nil_of_length_eq_zero (by rw [runA]; omega))⟩
  | succ k ih =>
    cases e1 : s.lo with
    | nil => rw [runA_end (.inl e1)]; exact ⟨I, .inl e1⟩
    | cons l lo =>
      cases e2 : s.hi with
      | nil => rw [runA_end (.inr e2)]; exact ⟨I, .inr e2⟩
      | cons h hi =>
        rw [runA_step e1 e2]
        refine ih (I.cut e1 e2) ?_
        rw [Al.cut_len]
        rw [e1, e2] at hk
        simp only [List.length_cons] at hk
        omega
/-- what holds of a table -/
structure Tab (W : Int) (n : Nat) (q : Nat → Int) (c : Nat → Int) (o : Nat → Nat) : Prop where
  cut : ∀ j, j < n → 0 ≤ c j ∧ c j ≤ W ∧ o j < n ∧ (c j = W ↔ o j = j)
  prs : ∀ i, i < n → prs c o W n i = q i
  some : ∃ j, j < n ∧ c j = W
theorem AlInv.fin (I : AlInv W n q s) (he : s.lo = [] ∨ s.hi = []) (hW : 0 < W) : Tab W n q s.c s.o := by
  have hh : ∀ j ∈ s.hi, 0 ≤ s.h j - W := fun j hj => by have := I.high j hj; omega
  have hlo : s.lo = [] := by
    rcases he with e | e
    · exact e
    · refine sumL_neg (g := fun j => s.h j - W) (fun j hj => by have := I.low j hj; omega) ?_
      have h2 := I.sum
      rw [e] at h2
      simp only [sumL] at h2
      omega
  have hz : ∀ j ∈ s.hi, s.h j - W = 0 := by
    refine sumL_all (g := fun j => s.h j - W) hh ?_
    have h2 := I.sum
    rw [hlo] at h2
    simp only [sumL] at h2
    omega
  refine ⟨fun j hj => ?_, fun i hi => ?_, ?_⟩
  · by_cases hm : j ∈ s.lo ++ s.hi
    · obtain ⟨_, h1, h2⟩ := I.lt j hm
      exact ⟨by omega, by omega, by omega, fun _ => h2, fun _ => h1⟩
    · obtain ⟨h1, h2, h3, h4⟩ := I.off j hj hm
      exact ⟨h1, by omega, h4, fun e => by omega, fun e => absurd e h3⟩
  · have h1 := I.prs i hi
    split at h1
    · rename_i hm
      rw [hlo, List.nil_append] at hm
      have := hz i hm
      omega
    · omega
  · cases e : s.lo ++ s.hi with
    | nil => exact absurd e I.some
    | cons j t =>
      have h1 := I.lt j (by rw [e]; exact List.mem_cons_self)
      exact ⟨j, h1.1, h1.2.1⟩
end
/-- the heights, and the table, of weights -/
def hts (ws : List Int) (i : Nat) : Int := (ws.length : Int) * ws.getD i 0
def al0 (ws : List Int) : Al := ⟨hts ws, fun _ => pre ws ws.length, fun i => i, lows (hts ws) (pre ws ws.length) ws.length, highs (hts ws) (pre ws ws.length) ws.length⟩
def altab (ws : List Int) : Al := runA (pre ws ws.length) ws.length (al0 ws)
def cutA (ws : List Int) : Nat → Int := (altab ws).c
def othA (ws : List Int) : Nat → Nat := (altab ws).o
section
variable {ws : List Int} {i k : Nat}
theorem hts_le (h : Wt ws) (hi : i < ws.length) : 0 ≤ hts ws i ∧ hts ws i ≤ 67108864 := by
  obtain ⟨x, hx, h0, h1⟩ := h.ok.at hi
  have h2 := h.l1
  have e : ws.getD i 0 = x := by rw [List.getD_eq_getElem?_getD, hx]; rfl
  unfold hts
  rw [e]
  obtain ⟨y, rfl⟩ := Int.eq_ofNat_of_zero_le h0
  obtain ⟨n, hn⟩ : ∃ n, ws.length = n := ⟨_, rfl⟩
  rw [hn] at h2 ⊢
  have h3 : n * y ≤ 64 * 1048576 := Nat.mul_le_mul h2 (by omega)
  rw [← Int.natCast_mul]
  omega
theorem hts_sum (h : k ≤ ws.length) : sumZ (hts ws) k = (ws.length : Int) * pre ws k := by
  induction k with
  | zero => rw [pre_zero, sumZ]; omega
  | succ k ih =>
    have hx : ws[k]? = some ws[k] := List.getElem?_eq_getElem (by omega)
    rw [sumZ, ih (by omega), pre_succ hx, Int.mul_add]
    unfold hts
    rw [List.getD_eq_getElem?_getD, hx]
    rfl
theorem al0_inv (h : Wt ws) : AlInv (pre ws ws.length) ws.length (hts ws) (al0 ws) := by
  have hW := h.pos
  have hl := h.l0
  refine ⟨fun j hj => ?_, fun j hj => ?_, fun j hj => ?_, lows_nodup, fun j hj hn => ?_, ?_, fun i hi => ?_, fun e => ?_⟩
  · refine ⟨?_, rfl, rfl⟩
    rcases List.mem_append.1 hj with e | e
    · exact (lows_mem.1 e).1
    · exact (highs_mem.1 e).1
  · have h1 := lows_mem.1 hj
    exact ⟨(hts_le h h1.1).1, h1.2⟩
  · have h1 := highs_mem.1 hj
    exact ⟨by have := h1.2; simp only [al0]; omega, Int.le_refl _⟩
  · refine absurd ?_ hn
    by_cases e : hts ws j < pre ws ws.length
    · exact List.mem_append_left _ (lows_mem.2 ⟨hj, e⟩)
    · exact List.mem_append_right _ (highs_mem.2 ⟨hj, e⟩)
  · simp only [al0]
    rw [sumL_split]
    have e : ∀ (n : Nat) (W : Int), sumZ (fun j => hts ws j - W) n = sumZ (hts ws) n - n * W := fun n W => by
      induction n with
      | zero => simp [sumZ]
      | succ n ih => rw [sumZ, ih, sumZ, Int.natCast_succ, Int.add_mul]; omega
    rw [e, hts_sum (Nat.le_refl _)]
    omega
  · have hm : i ∈ (al0 ws).lo ++ (al0 ws).hi := by
      by_cases e : hts ws i < pre ws ws.length
      · exact List.mem_append_left _ (lows_mem.2 ⟨hi, e⟩)
      · exact List.mem_append_right _ (highs_mem.2 ⟨hi, e⟩)
    rw [if_pos hm]
    simp only [al0]
    unfold prs
    rw [sumZ_congr (g := fun k => if k = i then pre ws ws.length else 0) (fun k _ => by simp), sumZ_one _ hi]
    omega
  · have h1 : (al0 ws).lo.length + (al0 ws).hi.length = ws.length := lows_len
    rw [← List.length_append, e] at h1
    simp at h1
    omega
theorem altab_tab (h : Wt ws) : Tab (pre ws ws.length) ws.length (hts ws) (cutA ws) (othA ws) := by
  obtain ⟨h1, h2⟩ := (al0_inv h).run (k := ws.length) (by have : (al0 ws).lo.length + (al0 ws).hi.length = ws.length := lows_len; omega)
  exact h1.fin h2 h.pos
end
/-! all weights so many times as great -/
def Al.by (b : Int) (s : Al) : Al := ⟨fun i => b * s.h i, fun i => b * s.c i, s.o, s.lo, s.hi⟩
section
variable {b W : Int} {s : Al} {k : Nat} {ws : List Int}
theorem up_by {f : Nat → Int} {k : Nat} {x : Int} : up (fun i => b * f i) k (b * x) = fun i => b * up f k x i := by
  funext j
  unfold up
  split <;> rfl
theorem runA_by (hb : 0 < b) : runA (b * W) k (s.by b) = (runA W k s).by b := by
  induction k generalizing s with
  | zero => rfl
  | succ k ih =>
    cases e1 : s.lo with
    | nil => rw [runA_end (.inl e1), runA_end (.inl (show (s.by b).lo = [] from e1))]
    | cons l lo =>
      cases e2 : s.hi with
      | nil => rw [runA_end (.inr e2), runA_end (.inr (show (s.by b).hi = [] from e2))]
      | cons h hi =>
        rw [runA_step e1 e2, runA_step (s := s.by b) e1 e2, ← ih]
        congr 1
        have e : b * s.h h - (b * W - b * s.h l) = b * (s.h h - (W - s.h l)) := by rw [Int.mul_sub, Int.mul_sub]
        have e3 : b * (s.h h - (W - s.h l)) < b * W ↔ s.h h - (W - s.h l) < W := ⟨fun h => Int.lt_of_mul_lt_mul_left h (by omega), fun h => Int.mul_lt_mul_of_pos_left h hb⟩
        unfold Al.cut
        show (if b * s.h h - (b * W - b * s.h l) < b * W then (_ : Al) else _) = _
        rw [e]
        by_cases hw : s.h h - (W - s.h l) < W
        · rw [if_pos (e3.2 hw), if_pos hw]
          unfold Al.by
          simp only
          rw [← up_by, ← up_by, e]
        · rw [if_neg (fun x => hw (e3.1 x)), if_neg hw]
          unfold Al.by
          simp only
          rw [← up_by, ← up_by, e]
theorem lows_by {f : Nat → Int} (hb : 0 < b) : lows (fun i => b * f i) (b * W) k = lows f W k ∧ highs (fun i => b * f i) (b * W) k = highs f W k := by
  induction k with
  | zero => exact ⟨rfl, rfl⟩
  | succ k ih =>
    have e3 : b * f k < b * W ↔ f k < W := ⟨fun h => Int.lt_of_mul_lt_mul_left h (by omega), fun h => Int.mul_lt_mul_of_pos_left h hb⟩
    rw [lows, lows, highs, highs, ih.1, ih.2]
    by_cases h : f k < W
    · simp [h, e3.2 h]
    · rw [if_neg h, if_neg (fun x => h (e3.1 x)), if_neg h, if_neg (fun x => h (e3.1 x))]; exact ⟨rfl, rfl⟩
theorem altab_by (hb : 0 < b) : cutA (ws.map (· * b)) = (fun i => b * cutA ws i) ∧ othA (ws.map (· * b)) = othA ws := by
  have e : al0 (ws.map (· * b)) = (al0 ws).by b := by
    have h1 : hts (ws.map (· * b)) = fun i => b * hts ws i := by
      funext i
      unfold hts
      rw [List.length_map, List.getD_eq_getElem?_getD, List.getElem?_map, List.getD_eq_getElem?_getD]
      cases ws[i]? with
      | none => simp
      | some x => simp only [Option.map_some, Option.getD_some]; rw [Int.mul_comm x b, Int.mul_left_comm]
    have h2 : pre (ws.map (· * b)) (ws.map (· * b)).length = b * pre ws ws.length := by rw [List.length_map, pre_map, Int.mul_comm]
    unfold al0 Al.by
    simp only
    rw [h2, List.length_map, h1, (lows_by hb).1, (lows_by hb).2]
  unfold cutA othA altab
  rw [e, List.length_map, pre_map, Int.mul_comm, runA_by hb]
  exact ⟨rfl, rfl⟩
end
/-- how many of the first k cuts are below W -/
def cutsN (c : Nat → Int) (W : Int) : Nat → Nat
  | 0 => 0
  | k + 1 => cutsN c W k + (if c k < W then 1 else 0)
theorem cutsN_le (c : Nat → Int) (W : Int) (k : Nat) : cutsN c W k ≤ k := by
  induction k with
  | zero => exact Nat.le_refl _
  | succ k ih => rw [cutsN]; split <;> omega
theorem cutsN_lt {c : Nat → Int} {W : Int} {k j : Nat} (hj : j < k) (h : c j = W) : cutsN c W k < k := by
  induction k with
  | zero => omega
  | succ k ih =>
    rw [cutsN]
    by_cases e : j = k
    · subst e
      rw [if_neg (by omega)]
      have := cutsN_le c W j
      omega
    · have := ih (by omega)
      split <;> omega
/-- what a place and a number pick -/
def pkA (c : Nat → Int) (o : Nat → Nat) (i : Nat) (r : Int) : Nat := if r < c i then i else o i
/-! a list read as a stack in a row: the last one first -/
def Stk (f : Nat → Int) (off : Nat) (l : List Nat) : Prop := ∀ (j x : Nat), l.reverse[j]? = some x → f (off + j) = (x : Int)
section
variable {f : Nat → Int} {off k x : Nat} {l : List Nat}
theorem Stk.nil : Stk f off [] := fun j x h => by simp at h
theorem Stk.top (h : Stk f off (x :: l)) : f (off + l.length) = (x : Int) := h l.length x (by rw [List.reverse_cons, List.getElem?_append_right (by simp)]; simp)
theorem Stk.pop (h : Stk f off (x :: l)) : Stk f off l := fun j y hy => h j y (by
  have := (List.getElem?_eq_some_iff.1 hy).1
  rw [List.reverse_cons, List.getElem?_append_left this]; exact hy)
theorem Stk.push (h : Stk f off l) (x : Nat) : Stk (up f (off + l.length) (x : Int)) off (x :: l) := fun j y hy => by
  rw [List.reverse_cons] at hy
  rcases Nat.lt_or_ge j l.length with e | e
  · rw [List.getElem?_append_left (by simpa using e)] at hy
    rw [up_far (by omega)]
    exact h j y hy
  · rw [List.getElem?_append_right (by simpa using e)] at hy
    have hj := (List.getElem?_eq_some_iff.1 hy).1
    simp only [List.length_reverse, List.length_cons, List.length_nil] at hj
    obtain rfl : j = l.length := by omega
    simp at hy
    subst hy
    exact up_at
theorem Stk.far {v : Int} (h : Stk f off l) (hk : k < off ∨ off + l.length ≤ k) : Stk (up f k v) off l := fun j y hy => by
  have := (List.getElem?_eq_some_iff.1 hy).1
  rw [List.length_reverse] at this
  rw [up_far (by omega)]
  exact h j y hy
end
/-! all strings of n bits by which a pair is drawn -/
section
variable {b m k n : Nat}
theorem dN_sum (g : Nat → Nat) (hm : m ≤ 2 ^ b) : sumN (fun j => if (dN b m k n j).2.1 = true then g (dN b m k n j).1 else 0) (2 ^ n) = sumN g m * wayN b m k n := by
  induction k generalizing n with
  | zero => rw [wayN, sumN_congr (g := fun _ => 0) (fun j _ => by simp [dN]), sumN_const, Nat.mul_zero, Nat.mul_zero]
  | succ k ih =>
    by_cases h : n < b
    · rw [wayN, if_pos h, sumN_congr (g := fun _ => 0) (fun j _ => by rw [dN, if_pos h]; simp), sumN_const, Nat.mul_zero, Nat.mul_zero]
    · have hb : b ≤ n := by omega
      rw [wayN, if_neg h, sumN_bits _ hb, sumN_congr (g := fun t => if t < m then g t * 2 ^ (n - b) else sumN g m * wayN b m k (n - b)) ?_, sumN_two hm, sumN_times, Nat.mul_add, Nat.mul_left_comm]
      intro t _
      show sumN _ _ = _
      by_cases ht : t < m
      · rw [if_pos ht, sumN_congr (g := fun _ => g t) (fun r hr => by rw [dN_part hb hr, if_pos ht]; simp), sumN_const, Nat.mul_comm]
      · rw [if_neg ht, ← ih]
        exact sumN_congr fun r hr => by rw [dN_part hb hr, if_neg ht]
/-- the ways of two draws, one behind the other -/
def way2 (b m b' m' k' : Nat) : Nat → Nat → Nat
  | 0, _ => 0
  | k + 1, n => if n < b then 0 else wayN b' m' k' (n - b) + (2 ^ b - m) * way2 b m b' m' k' k (n - b)
/-- the second draw reads what the first one left -/
def dN2 (b m b' m' k k' n j : Nat) : Nat × Bool × Nat := dN b' m' k' (n - (dN b m k n j).2.2) (j % 2 ^ (n - (dN b m k n j).2.2))
theorem dN2_sum (f : Nat → Nat → Nat) {b' m' k' : Nat} (hm : m ≤ 2 ^ b) (hm' : m' ≤ 2 ^ b') :
    sumN (fun j => if (dN b m k n j).2.1 = true ∧ (dN2 b m b' m' k k' n j).2.1 = true then f (dN b m k n j).1 (dN2 b m b' m' k k' n j).1 else 0) (2 ^ n) = sumN (fun x => sumN (f x) m') m * way2 b m b' m' k' k n := by
  induction k generalizing n with
  | zero => rw [way2, sumN_congr (g := fun _ => 0) (fun j _ => by simp [dN]), sumN_const, Nat.mul_zero, Nat.mul_zero]
  | succ k ih =>
    by_cases h : n < b
    · rw [way2, if_pos h, sumN_congr (g := fun _ => 0) (fun j _ => by rw [dN, if_pos h]; simp), sumN_const, Nat.mul_zero, Nat.mul_zero]
    · have hb : b ≤ n := by omega
      rw [way2, if_neg h, sumN_bits _ hb, sumN_congr (g := fun t => if t < m then sumN (f t) m' * wayN b' m' k' (n - b) else sumN (fun x => sumN (f x) m') m * way2 b m b' m' k' k (n - b)) ?_, sumN_two hm, sumN_times, Nat.mul_add, Nat.mul_left_comm]
      intro t _
      show sumN _ _ = _
      by_cases ht : t < m
      · rw [if_pos ht, ← dN_sum (f t) hm']
        refine sumN_congr fun r hr => ?_
        have e := dN_part (k := k) (m := m) (t := t) hb hr
        rw [if_pos ht] at e
        unfold dN2
        rw [e]
        simp only [true_and]
        have e2 : (t * 2 ^ (n - b) + r) % 2 ^ (n - b) = r := by rw [Nat.mul_comm, Nat.mul_add_mod, Nat.mod_eq_of_lt hr]
        rw [e2]
      · rw [if_neg ht, ← ih]
        refine sumN_congr fun r hr => ?_
        have e := dN_part (k := k) (m := m) (t := t) hb hr
        rw [if_neg ht] at e
        unfold dN2
        rw [e]
        simp only
        have e3 : n - ((dN b m k (n - b) r).2.2 + b) = n - b - (dN b m k (n - b) r).2.2 := by omega
        have e4 : (t * 2 ^ (n - b) + r) % 2 ^ (n - b - (dN b m k (n - b) r).2.2) = r % 2 ^ (n - b - (dN b m k (n - b) r).2.2) := by
          have : 2 ^ (n - b) = 2 ^ (n - b - (dN b m k (n - b) r).2.2) * 2 ^ (n - b - (n - b - (dN b m k (n - b) r).2.2)) := by rw [← Nat.pow_add]; congr 1; omega
          rw [this, Nat.mul_left_comm, Nat.mul_add_mod]
        rw [e3, e4]
theorem sumN_cast (f : Nat → Nat) (g : Nat → Int) (n : Nat) (h : ∀ j, j < n → ((f j : Nat) : Int) = g j) : ((sumN f n : Nat) : Int) = sumZ g n := by
  induction n with
  | zero => rfl
  | succ n ih => rw [sumN, sumZ, Int.natCast_add, ih (fun j hj => h j (by omega)), h n (by omega)]
/-- how many numbers with a place pick p -/
theorem pick_row {c : Nat → Int} {o : Nat → Nat} {W p x : Nat} (h0 : 0 ≤ c x) (h1 : c x ≤ (W : Int)) : ((sumN (fun r => if pkA c o x (r : Int) = p then 1 else 0) W : Nat) : Int) = (if x = p then c x else 0) + (if o x = p then (W : Int) - c x else 0) := by
  obtain ⟨C, hC⟩ := Int.eq_ofNat_of_zero_le h0
  rw [hC] at h1
  have e : sumN (fun r => if pkA c o x (r : Int) = p then 1 else 0) W = sumN (fun _ => if x = p then 1 else 0) C + (W - C) * (if o x = p then 1 else 0) := by
    rw [← sumN_two (g := fun _ => if x = p then 1 else 0) (m := C) (C := if o x = p then 1 else 0) (D := W) (by omega)]
    refine sumN_congr fun r _ => ?_
    unfold pkA
    rw [hC]
    by_cases hr : r < C
    · have h9 : (r : Int) < (C : Int) := by omega
      simp only [if_pos hr, if_pos h9]
    · have h9 : ¬ (r : Int) < (C : Int) := by omega
      simp only [if_neg hr, if_neg h9]
  rw [e, sumN_const, hC]
  clear e
  split <;> split <;> omega
theorem pick_pairs {c : Nat → Int} {o : Nat → Nat} {W n p : Nat} {q : Nat → Int} (h : Tab (W : Int) n q c o) (hp : p < n) : ((sumN (fun x => sumN (fun r => if pkA c o x (r : Int) = p then 1 else 0) W) n : Nat) : Int) = q p := by
  rw [← h.prs p hp]
  unfold prs
  exact sumN_cast _ _ _ fun j hj => pick_row (h.cut j hj).1 (h.cut j hj).2.1
end
end N
end Go.Proofs.YtfdpddlefobcpaaGreatDoor
/- Alias tables in memory over this translation: their blocks, rows of ints, append within a row's capacity. -/
namespace Go.Proofs.YtfdpddlefobcpaaGreatDoor
open Go.RowKit Go.Shelf
set_option linter.unusedVariables false
set_option linter.unusedSimpArgs false
set_option maxRecDepth 20000
open N
theorem infoI11 : (Tryz.prog.info? 3).map (fun i => (i.zero, i.size, i.bytes)) = some (some (.int .i64 0), 1, 8) := by kernel_rfl
theorem slI11 : Tryz.prog.underlying 46 = some (.slice 3) := Tryz.underlying46
theorem makeI_run (n : Nat) (h : n ≤ 4398046511104) (w : World) :
    (Instr.makeSlice 46 (.int .i64 (n : Int)) (.int .i64 (n : Int))).run Tryz.prog w = .ok (.slice (some ⟨w.heap.size, 0, none⟩) n n) (w.alloc (.cells (row n (fun _ => 0)).toArray 3)) := by
  rw [← zeros_row64]
  exact run_make_row' 46 3 (.int .i64 0) 8 slI11 infoI11 rfl .i64 .i64 n (by omega) (by omega) w
theorem blk_ne {w : World} {p q : Blk} (h1 : BlkOk w p) (h2 : BlkOk w q) (ht : p.ty ≠ q.ty) : p.g ≠ q.g := fun e => by
  unfold BlkOk at h1 h2
  rw [e, h2] at h1
  injection h1 with h1
  injection h1 with _ h1 _
  exact ht h1.symm
/-- a table, its cuts, its other places -/
def TA (t g1 g2 n : Nat) (W : Int) : Blk := ⟨t, [.int .i64 W, .slice (some ⟨g1, 0, none⟩) n n, .slice (some ⟨g2, 0, none⟩) n n], 54⟩
def CU (g n : Nat) (c : Nat → Int) : Blk := ⟨g, row n c, 2⟩
def OT (g n : Nat) (o : Nat → Nat) : Blk := ⟨g, row n (fun k => (o k : Int)), 3⟩
structure AlOk (w : World) (t g1 g2 n : Nat) (W : Int) (c : Nat → Int) (o : Nat → Nat) : Prop where
  tb : BlkOk w (TA t g1 g2 n W)
  cu : BlkOk w (CU g1 n c)
  ot : BlkOk w (OT g2 n o)
section
variable {w w' : World} {t g1 g2 n k : Nat} {W x : Int} {c : Nat → Int} {o : Nat → Nat}
theorem AlOk.on (h : AlOk w t g1 g2 n W c o) (hb : Below w.heap.size w w') : AlOk w' t g1 g2 n W c o := ⟨h.tb.on hb, h.cu.on hb, h.ot.on hb⟩
theorem AlOk.grown {gc : Nat} (h : AlOk w t g1 g2 n W c o) (hg : w.grownBy w' (some gc)) (h1 : t ≠ gc) (h2 : g1 ≠ gc) (h3 : g2 ≠ gc) : AlOk w' t g1 g2 n W c o := ⟨h.tb.grown hg h1, h.cu.grown hg h2, h.ot.grown hg h3⟩
theorem AlOk.ne (h : AlOk w t g1 g2 n W c o) : t ≠ g1 ∧ t ≠ g2 ∧ g1 ≠ g2 := ⟨blk_ne h.tb h.cu (show 54 ≠ 2 by decide), blk_ne h.tb h.ot (show 54 ≠ 3 by decide), blk_ne h.cu h.ot (show 2 ≠ 3 by decide)⟩
theorem AlOk.cs (h : AlOk w t g1 g2 n W c o) : w.cell? ⟨t, 0, none⟩ = some (.int .i64 W) ∧ w.cell? ⟨t, 1, none⟩ = some (.slice (some ⟨g1, 0, none⟩) n n) ∧ w.cell? ⟨t, 2, none⟩ = some (.slice (some ⟨g2, 0, none⟩) n n) :=
  ⟨BlkOk.cell (k := 0) h.tb rfl, BlkOk.cell (k := 1) h.tb rfl, BlkOk.cell (k := 2) h.tb rfl⟩
theorem AlOk.cut (h : AlOk w t g1 g2 n W c o) (hk : k < n) (hx : c k = x) : w.cell? ⟨g1, k, none⟩ = some (.int .i64 x) := by rw [← hx]; exact BlkOk.cell h.cu (row_get hk)
theorem AlOk.oth (h : AlOk w t g1 g2 n W c o) (hk : k < n) {y : Nat} (hy : o k = y) : w.cell? ⟨g2, k, none⟩ = some (.int .i64 (y : Int)) := by rw [← hy]; exact BlkOk.cell h.ot (row_get (f := fun k => (o k : Int)) hk)
theorem CU.set {g : Nat} (h : BlkOk w (CU g n c)) (k : Nat) (x : Int) : BlkOk (w.setCell ⟨g, k, none⟩ (.int .i64 x)) (CU g n (up c k x)) := by
  have h1 := BlkOk.set h k (.int .i64 x)
  simp only [CU] at h1
  rw [row_set] at h1
  exact h1
theorem OT.set {g : Nat} (h : BlkOk w (OT g n o)) (k x : Nat) : BlkOk (w.setCell ⟨g, k, none⟩ (.int .i64 (x : Int))) (OT g n (up o k x)) := by
  have h1 := BlkOk.set h k (.int .i64 (x : Int))
  simp only [OT] at h1
  rw [row_set] at h1
  unfold OT
  rwa [row_congr (g := fun j => ((up o k x j : Nat) : Int)) (fun j _ => by unfold up; split <;> rfl)] at h1
/-- both columns of a place written -/
theorem AlOk.put (h : AlOk w t g1 g2 n W c o) (k : Nat) (x : Int) (y : Nat) : AlOk ((w.setCell ⟨g1, k, none⟩ (.int .i64 x)).setCell ⟨g2, k, none⟩ (.int .i64 (y : Int))) t g1 g2 n W (up c k x) (up o k y) := by
  obtain ⟨n1, n2, n3⟩ := h.ne
  refine ⟨(h.tb.far (p := ⟨g1, k, none⟩) n1 _).far (p := ⟨g2, k, none⟩) n2 _, ?_, ?_⟩
  · exact BlkOk.far (p := ⟨g2, k, none⟩) (CU.set h.cu k x) n3 _
  · exact OT.set (BlkOk.far (p := ⟨g1, k, none⟩) h.ot (Ne.symm n3) _) k y
theorem AlOk.congr {c' : Nat → Int} {o' : Nat → Nat} (h : AlOk w t g1 g2 n W c o) (hc : ∀ j, j < n → c j = c' j) (ho : ∀ j, j < n → o j = o' j) : AlOk w t g1 g2 n W c' o' := by
  refine ⟨h.tb, ?_, ?_⟩
  · have h1 := h.cu
    unfold CU at h1 ⊢
    rwa [row_congr hc] at h1
  · have h1 := h.ot
    unfold OT at h1 ⊢
    rwa [row_congr (g := fun j => ((o' j : Nat) : Int)) (fun j hj => by rw [ho j hj])] at h1
theorem AlOk.drew (h : AlOk w t g1 g2 n W c o) : AlOk w.drew t g1 g2 n W c o := ⟨h.tb, h.cu, h.ot⟩
/-- its slices, behind a store into its cuts, and behind one into both columns -/
theorem AlOk.c12 (h : AlOk w t g1 g2 n W c o) : w.cell? ⟨t, 1, none⟩ = some (.slice (some ⟨g1, 0, none⟩) n n) ∧ w.cell? ⟨t, 2, none⟩ = some (.slice (some ⟨g2, 0, none⟩) n n) := ⟨h.cs.2.1, h.cs.2.2⟩
theorem AlOk.tb1 (h : AlOk w t g1 g2 n W c o) (k : Nat) (v : Value) : BlkOk (w.setCell ⟨g1, k, none⟩ v) (TA t g1 g2 n W) := h.tb.far (p := ⟨g1, k, none⟩) h.ne.1 _
theorem AlOk.tb2 (h : AlOk w t g1 g2 n W c o) (k : Nat) (v v' : Value) : BlkOk ((w.setCell ⟨g1, k, none⟩ v).setCell ⟨g2, k, none⟩ v') (TA t g1 g2 n W) := (h.tb1 k v).far (p := ⟨g2, k, none⟩) h.ne.2.1 _
theorem TA.c12 (h : BlkOk w (TA t g1 g2 n W)) : w.cell? ⟨t, 1, none⟩ = some (.slice (some ⟨g1, 0, none⟩) n n) ∧ w.cell? ⟨t, 2, none⟩ = some (.slice (some ⟨g2, 0, none⟩) n n) := ⟨BlkOk.cell (k := 1) h rfl, BlkOk.cell (k := 2) h rfl⟩
theorem CS.alloc11 {w0 : World} {T : List Blk} (h : CS w0 w T) (vs : List Value) (ty : TypeId) {g : Nat} (hg : w.heap.size = g) : CS w0 (w.alloc (.cells vs.toArray ty)) (⟨g, vs, ty⟩ :: T) := by
  subst hg
  exact h.new ((Below.refl _ w).alloc (Nat.le_refl _) _) (heap_alloc_new w _) (Nat.le_refl _)
end
/-- append of one int within a row's capacity -/
theorem run_app11 {w : World} {b m off k c y : Nat} {f : Nat → Int} {v : Int} {ty2 : TypeId} (ty : TypeId) (hb : BlkOk w ⟨b, row m f, 3⟩) (hy : BlkOk w ⟨y, [.int .i64 v], ty2⟩) (hroom : k + 1 ≤ c) (hfit : off + k < m) :
    (Builtin.append_ #[46, 46] ty #[.slice (some ⟨b, off, none⟩) k c, .slice (some ⟨y, 0, none⟩) 1 1]).run Tryz.prog w = .ok (.slice (some ⟨b, off, none⟩) (k + 1) c) (w.setCell ⟨b, off + k, none⟩ (.int .i64 v)) := by
  obtain ⟨i0, hi, hz0, hz1, hz2⟩ := info_parts infoI11
  have h := run_append_room_cells (P := Tryz.prog) w 46 ty 3 i0 slI11 hi b off k c ⟨y, 0, none⟩ 1 1 [.int .i64 v] (by rw [hz1]; rfl) (fun j u hu => by
      match j, hu with
      | 0, hu =>
        simp at hu
        subst hu
        exact BlkOk.cell (k := 0) hy rfl) (fun u hu => by simp at hu; subst hu; rfl) hroom (fun j hj => by
      obtain rfl : j = 0 := by simpa using hj
      have h1 : w.cell? ⟨b, off + k, none⟩ = some (.int .i64 (f (off + k))) := BlkOk.cell hb (row_get hfit)
      rw [hz1, Nat.mul_one, Nat.add_zero, h1]; rfl) (fun j hj => by
      obtain rfl : j = 0 := by simpa using hj
      exact BlkOk.fr hb _)
  rw [hz1, Nat.mul_one] at h
  rw [h]
  simp [World.setCells]
theorem wp_app11 {w : World} {ops : Array Oper} {rest : List Oper} {o : Oper} {a : Act} {Q : Exit → Act → World → Prop} (hgd : o.guard = none) (s x : Operand)
    (ho : o.op = .call { callee := .builtin .append, args := #[s, x], argTypes := #[46, 46] })
    {b m off k c y : Nat} {f : Nat → Int} {v : Int} {ty2 : TypeId} (hs : a.eval s = .slice (some ⟨b, off, none⟩) k c) (hx : a.eval x = .slice (some ⟨y, 0, none⟩) 1 1) (hb : BlkOk w ⟨b, row m f, 3⟩) (hy : BlkOk w ⟨y, [.int .i64 v], ty2⟩) (hroom : k + 1 ≤ c) (hfit : off + k < m)
    (h : wpList Tryz.prog ops Q rest (a.put o.dst (.slice (some ⟨b, off, none⟩) (k + 1) c)) (w.setCell ⟨b, off + k, none⟩ (.int .i64 v))) : wpList Tryz.prog ops Q (o :: rest) a w := by
  refine wpList_plain hgd fun K hK => ?_
  have hr := run_app11 o.type hb hy hroom hfit
  unfold Oper.wp execOp
  simp only [ho, resolve, invoke, builtin, Sem.run_bind, Sem.run_pure, Result.andThen_ok, List.map_toArray, List.map_cons, List.map_nil, hs, hx, hr]
  exact hK _ _ h
end Go.Proofs.YtfdpddlefobcpaaGreatDoor
/- What the program's uncut and initial of layer 11 answer over this translation. -/
namespace Go.Proofs.YtfdpddlefobcpaaGreatDoor
open Go.RowKit Go.Shelf
set_option linter.unusedVariables false
set_option linter.unusedSimpArgs false
set_option maxRecDepth 20000
open N
/-- uncut at work -/
structure UnC (w : World) (t g1 g2 n : Nat) (s : Int) (k : Nat) (wr : World) : Prop where
  bl : Below w.heap.size w wr
  al : AlOk wr t g1 g2 n s (fun j => if j < k then s else 0) (fun j => if j < k then j else 0)
  ge : w.heap.size ≤ t ∧ w.heap.size ≤ g1 ∧ w.heap.size ≤ g2
section
variable {w w1 wr : World} {t g1 g2 n k : Nat} {s : Int} {T : List Blk}
theorem UnC.start (h : CS w w1 T) (h1 : TA t g1 g2 n s ∈ T) (h2 : CU g1 n (fun _ => 0) ∈ T) (h3 : OT g2 n (fun _ => 0) ∈ T) : UnC w t g1 g2 n s 0 w1 :=
  ⟨h.bl, AlOk.congr ⟨h.box _ h1, h.box _ h2, h.box _ h3⟩ (fun j _ => by rw [if_neg (Nat.not_lt_zero _)]) (fun j _ => by rw [if_neg (Nat.not_lt_zero _)]), h.from_ _ h1, h.from_ _ h2, h.from_ _ h3⟩
theorem UnC.put (h : UnC w t g1 g2 n s k wr) : UnC w t g1 g2 n s (k + 1) ((wr.drew.setCell ⟨g1, k, none⟩ (.int .i64 s)).setCell ⟨g2, k, none⟩ (.int .i64 (k : Int))) := by
  refine ⟨((h.bl.trans ⟨rfl, rfl, rfl, Nat.le_refl _, fun _ _ => rfl⟩ : Below w.heap.size w wr.drew).setCell (p := ⟨g1, k, none⟩) h.ge.2.1 _).setCell (p := ⟨g2, k, none⟩) h.ge.2.2 _, ?_, h.ge⟩
  refine (h.al.drew.put k s k).congr (fun j _ => ?_) (fun j _ => ?_)
  · show up _ k s j = _
    unfold up
    by_cases e : j = k
    · rw [if_pos e, if_pos (by omega)]
    · rw [if_neg e]
      by_cases e2 : j < k
      · simp only [if_pos e2, if_pos (show j < k + 1 by omega)]
      · simp only [if_neg e2, if_neg (show ¬ j < k + 1 by omega)]
  · unfold up
    by_cases e : j = k
    · rw [if_pos e, if_pos (by omega), e]
    · rw [if_neg e]
      by_cases e2 : j < k
      · simp only [if_pos e2, if_pos (show j < k + 1 by omega)]
      · simp only [if_neg e2, if_neg (show ¬ j < k + 1 by omega)]
theorem UnC.drew (h : UnC w t g1 g2 n s k wr) : UnC w t g1 g2 n s k wr.drew := ⟨h.bl.trans ⟨rfl, rfl, rfl, Nat.le_refl _, fun _ _ => rfl⟩, h.al.drew, h.ge⟩
end
theorem uncut_any (w : World) (n : Nat) (s : Int) (hn : n ≤ 64) :
    Calls Tryz.prog 32 #[.int .i64 (n : Int), .int .i64 s] w fun e w' => ∃ t g1 g2, e = .returned (.pointer (some ⟨t, 0, none⟩)) ∧ AlOk w' t g1 g2 n s (fun _ => s) (fun i => i) ∧ w.heap.size ≤ t ∧ w.heap.size ≤ g1 ∧ w.heap.size ≤ g2 ∧ Below w.heap.size w w' := by
  have hm1 := make64_run n (by omega)
  have hm2 := makeI_run n (by omega)
  go_enter Tryz.func32, Tryz.ntmps32
  go_wp2_with fail
  go_region
  all_goals
    clear hm1 hm2
    generalize hwa : World.alloc _ _ = v1
    obtain ⟨t, ht⟩ : ∃ t, w.heap.size + 1 + 1 = t := ⟨_, rfl⟩
    have hU : ∃ g1 g2, UnC w t g1 g2 n s 0 v1 := by
      rw [← hwa, ← ht]
      first
        | exact ⟨w.heap.size, w.heap.size + 1, UnC.start ((((CS.start w).alloc11 (row n fun _ => 0) 2 (g := w.heap.size) rfl).alloc11 (row n fun _ => 0) 3 (g := w.heap.size + 1) (by simp)).alloc11 _ _ (g := w.heap.size + 1 + 1) (by simp)) List.mem_cons_self (List.mem_cons_of_mem _ (List.mem_cons_of_mem _ List.mem_cons_self)) (List.mem_cons_of_mem _ List.mem_cons_self)⟩
        | exact ⟨w.heap.size + 1, w.heap.size, UnC.start ((((CS.start w).alloc11 (row n fun _ => 0) 3 (g := w.heap.size) rfl).alloc11 (row n fun _ => 0) 2 (g := w.heap.size + 1) (by simp)).alloc11 _ _ (g := w.heap.size + 1 + 1) (by simp)) List.mem_cons_self (List.mem_cons_of_mem _ List.mem_cons_self) (List.mem_cons_of_mem _ (List.mem_cons_of_mem _ List.mem_cons_self))⟩
    obtain ⟨g1, g2, hU⟩ := hU
    rw [ht]
    have HU := Lib.hid hU
    clear hU hwa ht
    go_wp2_with fail
    go_loopw [15] (fun i wr => ∃ k : Nat, k ≤ n ∧ i = .int .i64 k ∧ UnC w t g1 g2 n s k wr) (fun i _ => n - (intOf i).toNat)
    case atStart => exact ⟨0, Nat.zero_le _, rfl, HU.out.drew⟩
    case round =>
      obtain ⟨k, hk, rfl, hc⟩ := hrel
      clear HU
      have HC := Lib.hid hc
      clear hc
      by_cases hlt : k < n
      · obtain ⟨c1, c2⟩ := HC.out.al.c12
        have hne := HC.out.al.ne.2.2
        have d1 := HC.out.al.cut hlt (show _ = (0 : Int) from if_neg (Nat.lt_irrefl k))
        have d2 := HC.out.al.oth hlt (show _ = (0 : Nat) from if_neg (Nat.lt_irrefl k))
        have f1 : wr.frozen? ⟨g1, k, none⟩ = false := BlkOk.fr HC.out.al.cu k
        have f2 : wr.frozen? ⟨g2, k, none⟩ = false := BlkOk.fr HC.out.al.ot k
        have hlz : (0 : Int) ≤ (k : Int) := by omega
        have hli : (k : Int) < (n : Int) := by omega
        go_wp2_with fail
        go_region_held3 (fun W => W.cell? ⟨t, 1, none⟩ = some (.slice (some ⟨g1, 0, none⟩) n n) ∧ W.cell? ⟨t, 2, none⟩ = some (.slice (some ⟨g2, 0, none⟩) n n)) (first | exact ⟨c1, c2⟩ | exact TA.c12 (HC.out.al.drew.tb1 _ _) | exact TA.c12 (HC.out.al.drew.tb2 _ _ _)) (fail)
        go_wp2
        go_roundw
        case rel => exact ⟨k + 1, hlt, by go_num, HC.out.put⟩
        case measure => simp [intOf]; omega
      · obtain rfl : k = n := by omega
        go_wp2
        go_ret
        exact ⟨t, g1, g2, rfl, HC.out.al.congr (fun j hj => by rw [if_pos hj]) (fun j hj => by rw [if_pos hj]), HC.out.ge.1, HC.out.ge.2.1, HC.out.ge.2.2, HC.out.bl⟩
/-- initial at work -/
structure InC (w : World) (g n : Nat) (q : Nat → Int) (k : Nat) (wr : World) : Prop where
  bl : Below w.heap.size w wr
  cu : BlkOk wr (CU g n (fun j => if j < k then q j else 0))
section
variable {w wr : World} {g n k : Nat} {q : Nat → Int}
theorem InC.start (w : World) (n : Nat) (q : Nat → Int) : InC w w.heap.size n q 0 (w.alloc (.cells (row n (fun _ => 0)).toArray 2)) := by
  refine ⟨(Below.refl _ w).alloc (Nat.le_refl _) _, ?_⟩
  unfold CU
  have e : row n (fun j => if j < 0 then q j else 0) = row n (fun _ => 0) := row_congr (fun j _ => by rw [if_neg (Nat.not_lt_zero _)])
  rw [e]
  exact heap_alloc_new w _
theorem InC.put (h : InC w g n q k wr) (hg : w.heap.size ≤ g) {x : Int} (hx : q k = x) : InC w g n q (k + 1) (wr.setCell ⟨g, k, none⟩ (.int .i64 x)) := by
  refine ⟨h.bl.setCell (p := ⟨g, k, none⟩) hg _, ?_⟩
  have h1 := CU.set h.cu k x
  unfold CU at h1 ⊢
  rwa [row_congr (g := fun j => if j < k + 1 then q j else 0) (fun j _ => by
    show up _ k x j = _
    unfold up
    by_cases e : j = k
    · rw [if_pos e, if_pos (by omega), e, hx]
    · rw [if_neg e]
      by_cases e2 : j < k
      · simp only [if_pos e2, if_pos (show j < k + 1 by omega)]
      · simp only [if_neg e2, if_neg (show ¬ j < k + 1 by omega)])] at h1
theorem InC.end_ (h : InC w g n q n wr) : BlkOk wr (CU g n q) := by
  have h1 := h.cu
  unfold CU at h1 ⊢
  rwa [row_congr (g := q) (fun j hj => by rw [if_pos hj])] at h1
end
theorem initial_any {w : World} {A : Option Addr} {n c : Nat} {ws : List Int} (h : Il w A n c ws) (hw : Wt ws) :
    Calls Tryz.prog 34 #[.slice A n c] w fun e w' => ∃ g, e = .returned (.slice (some ⟨g, 0, none⟩) n n) ∧ BlkOk w' (CU g n (hts ws)) ∧ w.heap.size ≤ g ∧ Below w.heap.size w w' := by
  have hl := h.len
  have hn9 : n ≤ 64 := by have := hw.l1; omega
  have hm1 := make64_run n (by omega)
  have HI := Lib.hid h
  have HW := Lib.hid hw
  have HLN := Lib.hid hl
  clear h hw hl
  go_enter Tryz.func34, Tryz.ntmps34
  go_wp2_with fail
  generalize hwa : World.alloc w _ = v1
  have h1 := InC.start w n (hts ws)
  rw [hwa] at h1
  obtain ⟨g, hg⟩ : ∃ g, w.heap.size = g := ⟨_, rfl⟩
  have HG := Lib.hid (show w.heap.size ≤ g by omega)
  rw [show InC w w.heap.size n (hts ws) 0 v1 = InC w g n (hts ws) 0 v1 by rw [← hg]] at h1
  rw [hg]
  have HS := Lib.hid h1
  clear h1 hwa hg hm1
  go_loopw [11] (fun i wr => ∃ k : Nat, k ≤ n ∧ i = .int .i64 k ∧ InC w g n (hts ws) k wr) (fun i _ => n - (intOf i).toNat)
  case atStart => exact ⟨0, Nat.zero_le _, rfl, HS.out⟩
  case round =>
    obtain ⟨k, hk, rfl, hc⟩ := hrel
    clear HS
    have HC := Lib.hid hc
    clear hc
    by_cases hlt : k < n
    · obtain ⟨ad, x, rfl, hx, hwf, _⟩ := HI.out.one hlt
      have hcw : wr.cell? (ad.add k) = some (.int .i64 x) := (HI.out.below HC.out.bl).the hlt hx
      have hle := hts_le HW.out (i := k) (by rw [HLN.out]; exact hlt)
      have hq : hts ws k = (n : Int) * x := by unfold hts; rw [HLN.out, List.getD_eq_getElem?_getD, hx]; rfl
      rw [hq] at hle
      obtain ⟨p, hp⟩ : ∃ p, (n : Int) * x = p := ⟨_, rfl⟩
      rw [hp] at hq hle
      have hwp : IntKind.i64.wrap ((n : Int) * x) = p := by rw [hp, IntKind.wrap_i64]; omega
      have HQ := Lib.hid hq
      have hc0 : wr.cell? ⟨g, k, none⟩ = some (.int .i64 0) := by
        have h1 := BlkOk.cell HC.out.cu (row_get (f := fun j => if j < k then hts ws j else 0) hlt)
        rwa [if_neg (Nat.lt_irrefl _)] at h1
      have hf0 : wr.frozen? ⟨g, k, none⟩ = false := BlkOk.fr HC.out.cu k
      clear hx hwf hle hq hp
      go_wp2
      go_roundw
      case rel => exact ⟨k + 1, hlt, by go_num, HC.out.put HG.out HQ.out⟩
      case measure => simp [intOf]; omega
    · obtain rfl : k = n := by omega
      go_wp2
      go_ret
      exact ⟨g, rfl, HC.out.end_, HG.out, HC.out.bl⟩
end Go.Proofs.YtfdpddlefobcpaaGreatDoor
/- What the program's split of layer 11 answers over this translation. -/
namespace Go.Proofs.YtfdpddlefobcpaaGreatDoor
open Go.RowKit Go.Shelf
set_option linter.unusedVariables false
set_option linter.unusedSimpArgs false
set_option maxRecDepth 20000
open N
/-- the row that bears both lists -/
def BO (b m : Nat) (f : Nat → Int) : Blk := ⟨b, row m f, 3⟩
theorem BO.set {w : World} {b m : Nat} {f : Nat → Int} (h : BlkOk w (BO b m f)) (k : Nat) (x : Int) : BlkOk (w.setCell ⟨b, k, none⟩ (.int .i64 x)) (BO b m (up f k x)) := by
  have h1 := BlkOk.set h k (.int .i64 x)
  simp only [BO] at h1
  rw [row_set] at h1
  exact h1
/-- split at work -/
structure SpC (w : World) (b n m : Nat) (q : Nat → Int) (W : Int) (k : Nat) (wr : World) : Prop where
  bl : Below w.heap.size w wr
  ge : w.heap.size ≤ b
  bo : ∃ f, BlkOk wr (BO b m f) ∧ Stk f 0 (lows q W k) ∧ Stk f n (highs q W k)
section
variable {w wr : World} {b n m k y : Nat} {q : Nat → Int} {W : Int} {ty : TypeId}
theorem SpC.start (w : World) (n m : Nat) (q : Nat → Int) (W : Int) : SpC w w.heap.size n m q W 0 (w.alloc (.cells (row m (fun _ => 0)).toArray 3)) :=
  ⟨(Below.refl _ w).alloc (Nat.le_refl _) _, Nat.le_refl _, fun _ => 0, heap_alloc_new w _, Stk.nil, Stk.nil⟩
theorem SpC.on (h : SpC w b n m q W k wr) {w' : World} (hb : Below wr.heap.size wr w') : SpC w b n m q W k w' := by
  obtain ⟨f, h1, h2, h3⟩ := h.bo
  exact ⟨h.bl.trans (hb.mono h.bl.size), h.ge, f, h1.on hb, h2, h3⟩
theorem SpC.low (h : SpC w b n m q W k wr) (hq : q k < W) (hk : k < n) {p : Nat} (hp : (lows q W k).length = p) : SpC w b n m q W (k + 1) (wr.setCell ⟨b, 0 + p, none⟩ (.int .i64 (k : Int))) := by
  subst hp
  obtain ⟨f, h1, h2, h3⟩ := h.bo
  have hl := @lows_len q W k
  refine ⟨h.bl.setCell (p := ⟨b, _, none⟩) h.ge _, h.ge, _, BO.set h1 _ _, ?_, ?_⟩
  · rw [lows, if_pos hq]; exact h2.push k
  · rw [highs, if_pos hq]; exact h3.far (.inl (by omega))
theorem SpC.high (h : SpC w b n m q W k wr) (hq : ¬ q k < W) (hk : k < n) {p : Nat} (hp : (highs q W k).length = p) : SpC w b n m q W (k + 1) (wr.setCell ⟨b, n + p, none⟩ (.int .i64 (k : Int))) := by
  subst hp
  obtain ⟨f, h1, h2, h3⟩ := h.bo
  have hl := @lows_len q W k
  refine ⟨h.bl.setCell (p := ⟨b, _, none⟩) h.ge _, h.ge, _, BO.set h1 _ _, ?_, ?_⟩
  · rw [lows, if_neg hq]; exact h2.far (.inr (by omega))
  · rw [highs, if_neg hq]; exact h3.push k
end
theorem asplit_any {w : World} {g n : Nat} {q : Nat → Int} {W : Int} (h : BlkOk w (CU g n q)) (hn : 0 < n) (hn9 : n ≤ 64) :
    Calls Tryz.prog 57 #[.slice (some ⟨g, 0, none⟩) n n, .int .i64 W] w fun e w' => ∃ b, e = .returned (.tuple #[.slice (some ⟨b, 0, none⟩) (lows q W n).length n, .slice (some ⟨b, n, none⟩) (highs q W n).length n]) ∧ SpC w b n (2 * n) q W n w' := by
  obtain ⟨m, hm⟩ : ∃ m, 2 * n = m := ⟨_, rfl⟩
  have hm1 := makeI_run m (by omega)
  have hwm : IntKind.i64.wrap (2 * (n : Int)) = (m : Int) := by rw [IntKind.wrap_i64]; omega
  have h3 : (0 : Int) ≤ (n : Int) := by omega
  have h4 : (n : Int) ≤ (m : Int) := by omega
  have HM := Lib.hid hm
  rw [hm]
  have HH := Lib.hid h
  clear h hm
  have hmn : ¬ m = n := by have := HM.out; omega
  have hmn2 : m - n = n := by have := HM.out; omega
  go_enter Tryz.func57, Tryz.ntmps57
  go_wp2_with fail
  go_region
  generalize hwa : World.alloc _ _ = v1
  have h1 := SpC.start w n m q W
  rw [hwa] at h1
  obtain ⟨b, hb⟩ : ∃ b, w.heap.size = b := ⟨_, rfl⟩
  rw [show SpC w w.heap.size n m q W 0 v1 = SpC w b n m q W 0 v1 by rw [← hb]] at h1
  rw [hb]
  have HS := Lib.hid (h1.on (w' := v1.drew) ⟨rfl, rfl, rfl, Nat.le_refl _, fun _ _ => rfl⟩)
  clear h1 hwa hb hm1 hwm h3 h4 hmn hmn2
  go_wp2_with fail
  go_loopw [4, 5, 26] (fun lo hi i wr => ∃ k : Nat, k ≤ n ∧ lo = .slice (some ⟨b, 0, none⟩) (lows q W k).length n ∧ hi = .slice (some ⟨b, n, none⟩) (highs q W k).length n ∧ i = .int .i64 k ∧ SpC w b n m q W k wr) (fun _ _ i _ => n - (intOf i).toNat)
  case atStart => exact ⟨0, Nat.zero_le _, rfl, rfl, rfl, HS.out⟩
  case round =>
    obtain ⟨k, hk, rfl, rfl, rfl, hc⟩ := hrel
    clear HS
    have HC := Lib.hid hc
    clear hc
    obtain ⟨p, hp⟩ : ∃ p, (lows q W k).length = p := ⟨_, rfl⟩
    obtain ⟨p', hp'⟩ : ∃ p, (highs q W k).length = p := ⟨_, rfl⟩
    have hpp : p + p' = k := by rw [← hp, ← hp']; exact lows_len
    rw [hp, hp']
    have HP := Lib.hid hp
    have HP' := Lib.hid hp'
    clear hp hp'
    by_cases hlt : k < n
    · have hcell : wr.cell? ⟨g, k, none⟩ = some (.int .i64 (q k)) := BlkOk.cell (HH.out.on HC.out.bl) (row_get hlt)
      obtain ⟨x, hx⟩ : ∃ x, q k = x := ⟨_, rfl⟩
      rw [hx] at hcell
      obtain ⟨f, hf, _⟩ := HC.out.bo
      have HF := Lib.hid (hf.on ((Below.refl _ wr).alloc (Nat.le_refl _) (.cells #[.int .i64 (k : Int)] 3)))
      have HY := Lib.hid (show BlkOk (wr.alloc (.cells #[.int .i64 (k : Int)] 3)) ⟨wr.heap.size, [.int .i64 (k : Int)], 3⟩ from heap_alloc_new _ _)
      have HCA := Lib.hid (HC.out.on ((Below.refl _ wr).alloc (Nat.le_refl _) (.cells #[.int .i64 (k : Int)] 3)))
      have HR := Lib.hid (show p + 1 ≤ n ∧ 0 + p < m ∧ p' + 1 ≤ n ∧ n + p' < m by have := HM.out; omega)
      clear hf hpp
      by_cases hlow : x < W
      · have HN := HCA.out.low (by rw [hx]; exact hlow) hlt HP.out
        rw [Nat.zero_add] at HN
        have HN := Lib.hid HN
        have HL := Lib.hid (show (lows q W (k + 1)).length = p + 1 ∧ (highs q W (k + 1)).length = p' by rw [lows, highs, if_pos (by rw [hx]; exact hlow), if_pos (by rw [hx]; exact hlow), List.length_cons, HP.out, HP'.out]; exact ⟨rfl, rfl⟩)
        clear hx
        go_wp2_with (at_builtin; refine wp_app11 rfl _ _ rfl (by rfl) (by rfl) HF.out HY.out HR.out.1 HR.out.2.1 ?_)
        go_roundw
        case rel => exact ⟨k + 1, hlt, by rw [HL.out.1], by rw [HL.out.2], by go_num, HN.out⟩
        case measure => simp [intOf]; omega
      · have HN := Lib.hid (show SpC w b n m q W (k + 1) _ from HCA.out.high (by rw [hx]; exact hlow) hlt HP'.out)
        have HL := Lib.hid (show (lows q W (k + 1)).length = p ∧ (highs q W (k + 1)).length = p' + 1 by rw [lows, highs, if_neg (by rw [hx]; exact hlow), if_neg (by rw [hx]; exact hlow), List.length_cons, HP.out, HP'.out]; exact ⟨rfl, rfl⟩)
        clear hx
        go_wp2_with (at_builtin; refine wp_app11 rfl _ _ rfl (by rfl) (by rfl) HF.out HY.out HR.out.2.2.1 HR.out.2.2.2 ?_)
        go_roundw
        case rel => exact ⟨k + 1, hlt, by rw [HL.out.1], by rw [HL.out.2], by go_num, HN.out⟩
        case measure => simp [intOf]; omega
    · obtain rfl : k = n := by omega
      go_wp2
      go_ret2
      exact ⟨b, by rw [HP.out, HP'.out]; rfl, HC.out⟩
end Go.Proofs.YtfdpddlefobcpaaGreatDoor
/- What the program's cutLow of layer 11 answers over this translation. -/
namespace Go.Proofs.YtfdpddlefobcpaaGreatDoor
open Go.RowKit Go.Shelf
set_option linter.unusedVariables false
set_option linter.unusedSimpArgs false
set_option maxRecDepth 20000
open N
def lenV : Value → Nat
  | .slice _ n _ => n
  | _ => 0
/-- the blocks of a table at work -/
structure CtX (B : Nat) (w : World) (t g1 g2 gh b n m : Nat) (W : Int) (h c : Nat → Int) (o : Nat → Nat) (f : Nat → Int) (wr : World) : Prop where
  bl : Below B w wr
  al : AlOk wr t g1 g2 n W c o
  hh : BlkOk wr (CU gh n h)
  bo : BlkOk wr (BO b m f)
  ge : B ≤ g1 ∧ B ≤ g2 ∧ B ≤ gh ∧ B ≤ b ∧ B ≤ wr.heap.size
  ne : gh ≠ g1 ∧ b ≠ g2
section
variable {B : Nat} {w wr w' : World} {t g1 g2 gh b n m k y : Nat} {W x : Int} {h c f : Nat → Int} {o : Nat → Nat}
theorem CtX.on (H : CtX B w t g1 g2 gh b n m W h c o f wr) (hb : Below wr.heap.size wr w') : CtX B w t g1 g2 gh b n m W h c o f w' :=
  ⟨H.bl.trans (hb.mono H.ge.2.2.2.2), H.al.on hb, H.hh.on hb, H.bo.on hb, ⟨H.ge.1, H.ge.2.1, H.ge.2.2.1, H.ge.2.2.2.1, Nat.le_trans H.ge.2.2.2.2 hb.size⟩, H.ne⟩
theorem CtX.drew (H : CtX B w t g1 g2 gh b n m W h c o f wr) : CtX B w t g1 g2 gh b n m W h c o f wr.drew := H.on ⟨rfl, rfl, rfl, Nat.le_refl _, fun _ _ => rfl⟩
theorem CtX.nes (H : CtX B w t g1 g2 gh b n m W h c o f wr) : t ≠ gh ∧ gh ≠ g2 ∧ b ≠ g1 ∧ b ≠ gh :=
  ⟨blk_ne H.al.tb H.hh (show 54 ≠ 2 by decide), blk_ne H.hh H.al.ot (show 2 ≠ 3 by decide), blk_ne H.bo H.al.cu (show 3 ≠ 2 by decide), blk_ne H.bo H.hh (show 3 ≠ 2 by decide)⟩
theorem CtX.put2 (H : CtX B w t g1 g2 gh b n m W h c o f wr) (k : Nat) (x : Int) (y : Nat) : CtX B w t g1 g2 gh b n m W h (up c k x) (up o k y) f ((wr.setCell ⟨g1, k, none⟩ (.int .i64 x)).setCell ⟨g2, k, none⟩ (.int .i64 (y : Int))) := by
  obtain ⟨n1, n2, n3, n4⟩ := H.nes
  exact ⟨(H.bl.setCell (p := ⟨g1, k, none⟩) H.ge.1 _).setCell (p := ⟨g2, k, none⟩) H.ge.2.1 _, H.al.put k x y, (H.hh.far (p := ⟨g1, k, none⟩) H.ne.1 _).far (p := ⟨g2, k, none⟩) n2 _, (H.bo.far (p := ⟨g1, k, none⟩) n3 _).far (p := ⟨g2, k, none⟩) H.ne.2 _, by simpa [World.setCell] using H.ge, H.ne⟩
theorem CtX.puth (H : CtX B w t g1 g2 gh b n m W h c o f wr) (k : Nat) (x : Int) : CtX B w t g1 g2 gh b n m W (up h k x) c o f (wr.setCell ⟨gh, k, none⟩ (.int .i64 x)) := by
  obtain ⟨n1, n2, n3, n4⟩ := H.nes
  exact ⟨H.bl.setCell (p := ⟨gh, k, none⟩) H.ge.2.2.1 _, ⟨H.al.tb.far (p := ⟨gh, k, none⟩) n1 _, H.al.cu.far (p := ⟨gh, k, none⟩) (Ne.symm H.ne.1) _, H.al.ot.far (p := ⟨gh, k, none⟩) (Ne.symm n2) _⟩, CU.set H.hh k x, H.bo.far (p := ⟨gh, k, none⟩) n4 _, by simpa [World.setCell] using H.ge, H.ne⟩
theorem CtX.putb (H : CtX B w t g1 g2 gh b n m W h c o f wr) (k : Nat) (x : Int) : CtX B w t g1 g2 gh b n m W h c o (up f k x) (wr.setCell ⟨b, k, none⟩ (.int .i64 x)) := by
  obtain ⟨n1, n2, n3, n4⟩ := H.nes
  have n5 : t ≠ b := blk_ne H.al.tb H.bo (show 54 ≠ 3 by decide)
  exact ⟨H.bl.setCell (p := ⟨b, k, none⟩) H.ge.2.2.2.1 _, ⟨H.al.tb.far (p := ⟨b, k, none⟩) n5 _, H.al.cu.far (p := ⟨b, k, none⟩) (Ne.symm n3) _, H.al.ot.far (p := ⟨b, k, none⟩) (Ne.symm H.ne.2) _⟩, H.hh.far (p := ⟨b, k, none⟩) (Ne.symm n4) _, BO.set H.bo k x, by simpa [World.setCell] using H.ge, H.ne⟩
theorem CtX.at_h (H : CtX B w t g1 g2 gh b n m W h c o f wr) (hk : k < n) (hx : h k = x) : wr.cell? ⟨gh, k, none⟩ = some (.int .i64 x) := by rw [← hx]; exact BlkOk.cell H.hh (row_get hk)
theorem CtX.at_b (H : CtX B w t g1 g2 gh b n m W h c o f wr) (hk : k < m) (hx : f k = x) : wr.cell? ⟨b, k, none⟩ = some (.int .i64 x) := by rw [← hx]; exact BlkOk.cell H.bo (row_get hk)
/-- what the stores of a place ask -/
def CtS (t g1 g2 gh n l : Nat) (x : Int) (wr : World) : Prop := wr.cell? ⟨t, 1, none⟩ = some (.slice (some ⟨g1, 0, none⟩) n n) ∧ wr.cell? ⟨t, 2, none⟩ = some (.slice (some ⟨g2, 0, none⟩) n n) ∧ wr.cell? ⟨gh, l, none⟩ = some (.int .i64 x)
theorem CtX.s0 (H : CtX B w t g1 g2 gh b n m W h c o f wr) {l : Nat} (hl : l < n) {x : Int} (hx : h l = x) : CtS t g1 g2 gh n l x wr := ⟨H.al.c12.1, H.al.c12.2, H.at_h hl hx⟩
theorem CtX.s1 (H : CtX B w t g1 g2 gh b n m W h c o f wr) {l : Nat} (hl : l < n) {x : Int} (hx : h l = x) (v : Value) : CtS t g1 g2 gh n l x (wr.setCell ⟨g1, l, none⟩ v) := by
  have h1 := TA.c12 (H.al.tb1 l v)
  refine ⟨h1.1, h1.2, ?_⟩
  rw [← hx]
  exact BlkOk.cell (H.hh.far (p := ⟨g1, l, none⟩) H.ne.1 v) (row_get hl)
end
/-- cutLow at work -/
structure CtC (B : Nat) (w : World) (t g1 g2 gh b n : Nat) (W : Int) (q : Nat → Int) (R z : Al) (wr : World) : Prop where
  x : ∃ f, CtX B w t g1 g2 gh b n (2 * n) W z.h z.c z.o f wr ∧ Stk f 0 z.lo ∧ Stk f n z.hi
  inv : AlInv W n q z
  len : z.lo.length + z.hi.length ≤ n
  fin : runA W (z.lo.length + z.hi.length) z = R
theorem AlInv.len2 {W : Int} {n : Nat} {q : Nat → Int} {s : Al} (I : AlInv W n q s) (hl : s.lo.length + s.hi.length ≤ n) (hn : 0 < n) : s.lo.length ≤ n ∧ s.hi.length ≤ n := by omega
set_option maxHeartbeats 4000000 in
theorem cutLow_any {w : World} {B t g1 g2 gh n : Nat} {W : Int} {q : Nat → Int} {s : Al} (hT : AlOk w t g1 g2 n W s.c s.o) (hh : BlkOk w (CU gh n s.h)) (hne : gh ≠ g1) (I : AlInv W n q s) (hq : ∀ j, j < n → q j ≤ 67108864) (hW : 0 < W ∧ W ≤ 67108864) (hn : 0 < n ∧ n ≤ 64) (hlo : s.lo = lows s.h W n) (hhi : s.hi = highs s.h W n) (hg : B ≤ g1 ∧ B ≤ g2 ∧ B ≤ gh ∧ B ≤ w.heap.size) :
    Calls Tryz.prog 33 #[.pointer (some ⟨t, 0, none⟩), .slice (some ⟨gh, 0, none⟩) n n] w fun e w' => e = .returned (.tuple #[]) ∧ AlOk w' t g1 g2 n W (runA W n s).c (runA W n s).o ∧ Below B w w' := by
  have hc0 := hT.cs.1
  have HSP := Lib.hid (asplit_any (W := W) hh hn.1 hn.2)
  have HST := Lib.hid (fun (b : Nat) (W1 : World) (h : SpC w b n (2 * n) s.h W n W1) => show CtC B w t g1 g2 gh b n W q (runA W n s) s W1 from by
    obtain ⟨f, h1, h2, h3⟩ := h.bo
    have hl : s.lo.length + s.hi.length = n := by rw [hlo, hhi]; exact lows_len
    refine ⟨⟨f, ⟨h.bl.mono hg.2.2.2, hT.on h.bl, hh.on h.bl, h1, ⟨hg.1, hg.2.1, hg.2.2.1, Nat.le_trans hg.2.2.2 h.ge, Nat.le_trans hg.2.2.2 h.bl.size⟩, hne, fun e => ?_⟩, by rw [hlo]; exact h2, by rw [hhi]; exact h3⟩, I, by omega, by rw [hl]⟩
    have h4 := BlkOk.lt hT.ot
    have h5 := h.ge
    simp only [OT] at h4
    omega)
  have HLO := Lib.hid hlo
  have HHI := Lib.hid hhi
  have HQ := Lib.hid hq
  have HN := Lib.hid hn
  have HW := Lib.hid hW
  clear hT hh hne I hq hlo hhi hn hg
  go_enter Tryz.func33, Tryz.ntmps33
  go_wp2_with (go_at_call 57; refine HSP.out.mono ?_; rintro e w1 ⟨b, rfl, hS⟩; have HS := Lib.hid (HST.out b w1 hS); clear hS)
  rw [← HLO.out, ← HHI.out]
  clear hc0 HSP HST
  go_loopw [4, 5] (fun lo hi wr => ∃ z : Al, lo = .slice (some ⟨b, 0, none⟩) z.lo.length n ∧ hi = .slice (some ⟨b, n, none⟩) z.hi.length n ∧ CtC B w t g1 g2 gh b n W q (runA W n s) z wr) (fun lo hi _ => lenV lo + lenV hi)
  case atStart => exact ⟨s, rfl, rfl, HS.out⟩
  case round =>
    obtain ⟨z, rfl, rfl, hc⟩ := hrel
    clear HS
    have HC := Lib.hid hc
    clear hc
    rcases e1 : z.lo with _ | ⟨l, lo⟩
    · go_wp2
      go_end0
      have hf := HC.out.fin
      rw [runA_end (.inl e1)] at hf
      obtain ⟨f, hx, _⟩ := HC.out.x
      exact ⟨rfl, by rw [← hf]; exact hx.al, hx.bl⟩
    rcases e2 : z.hi with _ | ⟨d, hi⟩
    · obtain ⟨P, hP⟩ : ∃ P, (l :: lo).length = P := ⟨_, rfl⟩
      have hP0 : (0 : Int) < (P : Int) := by rw [← hP, List.length_cons]; omega
      rw [hP]
      clear hP
      go_wp2
      go_end0
      have hf := HC.out.fin
      rw [runA_end (.inr e2)] at hf
      obtain ⟨f, hx, _⟩ := HC.out.x
      exact ⟨rfl, by rw [← hf]; exact hx.al, hx.bl⟩
    obtain ⟨f, hx, hs1, hs2⟩ := HC.out.x
    have I := HC.out.inv
    have hlen := HC.out.len
    have hfin := HC.out.fin
    rw [e1, e2, List.length_cons, List.length_cons] at hlen hfin
    obtain ⟨m1, m2, m3, m4, m5⟩ := I.ne e1 e2
    obtain ⟨l0, l1⟩ := I.low l (by rw [e1]; exact List.mem_cons_self)
    obtain ⟨d0, d1⟩ := I.high d (by rw [e2]; exact List.mem_cons_self)
    have hln := (I.lt l (by rw [e1]; exact List.mem_append_left _ List.mem_cons_self)).1
    have hdn := (I.lt d (by rw [e2]; exact List.mem_append_right _ List.mem_cons_self)).1
    have hqd := HQ.out d hdn
    have hw9 := HW.out
    have hn9 := HN.out
    rw [e1] at hs1
    rw [e2] at hs2
    have ht1 := hs1.top
    have ht2 := hs2.top
    rw [Nat.zero_add] at ht1
    obtain ⟨p, hp⟩ : ∃ p, lo.length = p := ⟨_, rfl⟩
    obtain ⟨p', hp'⟩ : ∃ p, hi.length = p := ⟨_, rfl⟩
    obtain ⟨P, hP⟩ : ∃ P, p + 1 = P := ⟨_, rfl⟩
    obtain ⟨P', hP'⟩ : ∃ P, p' + 1 = P := ⟨_, rfl⟩
    obtain ⟨x, hxl⟩ : ∃ x, z.h l = x := ⟨_, rfl⟩
    obtain ⟨y, hyd⟩ : ∃ y, z.h d = y := ⟨_, rfl⟩
    obtain ⟨g, hgv⟩ : ∃ g, y - (W - x) = g := ⟨_, rfl⟩
    obtain ⟨m, hm⟩ : ∃ m, 2 * n = m := ⟨_, rfl⟩
    rw [List.length_cons, List.length_cons, hp, hp', hP, hP']
    rw [hp, hp'] at hlen hfin
    rw [hp] at ht1
    rw [hp'] at ht2
    rw [hxl] at l0 l1
    rw [hyd] at d0 d1
    rw [hm] at hx
    have hcut : z.cut W l d lo hi = if g < W then ⟨up z.h d g, up z.c l x, up z.o l d, d :: lo, hi⟩ else ⟨up z.h d g, up z.c l x, up z.o l d, lo, d :: hi⟩ := by unfold Al.cut; rw [hxl, hyd, hgv]
    have hfin2 : runA W (p + p' + 1) (z.cut W l d lo hi) = runA W n s := by rw [← hfin, show p + 1 + (p' + 1) = p + p' + 1 + 1 by omega, runA_step e1 e2]
    have hI2 := I.cut e1 e2
    rw [hcut] at hfin2 hI2
    -- what the walk knows
    have HX0 := Lib.hid hx
    have HFIN := Lib.hid hfin2
    have HINV := Lib.hid hI2
    have HS1 := Lib.hid hs1
    have HS2 := Lib.hid hs2
    have HPL := Lib.hid (show lo.length = p ∧ hi.length = p' ∧ p + 1 = P ∧ p' + 1 = P' ∧ 2 * n = m ∧ p + 1 + (p' + 1) ≤ n from ⟨hp, hp', hP, hP', hm, hlen⟩)
    have HXL := Lib.hid hxl
    have HYD := Lib.hid hyd
    have HLN := Lib.hid (show l < n ∧ d < n ∧ l ≠ d from ⟨hln, hdn, m1⟩)
    have k1 := hx.al.c12
    obtain ⟨k2, k3⟩ := k1
    have k4 := hx.at_b (k := p) (by omega) ht1
    have k5 := hx.at_b (k := n + p') (by omega) ht2
    have k6 := hx.at_h hln hxl
    have hP0 : (0 : Int) < (P : Int) := by omega
    have hP0' : (0 : Int) < (P' : Int) := by omega
    have hwp : IntKind.i64.wrap ((P : Int) - 1) = (p : Int) := by rw [IntKind.wrap_i64]; omega
    have hwp' : IntKind.i64.wrap ((P' : Int) - 1) = (p' : Int) := by rw [IntKind.wrap_i64]; omega
    have i1 : (0 : Int) ≤ (p : Int) := by omega
    have i2 : (p : Int) < (P : Int) := by omega
    have i3 : (0 : Int) ≤ (p' : Int) := by omega
    have i4 : (p' : Int) < (P' : Int) := by omega
    have i5 : (p : Int) ≤ (n : Int) := by omega
    have i6 : (p' : Int) ≤ (n : Int) := by omega
    have i7 : (0 : Int) ≤ (l : Int) := by omega
    have i8 : (l : Int) < (n : Int) := by omega
    have i9 : (0 : Int) ≤ (d : Int) := by omega
    have i10 : (d : Int) < (n : Int) := by omega
    have hwx : IntKind.i64.wrap (W - x) = W - x := by rw [IntKind.wrap_i64]; omega
    have hwg : IntKind.i64.wrap (y - (W - x)) = g := by rw [hgv, IntKind.wrap_i64]; omega
    clear hx hs1 hs2 I hlen hfin m1 m2 m3 m4 m5 l0 l1 d0 d1 hln hdn hqd hw9 hn9 ht1 ht2 hp hp' hP hP' hxl hyd hgv hm hcut hfin2 hI2 e1 e2 HC
    go_wp2_with fail
    go_region_held3 (fun W' => W'.cell? ⟨b, p, none⟩ = some (.int .i64 (l : Int)) ∧ W'.cell? ⟨b, n + p', none⟩ = some (.int .i64 (d : Int))) (exact ⟨k4, k5⟩) (fail)
    go_wp2_with fail
    have f1 : wr.frozen? ⟨g1, l, none⟩ = false := BlkOk.fr HX0.out.al.cu l
    have f2 : wr.frozen? ⟨g2, l, none⟩ = false := BlkOk.fr HX0.out.al.ot l
    have v1 := HX0.out.al.cut HLN.out.1 rfl
    have v2 := HX0.out.al.oth HLN.out.1 rfl
    have hn3 := HX0.out.al.ne.2.2
    go_region_held3 (fun W' => W'.cell? ⟨t, 1, none⟩ = some (.slice (some ⟨g1, 0, none⟩) n n) ∧ W'.cell? ⟨t, 2, none⟩ = some (.slice (some ⟨g2, 0, none⟩) n n) ∧ W'.cell? ⟨gh, l, none⟩ = some (.int .i64 x)) (first | exact ⟨k2, k3, k6⟩ | exact HX0.out.drew.drew.s1 HLN.out.1 HXL.out _ | exact (HX0.out.drew.drew.put2 l x d).s0 HLN.out.1 HXL.out) (fail)
    generalize hw1 : World.setCell _ _ _ = w1
    have HX1 := Lib.hid (show CtX B w t g1 g2 gh b n m W z.h (up z.c l x) (up z.o l d) f w1 by rw [← hw1]; exact HX0.out.put2 l x d)
    clear hw1 f1 f2 v1 v2 hn3 k2 k3 k4 k5 k6 HX0
    have j1 := HX1.out.al.cs.1
    have j2 := HX1.out.at_h HLN.out.2.1 HYD.out
    have j3 := HX1.out.at_h HLN.out.1 HXL.out
    have j4 : w1.frozen? ⟨gh, d, none⟩ = false := BlkOk.fr HX1.out.hh d
    go_wp2_with fail
    go_region
    generalize hw2 : World.drew _ = w2
    have HX2 := Lib.hid (show CtX B w t g1 g2 gh b n m W (up z.h d g) (up z.c l x) (up z.o l d) f w2 by rw [← hw2]; exact (HX1.out.puth d g).drew.drew.drew)
    clear hw2 j1 j2 j3 j4 HX1 hwx hwg
    have j1 := HX2.out.al.cs.1
    have j2 := HX2.out.at_h HLN.out.2.1 up_at
    go_wp2_with fail
    go_region
    have HXD := Lib.hid (HX2.out.drew)
    have HF := Lib.hid ((HX2.out.on ((Below.refl _ w2).alloc (Nat.le_refl _) (.cells #[.int .i64 (d : Int)] 3))).drew)
    have HY := Lib.hid (show BlkOk (w2.alloc (.cells #[.int .i64 (d : Int)] 3)).drew ⟨w2.heap.size, [.int .i64 (d : Int)], 3⟩ from heap_alloc_new w2 _)
    have HPB := Lib.hid (((HX2.out.on ((Below.refl _ w2).alloc (Nat.le_refl _) (.cells #[.int .i64 (d : Int)] 3))).putb p (d : Int)).drew)
    have HRM := Lib.hid (show p + 1 ≤ n ∧ 0 + p < m by have := HPL.out; omega)
    by_cases hgw : g < W
    · have HI2 := HINV.out
      have HFI := HFIN.out
      rw [if_pos hgw] at HI2 HFI
      have HI3 := Lib.hid HI2
      have HFI3 := Lib.hid HFI
      clear HI2 HFI
      go_wp2_with (at_builtin; refine wp_app11 rfl _ _ rfl (by rfl) (by rfl) HF.out.bo HY.out HRM.out.1 HRM.out.2 ?_)
      go_roundw
      case rel =>
        obtain ⟨q1, q2, q3, q4, q5, q6⟩ := HPL.out
        refine ⟨⟨up z.h d g, up z.c l x, up z.o l d, d :: lo, hi⟩, by simp only [List.length_cons, q1], by simp only [q2], ⟨up f p (d : Int), by rw [q5]; exact HPB.out, ?_, ?_⟩, HI3.out, ?_, ?_⟩
        · have h1 := HS1.out.pop.push d
          rwa [q1, Nat.zero_add] at h1
        · exact HS2.out.pop.far (.inl (by omega))
        · simp only [List.length_cons, q1, q2]; omega
        · simp only [List.length_cons, q1, q2]
          rw [← HFI3.out]
          congr 1; omega
      case measure =>
        have := HPL.out
        simp only [lenV]
        omega
    · have HI2 := HINV.out
      have HFI := HFIN.out
      rw [if_neg hgw] at HI2 HFI
      have HI3 := Lib.hid HI2
      have HFI3 := Lib.hid HFI
      clear HI2 HFI
      go_wp2
      go_roundw
      case rel =>
        obtain ⟨q1, q2, q3, q4, q5, q6⟩ := HPL.out
        refine ⟨⟨up z.h d g, up z.c l x, up z.o l d, lo, d :: hi⟩, by simp only [q1], by simp only [List.length_cons, q2, q4], ⟨f, by rw [q5]; exact HXD.out, HS1.out.pop, HS2.out⟩, HI3.out, ?_, ?_⟩
        · simp only [List.length_cons, q1, q2]; omega
        · simp only [List.length_cons, q1, q2]
          rw [← HFI3.out]
          congr 1
      case measure =>
        have := HPL.out
        simp only [lenV]
        omega
end Go.Proofs.YtfdpddlefobcpaaGreatDoor
/- What the program's New of layer 11 answers over this translation. -/
namespace Go.Proofs.YtfdpddlefobcpaaGreatDoor
open Go.RowKit Go.Shelf
set_option linter.unusedVariables false
set_option linter.unusedSimpArgs false
set_option maxRecDepth 20000
open N
/-- a table of these weights -/
def Ta (w : World) (t g1 g2 : Nat) (ws : List Int) : Prop := AlOk w t g1 g2 ws.length (pre ws ws.length) (cutA ws) (othA ws)
/-- what New tells of weights that may be a table's -/
def ANewOk (w : World) (ws : List Int) (e : Ending) (w' : World) : Prop :=
  ∃ t g1 g2, e = .returned (.tuple #[.pointer (some ⟨t, 0, none⟩), .int .i64 0]) ∧ Ta w' t g1 g2 ws ∧ w.heap.size ≤ t ∧ w.heap.size ≤ g1 ∧ w.heap.size ≤ g2 ∧ Below w.heap.size w w'
theorem anew_any {w : World} {A : Option Addr} {n c : Nat} {ws : List Int} (h : Il w A n c ws) :
    Calls Tryz.prog 8 #[.slice A n c] w fun e w' => (mayW ws = 0 ∧ ANewOk w ws e w') ∨ (¬ mayW ws = 0 ∧ e = .returned (.tuple #[.pointer none, .int .i64 (mayW ws)]) ∧ Below w.heap.size w w') := by
  have hl := h.len
  by_cases c0 : n = 0
  · subst c0
    have hm : mayW ws = 4 := by unfold mayW; rw [if_pos hl]
    clear h hl
    rw [hm]
    go_enter Tryz.func8, Tryz.ntmps8
    go_wp2
    go_ret2
    exact .inr ⟨by decide, rfl, Below.refl _ _⟩
  by_cases c1 : 64 < n
  · have hm : mayW ws = 5 := by unfold mayW; rw [if_neg (by omega), if_pos (by omega)]
    have hn0 : ¬ (n : Int) = 0 := by omega
    have hn1 : (64 : Int) < (n : Int) := by omega
    clear h hl c0 c1
    rw [hm]
    go_enter Tryz.func8, Tryz.ntmps8
    go_wp2
    go_ret2
    exact .inr ⟨by decide, rfl, Below.refl _ _⟩
  have hn0 : ¬ (n : Int) = 0 := by omega
  have hn1 : ¬ (64 : Int) < (n : Int) := by omega
  have hn9 : n ≤ 64 := by omega
  have HI := Lib.hid h
  have HL := Lib.hid (show ws.length = n ∧ 0 < n ∧ n ≤ 64 by omega)
  clear h hl c0 c1
  go_enter Tryz.func8, Tryz.ntmps8
  go_wp2_with fail
  go_loop [4, 16] (fun s i => ∃ k : Nat, k ≤ n ∧ okTo ws k ∧ s = .int .i64 (pre ws k) ∧ i = .int .i64 k) (fun _ i => n - (intOf i).toNat)
  case atStart => exact ⟨0, Nat.zero_le _, okTo.zero, by rw [pre_zero], rfl⟩
  case round =>
    obtain ⟨k, hk, hok, rfl, rfl⟩ := hrel
    by_cases hlt : k < n
    · obtain ⟨ad, x, rfl, hx, hwf, hcw⟩ := HI.out.one hlt
      by_cases hbad : 0 ≤ x ∧ x ≤ 1048576
      · have hok2 := hok.succ hx hbad.1 hbad.2
        have hle := hok.le (by rw [HL.out.1]; omega)
        have hps := pre_succ hx
        obtain ⟨s, hs⟩ : ∃ s, pre ws k = s := ⟨_, rfl⟩
        rw [hs] at hps hle
        have hwr : IntKind.i64.wrap (s + x) = s + x := by rw [IntKind.wrap_i64]; omega
        have hx2 : ¬ x < 0 := by omega
        have hx3 : ¬ 1048576 < x := by omega
        have HP := Lib.hid hps
        have HO := Lib.hid hok2
        clear hx hwf hps hle hbad hok hok2
        rw [hs]
        clear hs
        go_wp2
        go_round
        case rel => exact ⟨k + 1, hlt, HO.out, by rw [HP.out], by go_num⟩
        case measure => simp [intOf]; omega
      · have HM := Lib.hid (mayW_bad (by rw [HL.out.1]; exact HL.out.2.1) (by rw [HL.out.1]; exact HL.out.2.2) hx hbad)
        rcases Int.lt_or_le x 0 with hx2 | hx2
        · clear hx hwf hbad hok
          go_wp2
          go_ret2
          exact .inr ⟨by rw [HM.out]; decide, by rw [HM.out]; rfl, Below.refl _ _⟩
        · have hx3 : 1048576 < x := by omega
          have hx2 : ¬ x < 0 := by omega
          clear hx hwf hbad hok
          go_wp2
          go_ret2
          exact .inr ⟨by rw [HM.out]; decide, by rw [HM.out]; rfl, Below.refl _ _⟩
    · obtain rfl : k = n := by omega
      have hokw : okW ws := by
        have := HL.out.1
        exact okTo.all (by rw [this]; exact hok)
      by_cases hz : pre ws k = 0
      · have HM := Lib.hid (mayW_null (by rw [HL.out.1]; exact HL.out.2.1) (by rw [HL.out.1]; exact HL.out.2.2) hokw (by rw [HL.out.1]; exact hz))
        rw [hz]
        clear hok hokw hz
        go_wp2
        go_ret2
        exact .inr ⟨by rw [HM.out]; decide, by rw [HM.out]; rfl, Below.refl _ _⟩
      · have hwt : Wt ws := ⟨by rw [HL.out.1]; exact HL.out.2.1, by rw [HL.out.1]; exact HL.out.2.2, hokw, by
          have := (pre_le hokw k).1
          rw [HL.out.1]
          omega⟩
        obtain ⟨s, hs⟩ : ∃ s, pre ws k = s := ⟨_, rfl⟩
        rw [hs] at hz
        rw [hs]
        have HW := Lib.hid hwt
        have HSM := Lib.hid hs
        have HU := Lib.hid (fun W : World => uncut_any W k s hn9)
        have HIN := Lib.hid (fun (W : World) (hb : Below w.heap.size w W) => initial_any (HI.out.below hb) hwt)
        have HCT := Lib.hid (fun (W : World) (t g1 g2 gh : Nat) (hT : AlOk W t g1 g2 k s (fun _ => s) (fun i => i)) (hh : BlkOk W (CU gh k (hts ws))) (hne : gh ≠ g1) (hg : w.heap.size ≤ g1 ∧ w.heap.size ≤ g2 ∧ w.heap.size ≤ gh ∧ w.heap.size ≤ W.heap.size) => by
          have h1 := cutLow_any (w := W) (B := w.heap.size) (t := t) (g1 := g1) (g2 := g2) (gh := gh) (n := ws.length) (W := pre ws ws.length) (q := hts ws) (s := al0 ws) (by rw [HL.out.1, hs]; show AlOk W t g1 g2 k s (fun _ => pre ws ws.length) _; rw [HL.out.1, hs]; exact hT) (by rw [HL.out.1]; exact hh) hne (al0_inv hwt) (fun j hj => (hts_le hwt hj).2) ⟨hwt.pos, (hwt.le (Nat.le_refl _)).2.2⟩ ⟨hwt.l0, hwt.l1⟩ rfl rfl hg
          rw [show (Value.slice (some ⟨gh, 0, none⟩) ws.length ws.length) = .slice (some ⟨gh, 0, none⟩) k k by rw [HL.out.1]] at h1
          exact h1)
        clear hok hokw hs hwt
        go_wp2_with (first
          | (go_at_call 32; refine (HU.out _).mono ?_; rintro e w1 ⟨t, g1, g2, rfl, hT, ht, hg1, hg2, hb1⟩; have HT := Lib.hid hT; have HB1 := Lib.hid hb1; have HG := Lib.hid (show w.heap.size ≤ t ∧ w.heap.size ≤ g1 ∧ w.heap.size ≤ g2 from ⟨ht, hg1, hg2⟩); clear hT hb1 ht hg1 hg2)
          | (go_at_call 34; refine (HIN.out _ HB1.out).mono ?_; rintro e w2 ⟨gh, rfl, hh, hgh, hb2⟩; have HH := Lib.hid hh; have HB2 := Lib.hid (HB1.out.trans (hb2.mono HB1.out.size)); have HT2 := Lib.hid (HT.out.on hb2); have HG2 := Lib.hid (show gh ≠ g1 ∧ w.heap.size ≤ gh by have h1 := BlkOk.lt HT.out.cu; have h2 := HB1.out.size; simp only [CU] at h1; omega); clear hh hgh hb2)
          | (go_at_call 33; refine (HCT.out _ _ _ _ _ HT2.out HH.out HG2.out.1 ⟨HG.out.2.1, HG.out.2.2, HG2.out.2, HB2.out.size⟩).mono ?_; rintro e w3 ⟨rfl, hT3, hb3⟩; have HT3 := Lib.hid hT3; have HB3 := Lib.hid (HB2.out.trans hb3); clear hT3 hb3))
        go_ret2
        exact .inl ⟨mayW_zero.2 HW.out, t, g1, g2, rfl, HT3.out, HG.out.1, HG.out.2.1, HG.out.2.2, HB3.out⟩
end Go.Proofs.YtfdpddlefobcpaaGreatDoor
/- What the program's Len, Sum, Cut, Other, Pick of layer 11 answer over this translation (and what they answer of nil, and of what nobody made). -/
namespace Go.Proofs.YtfdpddlefobcpaaGreatDoor
open Go.RowKit Go.Shelf
set_option linter.unusedVariables false
set_option linter.unusedSimpArgs false
set_option maxRecDepth 20000
open N
section
variable {w : World} {t g1 g2 n m i : Nat} {W x r : Int} {c : Nat → Int} {o : Nat → Nat} {A : Option Addr} {cp : Nat} {v v' : Value} {ty : TypeId} {p : Option Addr}
theorem alen_blk (h : BlkOk w ⟨t, [v, .slice A n cp, v'], ty⟩) :
    Calls Tryz.prog 20 #[.pointer (some ⟨t, 0, none⟩)] w fun e w' => e = .returned (.int .i64 (n : Int)) ∧ w' = w := by
  have h0 : w.cell? ⟨t, 1, none⟩ = some (.slice A n cp) := BlkOk.cell (k := 1) h rfl
  clear h
  go_enter Tryz.func20, Tryz.ntmps20
  go_wp2
  go_ret
  exact ⟨rfl, rfl⟩
theorem alen_nil (w : World) :
    Calls Tryz.prog 20 #[.pointer none] w fun e w' => e = .returned (.int .i64 ((0 : Nat) : Int)) ∧ w' = w := by
  go_enter Tryz.func20, Tryz.ntmps20
  go_wp2
  go_ret
  exact ⟨rfl, rfl⟩
theorem alen_any (h : AlOk w t g1 g2 n W c o) :
    Calls Tryz.prog 20 #[.pointer (some ⟨t, 0, none⟩)] w fun e w' => e = .returned (.int .i64 (n : Int)) ∧ w' = w := alen_blk h.tb
theorem asum_blk (h : BlkOk w ⟨t, [.int .i64 W, v, v'], ty⟩) :
    Calls Tryz.prog 21 #[.pointer (some ⟨t, 0, none⟩)] w fun e w' => e = .returned (.int .i64 W) ∧ w' = w := by
  have h0 : w.cell? ⟨t, 0, none⟩ = some (.int .i64 W) := BlkOk.cell (k := 0) h rfl
  clear h
  go_enter Tryz.func21, Tryz.ntmps21
  go_wp2
  go_ret
  exact ⟨rfl, rfl⟩
theorem asum_nil (w : World) :
    Calls Tryz.prog 21 #[.pointer none] w fun e w' => e = .returned (.int .i64 0) ∧ w' = w := by
  go_enter Tryz.func21, Tryz.ntmps21
  go_wp2
  go_ret
  exact ⟨rfl, rfl⟩
theorem asum_any (h : AlOk w t g1 g2 n W c o) :
    Calls Tryz.prog 21 #[.pointer (some ⟨t, 0, none⟩)] w fun e w' => e = .returned (.int .i64 W) ∧ w' = w := asum_blk h.tb
/-- what an index is refused with -/
theorem refused_any (hL : Calls Tryz.prog 20 #[.pointer p] w fun e w' => e = .returned (.int .i64 (n : Int)) ∧ w' = w) {z : Int} {e0 : Int} (he : e0 = if n = 0 then 2 else if 0 ≤ z ∧ z < (n : Int) then 0 else 1) :
    Calls Tryz.prog 41 #[.pointer p, .int .i64 z] w fun e w' => e = .returned (.int .i64 e0) ∧ w' = w := by
  have HL := Lib.hid hL
  clear hL
  by_cases h0 : n = 0
  · subst h0
    rw [if_pos rfl] at he
    subst he
    go_enter Tryz.func41, Tryz.ntmps41
    go_wp2_with (go_at_call 20; refine HL.out.mono ?_; rintro e w1 ⟨rfl, rfl⟩)
    go_ret
    exact ⟨rfl, rfl⟩
  rw [if_neg h0] at he
  have hn : ¬ (n : Int) = 0 := by omega
  by_cases h1 : z < 0
  · rw [if_neg (by omega)] at he
    subst he
    go_enter Tryz.func41, Tryz.ntmps41
    go_wp2_with (go_at_call 20; refine HL.out.mono ?_; rintro e w1 ⟨rfl, rfl⟩)
    go_ret
    exact ⟨rfl, rfl⟩
  by_cases h2 : (n : Int) ≤ z
  · rw [if_neg (by omega)] at he
    subst he
    go_enter Tryz.func41, Tryz.ntmps41
    go_wp2_with (go_at_call 20; refine HL.out.mono ?_; rintro e w1 ⟨rfl, rfl⟩)
    go_ret
    exact ⟨rfl, rfl⟩
  · rw [if_pos (by omega)] at he
    subst he
    go_enter Tryz.func41, Tryz.ntmps41
    go_wp2_with (go_at_call 20; refine HL.out.mono ?_; rintro e w1 ⟨rfl, rfl⟩)
    go_ret
    exact ⟨rfl, rfl⟩
theorem refused_ok (h : AlOk w t g1 g2 n W c o) (hi : i < n) :
    Calls Tryz.prog 41 #[.pointer (some ⟨t, 0, none⟩), .int .i64 (i : Int)] w fun e w' => e = .returned (.int .i64 0) ∧ w' = w := refused_any (alen_any h) (by rw [if_neg (by omega), if_pos (by omega)])
theorem refused_no (h : AlOk w t g1 g2 n W c o) (hn : 0 < n) {z : Int} (hz : ¬ (0 ≤ z ∧ z < (n : Int))) :
    Calls Tryz.prog 41 #[.pointer (some ⟨t, 0, none⟩), .int .i64 z] w fun e w' => e = .returned (.int .i64 1) ∧ w' = w := refused_any (alen_any h) (by rw [if_neg (by omega), if_neg hz])
/-- an index that is refused -/
theorem cut_no {z e0 : Int} (hR : Calls Tryz.prog 41 #[.pointer p, .int .i64 z] w fun e w' => e = .returned (.int .i64 e0) ∧ w' = w) (he : ¬ e0 = 0) :
    Calls Tryz.prog 16 #[.pointer p, .int .i64 z] w fun e w' => e = .returned (.tuple #[.int .i64 0, .int .i64 e0]) ∧ w' = w := by
  have HR := Lib.hid hR
  clear hR
  go_enter Tryz.func16, Tryz.ntmps16
  go_wp2_with (go_at_call 41; refine HR.out.mono ?_; rintro e w1 ⟨rfl, rfl⟩)
  go_ret2
  exact ⟨rfl, rfl⟩
theorem other_no {z e0 : Int} (hR : Calls Tryz.prog 41 #[.pointer p, .int .i64 z] w fun e w' => e = .returned (.int .i64 e0) ∧ w' = w) (he : ¬ e0 = 0) :
    Calls Tryz.prog 17 #[.pointer p, .int .i64 z] w fun e w' => e = .returned (.tuple #[.int .i64 0, .int .i64 e0]) ∧ w' = w := by
  have HR := Lib.hid hR
  clear hR
  go_enter Tryz.func17, Tryz.ntmps17
  go_wp2_with (go_at_call 41; refine HR.out.mono ?_; rintro e w1 ⟨rfl, rfl⟩)
  go_ret2
  exact ⟨rfl, rfl⟩
theorem apick_no {z e0 : Int} (hR : Calls Tryz.prog 41 #[.pointer p, .int .i64 z] w fun e w' => e = .returned (.int .i64 e0) ∧ w' = w) (he : ¬ e0 = 0) (r : Int) :
    Calls Tryz.prog 18 #[.pointer p, .int .i64 z, .int .i64 r] w fun e w' => e = .returned (.tuple #[.int .i64 0, .int .i64 e0]) ∧ w' = w := by
  have HR := Lib.hid hR
  clear hR
  go_enter Tryz.func18, Tryz.ntmps18
  go_wp2_with (go_at_call 41; refine HR.out.mono ?_; rintro e w1 ⟨rfl, rfl⟩)
  go_ret2
  exact ⟨rfl, rfl⟩
theorem acut_ok (h : AlOk w t g1 g2 n W c o) (hi : i < n) (hx : c i = x) :
    Calls Tryz.prog 16 #[.pointer (some ⟨t, 0, none⟩), .int .i64 (i : Int)] w fun e w' => e = .returned (.tuple #[.int .i64 x, .int .i64 0]) ∧ w' = w := by
  have HR := Lib.hid (refused_ok h hi)
  obtain ⟨_, c1, _⟩ := h.cs
  have c2 := h.cut hi hx
  clear h hx
  go_enter Tryz.func16, Tryz.ntmps16
  go_wp2_with (go_at_call 41; refine HR.out.mono ?_; rintro e w1 ⟨rfl, rfl⟩)
  go_ret2
  exact ⟨rfl, rfl⟩
theorem other_ok (h : AlOk w t g1 g2 n W c o) (hi : i < n) {y : Nat} (hy : o i = y) :
    Calls Tryz.prog 17 #[.pointer (some ⟨t, 0, none⟩), .int .i64 (i : Int)] w fun e w' => e = .returned (.tuple #[.int .i64 (y : Int), .int .i64 0]) ∧ w' = w := by
  have HR := Lib.hid (refused_ok h hi)
  obtain ⟨_, _, c1⟩ := h.cs
  have c2 := h.oth hi hy
  clear h hy
  go_enter Tryz.func17, Tryz.ntmps17
  go_wp2_with (go_at_call 41; refine HR.out.mono ?_; rintro e w1 ⟨rfl, rfl⟩)
  go_ret2
  exact ⟨rfl, rfl⟩
theorem choice_any (h : AlOk w t g1 g2 n W c o) (hi : i < n) {y : Nat} (hy : pkA c o i r = y) :
    Calls Tryz.prog 38 #[.pointer (some ⟨t, 0, none⟩), .int .i64 (i : Int), .int .i64 r] w fun e w' => e = .returned (.int .i64 (y : Int)) ∧ w' = w := by
  obtain ⟨_, c1, c2⟩ := h.cs
  obtain ⟨x, hx⟩ : ∃ x, c i = x := ⟨_, rfl⟩
  have c3 := h.cut hi hx
  have c4 := h.oth hi rfl
  unfold pkA at hy
  rw [hx] at hy
  clear h hx
  by_cases hr : r < x
  · rw [if_pos hr] at hy
    subst hy
    clear c4
    go_enter Tryz.func38, Tryz.ntmps38
    go_wp2
    go_ret
    exact ⟨rfl, rfl⟩
  · rw [if_neg hr] at hy
    rw [hy] at c4
    clear hy
    go_enter Tryz.func38, Tryz.ntmps38
    go_wp2
    go_ret
    exact ⟨rfl, rfl⟩
theorem apick_ok (h : AlOk w t g1 g2 n W c o) (hi : i < n) (hr : 0 ≤ r ∧ r < W) {y : Nat} (hy : pkA c o i r = y) :
    Calls Tryz.prog 18 #[.pointer (some ⟨t, 0, none⟩), .int .i64 (i : Int), .int .i64 r] w fun e w' => e = .returned (.tuple #[.int .i64 (y : Int), .int .i64 0]) ∧ w' = w := by
  have HR := Lib.hid (refused_ok h hi)
  have HC := Lib.hid (choice_any h hi hy)
  obtain ⟨c1, _, _⟩ := h.cs
  have h1 : ¬ r < 0 := by omega
  have h2 : ¬ W ≤ r := by omega
  clear h hy hr
  go_enter Tryz.func18, Tryz.ntmps18
  go_wp2_with (first
    | (go_at_call 41; refine HR.out.mono ?_; rintro e w1 ⟨rfl, rfl⟩)
    | (go_at_call 38; refine HC.out.mono ?_; rintro e w1 ⟨rfl, rfl⟩))
  go_ret2
  exact ⟨rfl, rfl⟩
theorem apick_r (h : AlOk w t g1 g2 n W c o) (hi : i < n) (hr : ¬ (0 ≤ r ∧ r < W)) :
    Calls Tryz.prog 18 #[.pointer (some ⟨t, 0, none⟩), .int .i64 (i : Int), .int .i64 r] w fun e w' => e = .returned (.tuple #[.int .i64 0, .int .i64 1]) ∧ w' = w := by
  have HR := Lib.hid (refused_ok h hi)
  obtain ⟨c1, _, _⟩ := h.cs
  clear h
  rcases Int.lt_or_le r 0 with h1 | h1
  · clear hr
    go_enter Tryz.func18, Tryz.ntmps18
    go_wp2_with (first
      | (go_at_call 41; refine HR.out.mono ?_; rintro e w1 ⟨rfl, rfl⟩))
    go_ret2
    exact ⟨rfl, rfl⟩
  · have h2 : W ≤ r := by omega
    have h3 : ¬ r < 0 := by omega
    clear hr h1
    go_enter Tryz.func18, Tryz.ntmps18
    go_wp2_with (first
      | (go_at_call 41; refine HR.out.mono ?_; rintro e w1 ⟨rfl, rfl⟩))
    go_ret2
    exact ⟨rfl, rfl⟩
/-- the numbers with other places that pick i -/
def othN (c : Nat → Int) (o : Nat → Nat) (W : Int) (i : Nat) : Nat → Int := sumZ fun k => if o k = i then W - c k else 0
theorem prs_eq (hi : i < n) : prs c o W n i = c i + othN c o W i n := by
  unfold prs othN
  rw [sumZ_plus, sumZ_but (l := i) hi (g := fun _ => 0) (fun j _ hne => if_neg hne), sumZ_zero]
  simp
theorem othN_le (hc : ∀ j, j < n → 0 ≤ c j ∧ c j ≤ W) (hW : W ≤ 67108864) {k : Nat} (hk : k ≤ n) : 0 ≤ othN c o W i k ∧ othN c o W i k ≤ 67108864 * (k : Int) := by
  unfold othN
  induction k with
  | zero => exact ⟨Int.le_refl _, by simp [sumZ]⟩
  | succ k ih =>
    have h1 := ih (by omega)
    have h2 := hc k (by omega)
    rw [sumZ]
    split <;> omega
theorem pairs_any (h : AlOk w t g1 g2 n W c o) (hi : i < n) (hn : n ≤ 64) (hW : W ≤ 67108864) (hc : ∀ j, j < n → 0 ≤ c j ∧ c j ≤ W) {y : Int} (hy : prs c o W n i = y) :
    Calls Tryz.prog 42 #[.pointer (some ⟨t, 0, none⟩), .int .i64 (i : Int)] w fun e w' => e = .returned (.int .i64 y) ∧ Below w.heap.size w w' := by
  rw [prs_eq hi] at hy
  obtain ⟨c0, c1, c2⟩ := h.cs
  obtain ⟨x, hx⟩ : ∃ x, c i = x := ⟨_, rfl⟩
  have c3 := h.cut hi hx
  have hx9 := hc i hi
  rw [hx] at hy hx9
  have HT := Lib.hid h
  have HC := Lib.hid hc
  have HY := Lib.hid hy
  clear h hc hx hy
  go_enter Tryz.func42, Tryz.ntmps42
  go_wp2_with fail
  go_loopw [5, 20] (fun s k wr => ∃ k' : Nat, k' ≤ n ∧ s = .int .i64 (x + othN c o W i k') ∧ k = .int .i64 k' ∧ Below w.heap.size w wr) (fun _ k _ => n - (intOf k).toNat)
  case atStart => exact ⟨0, Nat.zero_le _, by unfold othN; simp [sumZ], rfl, Below.refl _ _⟩
  case round =>
    obtain ⟨k, hk, rfl, rfl, hb⟩ := hrel
    have HB := Lib.hid hb
    have HTr := Lib.hid (HT.out.on hb)
    clear hb c0 c1 c2 c3
    by_cases hlt : k < n
    · obtain ⟨c0, c1, c2⟩ := HTr.out.cs
      obtain ⟨y', hy'⟩ : ∃ y', o k = y' := ⟨_, rfl⟩
      obtain ⟨z, hz⟩ : ∃ z, c k = z := ⟨_, rfl⟩
      have c3 := HTr.out.oth hlt hy'
      have c4 := HTr.out.cut hlt hz
      have h9 := othN_le (o := o) (i := i) HC.out hW hk
      have h8 := HC.out k hlt
      have hs : othN c o W i (k + 1) = othN c o W i k + (if o k = i then W - c k else 0) := rfl
      rw [hy', hz] at hs
      rw [hz] at h8
      obtain ⟨q, hq⟩ : ∃ q, othN c o W i k = q := ⟨_, rfl⟩
      rw [hq] at hs h9
      rw [hq]
      clear hq hy' hz
      have j1 : (0 : Int) ≤ (k : Int) := by omega
      have j2 : (k : Int) < (n : Int) := by omega
      by_cases he : y' = i
      · rw [if_pos he] at hs
        have hei : (y' : Int) = (i : Int) := by omega
        have hw1 : IntKind.i64.wrap (W - z) = W - z := by rw [IntKind.wrap_i64]; omega
        have hw2 : IntKind.i64.wrap (x + q + (W - z)) = x + (q + (W - z)) := by rw [IntKind.wrap_i64]; omega
        have HS := Lib.hid hs
        clear hs h9 h8 he
        go_wp2_with fail
        go_region
        go_wp2
        go_roundw
        case rel => exact ⟨k + 1, hlt, by rw [HS.out], by go_num, HB.out.trans ⟨rfl, rfl, rfl, Nat.le_refl _, fun _ _ => rfl⟩⟩
        case measure => simp [intOf]; omega
      · rw [if_neg he, Int.add_zero] at hs
        have hei : ¬ (y' : Int) = (i : Int) := by omega
        have HS := Lib.hid hs
        clear hs h9 h8 he
        go_wp2
        go_roundw
        case rel => exact ⟨k + 1, hlt, by rw [HS.out], by go_num, HB.out⟩
        case measure => simp [intOf]; omega
    · obtain rfl : k = n := by omega
      rw [HY.out]
      go_wp2
      go_ret
      exact ⟨rfl, HB.out⟩
end
end Go.Proofs.YtfdpddlefobcpaaGreatDoor
/- What the program's Share and Cost of layer 11 answer over this translation (mk_alirat.py). -/
namespace Go.Proofs.YtfdpddlefobcpaaGreatDoor
open Go.RowKit
set_option linter.unusedVariables false
set_option linter.unusedSimpArgs false
set_option maxRecDepth 20000
open N
theorem SC.toR11 {w0 w : World} {S O : List Ent} {T : List Blk} {A A' : Option Addr} {n c m d k k' M : Nat} {xs ys : List Int} {v u : Int} {b : Bool} {r : Rat} (h : SC w0 w0 w S T O) (h1 : (⟨A, n, c, k, xs, v⟩ : Ent) ∈ O) (h2 : (⟨A', m, d, k', ys, u⟩ : Ent) ∈ O) (s1 : (⟨A, n, c, k, xs, v⟩ : Ent) ∈ S) (s2 : (⟨A', m, d, k', ys, u⟩ : Ent) ∈ S) (hk : k ≤ M) (hk' : k' ≤ M) (hb : b = sg r.num) (hx : xs = limbs (mg r.num)) (hy : ys = limbs r.den) :
    OutR w0 M r (.returned (.agg #[.bool b, .slice A n c, .slice A' m d])) w := by
  obtain ⟨A2, n2, c2, A2', n2', c2', he, h3⟩ := h.toRE2 (b := b) (j := 0) h1 h2 s1 s2 hk hk' hb hx hy
  cases he
  exact ⟨A, n, c, A', m, d, rfl, h3⟩
theorem ashare_ok {w : World} {t g1 g2 n i : Nat} {W y : Int} {c : Nat → Int} {o : Nat → Nat} {r : Rat} (h : AlOk w t g1 g2 n W c o) (hi : i < n) (hn : n ≤ 64) (hW : 0 < W ∧ W ≤ 67108864) (hc : ∀ j, j < n → 0 ≤ c j ∧ c j ≤ W) (hy : prs c o W n i = y) (hyb : 0 ≤ y ∧ y ≤ 67108864) (hr : mkRat y ((n : Int) * W).toNat = r) :
    Calls Tryz.prog 19 #[.pointer (some ⟨t, 0, none⟩), .int .i64 (i : Int)] w (OutRE w 1 r 0) := by
  have HT := Lib.hid h
  have HR := Lib.hid (fun (X : World) (hb : Below w.heap.size w X) => refused_ok (h.on hb) hi)
  have HL := Lib.hid (fun (X : World) (hb : Below w.heap.size w X) => alen_any (h.on hb))
  have HP := Lib.hid (fun (X : World) (hb : Below w.heap.size w X) => pairs_any (h.on hb) hi hn hW.2 hc hy)
  obtain ⟨s, hs⟩ : ∃ s, (n : Int) * W = s := ⟨_, rfl⟩
  have hsb : 0 < s ∧ s ≤ 4294967296 := by
    obtain ⟨V, hV⟩ := Int.eq_ofNat_of_zero_le (Int.le_of_lt hW.1)
    have h1 : n * V ≤ 64 * 67108864 := Nat.mul_le_mul hn (by omega)
    have h2 : 0 < n * V := Nat.mul_pos (by omega) (by omega)
    rw [hV, ← Int.natCast_mul] at hs
    omega
  rw [hs] at hr
  have hws : IntKind.i64.wrap ((n : Int) * W) = s := by rw [hs, IntKind.wrap_i64]; omega
  have hx1 : -9223372036854775808 ≤ y := by omega
  have hx2 : y ≤ 9223372036854775807 := by omega
  have hy1 : -9223372036854775808 ≤ s := by omega
  have hy2 : s ≤ 9223372036854775807 := by omega
  have hy0 : 0 < s := by omega
  clear h hi hn hW hc hy hyb hs hsb
  have hS := Lib.hid (SC.start w)
  go_enter Tryz.func19, Tryz.ntmps19
  have h1 := (hS.out.boxed (vs := [.bool false, .slice none 0 0, .slice none 0 0]) (ty := 62) rfl rfl)
  try simp only [World.size_alloc] at h1
  obtain ⟨p0_0, p1_0, p2_0⟩ := h1.cs3 0 rfl
  clear h1
  go_wp2_with fail
  clear p0_0 p1_0 p2_0
  generalize hwa : World.alloc w _ = v1
  have h1 := (hS.out.boxed (vs := [.bool false, .slice none 0 0, .slice none 0 0]) (ty := 62) rfl hwa)
  have hsz : v1.heap.size = w.heap.size + 1 := by rw [← hwa]; simp only [World.size_alloc]
  try rw [← hsz]
  clear hwa hsz
  clear hS; have hS := Lib.hid h1; clear h1
  obtain ⟨x0_0, x1_0, x2_0⟩ := hS.out.cs3 0 rfl
  go_wp2_with fail
  go_at_call 41
  with_reducible refine (HR.out _ hS.out.bl).mono ?_
  rintro e v2 ⟨rfl, rfl⟩
  clear x0_0 x1_0 x2_0
  have h1 := hS.out
  clear hS; have hS := Lib.hid h1; clear h1
  obtain ⟨x0_0, x1_0, x2_0⟩ := hS.out.cs3 0 rfl
  have h1 := hS.out.drew
  clear hS; have hS := Lib.hid h1; clear h1
  have q1 := (HT.out.on hS.out.bl).cs.1
  go_wp2_with fail
  clear x0_0 x1_0 x2_0
  go_region_held3 (fun X => X.cell? ⟨t, 0, none⟩ = some (.int .i64 W)) (first | exact (HT.out.on hS.out.bl).cs.1 | exact (HT.out.on HPUT.out.bl).cs.1) (first
    | (go_at_call 42; (with_reducible refine (HP.out _ hS.out.bl).mono ?_); rintro e v11 ⟨rfl, hb1⟩; have h1 := hS.out.below hb1; clear hb1; clear hS; have hS := Lib.hid h1; clear h1)
    | (go_at_call 20; (with_reducible refine (HL.out _ hS.out.bl).mono ?_); rintro e v12 ⟨rfl, rfl⟩)
    | (go_at_call 30; (with_reducible refine (fover_pos _ hx1 hx2 hy1 hy2 hy0 hr).mono ?_); rintro e v13 ho; obtain ⟨A1, n1, c1, A2, n2, c2, rfl, h1⟩ := hS.out.rRE (Nat.le_refl _) ho; clear ho; clear hS; have hS := Lib.hid h1; clear h1; obtain ⟨y0_0, y1_0, y2_0⟩ := hS.out.cs3 0 rfl; have hp0 := hS.out.put3 0 rfl (hS.out.ge_ 0 rfl) (.bool (sg r.num)) (.slice A1 n1 c1) (.slice A2 n2 c2); simp only [List.set_cons_zero, List.set_cons_succ] at hp0; have fz0_0 := hS.out.frs 0 rfl 0; have fz0_1 := hS.out.frs 0 rfl 1; have fz0_2 := hS.out.frs 0 rfl 2; have HPUT := Lib.hid hp0; clear hp0))
  go_wp2_with fail
  refine bodyPost_ret (results_B2 rfl rfl rfl (loadR (HPUT.out.box _ (List.mem_of_getElem? (i := 0) rfl)))) rfl ?_
  exact HPUT.out.toRE2 (r := r) (by repeat (first | exact List.mem_cons_self | apply List.mem_cons_of_mem)) (by repeat (first | exact List.mem_cons_self | apply List.mem_cons_of_mem)) (by repeat (first | exact List.mem_cons_self | apply List.mem_cons_of_mem)) (by repeat (first | exact List.mem_cons_self | apply List.mem_cons_of_mem)) (by omega) (by omega) rfl rfl rfl
theorem ashare_no {w : World} {p : Option Addr} {z e0 : Int} (hR : ∀ X, Below w.heap.size w X → Calls Tryz.prog 41 #[.pointer p, .int .i64 z] X fun e w' => e = .returned (.int .i64 e0) ∧ w' = X) (he : ¬ e0 = 0) :
    Calls Tryz.prog 19 #[.pointer p, .int .i64 z] w (OutRZ w e0) := by
  have HR := Lib.hid hR
  clear hR
  have hS := Lib.hid (SC.start w)
  go_enter Tryz.func19, Tryz.ntmps19
  have h1 := (hS.out.boxed (vs := [.bool false, .slice none 0 0, .slice none 0 0]) (ty := 62) rfl rfl)
  try simp only [World.size_alloc] at h1
  obtain ⟨p0_0, p1_0, p2_0⟩ := h1.cs3 0 rfl
  clear h1
  go_wp2_with fail
  clear p0_0 p1_0 p2_0
  generalize hwa : World.alloc w _ = v1
  have h1 := (hS.out.boxed (vs := [.bool false, .slice none 0 0, .slice none 0 0]) (ty := 62) rfl hwa)
  have hsz : v1.heap.size = w.heap.size + 1 := by rw [← hwa]; simp only [World.size_alloc]
  try rw [← hsz]
  clear hwa hsz
  clear hS; have hS := Lib.hid h1; clear h1
  obtain ⟨x0_0, x1_0, x2_0⟩ := hS.out.cs3 0 rfl
  go_wp2_with fail
  go_at_call 41
  with_reducible refine (HR.out _ hS.out.bl).mono ?_
  rintro e v2 ⟨rfl, rfl⟩
  clear x0_0 x1_0 x2_0
  have h1 := hS.out
  clear hS; have hS := Lib.hid h1; clear h1
  obtain ⟨x0_0, x1_0, x2_0⟩ := hS.out.cs3 0 rfl
  have hp0 := hS.out.put3 0 rfl (hS.out.ge_ 0 rfl) (.bool false) (.slice none 0 0) (.slice none 0 0)
  simp only [List.set_cons_zero, List.set_cons_succ] at hp0
  have fz0_0 := hS.out.frs 0 rfl 0
  have fz0_1 := hS.out.frs 0 rfl 1
  have fz0_2 := hS.out.frs 0 rfl 2
  have HPUT := Lib.hid hp0
  clear hp0
  go_wp2_with fail
  refine bodyPost_ret (results_B2 rfl rfl rfl (loadR (HPUT.out.box _ (List.mem_of_getElem? (i := 0) rfl)))) rfl ?_
  exact ⟨rfl, HPUT.out.bl⟩
theorem acost_any {w : World} {t g1 g2 n m : Nat} {c : Nat → Int} {o : Nat → Nat} {r r0 r1 : Rat} (h : AlOk w t g1 g2 n (m : Int) c o) (hn : 0 < n ∧ n ≤ 64) (hm : 0 < m ∧ m ≤ 67108864) (hr0 : cR n = r0) (hr1 : cR m = r1) (hr : r0 + r1 = r) :
    Calls Tryz.prog 24 #[.pointer (some ⟨t, 0, none⟩)] w (OutR w 61800 r) := by
  have HT := Lib.hid h
  have HL := Lib.hid (fun (X : World) (hb : Below w.heap.size w X) => alen_any (h.on hb))
  have hcn : IntKind.u64.wrap (n : Int) = (n : Int) := by rw [IntKind.wrap_u64]; omega
  have hcw : IntKind.u64.wrap (m : Int) = (m : Int) := by rw [IntKind.wrap_u64]; omega
  have hm0 : n < 18446744073709551616 := by omega
  have hm1 : 0 < n := by omega
  have hm2 : m < 18446744073709551616 := by omega
  have hm3 : 0 < m := by omega
  clear h hn hm
  have hS := Lib.hid (SC.start w)
  go_enter Tryz.func24, Tryz.ntmps24
  have h1 := (hS.out.boxed (vs := [.bool false, .slice none 0 0, .slice none 0 0]) (ty := 62) rfl rfl)
  try simp only [World.size_alloc] at h1
  obtain ⟨p0_0, p1_0, p2_0⟩ := h1.cs3 0 rfl
  clear h1
  go_wp2_with fail
  clear p0_0 p1_0 p2_0
  generalize hwa : World.alloc w _ = v1
  have h1 := (hS.out.boxed (vs := [.bool false, .slice none 0 0, .slice none 0 0]) (ty := 62) rfl hwa)
  have hsz : v1.heap.size = w.heap.size + 1 := by rw [← hwa]; simp only [World.size_alloc]
  try rw [← hsz]
  clear hwa hsz
  clear hS; have hS := Lib.hid h1; clear h1
  obtain ⟨x0_0, x1_0, x2_0⟩ := hS.out.cs3 0 rfl
  go_wp2_with fail
  go_at_call 20
  with_reducible refine (HL.out _ hS.out.bl).mono ?_
  rintro e v2 ⟨rfl, rfl⟩
  clear x0_0 x1_0 x2_0
  have h1 := hS.out
  clear hS; have hS := Lib.hid h1; clear h1
  obtain ⟨x0_0, x1_0, x2_0⟩ := hS.out.cs3 0 rfl
  go_wp2_with fail
  go_at_call 45
  with_reducible refine (cost_any _ n hm0 hm1).mono ?_
  rintro e v3 ho
  clear x0_0 x1_0 x2_0
  rw [hr0] at ho
  obtain ⟨A1, n1, c1, A2, n2, c2, rfl, h1⟩ := hS.out.rRE (Nat.le_refl _) ho
  clear hS; have hS := Lib.hid h1; clear h1
  obtain ⟨x0_0, x1_0, x2_0⟩ := hS.out.cs3 0 rfl
  have q2 := (HT.out.on (hS.out.boxed (vs := [.bool (sg r0.num), .slice A1 n1 c1, .slice A2 n2 c2]) (ty := 62) rfl rfl).bl).cs.1
  have h1 := (hS.out.boxed (vs := [.bool (sg r0.num), .slice A1 n1 c1, .slice A2 n2 c2]) (ty := 62) rfl rfl)
  try simp only [World.size_alloc] at h1
  obtain ⟨p0_0, p1_0, p2_0⟩ := h1.cs3 0 rfl
  obtain ⟨p0_1, p1_1, p2_1⟩ := h1.cs3 1 rfl
  clear h1
  go_wp2_with fail
  clear x0_0 x1_0 x2_0
  clear p0_0 p1_0 p2_0 p0_1 p1_1 p2_1
  generalize hwa : World.alloc v3 _ = v4
  have h1 := (hS.out.boxed (vs := [.bool (sg r0.num), .slice A1 n1 c1, .slice A2 n2 c2]) (ty := 62) rfl hwa)
  have hsz : v4.heap.size = v3.heap.size + 1 := by rw [← hwa]; simp only [World.size_alloc]
  try rw [← hsz]
  clear hwa hsz
  clear hS; have hS := Lib.hid h1; clear h1
  obtain ⟨x0_0, x1_0, x2_0⟩ := hS.out.cs3 0 rfl
  obtain ⟨x0_1, x1_1, x2_1⟩ := hS.out.cs3 1 rfl
  clear q2
  go_wp2_with fail
  go_at_call 45
  with_reducible refine (cost_any _ m hm2 hm3).mono ?_
  rintro e v5 ho
  clear x0_0 x1_0 x2_0 x0_1 x1_1 x2_1
  rw [hr1] at ho
  obtain ⟨A3, n3, c3, A4, n4, c4, rfl, h1⟩ := hS.out.rRE (Nat.le_refl _) ho
  clear hS; have hS := Lib.hid h1; clear h1
  obtain ⟨x0_0, x1_0, x2_0⟩ := hS.out.cs3 0 rfl
  obtain ⟨x0_1, x1_1, x2_1⟩ := hS.out.cs3 1 rfl
  have h1 := (hS.out.boxed (vs := [.bool (sg r1.num), .slice A3 n3 c3, .slice A4 n4 c4]) (ty := 62) rfl rfl)
  try simp only [World.size_alloc] at h1
  obtain ⟨p0_0, p1_0, p2_0⟩ := h1.cs3 0 rfl
  obtain ⟨p0_1, p1_1, p2_1⟩ := h1.cs3 1 rfl
  obtain ⟨p0_2, p1_2, p2_2⟩ := h1.cs3 2 rfl
  clear h1
  go_wp2_with fail
  clear x0_0 x1_0 x2_0 x0_1 x1_1 x2_1
  clear p0_0 p1_0 p2_0 p0_1 p1_1 p2_1 p0_2 p1_2 p2_2
  generalize hwa : World.alloc v5 _ = v6
  have h1 := (hS.out.boxed (vs := [.bool (sg r1.num), .slice A3 n3 c3, .slice A4 n4 c4]) (ty := 62) rfl hwa)
  have hsz : v6.heap.size = v5.heap.size + 1 := by rw [← hwa]; simp only [World.size_alloc]
  try rw [← hsz]
  clear hwa hsz
  clear hS; have hS := Lib.hid h1; clear h1
  obtain ⟨x0_0, x1_0, x2_0⟩ := hS.out.cs3 0 rfl
  obtain ⟨x0_1, x1_1, x2_1⟩ := hS.out.cs3 1 rfl
  obtain ⟨x0_2, x1_2, x2_2⟩ := hS.out.cs3 2 rfl
  go_wp2_with fail
  go_at_call 46
  with_reducible refine (fadd_any _ (hS.out.frm0 (M := 1030) (by repeat (first | exact List.mem_cons_self | apply List.mem_cons_of_mem)) (by repeat (first | exact List.mem_cons_self | apply List.mem_cons_of_mem)) (by decide) (by decide) (rv_self r0)) (hS.out.frm0 (M := 1030) (by repeat (first | exact List.mem_cons_self | apply List.mem_cons_of_mem)) (by repeat (first | exact List.mem_cons_self | apply List.mem_cons_of_mem)) (by decide) (by decide) (rv_self r1)) (by decide) (by decide)).mono ?_
  rintro e v7 ho
  clear x0_0 x1_0 x2_0 x0_1 x1_1 x2_1 x0_2 x1_2 x2_2
  rw [hr] at ho
  obtain ⟨A5, n5, c5, A6, n6, c6, rfl, h1⟩ := hS.out.rR (Nat.le_refl _) ho
  clear hS; have hS := Lib.hid h1; clear h1
  obtain ⟨x0_0, x1_0, x2_0⟩ := hS.out.cs3 0 rfl
  obtain ⟨x0_1, x1_1, x2_1⟩ := hS.out.cs3 1 rfl
  obtain ⟨x0_2, x1_2, x2_2⟩ := hS.out.cs3 2 rfl
  have hp0 := hS.out.put3 2 rfl (hS.out.ge_ 2 rfl) (.bool (sg r.num)) (.slice A5 n5 c5) (.slice A6 n6 c6)
  simp only [List.set_cons_zero, List.set_cons_succ] at hp0
  have fz0_0 := hS.out.frs 2 rfl 0
  have fz0_1 := hS.out.frs 2 rfl 1
  have fz0_2 := hS.out.frs 2 rfl 2
  have HPUT := Lib.hid hp0
  clear hp0
  go_wp2_with fail
  refine bodyPost_ret (results_B rfl rfl (loadR (HPUT.out.box _ (List.mem_of_getElem? (i := 2) rfl)))) rfl ?_
  exact HPUT.out.toR11 (r := r) (by repeat (first | exact List.mem_cons_self | apply List.mem_cons_of_mem)) (by repeat (first | exact List.mem_cons_self | apply List.mem_cons_of_mem)) (by repeat (first | exact List.mem_cons_self | apply List.mem_cons_of_mem)) (by repeat (first | exact List.mem_cons_self | apply List.mem_cons_of_mem)) (by omega) (by omega) rfl rfl rfl
theorem acost_zero {w : World} {p : Option Addr} {r : Rat} (h : ∀ X, Below w.heap.size w X → Calls Tryz.prog 20 #[.pointer p] X fun e w' => e = .returned (.int .i64 ((0 : Nat) : Int)) ∧ w' = X) (hr : mkRat 0 1 = r) :
    Calls Tryz.prog 24 #[.pointer p] w (OutR w 1 r) := by
  have HL := Lib.hid h
  have hcw : IntKind.u64.wrap 0 = 0 := rfl
  clear h
  have hS := Lib.hid (SC.start w)
  go_enter Tryz.func24, Tryz.ntmps24
  have h1 := (hS.out.boxed (vs := [.bool false, .slice none 0 0, .slice none 0 0]) (ty := 62) rfl rfl)
  try simp only [World.size_alloc] at h1
  obtain ⟨p0_0, p1_0, p2_0⟩ := h1.cs3 0 rfl
  clear h1
  go_wp2_with fail
  clear p0_0 p1_0 p2_0
  generalize hwa : World.alloc w _ = v1
  have h1 := (hS.out.boxed (vs := [.bool false, .slice none 0 0, .slice none 0 0]) (ty := 62) rfl hwa)
  have hsz : v1.heap.size = w.heap.size + 1 := by rw [← hwa]; simp only [World.size_alloc]
  try rw [← hsz]
  clear hwa hsz
  clear hS; have hS := Lib.hid h1; clear h1
  obtain ⟨x0_0, x1_0, x2_0⟩ := hS.out.cs3 0 rfl
  go_wp2_with fail
  go_at_call 20
  with_reducible refine (HL.out _ hS.out.bl).mono ?_
  rintro e v2 ⟨rfl, rfl⟩
  clear x0_0 x1_0 x2_0
  have h1 := hS.out
  clear hS; have hS := Lib.hid h1; clear h1
  obtain ⟨x0_0, x1_0, x2_0⟩ := hS.out.cs3 0 rfl
  go_wp2_with fail
  go_at_call 45
  with_reducible refine (cost_zero _).mono ?_
  rintro e v3 ho
  clear x0_0 x1_0 x2_0
  obtain ⟨rfl, h1⟩ := hS.out.tRZ ho
  clear hS; have hS := Lib.hid h1; clear h1
  obtain ⟨x0_0, x1_0, x2_0⟩ := hS.out.cs3 0 rfl
  have h1 := (hS.out.boxed (vs := [.bool false, .slice none 0 0, .slice none 0 0]) (ty := 62) rfl rfl)
  try simp only [World.size_alloc] at h1
  obtain ⟨p0_0, p1_0, p2_0⟩ := h1.cs3 0 rfl
  obtain ⟨p0_1, p1_1, p2_1⟩ := h1.cs3 1 rfl
  clear h1
  go_wp2_with fail
  clear x0_0 x1_0 x2_0
  clear p0_0 p1_0 p2_0 p0_1 p1_1 p2_1
  generalize hwa : World.alloc v3 _ = v4
  have h1 := (hS.out.boxed (vs := [.bool false, .slice none 0 0, .slice none 0 0]) (ty := 62) rfl hwa)
  have hsz : v4.heap.size = v3.heap.size + 1 := by rw [← hwa]; simp only [World.size_alloc]
  try rw [← hsz]
  clear hwa hsz
  clear hS; have hS := Lib.hid h1; clear h1
  obtain ⟨x0_0, x1_0, x2_0⟩ := hS.out.cs3 0 rfl
  obtain ⟨x0_1, x1_1, x2_1⟩ := hS.out.cs3 1 rfl
  go_wp2_with fail
  go_at_call 31
  with_reducible refine (fof_any _ 0 (by decide) (by decide)).mono ?_
  rintro e v5 ho
  clear x0_0 x1_0 x2_0 x0_1 x1_1 x2_1
  rw [hr] at ho
  obtain ⟨A1, n1, c1, A2, n2, c2, rfl, h1⟩ := hS.out.rR (Nat.le_refl _) ho
  clear hS; have hS := Lib.hid h1; clear h1
  obtain ⟨x0_0, x1_0, x2_0⟩ := hS.out.cs3 0 rfl
  obtain ⟨x0_1, x1_1, x2_1⟩ := hS.out.cs3 1 rfl
  have hp0 := hS.out.put3 1 rfl (hS.out.ge_ 1 rfl) (.bool (sg r.num)) (.slice A1 n1 c1) (.slice A2 n2 c2)
  simp only [List.set_cons_zero, List.set_cons_succ] at hp0
  have fz0_0 := hS.out.frs 1 rfl 0
  have fz0_1 := hS.out.frs 1 rfl 1
  have fz0_2 := hS.out.frs 1 rfl 2
  have HPUT := Lib.hid hp0
  clear hp0
  go_wp2_with fail
  refine bodyPost_ret (results_B rfl rfl (loadR (HPUT.out.box _ (List.mem_of_getElem? (i := 1) rfl)))) rfl ?_
  exact HPUT.out.toR11 (r := r) (by repeat (first | exact List.mem_cons_self | apply List.mem_cons_of_mem)) (by repeat (first | exact List.mem_cons_self | apply List.mem_cons_of_mem)) (by repeat (first | exact List.mem_cons_self | apply List.mem_cons_of_mem)) (by repeat (first | exact List.mem_cons_self | apply List.mem_cons_of_mem)) (by omega) (by omega) rfl rfl rfl
end Go.Proofs.YtfdpddlefobcpaaGreatDoor
/- The calls of layer 11 at a table of weights. -/
namespace Go.Proofs.YtfdpddlefobcpaaGreatDoor
open Go.RowKit Go.Shelf
set_option linter.unusedVariables false
set_option linter.unusedSimpArgs false
set_option maxRecDepth 20000
open N
section
variable {w w' : World} {t g1 g2 i n c : Nat} {ws : List Int} {x s r y z : Int} {A : Option Addr}
theorem Ta.on (h : Ta w t g1 g2 ws) (hb : Below w.heap.size w w') : Ta w' t g1 g2 ws := AlOk.on h hb
theorem anew_ok (hi : Il w A n c ws) (hm : mayW ws = 0) : Calls Tryz.prog 8 #[.slice A n c] w (ANewOk w ws) := by
  refine (anew_any hi).mono ?_
  rintro e w' (⟨_, h1⟩ | ⟨h1, _⟩)
  · exact h1
  · exact absurd hm h1
theorem anew_no (hi : Il w A n c ws) (hm : mayW ws = z) (hz : ¬ z = 0) :
    Calls Tryz.prog 8 #[.slice A n c] w fun e w' => e = .returned (.tuple #[.pointer none, .int .i64 z]) ∧ Below w.heap.size w w' := by
  subst hm
  refine (anew_any hi).mono ?_
  rintro e w' (⟨h1, _⟩ | ⟨_, h1, hb⟩)
  · exact absurd h1 hz
  · exact ⟨h1, hb⟩
theorem ta_len (h : Ta w t g1 g2 ws) (hn : ws.length = n) :
    Calls Tryz.prog 20 #[.pointer (some ⟨t, 0, none⟩)] w fun e w' => e = .returned (.int .i64 (n : Int)) ∧ w' = w := by
  subst hn
  exact alen_any h
theorem ta_sum (h : Ta w t g1 g2 ws) (hs : pre ws ws.length = s) :
    Calls Tryz.prog 21 #[.pointer (some ⟨t, 0, none⟩)] w fun e w' => e = .returned (.int .i64 s) ∧ w' = w := by
  subst hs
  exact asum_any h
theorem ta_cut (h : Ta w t g1 g2 ws) (hi : i < ws.length) (hx : cutA ws i = x) (hz : (i : Int) = z) :
    Calls Tryz.prog 16 #[.pointer (some ⟨t, 0, none⟩), .int .i64 z] w fun e w' => e = .returned (.tuple #[.int .i64 x, .int .i64 0]) ∧ w' = w := by
  subst hz
  exact acut_ok h hi hx
theorem ta_oth (h : Ta w t g1 g2 ws) (hi : i < ws.length) (hy : ((othA ws i : Nat) : Int) = y) (hz : (i : Int) = z) :
    Calls Tryz.prog 17 #[.pointer (some ⟨t, 0, none⟩), .int .i64 z] w fun e w' => e = .returned (.tuple #[.int .i64 y, .int .i64 0]) ∧ w' = w := by
  subst hz hy
  exact other_ok h hi rfl
theorem ta_pick (h : Ta w t g1 g2 ws) (hi : i < ws.length) (hr : 0 ≤ r ∧ r < pre ws ws.length) (hy : ((pkA (cutA ws) (othA ws) i r : Nat) : Int) = y) (hz : (i : Int) = z) :
    Calls Tryz.prog 18 #[.pointer (some ⟨t, 0, none⟩), .int .i64 z, .int .i64 r] w fun e w' => e = .returned (.tuple #[.int .i64 y, .int .i64 0]) ∧ w' = w := by
  subst hz hy
  exact apick_ok h hi hr rfl
theorem mkRat_scale11 {x s b : Int} (hb : 0 < b) (hs : 0 < s) : mkRat (b * x) (b * s).toNat = mkRat x s.toNat := by
  obtain ⟨c, rfl⟩ := Int.eq_ofNat_of_zero_le (Int.le_of_lt hb)
  obtain ⟨d, rfl⟩ := Int.eq_ofNat_of_zero_le (Int.le_of_lt hs)
  rw [Int.mul_comm (c : Int) x, Int.mul_comm (c : Int) (d : Int), show ((d : Int) * (c : Int)).toNat = d * c by rw [← Int.natCast_mul]; exact Int.toNat_natCast _, Int.toNat_natCast]
  exact Rat.mkRat_mul_right (by omega)
theorem ta_share (h : Ta w t g1 g2 ws) (hw : Wt ws) {q : Rat} (hx : ws[i]? = some x) (hs : pre ws ws.length = s) (hq : mkRat x s.toNat = q) (hz : (i : Int) = z) :
    Calls Tryz.prog 19 #[.pointer (some ⟨t, 0, none⟩), .int .i64 z] w (OutRE w 1 q 0) := by
  subst hz
  have hi := (List.getElem?_eq_some_iff.1 hx).1
  have hT := altab_tab hw
  have hp := hT.prs i hi
  have hb := hts_le hw hi
  have h9 := hw.le (Nat.le_refl _)
  have hh : hts ws i = (ws.length : Int) * x := by unfold hts; rw [List.getD_eq_getElem?_getD, hx]; rfl
  refine ashare_ok h hi hw.l1 ⟨hw.pos, h9.2.2⟩ (fun j hj => ⟨(hT.cut j hj).1, (hT.cut j hj).2.1⟩) hp hb ?_
  rw [hh, mkRat_scale11 (by have := hw.l0; omega) hw.pos, hs]
  exact hq
theorem ta_cost (h : Ta w t g1 g2 ws) (hw : Wt ws) {m : Nat} (hm : pre ws ws.length = (m : Int)) {r r0 r1 : Rat} (hr0 : cR ws.length = r0) (hr1 : cR m = r1) (hr : r0 + r1 = r) :
    Calls Tryz.prog 24 #[.pointer (some ⟨t, 0, none⟩)] w (OutR w 61800 r) := by
  have h1 := hw.pos
  have h2 := (hw.le (Nat.le_refl _)).2.2
  unfold Ta at h
  rw [hm] at h h1 h2
  exact acost_any h ⟨hw.l0, hw.l1⟩ ⟨by omega, by omega⟩ hr0 hr1 hr
/-- an index that there is not -/
theorem ta_refused (h : Ta w t g1 g2 ws) (hw : Wt ws) (hz : ¬ (0 ≤ z ∧ z < (ws.length : Int))) :
    Calls Tryz.prog 41 #[.pointer (some ⟨t, 0, none⟩), .int .i64 z] w fun e w' => e = .returned (.int .i64 1) ∧ w' = w := refused_no h hw.l0 hz
end
theorem SC.fresh11 {w0 w : World} (hb : Below w0.heap.size w0 w) : SC w0 w w [] [] [] :=
  ⟨⟨hb, fun t ht => by cases ht⟩, Below.refl _ _, (fun q hq => by cases hq), (fun q hq => by cases hq), List.nodup_nil, (fun t ht => by cases ht), (fun t ht => by cases ht), (fun t ht => by cases ht)⟩
theorem SC.wb11 {w0 v0 w : World} {S O : List Ent} {T : List Blk} (h : SC w0 v0 w S T O) : Below w0.heap.size w0 w := h.st.1
/-- a slice's block, read as numbers -/
theorem Il.of_blk11 {w : World} {g : Nat} {vs : List Value} {ty : TypeId} {n c : Nat} {xs : List Int} (h : BlkOk w ⟨g, vs, ty⟩) (hl : xs.length = n) (hc : n ≤ c) (hm : c ≤ maxLen) (hx : ∀ x ∈ xs, -9223372036854775808 ≤ x ∧ x ≤ 9223372036854775807) (hv : ∀ j, j < n → vs[j]? = some (.int .i64 (xs.getD j 0))) : Il w (some ⟨g, 0, none⟩) n c xs :=
  ⟨hl, hc, hm, fun x hx' => (by have h1 : IntKind.i64.min ≤ x := (hx x hx').1; have h2 : x ≤ IntKind.i64.max := (hx x hx').2; simp [Lit.wf, h1, h2, (hx x hx').1, (hx x hx').2]), (fun e => by cases e), fun k hk => ⟨⟨g, 0, none⟩, rfl, BlkOk.lt h, fun j hj => by rw [add_plain, Nat.zero_add]; exact BlkOk.cell h (hv j hj)⟩⟩
theorem il_two {w : World} {x y : Int} (hx : -9223372036854775808 ≤ x ∧ x ≤ 9223372036854775807) (hy : -9223372036854775808 ≤ y ∧ y ≤ 9223372036854775807) : Il (w.alloc (.cells #[.int .i64 x, .int .i64 y] 2)) (some ⟨w.heap.size, 0, none⟩) 2 2 [x, y] := by
  refine Il.of_blk11 (vs := [.int .i64 x, .int .i64 y]) (ty := 2) (heap_alloc_new w _) rfl (by decide) (by decide) (fun v hv => ?_) ?_
  · simp only [List.mem_cons, List.not_mem_nil, or_false] at hv
    rcases hv with rfl | rfl
    · exact hx
    · exact hy
  · intro j hj
    match j, hj with
    | 0, _ => rfl
    | 1, _ => rfl
end Go.Proofs.YtfdpddlefobcpaaGreatDoor
/- The examples of layer 11 as a call (mk_aliawake.py). -/
namespace Go.Proofs.YtfdpddlefobcpaaGreatDoor
open Go.RowKit
set_option linter.unusedVariables false
set_option linter.unusedSimpArgs false
set_option maxRecDepth 20000
open N
set_option maxHeartbeats 4000000 in
theorem awake11 (w : World) : Calls Tryz.prog 7 #[] w fun e w' => e = .returned (.bool true) ∧ Below w.heap.size w w' := by
  obtain ⟨ws, hws⟩ : ∃ ws : List Int, [1, 3] = ws := ⟨_, rfl⟩
  have HW := Lib.hid (show Wt ws by rw [← hws]; exact ⟨by decide, by decide, by decide, by decide⟩)
  have HM := Lib.hid (show pre ws ws.length = ((4 : Nat) : Int) by rw [← hws]; decide)
  have HM4 := Lib.hid (show pre ws ws.length = (4 : Int) by rw [← hws]; decide)
  have HLN := Lib.hid (show ws.length = 2 by rw [← hws]; rfl)
  have HC0 := Lib.hid (show cutA ws 0 = 2 by rw [← hws]; decide)
  have HC1 := Lib.hid (show cutA ws 1 = 4 by rw [← hws]; decide)
  have HO0 := Lib.hid (show ((othA ws 0 : Nat) : Int) = 1 by rw [← hws]; decide)
  have HO1 := Lib.hid (show ((othA ws 1 : Nat) : Int) = 1 by rw [← hws]; decide)
  have HP0 := Lib.hid (show ((pkA (cutA ws) (othA ws) 0 1 : Nat) : Int) = 0 by rw [← hws]; decide)
  have HP1 := Lib.hid (show ((pkA (cutA ws) (othA ws) 0 2 : Nat) : Int) = 1 by rw [← hws]; decide)
  have HX := Lib.hid (show ws[1]? = some 3 by rw [← hws]; rfl)
  have HI := Lib.hid (show Il (w.alloc (.cells #[.int .i64 1, .int .i64 3] 2)) (some ⟨w.heap.size, 0, none⟩) 2 2 ws by rw [← hws]; exact il_two (by decide) (by decide))
  have HB0 := Lib.hid ((Below.refl _ w).alloc (Nat.le_refl _) (.cells #[.int .i64 1, .int .i64 3] 2))
  clear hws
  go_enter Tryz.func7, Tryz.ntmps7
  go_wp2_with fail
  generalize hwa : World.alloc w _ = v0
  rw [hwa] at HI HB0
  clear hwa
  go_at_call 8
  refine (anew_ok HI.out (mayW_zero.2 HW.out)).mono ?_
  rintro e v1 ⟨t, g1, g2, rfl, hT, _, _, _, hb⟩
  have HT0 := Lib.hid hT
  have HB1 := Lib.hid (HB0.out.trans (hb.mono HB0.out.size))
  clear hT hb
  go_wp2_with fail
  go_at_call 8
  refine (anew_no (ws := []) (z := 4) Il.none (by decide) (by decide)).mono ?_
  rintro e v2 ⟨rfl, hb⟩
  have HT1 := Lib.hid (HT0.out.on hb)
  have HB2 := Lib.hid (HB1.out.trans (hb.mono HB1.out.size))
  have HI2 := Lib.hid (show Il (v2.alloc (.cells #[.int .i64 0, .int .i64 0] 2)) (some ⟨v2.heap.size, 0, none⟩) 2 2 [0, 0] from il_two (by decide) (by decide))
  have hb3 := (Below.refl _ v2).alloc (Nat.le_refl _) (.cells #[.int .i64 0, .int .i64 0] 2)
  have HT2 := Lib.hid (HT1.out.on hb3)
  have HB3 := Lib.hid (HB2.out.trans (hb3.mono HB2.out.size))
  clear hb hb3
  go_wp2_with fail
  generalize hwa : World.alloc v2 _ = v3
  rw [hwa] at HI2 HT2 HB3
  clear hwa
  go_at_call 8
  refine (anew_no HI2.out (z := 7) (by decide) (by decide)).mono ?_
  rintro e v4 ⟨rfl, hb⟩
  have HT := Lib.hid (HT2.out.on hb)
  have HB4 := Lib.hid (HB3.out.trans (hb.mono HB3.out.size))
  clear hb HT0 HT1 HT2 HB0 HB1 HB2 HB3
  have hS := Lib.hid (SC.fresh11 HB4.out)
  go_wp2_with fail
  go_at_call 16
  with_reducible refine (ta_cut (i := 0) (z := 0) (HT.out.on hS.out.bl) (by rw [HLN.out]; decide) HC0.out rfl).mono ?_
  rintro e v5 ⟨rfl, rfl⟩
  have h1 := hS.out
  clear hS; have hS := Lib.hid h1; clear h1
  go_wp2_with fail
  go_at_call 17
  with_reducible refine (ta_oth (i := 0) (z := 0) (HT.out.on hS.out.bl) (by rw [HLN.out]; decide) HO0.out rfl).mono ?_
  rintro e v6 ⟨rfl, rfl⟩
  have h1 := hS.out
  clear hS; have hS := Lib.hid h1; clear h1
  go_wp2_with fail
  go_at_call 16
  with_reducible refine (ta_cut (i := 1) (z := 1) (HT.out.on hS.out.bl) (by rw [HLN.out]; decide) HC1.out rfl).mono ?_
  rintro e v7 ⟨rfl, rfl⟩
  have h1 := hS.out
  clear hS; have hS := Lib.hid h1; clear h1
  go_wp2_with fail
  go_at_call 17
  with_reducible refine (ta_oth (i := 1) (z := 1) (HT.out.on hS.out.bl) (by rw [HLN.out]; decide) HO1.out rfl).mono ?_
  rintro e v8 ⟨rfl, rfl⟩
  have h1 := hS.out
  clear hS; have hS := Lib.hid h1; clear h1
  go_wp2_with fail
  go_at_call 18
  with_reducible refine (ta_pick (i := 0) (z := 0) (r := 1) (HT.out.on hS.out.bl) (by rw [HLN.out]; decide) (by rw [HM4.out]; decide) HP0.out rfl).mono ?_
  rintro e v9 ⟨rfl, rfl⟩
  have h1 := hS.out
  clear hS; have hS := Lib.hid h1; clear h1
  go_wp2_with fail
  go_at_call 18
  with_reducible refine (ta_pick (i := 0) (z := 0) (r := 2) (HT.out.on hS.out.bl) (by rw [HLN.out]; decide) (by rw [HM4.out]; decide) HP1.out rfl).mono ?_
  rintro e v10 ⟨rfl, rfl⟩
  have h1 := hS.out
  clear hS; have hS := Lib.hid h1; clear h1
  obtain ⟨q1, hq1⟩ : ∃ q : Rat, mkRat 3 4 = q := ⟨_, rfl⟩
  have Hq1 := Lib.hid hq1
  clear hq1
  go_wp2_with fail
  go_at_call 19
  with_reducible refine (ta_share (i := 1) (z := 1) (x := 3) (s := 4) (q := q1) (HT.out.on hS.out.bl) HW.out HX.out HM4.out (by rw [← Hq1.out]; decide +kernel) rfl).mono ?_
  rintro e v11 ho
  obtain ⟨A11, n11, c11, A12, n12, c12, rfl, h1⟩ := hS.out.rRE (Nat.le_refl _) ho
  clear hS; have hS := Lib.hid h1; clear h1
  have h1 := (hS.out.boxed (vs := [.bool (sg (q1).num), .slice A11 n11 c11, .slice A12 n12 c12]) (ty := 62) rfl rfl)
  try simp only [World.size_alloc] at h1
  obtain ⟨p0_0, p1_0, p2_0⟩ := h1.cs3 0 rfl
  clear h1
  go_wp2_with fail
  clear p0_0 p1_0 p2_0
  generalize hwa : World.alloc v11 _ = v12
  have h1 := (hS.out.boxed (vs := [.bool (sg (q1).num), .slice A11 n11 c11, .slice A12 n12 c12]) (ty := 62) rfl hwa)
  have hsz : v12.heap.size = v11.heap.size + 1 := by rw [← hwa]; simp only [World.size_alloc]
  try rw [← hsz]
  clear hwa hsz
  clear hS; have hS := Lib.hid h1; clear h1
  obtain ⟨x0_0, x1_0, x2_0⟩ := hS.out.cs3 0 rfl
  go_wp2_with fail
  go_at_call 30
  with_reducible refine (fover_pos (x := 3) (y := 4) (r := q1) _ (by decide) (by decide) (by decide) (by decide) (by decide) (by rw [← Hq1.out]; decide +kernel)).mono ?_
  rintro e v13 ho
  clear x0_0 x1_0 x2_0
  obtain ⟨A13, n13, c13, A14, n14, c14, rfl, h1⟩ := hS.out.rRE (Nat.le_refl _) ho
  clear hS; have hS := Lib.hid h1; clear h1
  obtain ⟨x0_0, x1_0, x2_0⟩ := hS.out.cs3 0 rfl
  have h1 := (hS.out.boxed (vs := [.bool (sg (q1).num), .slice A13 n13 c13, .slice A14 n14 c14]) (ty := 62) rfl rfl)
  try simp only [World.size_alloc] at h1
  obtain ⟨p0_0, p1_0, p2_0⟩ := h1.cs3 0 rfl
  obtain ⟨p0_1, p1_1, p2_1⟩ := h1.cs3 1 rfl
  clear h1
  go_wp2_with fail
  clear x0_0 x1_0 x2_0
  clear p0_0 p1_0 p2_0 p0_1 p1_1 p2_1
  generalize hwa : World.alloc v13 _ = v14
  have h1 := (hS.out.boxed (vs := [.bool (sg (q1).num), .slice A13 n13 c13, .slice A14 n14 c14]) (ty := 62) rfl hwa)
  have hsz : v14.heap.size = v13.heap.size + 1 := by rw [← hwa]; simp only [World.size_alloc]
  try rw [← hsz]
  clear hwa hsz
  clear hS; have hS := Lib.hid h1; clear h1
  obtain ⟨x0_0, x1_0, x2_0⟩ := hS.out.cs3 0 rfl
  obtain ⟨x0_1, x1_1, x2_1⟩ := hS.out.cs3 1 rfl
  obtain ⟨q2, hq2⟩ : ∃ q : Rat, mkRat 3 1 = q := ⟨_, rfl⟩
  have Hq2 := Lib.hid hq2
  clear hq2
  obtain ⟨q3, hq3⟩ : ∃ q : Rat, cR 2 = q := ⟨_, rfl⟩
  have Hq3 := Lib.hid hq3
  clear hq3
  obtain ⟨q4, hq4⟩ : ∃ q : Rat, cR 4 = q := ⟨_, rfl⟩
  have Hq4 := Lib.hid hq4
  clear hq4
  have HQ := Lib.hid (show q3 + q4 = q2 by rw [← Hq2.out, ← Hq3.out, ← Hq4.out]; decide +kernel)
  go_wp2_with (first
    | (go_at_call 22; (with_reducible refine (is9_told (r := q1) (r' := q1) (k := 1) (k' := 1) hS.out (by repeat (first | exact List.mem_cons_self | apply List.mem_cons_of_mem)) (by repeat (first | exact List.mem_cons_self | apply List.mem_cons_of_mem)) (by repeat (first | exact List.mem_cons_self | apply List.mem_cons_of_mem)) (by repeat (first | exact List.mem_cons_self | apply List.mem_cons_of_mem)) rfl).mono ?_); rintro e w' ⟨rfl, h1⟩; clear x0_0 x1_0 x2_0 x0_1 x1_1 x2_1; clear hS; have hS := Lib.hid h1; clear h1; obtain ⟨x0_0, x1_0, x2_0⟩ := hS.out.cs3 0 rfl; obtain ⟨x0_1, x1_1, x2_1⟩ := hS.out.cs3 1 rfl)
    | (go_at_call 22; (with_reducible refine (is9_told (r := q2) (r' := q2) (k := 61800) (k' := 1) hS.out (by repeat (first | exact List.mem_cons_self | apply List.mem_cons_of_mem)) (by repeat (first | exact List.mem_cons_self | apply List.mem_cons_of_mem)) (by repeat (first | exact List.mem_cons_self | apply List.mem_cons_of_mem)) (by repeat (first | exact List.mem_cons_self | apply List.mem_cons_of_mem)) rfl).mono ?_); rintro e w' ⟨rfl, h1⟩; clear x0_0 x1_0 x2_0 x0_1 x1_1 x2_1; clear hS; have hS := Lib.hid h1; clear h1; obtain ⟨x0_0, x1_0, x2_0⟩ := hS.out.cs3 0 rfl; obtain ⟨x0_1, x1_1, x2_1⟩ := hS.out.cs3 1 rfl)
    | (go_at_call 24; (with_reducible refine (ta_cost (m := 4) (r := q2) (r0 := q3) (r1 := q4) (HT.out.on hS.out.bl) HW.out HM.out (by rw [HLN.out]; exact Hq3.out) Hq4.out HQ.out).mono ?_); rintro e w' ho; obtain ⟨A15, n15, c15, A16, n16, c16, rfl, h1⟩ := hS.out.rR (Nat.le_refl _) ho; clear x0_0 x1_0 x2_0 x0_1 x1_1 x2_1; clear hS; have hS := Lib.hid h1; clear h1; obtain ⟨x0_0, x1_0, x2_0⟩ := hS.out.cs3 0 rfl; obtain ⟨x0_1, x1_1, x2_1⟩ := hS.out.cs3 1 rfl)
    | (go_at_call 31; (with_reducible refine ((show Calls Tryz.prog 31 #[.int .i64 3] _ (OutR _ 1 q2) by rw [← Hq2.out]; exact fof_any _ 3 (by decide) (by decide))).mono ?_); rintro e w' ho; obtain ⟨A17, n17, c17, A18, n18, c18, rfl, h1⟩ := hS.out.rR (Nat.le_refl _) ho; clear x0_0 x1_0 x2_0 x0_1 x1_1 x2_1; clear hS; have hS := Lib.hid h1; clear h1; obtain ⟨x0_0, x1_0, x2_0⟩ := hS.out.cs3 0 rfl; obtain ⟨x0_1, x1_1, x2_1⟩ := hS.out.cs3 1 rfl)
    | (go_at_call 20; (with_reducible refine (ta_len (HT.out.on hS.out.bl) HLN.out).mono ?_); rintro e w' ⟨rfl, rfl⟩; have h1 := hS.out; clear x0_0 x1_0 x2_0 x0_1 x1_1 x2_1; clear hS; have hS := Lib.hid h1; clear h1; obtain ⟨x0_0, x1_0, x2_0⟩ := hS.out.cs3 0 rfl; obtain ⟨x0_1, x1_1, x2_1⟩ := hS.out.cs3 1 rfl)
    | (go_at_call 21; (with_reducible refine (ta_sum (HT.out.on hS.out.bl) HM4.out).mono ?_); rintro e w' ⟨rfl, rfl⟩; have h1 := hS.out; clear x0_0 x1_0 x2_0 x0_1 x1_1 x2_1; clear hS; have hS := Lib.hid h1; clear h1; obtain ⟨x0_0, x1_0, x2_0⟩ := hS.out.cs3 0 rfl; obtain ⟨x0_1, x1_1, x2_1⟩ := hS.out.cs3 1 rfl))
  go_wp2
  go_ret
  exact ⟨rfl, hS.out.st.1⟩
end Go.Proofs.YtfdpddlefobcpaaGreatDoor
/- A table that nobody made draws nothing. -/
namespace Go.Proofs.YtfdpddlefobcpaaGreatDoor
open Go.RowKit Go.Shelf
set_option linter.unusedVariables false
set_option linter.unusedSimpArgs false
set_option maxRecDepth 20000
open N
section
variable {w : World} {gc a : Nat} {o : Bool} {l : List UInt8}
/-- a table that nobody made draws nothing -/
theorem adraw_zero {p : Option Addr} (hL : Calls Tryz.prog 20 #[.pointer p] w fun e w' => e = .returned (.int .i64 ((0 : Nat) : Int)) ∧ w' = w) (hc : CuOk w gc l a o) (hB : isB l = true) (ha : a ≤ l.length) :
    Calls Tryz.prog 12 #[.pointer p, .pointer (some ⟨gc, 0, none⟩)] w fun e w' => e = .returned (.tuple #[.int .i64 0, .bool false]) ∧ w.grownBy w' (some gc) ∧ CuOk w' gc l a o := by
  have HL := Lib.hid hL
  have hcw : IntKind.u64.wrap 0 = ((0 : Nat) : Int) := rfl
  have HD := Lib.hid (draw_any (m := 0) hc hB ha (by decide) (dr_no (.inl rfl)))
  clear hL hc hB ha
  go_enter Tryz.func12, Tryz.ntmps12
  go_wp2_with (first
    | (go_at_call 20; refine HL.out.mono ?_; rintro e w1 ⟨rfl, hw1⟩; rw [hw1]; clear hw1)
    | (go_at_call 28; refine HD.out.mono ?_; rintro e w2 ⟨rfl, hg2, hc2⟩; have HG2 := Lib.hid hg2; have HC2 := Lib.hid hc2; clear hg2 hc2))
  go_ret2
  exact ⟨rfl, HG2.out, HC2.out⟩
end
end Go.Proofs.YtfdpddlefobcpaaGreatDoor
