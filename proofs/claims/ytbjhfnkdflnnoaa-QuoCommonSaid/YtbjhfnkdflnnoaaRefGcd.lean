/- What the document's own Gcd of layer 3 answers, over this translation. -/
import Derived.Test.YtbjhfnkdflnnoaaRefDiv
import Derived.Test.YtbjhfnkdflnnoaaQuoGcd
namespace Go.Proofs.Ytbjhfnkdflnnoaa
open Go.RowKit
set_option linter.unusedVariables false
open N
theorem rtrim_v {w0 w : World} {S : List Ent} {A : Option Addr} {n c k K : Nat} {xs : List Int} {v : Int} (h : St w0 w S) (h1 : (⟨A, n, c, k, xs, v⟩ : Ent) ∈ S) (hk : k ≤ 1000000) (hK : v < Q B K) :
    Calls Try.prog 45 #[.slice A n c] w fun e w' => ∃ A n c, e = .returned (.slice A n c) ∧ St w0 w' (⟨A, n, c, K, limbs v, v⟩ :: S) := by
  obtain ⟨a1, a2, rfl⟩ := h.get h1
  exact (rtrim_any w A n c xs a1 (by omega)).mono fun e w' ho => h.outK (val_nonneg (by decide) a1.dg) hK ho
theorem St.tight {w0 w : World} {S : List Ent} {A : Option Addr} {n c k K : Nat} {v : Int} (h : St w0 w S) (h1 : (⟨A, n, c, k, limbs v, v⟩ : Ent) ∈ S) (h0 : 0 ≤ v) (hK : v < Q B K) : St w0 w (⟨A, n, c, K, limbs v, v⟩ :: S) := by
  obtain ⟨a1, a2, a3⟩ := h.get h1
  exact h.cons a1 (by rw [← a1.len]; exact (limbs_len_le h0 K).2 hK) a3
theorem limbs_some {n : Nat} {v : Int} (h : (limbs v).length = n) (h0 : 0 ≤ v) : n = 0 ↔ v = 0 := by
  have := limbs_len_le h0 0
  rw [h, Q_zero] at this
  omega
theorem four_ltR {a b : Int} {T : Nat} (ha : a < Q B T) (hb : b < Q B T) : a + a + b + b < Q B (T + 1) := by
  have hq := Q_pos (b := B) (by decide) T
  have : Q B (T + 1) = Q B T * 18446744073709551616 := Q_succ ..
  omega
set_option maxHeartbeats 1000000 in
theorem rgcd_v {w0 w : World} {S : List Ent} {A A' : Option Addr} {n c m d k k' K : Nat} {xs ys : List Int} {va vb : Int} (h : St w0 w S) (h1 : (⟨A, n, c, k, xs, va⟩ : Ent) ∈ S) (h2 : (⟨A', m, d, k', ys, vb⟩ : Ent) ∈ S) (hk : k ≤ 900) (hk' : k' ≤ 900) (hK : K ≤ 900)
    (ha : va < Q B K) (hb : vb < Q B K) :
    Calls Try.prog 18 #[.slice A n c, .slice A' m d] w fun e w' => ∃ A n c, e = .returned (.slice A n c) ∧ St w0 w' (⟨A, n, c, K, limbs (gI va vb), gI va vb⟩ :: S) := by
  obtain ⟨a1, a2, a3⟩ := h.get h1
  obtain ⟨b1, b2, b3⟩ := h.get h2
  have pa : 0 ≤ va := by rw [← a3]; exact val_nonneg (by decide) a1.dg
  have pb : 0 ≤ vb := by rw [← b3]; exact val_nonneg (by decide) b1.dg
  have HA := Lib.hid ha
  have HB := Lib.hid hb
  have hS := Lib.hid ((h.cons b1 b2 b3).cons a1 a2 a3)
  clear h h1 h2 a1 a3 b1 b3 ha hb
  go_enter Try.func18, Try.ntmps18
  go_wp2_with (first
    | (go_at_call_of 45 (Value.slice A n c); (with_reducible refine (rtrim_v (v := va) hS.out (by repeat (first | exact List.mem_cons_self | apply List.mem_cons_of_mem)) (by omega) HA.out).mono ?_); rintro e w1 ⟨A1, n1, c1, rfl, h1⟩; clear hS; have hS := Lib.hid h1; clear h1)
    | (go_at_call_of 45 (Value.slice A' m d); (with_reducible refine (rtrim_v (v := vb) hS.out (by repeat (first | exact List.mem_cons_self | apply List.mem_cons_of_mem)) (by omega) HB.out).mono ?_); rintro e w2 ⟨A2, n2, c2, rfl, h1⟩; clear hS; have hS := Lib.hid h1; clear h1))
  go_loopw [0, 1] (fun xs' ys' wr => ∃ (x y : Int) (A1 : Option Addr) (n1 c1 : Nat) (A2 : Option Addr) (n2 c2 : Nat), xs' = .slice A1 n1 c1 ∧ ys' = .slice A2 n2 c2 ∧ 0 ≤ x ∧ x < Q B K ∧ 0 ≤ y ∧ y < Q B K ∧ gI x y = gI va vb ∧
    St w0 wr (⟨A1, n1, c1, K, limbs x, x⟩ :: ⟨A2, n2, c2, K, limbs y, y⟩ :: S)) (fun _ ys' wr => vOf ys' wr)
  case atStart => exact ⟨va, vb, _, _, _, _, _, _, rfl, rfl, pa, HA.out, pb, HB.out, rfl, hS.out.sub (by
    intro t ht
    simp only [List.mem_cons] at ht ⊢
    rcases ht with rfl | rfl | ht
    · simp
    · simp
    · simp [ht])⟩
  case round =>
    obtain ⟨x, y, A1, n1, c1, A2, n2, c2, rfl, rfl, hx0, hx1, hy0, hy1, hg, hst⟩ := hrel
    obtain ⟨wi, rfl⟩ : ∃ wi : World, wi = wr := ⟨_, rfl⟩
    have hn2 := limbs_some (hst.get (A := A2) (n := n2) (c := c2) (k := K) (xs := limbs y) (v := y) (by simp)).1.len hy0
    have hsy := (hst.get (A := A2) (n := n2) (c := c2) (k := K) (xs := limbs y) (v := y) (by simp)).1
    clear hS
    have hS := Lib.hid hst
    have HG := Lib.hid hg
    clear hst hg
    by_cases hz : y = 0
    · have h0 : n2 = 0 := hn2.2 hz
      have HZ := Lib.hid hz
      subst h0
      clear hn2 hz
      go_wp2
      go_ret
      have e1 : x = gI va vb := by rw [← HG.out, HZ.out, gI_zero hx0]
      rw [← e1]
      exact ⟨A1, n1, c1, rfl, hS.out.sub (by
        intro t ht
        simp only [List.mem_cons] at ht ⊢
        rcases ht with rfl | ht
        · simp
        · simp [ht])⟩
    · have h0 : 0 < n2 := by
        have : n2 ≠ 0 := fun e => hz (hn2.1 e)
        omega
      have hy2 : 0 < y := by omega
      have HN := Lib.hid (four_ltR hx1 hy1)
      clear hn2 hz
      go_wp2_with (first
        | (go_at_call 14; (with_reducible refine (rdiv_v (N := K + 1) hS.out (by repeat (first | exact List.mem_cons_self | apply List.mem_cons_of_mem)) (by repeat (first | exact List.mem_cons_self | apply List.mem_cons_of_mem)) (by omega) (by omega) hy2 HN.out (by omega)).mono ?_); rintro e wb ⟨Ap, np, cp, As, ns, cs, rfl, h9⟩; clear hS; have hS := Lib.hid h9; clear h9))
      have hr0 := Int.emod_nonneg x (show y ≠ 0 by omega)
      have hr1 := Int.emod_lt_of_pos x hy2
      have hsr := (hS.out.get (A := As) (n := ns) (c := cs) (k := K + 1) (xs := limbs (x % y)) (v := x % y) (by simp)).1
      have hS2 := hS.out.tight (A := As) (n := ns) (c := cs) (k := K + 1) (v := x % y) (K := K) (by simp) hr0 (by omega)
      go_roundw
      case rel => exact ⟨y, x % y, _, _, _, _, _, _, rfl, rfl, hy0, hy1, hr0, by omega, by rw [← HG.out]; exact gI_step hx0 hy2, hS2.sub (by
        intro t ht
        simp only [List.mem_cons] at ht ⊢
        rcases ht with rfl | rfl | ht
        · simp
        · simp
        · simp [ht])⟩
      case measure =>
        rw [vOf_eq hsr, vOf_eq hsy, limbs_val hr0, limbs_val hy0]
        omega
end Go.Proofs.Ytbjhfnkdflnnoaa
