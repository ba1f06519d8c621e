/- What the document's own Pow of layer 3 answers, over this translation. -/
import Derived.Test.YtbjhfnkdflnnoaaRefDiv
import Derived.Test.YtbjhfnkdflnnoaaRefMul
import Derived.Test.YtbjhfnkdflnnoaaQuoPow
namespace Go.Proofs.Ytbjhfnkdflnnoaa
open Go.RowKit
set_option linter.unusedVariables false
open N
section
variable {w0 w w' : World} {S S' : List Ent} {A A' : Option Addr} {n c m d k k' K : Nat} {xs ys : List Int} {v u : Int}
theorem rmul_v (h : St w0 w S) (h1 : (⟨A, n, c, k, xs, v⟩ : Ent) ∈ S) (h2 : (⟨A', m, d, k', ys, u⟩ : Ent) ∈ S) (hk : k ≤ 1000000) (hk' : k' ≤ 1000000) (hK : v * u < Q B K) :
    Calls Try.prog 31 #[.slice A n c, .slice A' m d] w fun e w' => ∃ A n c, e = .returned (.slice A n c) ∧ St w0 w' (⟨A, n, c, K, limbs (v * u), v * u⟩ :: S) := by
  obtain ⟨a1, a2, rfl⟩ := h.get h1
  obtain ⟨b1, b2, rfl⟩ := h.get h2
  exact (rmul_any w A A' n c m d xs ys a1 b1 (by omega) (by omega)).mono fun e w' ho => h.outK (Int.mul_nonneg (val_nonneg (by decide) a1.dg) (val_nonneg (by decide) b1.dg)) hK ho
theorem rpow_neg (h : St w0 w S) {q : Int} (hq : q < 0) :
    Calls Try.prog 21 #[.slice A n c, .int .i64 q] w fun e w' => e = .returned (.tuple #[.slice none 0 0, .int .i64 1]) ∧ St w0 w' S := by
  have hS := Lib.hid h
  clear h
  go_enter Try.func21, Try.ntmps21
  go_wp2
  go_ret2
  exact ⟨rfl, hS.out⟩
theorem rpow_long (h : St w0 w S) (h1 : (⟨A, n, c, k, xs, v⟩ : Ent) ∈ S) (hk : k ≤ 1000000) {q L : Int} (h0 : 0 ≤ q) (hL : W.len v = L) (hL0 : 0 < L) (hq : 1048576 / L < q) :
    Calls Try.prog 21 #[.slice A n c, .int .i64 q] w fun e w' => e = .returned (.tuple #[.slice none 0 0, .int .i64 5]) ∧ St w0 w' S := by
  have hS := Lib.hid h
  have H1 := Lib.hid h1
  have HL := Lib.hid hL
  clear h h1 hL
  go_enter Try.func21, Try.ntmps21
  go_wp2_with (go_at_call 20; refine (rlen_v hS.out H1.out hk).mono ?_; rw [HL.out]; rintro e w' ⟨rfl, h1⟩; clear hS; have hS := Lib.hid h1; clear h1)
  go_ret2
  exact ⟨rfl, hS.out⟩
theorem len_one {v : Int} (h0 : 0 ≤ v) (h : W.len v = 1) : v = 1 := by
  obtain ⟨k, e1, e2, e3⟩ := len_spec v h0
  have : k = 1 := by omega
  subst this
  rcases e3 with e3 | e3
  · omega
  · simp at e2 e3; omega
theorem len_zero {v : Int} (h0 : 0 ≤ v) (h : W.len v = 0) : v = 0 := by
  obtain ⟨k, e1, e2, e3⟩ := len_spec v h0
  have : k = 0 := by omega
  subst this
  simp at e2; omega
set_option maxHeartbeats 1000000 in
theorem rpow_v (h : St w0 w S) (h1 : (⟨A, n, c, k, xs, v⟩ : Ent) ∈ S) (hk : k ≤ 1000000) (q : Nat) (hq : q ≤ 9223372036854775807) (hok : PowOk v q) :
    Calls Try.prog 21 #[.slice A n c, .int .i64 q] w fun e w' => ∃ A n c, e = .returned (.tuple #[.slice A n c, .int .i64 0]) ∧ St w0 w' (⟨A, n, c, 16385, limbs (v ^ q), v ^ q⟩ :: S) := by
  obtain ⟨a1, a2, a3⟩ := h.get h1
  have pv : 0 ≤ v := by rw [← a3]; exact val_nonneg (by decide) a1.dg
  obtain ⟨L, hL⟩ : ∃ L, W.len v = L := ⟨_, rfl⟩
  have hL0 := len_nonneg v
  rw [hL] at hL0
  have HL := Lib.hid hL
  have hcond : L = 0 ∨ (0 < L ∧ (q : Int) ≤ 1048576 / L) := by
    rcases hok with h' | h'
    · left; rw [← hL, h', len_0]
    · rw [hL] at h'
      by_cases h0 : L = 0
      · exact .inl h0
      · exact .inr ⟨by omega, h'⟩
  have HP := Lib.hid (fun e he => pow_lt (e := e) pv hok he)
  have hS := Lib.hid (h.cons a1 a2 a3)
  have HV := Lib.hid (fun h => len_one pv h)
  have HZ := Lib.hid (fun h => len_zero pv h)
  clear h h1 a1 a3 hL hok
  have key : ∀ (L : Int), W.len v = L → L ≠ 1 → (L = 0 → q = 0) → (L = 0 ∨ (0 < L ∧ (q : Int) ≤ 1048576 / L)) →
      Calls Try.prog 21 #[.slice A n c, .int .i64 q] w fun e w' => ∃ A n c, e = .returned (.tuple #[.slice A n c, .int .i64 0]) ∧ St w0 w' (⟨A, n, c, 16385, limbs (v ^ q), v ^ q⟩ :: S) := by
    intro L hL hL1 hLq hc
    have HL := Lib.hid hL
    clear hL
    rcases hc with hc | ⟨hc, hd⟩
    all_goals
      have HQ := Lib.hid hLq
      have hb1 : (L == 1) = false := by rw [beq_eq_false_iff_ne]; exact hL1
      have hb0 : ((L == 0) = true → (0 < (q : Int)) → False) := fun h1 h2 => by have := hLq (by simpa using h1); omega
      have hq0 : L = 0 ∧ q = 0 ∨ 0 < L := by omega
      clear hLq hL1 hb0
      rcases hq0 with ⟨hq0, hq1⟩ | hq0
      all_goals try subst hq0
      all_goals try have hq2 : (q : Int) ≤ 0 := by omega
      all_goals try clear hq1
      all_goals try (exfalso; omega)
      all_goals
        go_enter Try.func21, Try.ntmps21
        go_wp2_with (first
          | (go_at_call 20; (with_reducible refine (rlen_v (v := v) hS.out (by repeat (first | exact List.mem_cons_self | apply List.mem_cons_of_mem)) hk).mono ?_); rw [HL.out]; rintro e w' ⟨rfl, h1⟩; clear hS; have hS := Lib.hid h1; clear h1)
          | (go_at_call 39; (with_reducible refine (one_v hS.out).mono ?_); rintro e w1 ⟨A1, n1, c1, rfl, h1⟩; clear hS; have hS := Lib.hid h1; clear h1))
        have hl1 : limbs (v ^ 0) = [1] := by rw [Int.pow_zero]; exact limbs_is _ (by decide +kernel) (by unfold Dg B; decide +kernel) (by decide +kernel)
        have hone := hS.out.get (A := A1) (n := n1) (c := c1) (k := 1) (xs := [1]) (v := 1) (by simp)
        rw [← hl1] at hone
        have hS0 := hS.out.cons (k := 16385) (v := v ^ 0) hone.1 (by omega) (by rw [limbs_val (Int.pow_nonneg pv)])
        have HS0 := Lib.hid (hS0.sub (S' := ⟨A1, n1, c1, 16385, limbs (v ^ 0), v ^ 0⟩ :: ⟨A, n, c, k, xs, v⟩ :: S) (by
          intro t ht
          simp only [List.mem_cons] at ht ⊢
          rcases ht with rfl | rfl | ht
          · simp
          · simp
          · simp [ht]))
        clear hl1 hone hS0 hS
        go_loopw [7, 8] (fun os is wr => ∃ (i : Nat) (A1 : Option Addr) (n1 c1 : Nat), i ≤ q ∧ is = .int .i64 i ∧ os = .slice A1 n1 c1 ∧ St w0 wr (⟨A1, n1, c1, 16385, limbs (v ^ i), v ^ i⟩ :: ⟨A, n, c, k, xs, v⟩ :: S)) (fun _ is _ => q - (intOf is).toNat)
        case atStart => exact ⟨0, _, _, _, Nat.zero_le _, rfl, rfl, HS0.out⟩
        case round =>
          obtain ⟨i, A2, n2, c2, hi, rfl, rfl, hst⟩ := hrel
          have hS := Lib.hid hst
          clear hst
          by_cases hlt : i < q
          · have HPI := Lib.hid (show v ^ i * v < Q B 16385 by rw [← Int.pow_succ]; exact (HP.out (i + 1) hlt).2)
            go_wp2_with (first
              | (go_at_call 31; (with_reducible refine (rmul_v (K := 16385) hS.out (by repeat (first | exact List.mem_cons_self | apply List.mem_cons_of_mem)) (by repeat (first | exact List.mem_cons_self | apply List.mem_cons_of_mem)) (by omega) hk HPI.out).mono ?_); rintro e w3 ⟨A3, n3, c3, rfl, h1⟩; clear hS; have hS := Lib.hid h1; clear h1))
            go_roundw
            case rel => exact ⟨i + 1, A3, n3, c3, hlt, by go_num, rfl, by
              rw [Int.pow_succ]
              exact hS.out.sub (by
                intro t ht
                simp only [List.mem_cons] at ht ⊢
                rcases ht with rfl | rfl | ht
                · simp
                · simp
                · simp [ht])⟩
            case measure => simp [intOf]; omega
          · obtain rfl : i = q := by omega
            go_wp2
            go_ret2
            exact ⟨A2, n2, c2, rfl, hS.out.sub (by
              intro t ht
              simp only [List.mem_cons] at ht ⊢
              rcases ht with rfl | ht
              · simp
              · simp [ht])⟩
  by_cases hL1 : L = 1
  · have hv1 := HV.out (by rw [HL.out]; exact hL1)
    have hd : (q : Int) ≤ 1048576 := by rcases hcond with h | ⟨h, h'⟩ <;> (try omega); rw [hL1] at h'; omega
    have HL1 := Lib.hid (show W.len v = 1 by rw [HL.out]; exact hL1)
    clear key hcond hL0 hL1
    go_enter Try.func21, Try.ntmps21
    go_wp2_with (first
      | (go_at_call 20; (with_reducible refine (rlen_v (v := v) hS.out (by repeat (first | exact List.mem_cons_self | apply List.mem_cons_of_mem)) hk).mono ?_); rw [HL1.out]; rintro e w' ⟨rfl, h1⟩; clear hS; have hS := Lib.hid h1; clear h1)
      | (go_at_call 39; (with_reducible refine (one_v hS.out).mono ?_); rintro e w1 ⟨A1, n1, c1, rfl, h1⟩; clear hS; have hS := Lib.hid h1; clear h1))
    go_ret2
    have hl1 : limbs (v ^ q) = [1] := by rw [hv1, Int.one_pow]; exact limbs_is _ (by decide +kernel) (by unfold Dg B; decide +kernel) (by decide +kernel)
    have hone := hS.out.get (A := A1) (n := n1) (c := c1) (k := 1) (xs := [1]) (v := 1) (by simp)
    rw [← hl1] at hone
    have hS0 := hS.out.cons (k := 16385) (v := v ^ q) hone.1 (by omega) (by rw [limbs_val (Int.pow_nonneg pv)])
    exact ⟨A1, n1, c1, rfl, hS0.sub (by
      intro t ht
      simp only [List.mem_cons] at ht ⊢
      rcases ht with rfl | ht
      · simp
      · simp [ht])⟩
  · by_cases hz : L = 0 ∧ 0 < q
    · obtain ⟨hz, hq0⟩ := hz
      have hv0 := HZ.out (by rw [HL.out]; exact hz)
      have HL1 := Lib.hid (show W.len v = 0 by rw [HL.out]; exact hz)
      clear key hcond hL0 hL1 hz
      go_enter Try.func21, Try.ntmps21
      go_wp2_with (first
        | (go_at_call 20; (with_reducible refine (rlen_v (v := v) hS.out (by repeat (first | exact List.mem_cons_self | apply List.mem_cons_of_mem)) hk).mono ?_); rw [HL1.out]; rintro e w' ⟨rfl, h1⟩; clear hS; have hS := Lib.hid h1; clear h1))
      go_ret2
      have e0 : v ^ q = 0 := by rw [hv0]; exact Int.zero_pow (by omega)
      rw [e0]
      have hS0 := hS.out.cons (A := none) (n := 0) (c := 0) (k := 16385) (xs := limbs 0) (v := 0) (by rw [limbs_zero]; exact Sl.none) (Nat.zero_le _) (by rw [limbs_zero]; rfl)
      exact ⟨none, 0, 0, rfl, hS0.sub (by
        intro t ht
        simp only [List.mem_cons] at ht ⊢
        rcases ht with rfl | ht
        · simp
        · simp [ht])⟩
    · exact key L HL.out hL1 (by omega) hcond
end
end Go.Proofs.Ytbjhfnkdflnnoaa
