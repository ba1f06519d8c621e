/- What the document's own Div of layer 3 (bit by bit) answers, over this translation. -/
import Derived.Test.YtbjhfnkdflnnoaaNatState
import Derived.Test.YtbjhfnkdflnnoaaNatAwake
import Derived.Test.YtbjhfnkdflnnoaaRefAdd
import Derived.Test.YtbjhfnkdflnnoaaRefSub
import Derived.Test.YtbjhfnkdflnnoaaRefCmp
import Derived.Test.YtbjhfnkdflnnoaaRefTell
namespace Go.Proofs.Ytbjhfnkdflnnoaa
open Go.RowKit
set_option linter.unusedVariables false
open N
section
variable {w0 w w' : World} {S S' : List Ent} {A A' : Option Addr} {n c m d k k' K : Nat} {xs ys : List Int} {v u : Int}
theorem St.sub (h : St w0 w S) (hs : ∀ t ∈ S', t ∈ S) : St w0 w S' := ⟨h.1, fun t ht => h.2 t (hs t ht)⟩
/-- a result that is below the base to the power of K has at most K limbs -/
theorem St.outK (h : St w0 w S) {m : Nat} {r : Int} {e : Ending} (hr : 0 ≤ r) (hK : r < Q B K) (ho : Out w m r e w') : ∃ A n c, e = .returned (.slice A n c) ∧ St w0 w' (⟨A, n, c, K, limbs r, r⟩ :: S) := by
  obtain ⟨A, n, c, he, hn, hown, hb⟩ := ho
  exact ⟨A, n, c, he, (h.below hb).cons hown.sl (by rw [← hown.len]; exact (limbs_len_le hr K).2 hK) (limbs_val hr)⟩
theorem radd_v (h : St w0 w S) (h1 : (⟨A, n, c, k, xs, v⟩ : Ent) ∈ S) (h2 : (⟨A', m, d, k', ys, u⟩ : Ent) ∈ S) (hk : k ≤ 1000000) (hk' : k' ≤ 1000000) (hK : v + u < Q B K) :
    Calls Try.prog 37 #[.slice A n c, .slice A' m d] w fun e w' => ∃ A n c, e = .returned (.slice A n c) ∧ St w0 w' (⟨A, n, c, K, limbs (v + u), v + u⟩ :: S) := by
  obtain ⟨a1, a2, rfl⟩ := h.get h1
  obtain ⟨b1, b2, rfl⟩ := h.get h2
  have := val_nonneg (b := B) (by decide) a1.dg
  have := val_nonneg (b := B) (by decide) b1.dg
  exact (radd_any w A A' n c m d xs ys a1 b1 (by omega) (by omega)).mono fun e w' ho => h.outK (by omega) hK ho
theorem rsub_v (h : St w0 w S) (h1 : (⟨A, n, c, k, xs, v⟩ : Ent) ∈ S) (h2 : (⟨A', m, d, k', ys, u⟩ : Ent) ∈ S) (hk : k ≤ 1000000) (hk' : k' ≤ 1000000) (hle : u ≤ v) (hK : v - u < Q B K) :
    Calls Try.prog 41 #[.slice A n c, .slice A' m d] w fun e w' => ∃ A n c, e = .returned (.tuple #[.slice A n c, .int .i64 0]) ∧ St w0 w' (⟨A, n, c, K, limbs (v - u), v - u⟩ :: S) := by
  obtain ⟨a1, a2, rfl⟩ := h.get h1
  obtain ⟨b1, b2, rfl⟩ := h.get h2
  refine (rsub_yes w A A' n c m d xs ys a1 b1 (by omega) (by omega) hle).mono fun e w' ho => ?_
  obtain ⟨A, n, c, he, hn, hown, hb⟩ := ho
  exact ⟨A, n, c, he, (h.below hb).cons hown.sl (by rw [← hown.len]; exact (limbs_len_le (by omega) K).2 hK) (limbs_val (by omega))⟩
theorem rcmp_v (h : St w0 w S) (h1 : (⟨A, n, c, k, xs, v⟩ : Ent) ∈ S) (h2 : (⟨A', m, d, k', ys, u⟩ : Ent) ∈ S) (hk : k ≤ 1000000) (hk' : k' ≤ 1000000) :
    Calls Try.prog 40 #[.slice A n c, .slice A' m d] w fun e w' => e = .returned (.int .i64 (cmpI v u)) ∧ St w0 w' S := by
  obtain ⟨a1, a2, rfl⟩ := h.get h1
  obtain ⟨b1, b2, rfl⟩ := h.get h2
  exact (rcmp_any w A A' n c m d xs ys a1 b1 (by omega) (by omega)).mono fun e w' ⟨he, hb⟩ => ⟨he, h.below hb⟩
theorem rlen_v (h : St w0 w S) (h1 : (⟨A, n, c, k, xs, v⟩ : Ent) ∈ S) (hk : k ≤ 1000000) :
    Calls Try.prog 20 #[.slice A n c] w fun e w' => e = .returned (.int .i64 (W.len v)) ∧ St w0 w' S := by
  obtain ⟨a1, a2, rfl⟩ := h.get h1
  exact (rlen_any w A n c xs a1 (by omega)).mono fun e w' ⟨he, hb⟩ => ⟨he, h.below hb⟩
theorem rbit_v (h : St w0 w S) (h1 : (⟨A, n, c, k, xs, v⟩ : Ent) ∈ S) (hk : k ≤ 1000000) {i : Nat} (hi : i ≤ 9223372036854775807) {b : Bool} (hb : (v / 2 ^ i % 2 == 1) = b) :
    Calls Try.prog 38 #[.slice A n c, .int .i64 i] w fun e w' => e = .returned (.bool b) ∧ St w0 w' S := by
  obtain ⟨a1, a2, rfl⟩ := h.get h1
  subst hb
  exact (rbit_any w A n c xs a1 (by omega) i hi).mono fun e w' ⟨he, hb⟩ => ⟨he, h.below hb⟩
theorem one_v (h : St w0 w S) : Calls Try.prog 39 #[] w fun e w' => ∃ A n c, e = .returned (.slice A n c) ∧ St w0 w' (⟨A, n, c, 1, [1], 1⟩ :: S) := by
  have hl := h.lit1 1 (by omega)
  have HL := Lib.hid hl
  clear hl
  go_enter Try.func39, Try.ntmps39
  go_wp2
  go_ret
  exact ⟨_, _, _, rfl, HL.out⟩
end
theorem rdiv_bit {va vb q r t : Int} {j : Nat} (hb : 0 < vb) (h : q * vb + r = va / 2 ^ (j + 1)) (ht : va / 2 ^ j % 2 = t) : (q + q) * vb + (r + r + t) = va / 2 ^ j := by
  rw [W.div_div2] at h
  rw [Int.add_mul]
  omega
def RdInv (va vb : Int) (j : Nat) (q r : Int) : Prop := 0 ≤ q ∧ 0 ≤ r ∧ r < vb ∧ q * vb + r = va / 2 ^ j
theorem RdInv.bound {va vb q r : Int} {j K : Nat} (h : RdInv va vb j q r) (ha : 0 ≤ va) (hb : 0 < vb) (hK : va + va + vb + vb < Q B K) : q + q + 1 < Q B K ∧ r + r + 1 < Q B K := by
  obtain ⟨h1, h2, h3, h4⟩ := h
  have h5 : va / 2 ^ j ≤ va := (W.div_le va j ha).2
  have h6 : q * 1 ≤ q * vb := Int.mul_le_mul_of_nonneg_left (by omega) h1
  constructor <;> omega
theorem RdInv.no {va vb q r t : Int} {j : Nat} (h : RdInv va vb (j + 1) q r) (hb : 0 < vb) (ht : va / 2 ^ j % 2 = t) (ht0 : 0 ≤ t) (hlt : r + r + t < vb) : RdInv va vb j (q + q) (r + r + t) := by
  obtain ⟨h1, h2, h3, h4⟩ := h
  exact ⟨by omega, by omega, hlt, rdiv_bit hb h4 ht⟩
theorem RdInv.yes {va vb q r t : Int} {j : Nat} (h : RdInv va vb (j + 1) q r) (hb : 0 < vb) (ht : va / 2 ^ j % 2 = t) (ht1 : t ≤ 1) (hge : vb ≤ r + r + t) : RdInv va vb j (q + q + 1) (r + r + t - vb) := by
  obtain ⟨h1, h2, h3, h4⟩ := h
  have := rdiv_bit hb h4 ht
  refine ⟨by omega, by omega, by omega, ?_⟩
  rw [Int.add_mul, Int.one_mul]
  omega
set_option maxRecDepth 100000 in
set_option maxHeartbeats 2000000 in
theorem rdiv_v {w0 w : World} {S : List Ent} {A A' : Option Addr} {n c m d k k' N : Nat} {xs ys : List Int} {va vb : Int} (h : St w0 w S) (h1 : (⟨A, n, c, k, xs, va⟩ : Ent) ∈ S) (h2 : (⟨A', m, d, k', ys, vb⟩ : Ent) ∈ S) (hk : k ≤ 1000) (hk' : k' ≤ 1000) (hb : 0 < vb)
    (hN : va + va + vb + vb < Q B N) (hN1 : N ≤ 1000000) :
    Calls Try.prog 14 #[.slice A n c, .slice A' m d] w fun e w' => ∃ A n c A' n' c', e = .returned (.tuple #[.slice A n c, .slice A' n' c', .int .i64 0]) ∧
      St w0 w' (⟨A', n', c', N, limbs (va % vb), va % vb⟩ :: ⟨A, n, c, N, limbs (va / vb), va / vb⟩ :: S) := by
  obtain ⟨a1, a2, a3⟩ := h.get h1
  obtain ⟨b1, b2, b3⟩ := h.get h2
  have pa : 0 ≤ va := by rw [← a3]; exact val_nonneg (by decide) a1.dg
  have hlb := len_nonneg vb
  have hl0 : (W.len vb == 0) = false := by
    obtain ⟨j, e1, e2, e3⟩ := len_spec vb (by omega)
    rw [e1, beq_eq_false_iff_ne]
    intro hj
    have : j = 0 := by omega
    subst this
    simp at e2; omega
  obtain ⟨J, hJ, hJl⟩ : ∃ J : Nat, W.len va = J ∧ va < 2 ^ J := by obtain ⟨j, e1, e2, _⟩ := len_spec va pa; exact ⟨j, e1, e2⟩
  have hJ1 : J ≤ 64 * 1000 := by
    obtain ⟨j, e1, e2, e3⟩ := len_spec va pa
    have : j = J := by omega
    subst this
    apply Classical.byContradiction; intro hc
    have e4 : 2 ^ (j - 1) ≤ va := by rcases e3 with e3 | e3; omega; exact e3
    have e5 := val_lt (b := B) (by decide) a1.dg
    rw [a3, a1.len, Q_two] at e5
    have e6 : (2 : Int) ^ (64 * n) ≤ 2 ^ (j - 1) := by rw [← W.cast_pow, ← W.cast_pow]; exact Int.ofNat_le.2 (Nat.pow_le_pow_right (by omega) (by omega))
    omega
  have HJ := Lib.hid hJ
  have hS := Lib.hid ((((h.cons b1 b2 b3).cons a1 a2 a3).cons (A := none) (n := 0) (c := 0) (k := N) (xs := limbs 0) (v := 0) (by rw [limbs_zero]; exact Sl.none) (Nat.zero_le _) (by rw [limbs_zero]; rfl)).cons (A := none) (n := 0) (c := 0) (k := N) (xs := limbs 0) (v := 0) (by rw [limbs_zero]; exact Sl.none) (Nat.zero_le _) (by rw [limbs_zero]; rfl))
  have hI0 : RdInv va vb J 0 0 := ⟨by omega, by omega, hb, by rw [Int.ediv_eq_zero_of_lt pa hJl]; simp⟩
  have HI0 := Lib.hid hI0
  clear h hJ hJl hI0 a1 a3 b1 b3 h1 h2
  go_enter Try.func14, Try.ntmps14
  go_wp2_with (first
    | (go_at_call_of 20 (Value.slice A' m d); (with_reducible refine (rlen_v (v := vb) hS.out (by repeat (first | exact List.mem_cons_self | apply List.mem_cons_of_mem)) (by omega)).mono ?_); rintro e w' ⟨rfl, h1⟩; clear hS; have hS := Lib.hid h1; clear h1)
    | (go_at_call_of 20 (Value.slice A n c); (with_reducible refine (rlen_v (v := va) hS.out (by repeat (first | exact List.mem_cons_self | apply List.mem_cons_of_mem)) (by omega)).mono ?_); rw [HJ.out]; rintro e w' ⟨rfl, h1⟩; clear hS; have hS := Lib.hid h1; clear h1))
  go_loopw [7, 8, 9] (fun qs rs is wr => ∃ (j : Nat) (t q r : Int) (A1 : Option Addr) (n1 c1 : Nat) (A2 : Option Addr) (n2 c2 : Nat), t + 1 = (j : Int) ∧ j ≤ 64 * 1000 ∧ qs = .slice A1 n1 c1 ∧ rs = .slice A2 n2 c2 ∧ is = .int .i64 t ∧ RdInv va vb j q r ∧
    St w0 wr (⟨A1, n1, c1, N, limbs q, q⟩ :: ⟨A2, n2, c2, N, limbs r, r⟩ :: ⟨A, n, c, k, xs, va⟩ :: ⟨A', m, d, k', ys, vb⟩ :: S)) (fun _ _ is _ => (intOf is + 1).toNat)
  case atStart => exact ⟨J, _, 0, 0, _, _, _, _, _, _, by omega, hJ1, rfl, rfl, rfl, HI0.out, hS.out⟩
  case round =>
    obtain ⟨j, t, q, r, A1, n1, c1, A2, n2, c2, ht, hj, rfl, rfl, rfl, hI, hst⟩ := hrel
    clear hS
    have hS := Lib.hid hst
    clear hst
    by_cases h0t : 0 ≤ t
    · obtain ⟨i, rfl⟩ := Int.eq_ofNat_of_zero_le h0t
      obtain rfl : j = i + 1 := by omega
      obtain ⟨k1, k2⟩ := hI.bound pa hb hN
      have q0 := hI.1
      have r0 := hI.2.1
      have HQ1 := Lib.hid (show q + q < Q B N by omega)
      have HQ2 := Lib.hid (show r + r < Q B N by omega)
      have HQ3 := Lib.hid k1
      have HQ4 := Lib.hid k2
      clear ht h0t
      by_cases hbit : va / 2 ^ i % 2 = 1
      · by_cases hge : vb ≤ r + r + 1
        · skip
          have hbt : va / 2 ^ i % 2 = 1 := hbit
          have HBT := Lib.hid (show (va / 2 ^ i % 2 == 1) = true by rw [hbt]; rfl)
          have HI := Lib.hid (hI.yes hb hbt (by omega) (by omega))
          obtain ⟨cc, hcc, hc0⟩ : ∃ cc : Int, cmpI (r + r + 1) vb = cc ∧ 0 ≤ cc := by
            rcases Int.lt_or_eq_of_le (show vb ≤ r + r + 1 by omega) with h | h
            · exact ⟨1, cmpI_gt h, by omega⟩
            · exact ⟨0, cmpI_eq h.symm, by omega⟩
          have HC := Lib.hid hcc
          clear hcc hbt hI hbit
          go_wp2_with (first
              | (go_at_call 37; (with_reducible refine (radd_v (K := N) hS.out (by repeat (first | exact List.mem_cons_self | apply List.mem_cons_of_mem)) (by repeat (first | exact List.mem_cons_self | apply List.mem_cons_of_mem)) (by omega) (by omega) (by first | exact HQ1.out | exact HQ2.out | exact HQ3.out | exact HQ4.out)).mono ?_); rintro e w' ⟨B1, m1, d1, rfl, h1⟩; clear hS; have hS := Lib.hid h1; clear h1)
              | (go_at_call 38; (with_reducible refine (rbit_v hS.out (by repeat (first | exact List.mem_cons_self | apply List.mem_cons_of_mem)) (by omega) (by omega) HBT.out).mono ?_); rintro e w' ⟨rfl, h1⟩; clear hS; have hS := Lib.hid h1; clear h1)
              | (go_at_call 39; (with_reducible refine (one_v hS.out ).mono ?_); rintro e w' ⟨B2, m2, d2, rfl, h1⟩; clear hS; have hS := Lib.hid h1; clear h1)
              | (go_at_call 40; (with_reducible refine (rcmp_v hS.out (by repeat (first | exact List.mem_cons_self | apply List.mem_cons_of_mem)) (by repeat (first | exact List.mem_cons_self | apply List.mem_cons_of_mem)) (by omega) (by omega)).mono ?_); rw [HC.out]; rintro e w' ⟨rfl, h1⟩; clear hS; have hS := Lib.hid h1; clear h1)
              | (go_at_call 41; (with_reducible refine (rsub_v (K := N) hS.out (by repeat (first | exact List.mem_cons_self | apply List.mem_cons_of_mem)) (by repeat (first | exact List.mem_cons_self | apply List.mem_cons_of_mem)) (by omega) (by omega) (by omega) (by omega)).mono ?_); rintro e w' ⟨B3, m3, d3, rfl, h1⟩; clear hS; have hS := Lib.hid h1; clear h1))
          go_roundw
          case rel => exact ⟨i, _, _, _, _, _, _, _, _, _, by omega, by omega, rfl, rfl, rfl, HI.out, hS.out.sub (by
            intro t ht
            simp only [List.mem_cons] at ht ⊢
            rcases ht with rfl | rfl | ht
            · simp
            · simp
            · simp [ht])⟩
          case measure => simp [intOf]
        · skip
          have hbt : va / 2 ^ i % 2 = 1 := hbit
          have HBT := Lib.hid (show (va / 2 ^ i % 2 == 1) = true by rw [hbt]; rfl)
          have HI := Lib.hid (hI.no hb hbt (by omega) (by omega))
          obtain ⟨cc, hcc, hc0⟩ : ∃ cc : Int, cmpI (r + r + 1) vb = cc ∧ cc < 0 := ⟨-1, cmpI_lt (by omega), by omega⟩
          have HC := Lib.hid hcc
          clear hcc hbt hI hbit
          go_wp2_with (first
              | (go_at_call 37; (with_reducible refine (radd_v (K := N) hS.out (by repeat (first | exact List.mem_cons_self | apply List.mem_cons_of_mem)) (by repeat (first | exact List.mem_cons_self | apply List.mem_cons_of_mem)) (by omega) (by omega) (by first | exact HQ1.out | exact HQ2.out | exact HQ3.out | exact HQ4.out)).mono ?_); rintro e w' ⟨B4, m4, d4, rfl, h1⟩; clear hS; have hS := Lib.hid h1; clear h1)
              | (go_at_call 38; (with_reducible refine (rbit_v hS.out (by repeat (first | exact List.mem_cons_self | apply List.mem_cons_of_mem)) (by omega) (by omega) HBT.out).mono ?_); rintro e w' ⟨rfl, h1⟩; clear hS; have hS := Lib.hid h1; clear h1)
              | (go_at_call 39; (with_reducible refine (one_v hS.out ).mono ?_); rintro e w' ⟨B5, m5, d5, rfl, h1⟩; clear hS; have hS := Lib.hid h1; clear h1)
              | (go_at_call 40; (with_reducible refine (rcmp_v hS.out (by repeat (first | exact List.mem_cons_self | apply List.mem_cons_of_mem)) (by repeat (first | exact List.mem_cons_self | apply List.mem_cons_of_mem)) (by omega) (by omega)).mono ?_); rw [HC.out]; rintro e w' ⟨rfl, h1⟩; clear hS; have hS := Lib.hid h1; clear h1))
          go_roundw
          case rel => exact ⟨i, _, _, _, _, _, _, _, _, _, by omega, by omega, rfl, rfl, rfl, HI.out, hS.out.sub (by
            intro t ht
            simp only [List.mem_cons] at ht ⊢
            rcases ht with rfl | rfl | ht
            · simp
            · simp
            · simp [ht])⟩
          case measure => simp [intOf]
      · by_cases hge : vb ≤ r + r
        · skip
          have hbt : va / 2 ^ i % 2 = 0 := by omega
          have HBT := Lib.hid (show (va / 2 ^ i % 2 == 1) = false by rw [hbt]; rfl)
          have HI := Lib.hid (hI.yes hb hbt (by omega) (by omega))
          rw [Int.add_zero] at HI
          obtain ⟨cc, hcc, hc0⟩ : ∃ cc : Int, cmpI (r + r) vb = cc ∧ 0 ≤ cc := by
            rcases Int.lt_or_eq_of_le (show vb ≤ r + r by omega) with h | h
            · exact ⟨1, cmpI_gt h, by omega⟩
            · exact ⟨0, cmpI_eq h.symm, by omega⟩
          have HC := Lib.hid hcc
          clear hcc hbt hI hbit
          go_wp2_with (first
              | (go_at_call 37; (with_reducible refine (radd_v (K := N) hS.out (by repeat (first | exact List.mem_cons_self | apply List.mem_cons_of_mem)) (by repeat (first | exact List.mem_cons_self | apply List.mem_cons_of_mem)) (by omega) (by omega) (by first | exact HQ1.out | exact HQ2.out | exact HQ3.out | exact HQ4.out)).mono ?_); rintro e w' ⟨B6, m6, d6, rfl, h1⟩; clear hS; have hS := Lib.hid h1; clear h1)
              | (go_at_call 38; (with_reducible refine (rbit_v hS.out (by repeat (first | exact List.mem_cons_self | apply List.mem_cons_of_mem)) (by omega) (by omega) HBT.out).mono ?_); rintro e w' ⟨rfl, h1⟩; clear hS; have hS := Lib.hid h1; clear h1)
              | (go_at_call 39; (with_reducible refine (one_v hS.out ).mono ?_); rintro e w' ⟨B7, m7, d7, rfl, h1⟩; clear hS; have hS := Lib.hid h1; clear h1)
              | (go_at_call 40; (with_reducible refine (rcmp_v hS.out (by repeat (first | exact List.mem_cons_self | apply List.mem_cons_of_mem)) (by repeat (first | exact List.mem_cons_self | apply List.mem_cons_of_mem)) (by omega) (by omega)).mono ?_); rw [HC.out]; rintro e w' ⟨rfl, h1⟩; clear hS; have hS := Lib.hid h1; clear h1)
              | (go_at_call 41; (with_reducible refine (rsub_v (K := N) hS.out (by repeat (first | exact List.mem_cons_self | apply List.mem_cons_of_mem)) (by repeat (first | exact List.mem_cons_self | apply List.mem_cons_of_mem)) (by omega) (by omega) (by omega) (by omega)).mono ?_); rintro e w' ⟨B8, m8, d8, rfl, h1⟩; clear hS; have hS := Lib.hid h1; clear h1))
          go_roundw
          case rel => exact ⟨i, _, _, _, _, _, _, _, _, _, by omega, by omega, rfl, rfl, rfl, HI.out, hS.out.sub (by
            intro t ht
            simp only [List.mem_cons] at ht ⊢
            rcases ht with rfl | rfl | ht
            · simp
            · simp
            · simp [ht])⟩
          case measure => simp [intOf]
        · skip
          have hbt : va / 2 ^ i % 2 = 0 := by omega
          have HBT := Lib.hid (show (va / 2 ^ i % 2 == 1) = false by rw [hbt]; rfl)
          have HI := Lib.hid (hI.no hb hbt (by omega) (by omega))
          rw [Int.add_zero] at HI
          obtain ⟨cc, hcc, hc0⟩ : ∃ cc : Int, cmpI (r + r) vb = cc ∧ cc < 0 := ⟨-1, cmpI_lt (by omega), by omega⟩
          have HC := Lib.hid hcc
          clear hcc hbt hI hbit
          go_wp2_with (first
              | (go_at_call 37; (with_reducible refine (radd_v (K := N) hS.out (by repeat (first | exact List.mem_cons_self | apply List.mem_cons_of_mem)) (by repeat (first | exact List.mem_cons_self | apply List.mem_cons_of_mem)) (by omega) (by omega) (by first | exact HQ1.out | exact HQ2.out | exact HQ3.out | exact HQ4.out)).mono ?_); rintro e w' ⟨B9, m9, d9, rfl, h1⟩; clear hS; have hS := Lib.hid h1; clear h1)
              | (go_at_call 38; (with_reducible refine (rbit_v hS.out (by repeat (first | exact List.mem_cons_self | apply List.mem_cons_of_mem)) (by omega) (by omega) HBT.out).mono ?_); rintro e w' ⟨rfl, h1⟩; clear hS; have hS := Lib.hid h1; clear h1)
              | (go_at_call 39; (with_reducible refine (one_v hS.out ).mono ?_); rintro e w' ⟨B10, m10, d10, rfl, h1⟩; clear hS; have hS := Lib.hid h1; clear h1)
              | (go_at_call 40; (with_reducible refine (rcmp_v hS.out (by repeat (first | exact List.mem_cons_self | apply List.mem_cons_of_mem)) (by repeat (first | exact List.mem_cons_self | apply List.mem_cons_of_mem)) (by omega) (by omega)).mono ?_); rw [HC.out]; rintro e w' ⟨rfl, h1⟩; clear hS; have hS := Lib.hid h1; clear h1))
          go_roundw
          case rel => exact ⟨i, _, _, _, _, _, _, _, _, _, by omega, by omega, rfl, rfl, rfl, HI.out, hS.out.sub (by
            intro t ht
            simp only [List.mem_cons] at ht ⊢
            rcases ht with rfl | rfl | ht
            · simp
            · simp
            · simp [ht])⟩
          case measure => simp [intOf]
    · obtain rfl : j = 0 := by omega
      obtain rfl : t = -1 := by omega
      have HI := Lib.hid hI
      clear hI ht h0t
      go_wp2
      go_ret3
      obtain ⟨i1, i2, i3, i4⟩ := HI.out
      rw [Int.pow_zero, Int.ediv_one] at i4
      have e1 : q = va / vb := by rw [← i4, Int.add_comm, Int.add_mul_ediv_right _ _ (by omega), Int.ediv_eq_zero_of_lt i2 i3]; omega
      have e2 : r = va % vb := by rw [← i4, Int.add_comm, Int.add_mul_emod_self_right, Int.emod_eq_of_lt i2 i3]
      rw [← e1, ← e2]
      exact ⟨A1, n1, c1, A2, n2, c2, rfl, hS.out.sub (by
        intro t ht
        simp only [List.mem_cons] at ht ⊢
        rcases ht with rfl | rfl | ht
        · simp
        · simp
        · simp [ht])⟩
end Go.Proofs.Ytbjhfnkdflnnoaa
