/- The document of layer 6: Gcd. -/
import Derived.Test.YtfdpddlefobcpaaGreatDoorRatCalls
import Derived.Test.YtfdpddlefobcpaaGreatDoorRefRatM
import Derived.Test.YtfdpddlefobcpaaGreatDoorGRefB
import Derived.Deep.DeepCutAuto
namespace Go.Proofs.YtfdpddlefobcpaaGreatDoor
open Go.RowKit
set_option linter.unusedVariables false
set_option linter.unusedSimpArgs false
set_option maxRecDepth 20000
open N
open Go.Lib (decDigits nDigits decDigits_length nDigits_pos)
section
variable {w0 v0 w w' : World} {S O : List Ent} {T : List Blk} {A A' : Option Addr} {n c m d k k' K : Nat} {xs ys : List Int} {v u : Int}
theorem SC.rNK (h : SC w0 v0 w S T O) {m : Nat} {r : Int} {e : Ending} (hr : 0 ≤ r) (hK : r < Q B K) (ho : Out w m r e w') : ∃ A n c, e = .returned (.slice A n c) ∧ SC w0 v0 w' (⟨A, n, c, K, limbs r, r⟩ :: S) T (⟨A, n, c, K, limbs r, r⟩ :: O) := by
  obtain ⟨A, n, c, he, hn, hown, hb⟩ := ho
  exact ⟨A, n, c, he, h.new hb hown (own_len hown rfl hr hK) (limbs_val hr)⟩
theorem SC.rN2K (h : SC w0 v0 w S T O) {m : Nat} {r j : Int} {e : Ending} (hr : 0 ≤ r) (hK : r < Q B K) (ho : Out2 w m r j e w') : ∃ A n c, e = .returned (.tuple #[.slice A n c, .int .i64 j]) ∧ SC w0 v0 w' (⟨A, n, c, K, limbs r, r⟩ :: S) T (⟨A, n, c, K, limbs r, r⟩ :: O) := by
  obtain ⟨A, n, c, he, hn, hown, hb⟩ := ho
  exact ⟨A, n, c, he, h.new hb hown (own_len hown rfl hr hK) (limbs_val hr)⟩
theorem rtrim_k (h : SC w0 v0 w S T O) (h1 : (⟨A, n, c, k, xs, v⟩ : Ent) ∈ S) (hk : k ≤ 200000) {r : Int} (hr : v = r) (hK : r < Q B K) :
    Calls Tryz.prog 61 #[.slice A n c] w fun e w' => ∃ A n c, e = .returned (.slice A n c) ∧ SC w0 v0 w' (⟨A, n, c, K, limbs (r), r⟩ :: S) T (⟨A, n, c, K, limbs (r), r⟩ :: O) := by
  obtain ⟨a1, a2, rfl⟩ := h.get h1
  have hv0 := val_nonneg (b := B) (by decide) a1.dg
  subst hr
  exact (rtrim_any w A n c xs a1 (by omega)).mono fun e w' ho => h.rNK hv0 hK ho
theorem rbit_k (h : SC w0 v0 w S T O) (h1 : (⟨A, n, c, k, xs, v⟩ : Ent) ∈ S) (hk : k ≤ 200000) {b : Bool} (hb : (v % 2 == 1) = b) :
    Calls Tryz.prog 85 #[.slice A n c, .int .i64 0] w fun e w' => e = .returned (.bool b) ∧ SC w0 v0 w' S T O := by
  obtain ⟨a1, a2, rfl⟩ := h.get h1
  subst hb
  have h9 := rbit_any w A n c xs a1 (by omega) 0 (by omega)
  rw [show (2 : Int) ^ (0 : Nat) = 1 from rfl, Int.ediv_one] at h9
  exact h9.mono fun e w' ⟨he, hb⟩ => ⟨he, h.below hb⟩
theorem rshr_k (h : SC w0 v0 w S T O) (h1 : (⟨A, n, c, k, xs, v⟩ : Ent) ∈ S) (hk : k ≤ 200000) {r : Int} (hr : v / 2 = r) (hK : r < Q B K) :
    Calls Tryz.prog 86 #[.slice A n c, .int .i64 1] w fun e w' => ∃ A n c, e = .returned (.tuple #[.slice A n c, .int .i64 0]) ∧ SC w0 v0 w' (⟨A, n, c, K, limbs (r), r⟩ :: S) T (⟨A, n, c, K, limbs (r), r⟩ :: O) := by
  obtain ⟨a1, a2, rfl⟩ := h.get h1
  have hv0 := val_nonneg (b := B) (by decide) a1.dg
  subst hr
  have h9 := rshr_any w A n c xs a1 (by omega) 1 (by omega)
  rw [show (2 : Int) ^ (1 : Nat) = 2 from rfl] at h9
  exact h9.mono fun e w' ho => h.rN2K (Int.ediv_nonneg hv0 (by decide)) hK ho
theorem rcmp_k (h : SC w0 v0 w S T O) (h1 : (⟨A, n, c, k, xs, v⟩ : Ent) ∈ S) (hk : k ≤ 200000) (h2 : (⟨A', m, d, k', ys, u⟩ : Ent) ∈ S) (hk' : k' ≤ 200000) {q : Int} (hq : cmpI v u = q) :
    Calls Tryz.prog 89 #[.slice A n c, .slice A' m d] w fun e w' => e = .returned (.int .i64 q) ∧ SC w0 v0 w' S T O := by
  obtain ⟨a1, a2, rfl⟩ := h.get h1
  obtain ⟨b1, b2, rfl⟩ := h.get h2
  subst hq
  exact (rcmp_any w A A' n c m d xs ys a1 b1 (by omega) (by omega)).mono fun e w' ⟨he, hb⟩ => ⟨he, h.below hb⟩
theorem rsub_k (h : SC w0 v0 w S T O) (h1 : (⟨A, n, c, k, xs, v⟩ : Ent) ∈ S) (hk : k ≤ 200000) (h2 : (⟨A', m, d, k', ys, u⟩ : Ent) ∈ S) (hk' : k' ≤ 200000) (hle : u ≤ v) {r : Int} (hr : v - u = r) (hK : r < Q B K) :
    Calls Tryz.prog 90 #[.slice A n c, .slice A' m d] w fun e w' => ∃ A n c, e = .returned (.tuple #[.slice A n c, .int .i64 0]) ∧ SC w0 v0 w' (⟨A, n, c, K, limbs (r), r⟩ :: S) T (⟨A, n, c, K, limbs (r), r⟩ :: O) := by
  obtain ⟨a1, a2, rfl⟩ := h.get h1
  obtain ⟨b1, b2, rfl⟩ := h.get h2
  subst hr
  exact (rsub_yes w A A' n c m d xs ys a1 b1 (by omega) (by omega) hle).mono fun e w' ho => h.rN2K (by omega) hK ho
theorem radd_k (h : SC w0 v0 w S T O) (h1 : (⟨A, n, c, k, xs, v⟩ : Ent) ∈ S) (hk : k ≤ 200000) (h2 : (⟨A', m, d, k', ys, u⟩ : Ent) ∈ S) (hk' : k' ≤ 200000) {r : Int} (hr : v + u = r) (hK : r < Q B K) :
    Calls Tryz.prog 92 #[.slice A n c, .slice A' m d] w fun e w' => ∃ A n c, e = .returned (.slice A n c) ∧ SC w0 v0 w' (⟨A, n, c, K, limbs (r), r⟩ :: S) T (⟨A, n, c, K, limbs (r), r⟩ :: O) := by
  obtain ⟨a1, a2, rfl⟩ := h.get h1
  obtain ⟨b1, b2, rfl⟩ := h.get h2
  have hv0 := val_nonneg (b := B) (by decide) a1.dg
  have hu0 := val_nonneg (b := B) (by decide) b1.dg
  subst hr
  exact (radd_any w A A' n c m d xs ys a1 b1 (by omega) (by omega)).mono fun e w' ho => h.rNK (by omega) hK ho
theorem rof_k (h : SC w0 v0 w S T O) {r : Int} (hr : W.Wd r) (hK : r < Q B K) :
    Calls Tryz.prog 88 #[.int .u64 r] w fun e w' => ∃ A n c, e = .returned (.slice A n c) ∧ SC w0 v0 w' (⟨A, n, c, K, limbs (r), r⟩ :: S) T (⟨A, n, c, K, limbs (r), r⟩ :: O) := by
  exact (rof_any w r hr).mono fun e w' ho => h.rNK hr.1 hK ho
theorem rshl_k (h : SC w0 v0 w S T O) (h1 : (⟨A, n, c, k, xs, v⟩ : Ent) ∈ S) (hk : k ≤ 200000) {q : Nat} (hq : q ≤ 65536) {z r : Int} (hz : (q : Int) = z) (hr : v * 2 ^ q = r) (hK : r < Q B K) :
    Calls Tryz.prog 91 #[.slice A n c, .int .i64 z] w fun e w' => ∃ A n c, e = .returned (.tuple #[.slice A n c, .int .i64 0]) ∧ SC w0 v0 w' (⟨A, n, c, K, limbs (r), r⟩ :: S) T (⟨A, n, c, K, limbs (r), r⟩ :: O) := by
  obtain ⟨a1, a2, rfl⟩ := h.get h1
  have hv0 := val_nonneg (b := B) (by decide) a1.dg
  subst hz hr
  exact (rshl_any w A n c xs a1 (by omega) q hq).mono fun e w' ho => h.rN2K (Int.mul_nonneg hv0 (Int.le_of_lt (Int.pow_pos (by decide)))) hK ho
theorem rsmall_y (h : SC w0 v0 w S T O) (h1 : (⟨A, n, c, k, xs, v⟩ : Ent) ∈ S) (hk : k ≤ 200000) {q : Int} (hq : v = q) (hs : q < 18446744073709551616) :
    Calls Tryz.prog 87 #[.slice A n c] w fun e w' => e = .returned (.tuple #[.int .u64 q, .bool true]) ∧ SC w0 v0 w' S T O := by
  obtain ⟨a1, a2, rfl⟩ := h.get h1
  subst hq
  exact (rsmall_yes w A n c xs a1 (by omega) hs).mono fun e w' ⟨he, hb⟩ => ⟨he, h.below hb⟩
theorem rsmall_n (h : SC w0 v0 w S T O) (h1 : (⟨A, n, c, k, xs, v⟩ : Ent) ∈ S) (hk : k ≤ 200000) (hs : 18446744073709551616 ≤ v) :
    Calls Tryz.prog 87 #[.slice A n c] w fun e w' => e = .returned (.tuple #[.int .u64 0, .bool false]) ∧ SC w0 v0 w' S T O := by
  obtain ⟨a1, a2, rfl⟩ := h.get h1
  exact (rsmall_no w A n c xs a1 (by omega) hs).mono fun e w' ⟨he, hb⟩ => ⟨he, h.below hb⟩
end
end Go.Proofs.YtfdpddlefobcpaaGreatDoor
