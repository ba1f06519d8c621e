/- What layer 4's statements call beside the program: rows of one byte, powers of ten, the document's answers, over naturals at hand. -/
import Derived.Test.YtbadbjmhmadbmaaDoorRefShow
import Derived.Test.YtbadbjmhmadbmaaDoorRefRead
import Derived.Test.YtbadbjmhmadbmaaDoorNatAwake
namespace Go.Proofs.YtbadbjmhmadbmaaDoor
open Go.RowKit
set_option linter.unusedVariables false
set_option maxRecDepth 20000
open N
open Go.Lib (decDigits nDigits decDigits_length nDigits_pos)
theorem many_any (w : World) (b : UInt8) (c q : Int) (n : Nat) (hc : c = (b.toNat : Int)) (hq : q = (n : Int)) (hn : n ≤ 1000000) :
    Calls Tryd.prog 22 #[.int .u8 c, .int .i64 q] w fun e w' => e = .returned (.string ⟨(List.replicate n b).toArray⟩) ∧ Below w.heap.size w w' := by
  subst hc hq
  have hmk := makeB_run n (by omega)
  go_enter Tryd.func22, Tryd.ntmps22
  go_wp2
  clear hmk
  go_loopw [6] (fun i wr => ∃ k : Nat, i = .int .i64 k ∧ k ≤ n ∧ ArrB wr w.heap.size (List.replicate k b ++ List.replicate (n - k) 0) ∧ Below w.heap.size w wr) (fun i _ => n - (intOf i).toNat)
  case atStart =>
    refine ⟨0, rfl, Nat.zero_le _, ?_, (Below.refl _ w).alloc (Nat.le_refl _) _⟩
    have := ArrB.made w n
    simpa using this
  case round =>
    obtain ⟨k, rfl, hk, hA, hb⟩ := hrel
    obtain ⟨wi, rfl⟩ : ∃ wi : World, wi = wr := ⟨_, rfl⟩
    have hlen : (List.replicate k b ++ List.replicate (n - k) (0 : UInt8)).length = n := by simp; omega
    by_cases hlt : k < n
    · have hcz := hA.cell (k := k) (by omega)
      have hfz := hA.frozen k
      have hset := hA.set k b
      rw [List.set_append_right _ _ (by simp), List.length_replicate, Nat.sub_self, show n - k = (n - (k + 1)) + 1 by omega, List.replicate_succ, List.set_cons_zero, List.append_cons, ← List.replicate_succ'] at hset
      have HA := Lib.hid hset
      have HB := Lib.hid hb
      clear hA hset hb hlen
      go_wp2
      go_roundw
      case rel => exact ⟨k + 1, by go_num, by omega, HA.out, HB.out.setCell (Nat.le_refl _) _⟩
      case measure => simp [intOf]; omega
    · obtain rfl : k = n := by omega
      rw [Nat.sub_self, List.replicate_zero, List.append_nil] at hA hlen
      have hcv := str_back _ _ _ _ _ (hA.sl hlen (by unfold maxLen; omega))
      unfold str at hcv
      have HB := Lib.hid hb
      clear hA hlen hb
      go_wp2
      go_ret
      exact ⟨rfl, HB.out⟩
section
variable {w0 w w' : World} {S : List Ent}
theorem power_any (w : World) (q : Int) (n : Nat) (hq : q = (n : Int)) (hn : n ≤ 1000) :
    Calls Tryd.prog 23 #[.int .i64 q] w fun e w' => ∃ A m c xs, e = .returned (.slice A m c) ∧ St w w' [⟨A, m, c, n + 1, xs, 10 ^ n⟩] := by
  subst hq
  go_enter Tryd.func23, Tryd.ntmps23
  go_wp2
  go_loopw [3, 4] (fun a i wr => ∃ (k : Nat) (A : Option Addr) (m c : Nat) (xs : List Int), i = .int .i64 k ∧ k ≤ n ∧ a = .slice A m c ∧ St w wr [⟨A, m, c, k + 1, xs, 10 ^ k⟩]) (fun _ i _ => n - (intOf i).toNat)
  case atStart => exact ⟨0, _, _, _, _, rfl, Nat.zero_le _, rfl, (St.nil_ w).lit1 1 (by omega)⟩
  case round =>
    obtain ⟨k, A, m, c, xs, rfl, hk, rfl, hS⟩ := hrel
    obtain ⟨wi, rfl⟩ : ∃ wi : World, wi = wr := ⟨_, rfl⟩
    have HS := Lib.hid hS
    clear hS
    by_cases hlt : k < n
    · go_wp2_with (go_at_call 27; refine (mul_s (HS.out.lit1 10 (by omega)) (List.mem_cons_of_mem _ List.mem_cons_self) List.mem_cons_self (by omega) (by omega)).mono ?_; rintro e w1 ⟨A1, n1, c1, rfl, h1⟩)
      have h2 : St w w1 [⟨A1, n1, c1, k + 1 + 1, limbs (10 ^ k * 10), 10 ^ (k + 1)⟩] := by
        rw [Int.pow_succ]
        exact ⟨h1.1, fun t ht => h1.2 t (by rw [List.mem_singleton.1 ht]; exact List.mem_cons_self)⟩
      have H2 := Lib.hid h2
      clear h1 h2
      go_roundw
      case rel => exact ⟨k + 1, A1, n1, c1, _, by go_num, by omega, rfl, H2.out⟩
      case measure => simp [intOf]; omega
    · obtain rfl : k = n := by omega
      go_wp2
      go_ret
      exact ⟨A, m, c, xs, rfl, HS.out⟩
variable {A A' : Option Addr} {n c m d k k' : Nat} {xs ys : List Int} {v u : Int}
theorem power_s (h : St w0 w S) {q : Int} (n : Nat) (hq : q = (n : Int)) (hn : n ≤ 1000) :
    Calls Tryd.prog 23 #[.int .i64 q] w fun e w' => ∃ A m c xs, e = .returned (.slice A m c) ∧ St w0 w' (⟨A, m, c, n + 1, xs, 10 ^ n⟩ :: S) := by
  refine (power_any w q n hq hn).mono fun e w' ⟨A, m, c, xs, he, h1⟩ => ⟨A, m, c, xs, he, ?_⟩
  obtain ⟨a1, a2, a3⟩ := h1.get List.mem_cons_self
  exact (h.below h1.1).cons a1 a2 a3
theorem many_s (h : St w0 w S) {c q : Int} (b : UInt8) (n : Nat) (hc : c = (b.toNat : Int)) (hq : q = (n : Int)) (hn : n ≤ 1000000) :
    Calls Tryd.prog 22 #[.int .u8 c, .int .i64 q] w fun e w' => e = .returned (.string ⟨(List.replicate n b).toArray⟩) ∧ St w0 w' S :=
  (many_any w b c q n hc hq hn).mono fun e w' ⟨he, hb⟩ => ⟨he, h.below hb⟩
theorem St.v_nat (h : St w0 w S) (h1 : (⟨A, n, c, k, xs, v⟩ : Ent) ∈ S) : val B xs = (v.toNat : Int) := by
  have h2 := (h.2 _ h1).nonneg
  rw [(h.get h1).2.2]
  exact (Int.toNat_of_nonneg h2).symm
theorem rshow_s (h : St w0 w S) (h1 : (⟨A, n, c, k, xs, v⟩ : Ent) ∈ S) (hk : k ≤ 1000000) :
    Calls Tryd.prog 15 #[.slice A n c] w fun e w' => e = .returned (.string ⟨(decDigits v.toNat).toArray⟩) ∧ St w0 w' S := by
  obtain ⟨a1, a2, _⟩ := h.get h1
  exact (rshow_any w A n c xs a1 (by omega) _ (h.v_nat h1)).mono fun e w' ⟨he, hb⟩ => ⟨he, h.below hb⟩
theorem rmany_s (h : St w0 w S) (h1 : (⟨A, n, c, k, xs, v⟩ : Ent) ∈ S) (hk : k ≤ 1000000) :
    Calls Tryd.prog 17 #[.slice A n c] w fun e w' => e = .returned (.int .i64 (nDigits v.toNat : Int)) ∧ St w0 w' S := by
  obtain ⟨a1, a2, _⟩ := h.get h1
  exact (rmany_any w A n c xs a1 (by omega) _ (h.v_nat h1)).mono fun e w' ⟨he, hb⟩ => ⟨he, h.below hb⟩
theorem rread_s (h : St w0 w S) (bs : List UInt8) (hl : bs.length ≤ maxLen) :
    Calls Tryd.prog 18 #[.string ⟨bs.toArray⟩] w fun e w' => ∃ A n c, e = .returned (.tuple #[.slice A n c, .int .i64 (rdE bs)]) ∧ St w0 w' (⟨A, n, c, 20001, limbs (rdV bs), rdV bs⟩ :: S) :=
  (rread_any w bs hl).mono fun e w' ho => h.out2 (rdV_nonneg bs) ho
end
end Go.Proofs.YtbadbjmhmadbmaaDoor
