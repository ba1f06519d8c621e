/- Layer 4's calls over naturals at hand (the contracts of the program themselves: DecProg). -/
import Derived.Test.YtbadbjmhmadbmaaDoorDecProg
namespace Go.Proofs.YtbadbjmhmadbmaaDoor
open Go.RowKit
set_option linter.unusedVariables false
set_option maxRecDepth 20000
open N
open Go.Lib (decDigits nDigits decDigits_length nDigits_pos)
section
variable {w0 w w' : World} {S : List Ent} {A A' : Option Addr} {n c m d k k' : Nat} {xs ys : List Int} {v u : Int}
theorem show_s (h : St w0 w S) (h1 : (⟨A, n, c, k, xs, v⟩ : Ent) ∈ S) (hk : k ≤ 1000000) :
    Calls Tryd.prog 14 #[.slice A n c] w fun e w' => e = .returned (.string ⟨(decDigits v.toNat).toArray⟩) ∧ St w0 w' S := by
  obtain ⟨a1, a2, _⟩ := h.get h1
  exact (pshow_any w A n c xs a1 (by omega) _ (h.v_nat h1)).mono fun e w' ⟨he, hb⟩ => ⟨he, h.below hb⟩
/-- the same, its text told -/
theorem show_t (h : St w0 w S) (h1 : (⟨A, n, c, k, xs, v⟩ : Ent) ∈ S) (hk : k ≤ 1000000) (bs : List UInt8) (he : decDigits v.toNat = bs) :
    Calls Tryd.prog 14 #[.slice A n c] w fun e w' => e = .returned (.string ⟨bs.toArray⟩) ∧ St w0 w' S := by
  rw [← he]; exact show_s h h1 hk
theorem manyd_s (h : St w0 w S) (h1 : (⟨A, n, c, k, xs, v⟩ : Ent) ∈ S) (hk : k ≤ 1000000) :
    Calls Tryd.prog 16 #[.slice A n c] w fun e w' => e = .returned (.int .i64 (nDigits v.toNat : Int)) ∧ St w0 w' S := by
  obtain ⟨a1, a2, _⟩ := h.get h1
  exact (pmany_any w A n c xs a1 (by omega) _ (h.v_nat h1)).mono fun e w' ⟨he, hb⟩ => ⟨he, h.below hb⟩
theorem manyd_t (h : St w0 w S) (h1 : (⟨A, n, c, k, xs, v⟩ : Ent) ∈ S) (hk : k ≤ 1000000) (q : Int) (he : (nDigits v.toNat : Int) = q) :
    Calls Tryd.prog 16 #[.slice A n c] w fun e w' => e = .returned (.int .i64 q) ∧ St w0 w' S := by
  rw [← he]; exact manyd_s h h1 hk
theorem read_s (h : St w0 w S) (bs : List UInt8) (hl : bs.length ≤ maxLen) :
    Calls Tryd.prog 19 #[.string ⟨bs.toArray⟩] w fun e w' => ∃ A n c, e = .returned (.tuple #[.slice A n c, .int .i64 (rdE bs)]) ∧ St w0 w' (⟨A, n, c, 20001, limbs (rdV bs), rdV bs⟩ :: S) :=
  (pread_any w bs hl).mono fun e w' ho => h.out2 (rdV_nonneg bs) ho
theorem read_t (h : St w0 w S) (bs : List UInt8) (q r : Int) (hl : bs.length ≤ maxLen) (hq : rdE bs = q) (hr : rdV bs = r) :
    Calls Tryd.prog 19 #[.string ⟨bs.toArray⟩] w fun e w' => ∃ A n c, e = .returned (.tuple #[.slice A n c, .int .i64 q]) ∧ St w0 w' (⟨A, n, c, 20001, limbs r, r⟩ :: S) := by
  rw [← hq, ← hr]; exact read_s h bs hl
end
end Go.Proofs.YtbadbjmhmadbmaaDoor
