/- What the document's Width of layer 9 answers over this translation. -/
import Derived.Test.YtfdpddlefobcpaaGreatDoorBelProg
namespace Go.Proofs.YtfdpddlefobcpaaGreatDoor
open Go.RowKit Go.Shelf
set_option linter.unusedVariables false
set_option linter.unusedSimpArgs false
set_option maxRecDepth 20000
open N
theorem rwidth_any (w : World) (m : Nat) (hm : m < 18446744073709551616) :
    Calls Tryz.prog 60 #[.int .u64 (m : Nat)] w fun e w' => e = .returned (.int .i64 (wd m : Nat)) ∧ Below w.heap.size w w' := by
  obtain ⟨c, hc⟩ : ∃ c : Nat, m - 1 = c := ⟨_, rfl⟩
  have hc2 : (c : Int) < 18446744073709551616 := by omega
  have hmx : IntKind.u64.wrap (max (m : Int) 1 - 1) = (c : Int) := by rw [IntKind.wrap_u64]; omega
  have hfin := Lib.hid (show W.len (c : Int) = ((wd m : Nat) : Int) by unfold wd; rw [hc]; rfl)
  have hw : W.Wd (c : Int) := by unfold W.Wd; omega
  clear hc hm
  go_enter Tryz.func60, Tryz.ntmps60
  go_wp2_with fail
  go_loop [3, 4] (fun i v => ∃ k : Nat, k ≤ 64 ∧ i = .int .i64 k ∧ v = .int .u64 ((c : Int) / 2 ^ k) ∧ (k = 0 ∨ 0 < (c : Int) / 2 ^ (k - 1))) (fun i _ => 64 - (intOf i).toNat)
  case atStart => exact ⟨0, Nat.zero_le _, rfl, by simp, Or.inl rfl⟩
  case round =>
    obtain ⟨k, hk, rfl, rfl, hp⟩ := hrel
    have hd := W.div_le (c : Int) k (by omega)
    have HD : Hid ((c : Int) / 2 ^ (k + 1) = (c : Int) / 2 ^ k / 2) := Lib.hid (W.div_div2 (c : Int) k)
    have HP := Lib.hid hp
    clear hp
    by_cases h0 : 0 < (c : Int) / 2 ^ k
    · have := W.div_pos_lt (c : Int) k hw h0
      have htd : ((c : Int) / 2 ^ k).tdiv 2 = (c : Int) / 2 ^ k / 2 := Int.tdiv_eq_ediv_of_nonneg hd.1
      go_wp2
      go_round
      case rel => exact ⟨k + 1, by omega, by go_num, by rw [HD.out], Or.inr h0⟩
      case measure => first | (simp [intOf]; done) | (simp [intOf]; omega)
    · have HE : Hid ((c : Int) / 2 ^ k = 0) := Lib.hid (by omega)
      go_wp2
      go_ret
      exact ⟨ret1 ((W.len_of (c : Int) k (by omega) HE.out HP.out).symm.trans hfin.out), Below.refl _ _⟩
end Go.Proofs.YtfdpddlefobcpaaGreatDoor
