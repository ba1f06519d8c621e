/- What the unexported helpers of layer 2 (bare, limb) answer, over this translation. -/
import Derived.Test.YtbadbjmhmadbmaaDoorNatMem
import Derived.Test.YtbadbjmhmadbmaaDoorNatWord
namespace Go.Proofs.YtbadbjmhmadbmaaDoor
open Go.RowKit
set_option linter.unusedVariables false
set_option maxRecDepth 20000
open N
theorem bare_any (w : World) (A : Option Addr) (n c : Nat) (xs : List Int) (h : Sl w A n c xs) :
    Calls Tryd.prog 40 #[.slice A n c] w fun e w' => e = .returned (.slice A (nn xs) c) ∧ w' = w := by
  have hl := h.len
  have hc := h.cap
  have hm := h.max
  have hA := h.nil
  have hn := nn_le xs
  have HL := Lib.hid hl
  have HA := Lib.hid hA
  rw [hl] at hn
  unfold maxLen at hm
  clear hl hA
  go_enter Tryd.func40, Tryd.ntmps40
  go_wp2
  go_loop [3] (fun i => ∃ k : Nat, k ≤ n ∧ nn xs ≤ k ∧ i = .int .i64 k) (fun i => (intOf i).toNat)
  case atStart => exact ⟨n, Nat.le_refl _, hn, rfl⟩
  case round =>
    obtain ⟨k, hk, hnk, rfl⟩ := hrel
    by_cases h0 : 0 < k
    · obtain ⟨ad, rfl, _, hcell⟩ := h.cell (k := k - 1) (by omega)
      by_cases hz : lim xs (k - 1) = 0
      · have hs := nn_step xs (k - 1) (by omega) hz
        rw [hz] at hcell
        clear hz
        have e1 : ((k : Int) - 1).toNat = k - 1 := by omega
        go_wp2
        go_round
        case rel => exact ⟨k - 1, by omega, hs, by congr 1; omega⟩
        case measure => simp [intOf]; omega
      · have hs := nn_eq xs k hnk (.inr hz)
        have e2 : (lim xs (k - 1) == 0) = false := by simpa using hz
        have HS := Lib.hid hs
        clear hs hz
        have e1 : ((k : Int) - 1).toNat = k - 1 := by omega
        go_wp2
        go_ret
        rw [HS.out]
        exact ⟨rfl, rfl⟩
    · obtain rfl : k = 0 := by omega
      have hs : nn xs = 0 := by omega
      have HS := Lib.hid hs
      clear hs
      go_wp2
      go_ret
      rw [HS.out]
      exact ⟨rfl, rfl⟩
theorem limb_any (w : World) (A : Option Addr) (n c : Nat) (xs : List Int) (h : Sl w A n c xs) (i : Nat) (hi : i ≤ 9223372036854775807) :
    Calls Tryd.prog 41 #[.slice A n c, .int .i64 i] w fun e w' => e = .returned (.int .u64 (lim xs i)) ∧ w' = w := by
  have hl := h.len
  have hc := h.cap
  have hm := h.max
  unfold maxLen at hm
  by_cases hlt : i < n
  · obtain ⟨ad, rfl, _, hcell⟩ := h.cell hlt
    clear hl
    go_enter Tryd.func41, Tryd.ntmps41
    go_wp2
    go_ret
    exact ⟨rfl, rfl⟩
  · have H := Lib.hid (lim_over xs i (by omega))
    clear hl
    go_enter Tryd.func41, Tryd.ntmps41
    go_wp2
    go_ret
    rw [H.out]
    exact ⟨rfl, rfl⟩
end Go.Proofs.YtbadbjmhmadbmaaDoor
