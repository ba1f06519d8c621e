/- What the statements' own helpers Same, Long, spoil answer, over this translation. -/
import Derived.Test.YtbadbjmhmadbmaaDoorNatTell
import Derived.Deep.QuietTactic
import Derived.BigQuiet
namespace Go.Proofs.YtbadbjmhmadbmaaDoor
open Go.RowKit
set_option linter.unusedVariables false
set_option maxRecDepth 20000
open N
theorem same_len (w : World) (A A' : Option Addr) (n c m d : Nat) (hne : n ≠ m) :
    Calls Tryd.prog 20 #[.slice A n c, .slice A' m d] w fun e w' => e = .returned (.bool false) ∧ ∃ k, w' = w.drewN k := by
  have h5 : ((n : Int) != (m : Int)) = true := by simp; omega
  have HN := Lib.hid hne
  clear hne
  go_enter Tryd.func20, Tryd.ntmps20
  go_wp2
  all_goals go_ret
  all_goals exact ⟨rfl, 0, rfl⟩
set_option maxHeartbeats 1000000 in
theorem same_any (w : World) (A A' : Option Addr) (n c m d : Nat) (xs ys : List Int) (hx : Sl w A n c xs) (hy : Sl w A' m d ys) :
    Calls Tryd.prog 20 #[.slice A n c, .slice A' m d] w fun e w' => e = .returned (.bool (decide (xs = ys))) ∧ ∃ k, w' = w.drewN k := by
  have hcx := hx.cap
  have hmx := hx.max
  have hcy := hy.cap
  unfold maxLen at hmx
  by_cases hne : n = m
  · subst hne
    have h5 : ((n : Int) != (n : Int)) = false := by simp
    have HX := Lib.hid hx
    have HY := Lib.hid hy
    clear hx hy
    go_enter Tryd.func20, Tryd.ntmps20
    go_wp2
    go_loopw [5] (fun i wr => ∃ (k q : Nat), k ≤ n ∧ i = .int .i64 k ∧ (∀ j, j < k → lim xs j = lim ys j) ∧ wr = w.drewN q) (fun i _ => n - (intOf i).toNat)
    case atStart => exact ⟨0, 0, Nat.zero_le _, rfl, fun j hj => by omega, rfl⟩
    case round =>
      obtain ⟨k, q, hk, rfl, hj, rfl⟩ := hrel
      have HJ := Lib.hid hj
      clear hj
      by_cases hlt : k < n
      · obtain ⟨ad, rfl, _, h1⟩ := HX.out.cell hlt
        obtain ⟨ad', rfl, _, h2⟩ := HY.out.cell hlt
        by_cases hq : lim xs k = lim ys k
        · have h6 : (lim xs k != lim ys k) = false := by simp [hq]
          have HQ := Lib.hid hq
          clear hq
          go_wp2
          go_quiet (fail)
          go_wp2
          go_roundw
          case rel => exact ⟨k + 1, _, by omega, by go_num, fun j hj' => by
            by_cases hjk : j = k
            · rw [hjk]; exact HQ.out
            · exact HJ.out j (by omega), rfl⟩
          case measure => simp [intOf]; omega
        · have h6 : (lim xs k != lim ys k) = true := by simp [hq]
          have HQ := Lib.hid hq
          clear hq
          go_wp2
          go_quiet (fail)
          go_wp2
          go_ret
          refine ⟨retb ?_, q + nq, by rw [World.drewN_drewN]⟩
          symm
          exact decide_eq_false (fun e => HQ.out (by rw [e]))
      · obtain rfl : k = n := by omega
        go_wp2
        go_ret
        refine ⟨retb ?_, _, rfl⟩
        symm
        refine decide_eq_true (ext_lim (by rw [HX.out.len, HY.out.len]) (fun j => ?_))
        by_cases hjk : j < k
        · exact HJ.out j hjk
        · rw [lim_over xs j (by rw [HX.out.len]; omega), lim_over ys j (by rw [HY.out.len]; omega)]
  · refine (same_len w A A' n c m d hne).mono fun e w' ⟨h1, h2⟩ => ⟨?_, h2⟩
    rw [h1]
    refine retb ?_
    symm
    refine decide_eq_false (fun e => hne ?_)
    rw [← hx.len, ← hy.len, e]
/-- the slice of slices that a call with any number of naturals makes -/
def Nats (w : World) (g : Nat) (l : List (Option Addr × Nat × Nat)) : Prop := ∀ k, k < l.length → ∃ A n c, l[k]? = some (A, n, c) ∧ w.cell? ⟨g, k, none⟩ = some (.slice A n c)
theorem long_no (w : World) (g : Nat) (l : List (Option Addr × Nat × Nat)) (h : Nats w g l) (hl : l.length ≤ 100) (hn : ∀ t ∈ l, t.2.1 ≤ 24) :
    Calls Tryd.prog 12 #[.slice (some ⟨g, 0, none⟩) l.length l.length] w fun e w' => e = .returned (.bool false) ∧ w' = w := by
  obtain ⟨q, hq⟩ : ∃ q : Nat, l.length = q := ⟨_, rfl⟩
  have HN := Lib.hid hn
  have HH := Lib.hid h
  have HQ := Lib.hid hq
  rw [hq] at hl ⊢
  clear hn h hq
  go_enter Tryd.func12, Tryd.ntmps12
  go_wp2
  go_loop [3] (fun i => ∃ k : Nat, k ≤ q ∧ i = .int .i64 k) (fun i => q - (intOf i).toNat)
  case atStart => exact ⟨0, Nat.zero_le _, rfl⟩
  case round =>
    obtain ⟨k, hk, rfl⟩ := hrel
    by_cases hlt : k < q
    · obtain ⟨A, n, c, h1, h2⟩ := HH.out k (by have := HQ.out; omega)
      have h24 : n ≤ 24 := HN.out _ (List.mem_of_getElem? h1)
      have H1 := Lib.hid h1
      clear h1
      go_wp2
      go_round
      case rel => exact ⟨k + 1, by omega, by go_num⟩
      case measure => simp [intOf]; omega
    · obtain rfl : k = q := by omega
      go_wp2
      go_ret
      exact ⟨rfl, rfl⟩
theorem long_yes (w : World) (g : Nat) (l : List (Option Addr × Nat × Nat)) (h : Nats w g l) (hl : l.length ≤ 100) (hm : ∀ t ∈ l, t.2.1 ≤ 9223372036854775807) (hn : ∃ t ∈ l, 24 < t.2.1) :
    Calls Tryd.prog 12 #[.slice (some ⟨g, 0, none⟩) l.length l.length] w fun e w' => e = .returned (.bool true) ∧ w' = w := by
  obtain ⟨q, hq⟩ : ∃ q : Nat, l.length = q := ⟨_, rfl⟩
  have HN := Lib.hid hn
  have HH := Lib.hid h
  have HQ := Lib.hid hq
  have HM := Lib.hid hm
  rw [hq] at hl ⊢
  clear hn h hq hm
  go_enter Tryd.func12, Tryd.ntmps12
  go_wp2
  go_loop [3] (fun i => ∃ k : Nat, k ≤ q ∧ i = .int .i64 k ∧ ∀ j A n c, j < k → l[j]? = some (A, n, c) → n ≤ 24) (fun i => q - (intOf i).toNat)
  case atStart => exact ⟨0, Nat.zero_le _, rfl, fun j A n c hj => by omega⟩
  case round =>
    obtain ⟨k, hk, rfl, hall⟩ := hrel
    have HA := Lib.hid hall
    clear hall
    by_cases hlt : k < q
    · obtain ⟨A, n, c, h1, h2⟩ := HH.out k (by have := HQ.out; omega)
      have h24 : n ≤ 9223372036854775807 := HM.out _ (List.mem_of_getElem? h1)
      have H1 := Lib.hid h1
      clear h1
      by_cases h : n ≤ 24
      · go_wp2
        go_round
        case rel => exact ⟨k + 1, by omega, by go_num, fun j A' n' c' hj hj' => by
          by_cases hjk : j = k
          · subst hjk; rw [H1.out] at hj'; cases hj'; exact h
          · exact HA.out j A' n' c' (by omega) hj'⟩
        case measure => simp [intOf]; omega
      · go_wp2
        go_ret
        exact ⟨rfl, rfl⟩
    · exfalso
      obtain rfl : k = q := by omega
      obtain ⟨t, ht, h24⟩ := HN.out
      obtain ⟨j, hj⟩ := List.getElem?_of_mem ht
      have hjl := (List.getElem?_eq_some_iff.1 hj).1
      have := HA.out j t.1 t.2.1 t.2.2 (by have := HQ.out; omega) hj
      omega
end Go.Proofs.YtbadbjmhmadbmaaDoor
