/- What the statements' own helpers Same, Long, spoil answer, over this translation. -/
import Derived.Test.YtbjhfnkdflnnoaaNatTell
import Derived.Deep.QuietTactic
import Derived.BigQuiet
namespace Go.Proofs.Ytbjhfnkdflnnoaa
open Go.RowKit
set_option linter.unusedVariables false
open N
theorem same_len (w : World) (A A' : Option Addr) (n c m d : Nat) (hne : n ≠ m) :
    Calls Try.prog 35 #[.slice A n c, .slice A' m d] w fun e w' => e = .returned (.bool false) ∧ ∃ k, w' = w.drewN k := by
  have h5 : ((n : Int) != (m : Int)) = true := by simp; omega
  have HN := Lib.hid hne
  clear hne
  go_enter Try.func35, Try.ntmps35
  go_wp2
  all_goals go_ret
  all_goals exact ⟨rfl, 0, rfl⟩
set_option maxHeartbeats 1000000 in
theorem same_any (w : World) (A A' : Option Addr) (n c m d : Nat) (xs ys : List Int) (hx : Sl w A n c xs) (hy : Sl w A' m d ys) :
    Calls Try.prog 35 #[.slice A n c, .slice A' m d] w fun e w' => e = .returned (.bool (decide (xs = ys))) ∧ ∃ k, w' = w.drewN k := by
  have hcx := hx.cap
  have hmx := hx.max
  have hcy := hy.cap
  unfold maxLen at hmx
  by_cases hne : n = m
  · subst hne
    have h5 : ((n : Int) != (n : Int)) = false := by simp
    have HX := Lib.hid hx
    have HY := Lib.hid hy
    clear hx hy
    go_enter Try.func35, Try.ntmps35
    go_wp2
    go_loopw [5] (fun i wr => ∃ (k q : Nat), k ≤ n ∧ i = .int .i64 k ∧ (∀ j, j < k → lim xs j = lim ys j) ∧ wr = w.drewN q) (fun i _ => n - (intOf i).toNat)
    case atStart => exact ⟨0, 0, Nat.zero_le _, rfl, fun j hj => by omega, rfl⟩
    case round =>
      obtain ⟨k, q, hk, rfl, hj, rfl⟩ := hrel
      have HJ := Lib.hid hj
      clear hj
      by_cases hlt : k < n
      · obtain ⟨ad, rfl, _, h1⟩ := HX.out.cell hlt
        obtain ⟨ad', rfl, _, h2⟩ := HY.out.cell hlt
        by_cases hq : lim xs k = lim ys k
        · have h6 : (lim xs k != lim ys k) = false := by simp [hq]
          have HQ := Lib.hid hq
          clear hq
          go_wp2
          go_quiet (fail)
          go_wp2
          go_roundw
          case rel => exact ⟨k + 1, _, by omega, by go_num, fun j hj' => by
            by_cases hjk : j = k
            · rw [hjk]; exact HQ.out
            · exact HJ.out j (by omega), rfl⟩
          case measure => simp [intOf]; omega
        · have h6 : (lim xs k != lim ys k) = true := by simp [hq]
          have HQ := Lib.hid hq
          clear hq
          go_wp2
          go_quiet (fail)
          go_wp2
          go_ret
          refine ⟨retb ?_, q + nq, by rw [World.drewN_drewN]⟩
          symm
          exact decide_eq_false (fun e => HQ.out (by rw [e]))
      · obtain rfl : k = n := by omega
        go_wp2
        go_ret
        refine ⟨retb ?_, _, rfl⟩
        symm
        refine decide_eq_true (ext_lim (by rw [HX.out.len, HY.out.len]) (fun j => ?_))
        by_cases hjk : j < k
        · exact HJ.out j hjk
        · rw [lim_over xs j (by rw [HX.out.len]; omega), lim_over ys j (by rw [HY.out.len]; omega)]
  · refine (same_len w A A' n c m d hne).mono fun e w' ⟨h1, h2⟩ => ⟨?_, h2⟩
    rw [h1]
    refine retb ?_
    symm
    refine decide_eq_false (fun e => hne ?_)
    rw [← hx.len, ← hy.len, e]
/-- the slice of slices that a call with any number of naturals makes -/
def Nats (w : World) (g : Nat) (l : List (Option Addr × Nat × Nat)) : Prop := ∀ k, k < l.length → ∃ A n c, l[k]? = some (A, n, c) ∧ w.cell? ⟨g, k, none⟩ = some (.slice A n c)
theorem long_no (w : World) (g : Nat) (l : List (Option Addr × Nat × Nat)) (h : Nats w g l) (hl : l.length ≤ 100) (hn : ∀ t ∈ l, t.2.1 ≤ 24) :
    Calls Try.prog 29 #[.slice (some ⟨g, 0, none⟩) l.length l.length] w fun e w' => e = .returned (.bool false) ∧ w' = w := by
  obtain ⟨q, hq⟩ : ∃ q : Nat, l.length = q := ⟨_, rfl⟩
  have HN := Lib.hid hn
  have HH := Lib.hid h
  have HQ := Lib.hid hq
  rw [hq] at hl ⊢
  clear hn h hq
  go_enter Try.func29, Try.ntmps29
  go_wp2
  go_loop [3] (fun i => ∃ k : Nat, k ≤ q ∧ i = .int .i64 k) (fun i => q - (intOf i).toNat)
  case atStart => exact ⟨0, Nat.zero_le _, rfl⟩
  case round =>
    obtain ⟨k, hk, rfl⟩ := hrel
    by_cases hlt : k < q
    · obtain ⟨A, n, c, h1, h2⟩ := HH.out k (by have := HQ.out; omega)
      have h24 : n ≤ 24 := HN.out _ (List.mem_of_getElem? h1)
      have H1 := Lib.hid h1
      clear h1
      go_wp2
      go_round
      case rel => exact ⟨k + 1, by omega, by go_num⟩
      case measure => simp [intOf]; omega
    · obtain rfl : k = q := by omega
      go_wp2
      go_ret
      exact ⟨rfl, rfl⟩
theorem long_yes (w : World) (g : Nat) (l : List (Option Addr × Nat × Nat)) (h : Nats w g l) (hl : l.length ≤ 100) (hm : ∀ t ∈ l, t.2.1 ≤ 9223372036854775807) (hn : ∃ t ∈ l, 24 < t.2.1) :
    Calls Try.prog 29 #[.slice (some ⟨g, 0, none⟩) l.length l.length] w fun e w' => e = .returned (.bool true) ∧ w' = w := by
  obtain ⟨q, hq⟩ : ∃ q : Nat, l.length = q := ⟨_, rfl⟩
  have HN := Lib.hid hn
  have HH := Lib.hid h
  have HQ := Lib.hid hq
  have HM := Lib.hid hm
  rw [hq] at hl ⊢
  clear hn h hq hm
  go_enter Try.func29, Try.ntmps29
  go_wp2
  go_loop [3] (fun i => ∃ k : Nat, k ≤ q ∧ i = .int .i64 k ∧ ∀ j A n c, j < k → l[j]? = some (A, n, c) → n ≤ 24) (fun i => q - (intOf i).toNat)
  case atStart => exact ⟨0, Nat.zero_le _, rfl, fun j A n c hj => by omega⟩
  case round =>
    obtain ⟨k, hk, rfl, hall⟩ := hrel
    have HA := Lib.hid hall
    clear hall
    by_cases hlt : k < q
    · obtain ⟨A, n, c, h1, h2⟩ := HH.out k (by have := HQ.out; omega)
      have h24 : n ≤ 9223372036854775807 := HM.out _ (List.mem_of_getElem? h1)
      have H1 := Lib.hid h1
      clear h1
      by_cases h : n ≤ 24
      · go_wp2
        go_round
        case rel => exact ⟨k + 1, by omega, by go_num, fun j A' n' c' hj hj' => by
          by_cases hjk : j = k
          · subst hjk; rw [H1.out] at hj'; cases hj'; exact h
          · exact HA.out j A' n' c' (by omega) hj'⟩
        case measure => simp [intOf]; omega
      · go_wp2
        go_ret
        exact ⟨rfl, rfl⟩
    · exfalso
      obtain rfl : k = q := by omega
      obtain ⟨t, ht, h24⟩ := HN.out
      obtain ⟨j, hj⟩ := List.getElem?_of_mem ht
      have hjl := (List.getElem?_eq_some_iff.1 hj).1
      have := HA.out j t.1 t.2.1 t.2.2 (by have := HQ.out; omega) hj
      omega
/-- what a statement writes over what was told turns nothing else -/
theorem spoil_any (w : World) (base : Nat) (A : Option Addr) (n c : Nat) (xs : List Int) (h : Own w base A n c xs) :
    Calls Try.prog 36 #[.slice A n c] w fun e w' => (∃ v, e = .returned v) ∧ w.grownBy w' (rowOf A) := by
  have hs := h.sl
  have hcap := hs.cap
  have hmax := hs.max
  unfold maxLen at hmax
  have HS := Lib.hid hs
  have HO := Lib.hid h
  clear hs h
  go_enter Try.func36, Try.ntmps36
  go_wp2
  go_loopw [2] (fun i wr => ∃ (k : Nat) (zs : List Int), k ≤ n ∧ i = .int .i64 k ∧ Own wr base A n c zs ∧ w.grownBy wr (rowOf A)) (fun i _ => n - (intOf i).toNat)
  case atStart => exact ⟨0, xs, Nat.zero_le _, rfl, HO.out, World.grownBy.refl _ _⟩
  case round =>
    obtain ⟨k, zs, hk, rfl, ho, hg⟩ := hrel
    obtain ⟨wo, rfl⟩ : ∃ wo : World, wo = wr := ⟨_, rfl⟩
    by_cases hlt : k < n
    · rcases ho.row.2 with ⟨e, e0⟩ | ⟨g, cap, cur, e, hb, hh, hnc, hm, hsz, ht⟩
      · omega
      · cases e
        have hcs : k < cur.size := by omega
        have hc1 : wo.cell? ⟨g, k, none⟩ = some cur[k] := by rw [cell_of_row _ _ _ _ _ _ hh, Array.getElem?_eq_getElem hcs]
        have hf1 : wo.frozen? ⟨g, k, none⟩ = false := by simp [World.frozen?, hh]
        have HT := Lib.hid ht
        have HZ := Lib.hid hsz
        clear ht hsz
        go_wp2
        go_roundw
        case rel =>
          refine ⟨k + 1, zs.set k 77, by omega, by go_num, ⟨⟨by rw [uv_length, List.length_set, ho.len, Nat.mul_one], .inr ⟨g, _, cur.setIfInBounds k (.int .u64 77), rfl, hb, ?_, hnc, hm, by rw [Array.size_setIfInBounds]; exact HZ.out, ?_⟩⟩, ho.dg.set k (by omega) (by decide)⟩, ?_⟩
          · simp [World.setCell, Array.getElem?_modify, hh]
          · have h1 := HT.out
            rw [Nat.mul_one] at h1 ⊢
            rw [Array.toList_setIfInBounds, List.take_set, h1]
            simp [uv, List.map_set]
          · exact ⟨hg.os, hg.tape, hg.output, by simpa [World.setCell] using hg.size, fun i hi hne => (Below.heap_setCell wo _ _ i (by
              rintro rfl
              exact hne rfl)).trans (hg.block i hi hne)⟩
        case measure => simp [intOf]; omega
    · obtain rfl : k = n := by omega
      go_wp2
      go_end0
      exact ⟨⟨_, rfl⟩, hg⟩
end Go.Proofs.Ytbjhfnkdflnnoaa
