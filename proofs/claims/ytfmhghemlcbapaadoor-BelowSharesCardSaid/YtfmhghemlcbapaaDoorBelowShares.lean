/-
  PROVED: the statement BelowShares (tombolalaw09.BelowShares) about the landed commit: for every input the law returns true and leaves its arguments as they were. Conditions: none beyond those that the given row itself prints.
-/
import Derived.Test.YtfmhghemlcbapaaDoorCards
import Derived.Test.YtfmhghemlcbapaaDoorTie
import Derived.LaidMore
import Derived.Lay
import Derived.SevenTiedAt
import Derived.Stop.Joined
import Derived.Test.YtfmhghemlcbapaaDoorRows
import Derived.WalkKit
import Derived.ProofKit
import Derived.OpenShut
import Derived.RowKit3
import Derived.Test.YtfmhghemlcbapaaDoorGFrame
import Derived.Test.YtfmhghemlcbapaaDoorBelAwake
import Derived.Test.YtfmhghemlcbapaaDoorBitAll
namespace Go.Proofs.YtfmhghemlcbapaaDoor.belowShares
open Go.ChangeShapes Go.WideShapes Go.ChangeAt Go.RowKit
set_option linter.unusedVariables false
set_option linter.unusedSimpArgs false
set_option maxRecDepth 20000
open N
theorem own : ownKnob Tryd.prog.godebug = none := by kernel_rfl
theorem gen_calls {P : Program} {f : FuncId} {args : Array Value} {W : World} {R : Ending → World → Prop} (h : ∀ L, L = W → Calls P f args L R) : Calls P f args W R := h W rfl
/-- what lies in the first two cells of the law -/
structure ShA (w : World) (s t K : Nat) (W : World) : Prop where
  bl : Below w.heap.size w W
  c0 : BlkOk W ⟨s, [.bool false], 4⟩
  c1 : BlkOk W ⟨t, [.int .u64 (K : Int)], 31⟩
section
variable {w W W' : World} {s t K B : Nat}
theorem ShA.below (h : ShA w s t K W) (hb : Below B W W') (hB : s < B ∧ t < B ∧ w.heap.size ≤ B) : ShA w s t K W' :=
  ⟨h.bl.trans (hb.mono hB.2.2), (hb.block s hB.1).trans h.c0, (hb.block t hB.2.1).trans h.c1⟩
theorem ShA.on (h : ShA w s t K W) (hb : Below W.heap.size W W') : ShA w s t K W' := ⟨h.bl.trans (hb.mono h.bl.size), h.c0.on hb, h.c1.on hb⟩
theorem ShA.drewN (h : ShA w s t K W) (k : Nat) : ShA w s t K (W.drewN k) := h.on ⟨rfl, rfl, rfl, Nat.le_refl _, fun _ _ => rfl⟩
theorem ShA.cells (h : ShA w s t K W) : W.cell? ⟨t, 0, none⟩ = some (.int .u64 (K : Int)) ∧ W.cell? ⟨s, 0, none⟩ = some (.bool false) := ⟨h.c1.cell (k := 0) rfl, h.c0.cell (k := 0) rfl⟩
theorem ShA.start {w1 : World} (hb : Below w.heap.size w w1) (h0 : BlkOk w1 ⟨s, [.bool false], 4⟩) (K : Nat) : ShA w s w1.heap.size K (w1.alloc (.cells #[.int .u64 (K : Int)] 31)) := by
  have st : Below w1.heap.size w1 (w1.alloc (.cells #[.int .u64 (K : Int)] 31)) := (Below.refl _ w1).alloc (Nat.le_refl _) _
  exact ⟨hb.trans (st.mono hb.size), h0.on st, heap_alloc_new _ _⟩
end
/-- how often each number came among the first i strings -/
def cF (b K N i y : Nat) : Nat := sumN (fun j => if (dN b K (N + 1) N j).2.1 = true ∧ (dN b K (N + 1) N j).1 = y then 1 else 0) i
def arr (c : Nat → Nat) : List Value := (List.range 64).map fun y => .int .i64 (c y : Nat)
theorem arr_zero : (arr fun _ => 0) = List.replicate 64 (.int .i64 0) := by rfl
theorem arr_at {c : Nat → Nat} {y : Nat} (h : y < 64) : (arr c)[y]? = some (.int .i64 (c y : Nat)) := by
  unfold arr
  rw [List.getElem?_map, List.getElem?_range h]; rfl
theorem arr_set {c c' : Nat → Nat} {v : Nat} (h : v < 64) (hc : ∀ y, c' y = c y + (if true = true ∧ v = y then 1 else 0)) : (arr c).set v (.int .i64 ((c v : Int) + 1)) = arr c' := by
  apply List.ext_getElem?
  intro y
  by_cases hy : y < 64
  · rw [arr_at hy, hc y]
    by_cases e : v = y
    · subst e
      rw [List.getElem?_set_self (by unfold arr; simpa using h)]
      simp
    · rw [List.getElem?_set_ne e, arr_at hy]
      simp [e]
  · have h1 : ((arr c).set v (.int .i64 ((c v : Int) + 1)))[y]? = none := List.getElem?_eq_none (by unfold arr; simp; omega)
    have h2 : (arr c')[y]? = none := List.getElem?_eq_none (by unfold arr; simp; omega)
    rw [h1, h2]
structure ShB (w : World) (s t u K : Nat) (c : Nat → Nat) (W : World) : Prop where
  a : ShA w s t K W
  c2 : BlkOk W ⟨u, arr c, 40⟩
section
variable {w W W' : World} {s t u K B : Nat} {c c' : Nat → Nat}
theorem ShB.on (h : ShB w s t u K c W) (hb : Below W.heap.size W W') : ShB w s t u K c W' := ⟨h.a.on hb, h.c2.on hb⟩
theorem ShB.below (h : ShB w s t u K c W) (hb : Below B W W') (hB : s < B ∧ t < B ∧ u < B ∧ w.heap.size ≤ B) : ShB w s t u K c W' := ⟨h.a.below hb ⟨hB.1, hB.2.1, hB.2.2.2⟩, (hb.block u hB.2.2.1).trans h.c2⟩
theorem ShB.cell (h : ShB w s t u K c W) {y : Nat} (hy : y < 64) : W.cell? ⟨u, y, none⟩ = some (.int .i64 (c y : Nat)) := h.c2.cell (arr_at hy)
theorem ShB.fr (h : ShB w s t u K c W) (y : Nat) : W.frozen? ⟨u, y, none⟩ = false := h.c2.fr y
theorem ShB.start (h : ShA w s t K W) : ShB w s t W.heap.size K (fun _ => 0) (W.alloc (.cells (List.replicate 64 (Value.int .i64 0)).toArray 40)) := by
  have st : Below W.heap.size W (W.alloc (.cells (List.replicate 64 (Value.int .i64 0)).toArray 40)) := (Below.refl _ W).alloc (Nat.le_refl _) _
  refine ⟨h.on st, ?_⟩
  rw [arr_zero]
  exact heap_alloc_new _ _
theorem ShB.inc (h : ShB w s t u K c W) (hw : w.heap.size ≤ s) (hu : s < u ∧ t < u) {v : Nat} (hv : v < 64) (hc : ∀ y, c' y = c y + (if true = true ∧ v = y then 1 else 0)) : ShB w s t u K c' (W.setCell ⟨u, v, none⟩ (.int .i64 ((c v : Int) + 1))) := by
  refine ⟨⟨h.a.bl.setCell (p := ⟨u, v, none⟩) (by show w.heap.size ≤ u; omega) _, h.a.c0.far (by show s ≠ u; omega) _, h.a.c1.far (by show t ≠ u; omega) _⟩, ?_⟩
  have h1 := h.c2.set v (.int .i64 ((c v : Int) + 1))
  rw [arr_set hv hc] at h1
  exact h1
end
attribute [local go_sem] Oper.semAt_some
set_option maxRecDepth 100000 in
set_option maxHeartbeats 40000000 in
theorem walk (w : World) (a0 : Int) (w0 : (Lit.int .u8 a0).wf = true) (a1 : Int) (w1 : (Lit.int .u8 a1).wf = true) :
    Calls Tryd.prog 4 #[.int .u8 a0, .int .u8 a1] w fun e w' => e = .returned (.bool true) ∧ Below w.heap.size w w' := by
  have ba := bounds_u8 w0
  have bl := bounds_u8 w1
  obtain ⟨K, hK, hK0, hK1⟩ : ∃ K : Nat, 1 + a0 % 64 = (K : Int) ∧ 0 < K ∧ K ≤ 64 := ⟨(1 + a0 % 64).toNat, by omega, by omega, by omega⟩
  obtain ⟨N, hN, hN1⟩ : ∃ N : Nat, a1 % 10 = (N : Int) ∧ N ≤ 9 := ⟨(a1 % 10).toNat, by omega, by omega⟩
  have htm : a1.tmod 10 = (N : Int) := by rw [Int.tmod_eq_emod_of_nonneg bl.1]; exact hN
  have htk : a0.tmod 64 = a0 % 64 := Int.tmod_eq_emod_of_nonneg ba.1
  have hwk : IntKind.u64.wrap (1 + a0 % 64) = (K : Int) := by rw [IntKind.wrap_u64]; omega
  have hro : Fence.wide.round = none := rfl
  have HKM := Lib.hid (show K < 18446744073709551616 ∧ 0 < K by omega)
  have hp9 : 2 ^ N ≤ 512 := Nat.pow_le_pow_right (n := 2) (by decide) hN1
  have HWD := Lib.hid (fun W : World => width_any W K (by omega))
  have hP := wd_le K
  have hpos := @wd_pos K
  have hzr := @wd_zero K
  obtain ⟨b, hwb⟩ : ∃ b, wd K = b := ⟨_, rfl⟩
  rw [hwb] at HWD hP hpos hzr
  have hb6 : b ≤ 6 := by
    rcases Nat.lt_or_ge 1 K with h | h
    · have h9 := (hpos h).2
      rcases Nat.lt_or_ge 6 b with h8 | h8
      · have h7 := Nat.pow_le_pow_right (show 0 < 2 by decide) (show 6 ≤ b - 1 by omega)
        have h6 : (2 : Nat) ^ 6 = 64 := by decide
        omega
      · exact h8
    · have h9 : K = 1 := by omega
      have h8 : wd 1 = 0 := by decide
      rw [h9, h8] at hwb
      omega
  refine calls_of_wp_z 6 Tryd.func4 rfl ?_
  simp only [Tryd.ntmps4, List.size_toArray, List.length_cons, List.length_nil, Nat.reduceAdd, Nat.reduceSub, Array.replicate_succ, Array.replicate_zero, List.push_toArray, List.append_toArray, List.nil_append, List.cons_append]
  go_wp2_with fail
  refine gen_calls fun L hL => ?_
  have hc0 : BlkOk L ⟨w.heap.size, [.bool false], 4⟩ := by rw [hL]; exact heap_alloc_new _ _
  have hb0 : Below w.heap.size w L := by rw [hL]; exact (Below.refl _ w).alloc (Nat.le_refl _) _
  have hs0 : L.heap.size = w.heap.size + 1 := by rw [hL]; simp
  clear hL
  obtain ⟨s, hs⟩ : ∃ s, w.heap.size = s := ⟨_, rfl⟩
  have HSW := Lib.hid hs
  rw [hs] at hc0 hs0
  try rw [hs]
  go_at_call 7
  refine (awake9 L).mono ?_
  rintro e w1 ⟨rfl, hb⟩
  have HC0 := Lib.hid (hc0.on hb)
  have HB := Lib.hid (hb0.trans (hb.mono hb0.size))
  have hs1 : s + 1 ≤ w1.heap.size := by have := hb.size; omega
  clear hb hc0 hb0 hs0
  go_wp2_with fail
  refine gen_calls fun L3 hL3 => ?_
  obtain ⟨t, ht⟩ : ∃ t, w1.heap.size = t := ⟨_, rfl⟩
  have hA : ShA w s t K L3 := by rw [hL3, ← ht]; exact ShA.start HB.out HC0.out K
  have hts : w.heap.size ≤ s ∧ s < t := by omega
  try rw [ht]
  clear hL3 HB HC0 hs1
  go_at_call 14
  refine (HWD.out L3).mono ?_
  rintro e w3 ⟨rfl, hb3⟩
  have HA := Lib.hid (hA.on hb3)
  clear hA hb3 HWD ht
  obtain ⟨W, hW⟩ : ∃ W, wayN b K (N + 1) N = W := ⟨_, rfl⟩
  obtain ⟨P, hPP⟩ : ∃ P : Nat, 2 ^ b = P := ⟨_, rfl⟩
  have hPi : (2 : Int) ^ b = (P : Int) := by rw [← hPP]; exact (Int.natCast_pow 2 b).symm
  have hPm : P ≤ 64 := by rw [← hPP]; exact Nat.pow_le_pow_right (n := 2) (by decide) hb6
  rw [hPP] at hP
  have HPK := Lib.hid (show K ≤ 2 ^ b by rw [hPP]; exact hP)
  have HFM := Lib.hid (show ∀ n f : Nat, b ≤ n → f * 2 ^ n = f * P * 2 ^ (n - b) from fun n f h => by rw [← hPP, Nat.mul_assoc, ← Nat.pow_add]; congr 2; omega)
  have hshb : IntKind.i64.wrap ((2 : Int) ^ min b 64) = (P : Int) := by rw [Nat.min_eq_left (by omega), hPi, IntKind.wrap_i64]; omega
  have hshb2 : IntKind.i64.wrap ((2 : Int) ^ b) = (P : Int) := by rw [hPi, IntKind.wrap_i64]; omega
  have hcvk : IntKind.i64.wrap (K : Int) = (K : Int) := by rw [IntKind.wrap_i64]; omega
  obtain ⟨ee, hee⟩ : ∃ e : Nat, (P : Int) - (K : Int) = (e : Int) := ⟨P - K, by omega⟩
  have hwe : IntKind.i64.wrap ((P : Int) - (K : Int)) = (ee : Int) := by rw [hee, IntKind.wrap_i64]; omega
  have HEP := Lib.hid (show ee = 2 ^ b - K by rw [hPP]; omega)
  have hnw : wayN b K (N + 1) N = W := hW
  have hW9 : W ≤ 512 := by rw [← hW]; exact Nat.le_trans (wayN_le (by rw [hPP]; exact hP) HKM.out.2) hp9
  have HWZ := Lib.hid (show b = 0 → 2 ^ N = W from fun e => by
    subst e
    have h9 : K = 1 := by have := hzr rfl; have := HKM.out.2; omega
    rw [← hW, wayN_zero h9])
  go_wp2_with fail
  go_loopw [8, 9, 10] (fun wa fa tt wr => ∃ p f a n : Nat, n + p * b = N ∧ p ≤ N ∧ a + f * wayN b K (n + 1) n = W ∧ f * 2 ^ n ≤ 2 ^ N ∧ wa = .int .i64 (a : Nat) ∧ fa = .int .i64 (f : Nat) ∧ tt = .int .i64 ((p : Int) + 1) ∧ ShA w s t K wr) (fun _ _ tt _ => 20 - (intOf tt).toNat)
  case atStart => exact ⟨0, 1, 0, N, by omega, by omega, by omega, by omega, rfl, rfl, rfl, HA.out⟩
  case round =>
    obtain ⟨p, f, a, n, hn, hpN, hway, hfn, rfl, rfl, rfl, hA⟩ := hrel
    clear HA
    have HA := Lib.hid hA
    obtain ⟨c1, c0⟩ := hA.cells
    obtain ⟨c, hc⟩ : ∃ c, (p + 1) * b = c := ⟨_, rfl⟩
    have hcn : c = p * b + b := by rw [← hc, Nat.add_mul, Nat.one_mul]
    have hc9 : c ≤ 60 := by rw [← hc]; exact Nat.le_trans (Nat.mul_le_mul (show p + 1 ≤ 10 by omega) hb6) (by decide)
    have hwc : IntKind.i64.wrap (((p : Int) + 1) * (b : Int)) = (c : Int) := by
      have h9 : ((p : Int) + 1) * (b : Int) = (c : Int) := by rw [← hc]; simp
      rw [h9, IntKind.wrap_i64]; omega
    by_cases hgo : 0 < b ∧ c ≤ N
    · obtain ⟨hbp, hcN⟩ := hgo
      have hb0 : 0 < (b : Int) := by omega
      have hcl : (c : Int) ≤ (N : Int) := by omega
      have hbn : b ≤ n := by omega
      obtain ⟨m, hm⟩ : ∃ m, n - b = m := ⟨_, rfl⟩
      have hwm : IntKind.i64.wrap ((N : Int) - (c : Int)) = (m : Int) := by rw [IntKind.wrap_i64]; omega
      have hf2 := HFM.out n f hbn
      rw [hm] at hf2
      obtain ⟨g, hg⟩ : ∃ g, f * 2 ^ m = g := ⟨_, rfl⟩
      have hgP : f * P * 2 ^ m = g * P := by rw [← hg, Nat.mul_right_comm]
      have hg9 : g ≤ 512 := by
        have h9 : g * 1 ≤ g * P := Nat.mul_le_mul_left _ (by omega)
        omega
      have hgi : (f : Int) * 2 ^ m = (g : Int) := by rw [← hg]; simp
      have hsf : IntKind.i64.wrap ((f : Int) * 2 ^ min m 64) = (g : Int) := by rw [Nat.min_eq_left (by omega), hgi, IntKind.wrap_i64]; omega
      have hsf2 : IntKind.i64.wrap ((f : Int) * 2 ^ m) = (g : Int) := by rw [hgi, IntKind.wrap_i64]; omega
      have hway2 : a + g + f * ee * wayN b K (m + 1) m = W := by
        have h9 : wayN b K (n + 1) n = 2 ^ m + ee * wayN b K (m + 1) m := by
          rw [wayN, if_neg (by omega), hm, ← HEP.out, wayN_fuel (k := n) (k' := m + 1) hbp (by omega) (by omega)]
        rw [← hway, h9, Nat.mul_add, hg, Nat.mul_assoc, Nat.add_assoc]
      have hfe : f * ee * 2 ^ m ≤ 2 ^ N := by
        refine Nat.le_trans ?_ hfn
        rw [hf2]
        exact Nat.mul_le_mul_right _ (Nat.mul_le_mul_left _ (by omega))
      have hfe9 : f * ee ≤ 512 := by
        have h9 : f * ee * 1 ≤ f * ee * 2 ^ m := Nat.mul_le_mul_left _ (Nat.two_pow_pos m)
        omega
      have hag : a + g ≤ 512 := by omega
      have hwa : IntKind.i64.wrap ((a : Int) + (g : Int)) = ((a + g : Nat) : Int) := by rw [IntKind.wrap_i64]; omega
      have hwf : IntKind.i64.wrap ((f : Int) * (ee : Int)) = ((f * ee : Nat) : Int) := by
        have h9 : (f : Int) * (ee : Int) = ((f * ee : Nat) : Int) := by simp
        rw [h9, IntKind.wrap_i64]; omega
      obtain ⟨a2, ha2⟩ : ∃ x, a + g = x := ⟨_, rfl⟩
      obtain ⟨f2, hf2'⟩ : ∃ x, f * ee = x := ⟨_, rfl⟩
      rw [ha2] at hwa hway2
      rw [hf2'] at hwf hway2 hfe
      have hwp : IntKind.i64.wrap ((p : Int) + 1 + 1) = (p : Int) + 1 + 1 := by rw [IntKind.wrap_i64]; omega
      have HREL := Lib.hid (show m + (p + 1) * b = N ∧ p + 1 ≤ N ∧ a2 + f2 * wayN b K (m + 1) m = W ∧ f2 * 2 ^ m ≤ 2 ^ N from ⟨by rw [hc]; omega, by
        have h9 : (p + 1) * 1 ≤ (p + 1) * b := Nat.mul_le_mul_left _ hbp
        omega, hway2, hfe⟩)
      have HM := Lib.hid (show 20 - (p + 2) < 20 - (p + 1) by omega)
      clear hway hfn hn hway2 hfe hfe9 hag ha2 hf2' hg9 hgP hg hgi hf2 hm hbn hc hcn hc9 hcN hpN
      go_wp2_with fail
      go_quiet (fail)
      go_wp2
      go_roundw
      case rel => exact ⟨p + 1, f2, a2, m, HREL.out.1, HREL.out.2.1, HREL.out.2.2.1, HREL.out.2.2.2, rfl, rfl, by go_num, HA.out.drewN _⟩
      case measure =>
        have := HREL.out.2.1
        simp [intOf]
        omega
    · rcases Nat.eq_zero_or_pos b with hbz | hbp
      case' inl =>
        have hb0 : ¬ 0 < (b : Int) := by omega
        have hcl : (c : Int) ≤ (N : Int) := by rw [hcn, hbz]; simp
        have hbe : ((b : Int) == 0) = true := by rw [hbz]; rfl
        have hPN : (2 : Int) ^ N = (W : Int) := by rw [← HWZ.out hbz]; exact (Int.natCast_pow 2 N).symm
        have hsw : IntKind.i64.wrap ((2 : Int) ^ min N 64) = (W : Int) := by rw [Nat.min_eq_left (by omega), hPN, IntKind.wrap_i64]; omega
        have hsw2 : IntKind.i64.wrap ((2 : Int) ^ N) = (W : Int) := by rw [hPN, IntKind.wrap_i64]; omega
        clear hPN hbz hgo hway hfn hn hpN hcn hc hc9
      case' inr =>
        have hcl : ¬ (c : Int) ≤ (N : Int) := fun e => hgo ⟨hbp, by omega⟩
        have hb0 : 0 < (b : Int) := by omega
        have hbe : ((b : Int) == 0) = false := by rw [beq_eq_false_iff_ne]; omega
        have haW : W = a := by
          rw [wayN, if_pos (by omega), Nat.mul_zero, Nat.add_zero] at hway
          exact hway.symm
        subst haW
        clear hbp hgo hway hfn hn hpN hcn hc hc9
      all_goals
        clear hshb hshb2 hcvk hwe hee hPi hPm hpos hzr hb6 hwk htk HEP HFM HWZ
        go_wp2_with fail
        refine gen_calls fun L hL => ?_
        obtain ⟨u, hu⟩ : ∃ u, wr.heap.size = u := ⟨_, rfl⟩
        have hu9 : s < u ∧ t < u := by rw [← hu]; exact ⟨BlkOk.lt HA.out.c0, BlkOk.lt HA.out.c1⟩
        have hMe : ShB w s t u K (fun _ => 0) L := by rw [hL, ← hu]; exact ShB.start HA.out
        have hsL : L.heap.size = u + 1 := by rw [hL, ← hu]; simp
        try rw [hu]
        clear hL hu hA HA c1 c0 hwc hcl hb0 hbe
        go_at_call 15
        refine (all_any _ _).mono ?_
        rintro e w2 ⟨rfl, rfl⟩
        go_wp2_with fail
        refine (wpIn_wide (n := 6)).1 ?_
        refine gen_w fun L2 hL2 => ?_
        have hcb : L2.cell? ⟨u + 1, 0, none⟩ = some (.int .i64 (N : Int)) := by rw [hL2, ← hsL]; go_simp
        have hs2 : L2.heap.size = u + 2 := by rw [hL2]; simp [hsL]
        have hb2 : Below L.heap.size L L2 := by rw [hL2]; exact (Below.refl _ L).alloc (Nat.le_refl _) _
        have hMe2 := hMe.on hb2
        try rw [hsL]
        clear hL2 hb2 hMe
        have hfar : Far L2.heap.size (fun (pre : List (List UInt8)) (X : World) => ShB w s t u K (cF b K N pre.length) X) := fun s' A C hs hb => hs.below hb (by omega)
        have hfarx : ∀ c : Code, Far L2.heap.size (fun (pre : List (List UInt8)) (X : World) => False) := fun c s' A C hs hb => hs
        refine wp_range1 (gf := 30) (lb := #[.pointer (some ⟨u + 1, 0, none⟩)]) rfl (enters_of Tryd.func30 (by kernel_rfl) rfl) (enc := fun l : List UInt8 => .string ⟨l.toArray⟩)
          (all_iter N (by omega) (u + 1) L2 (by omega) hcb) (Below.refl _ _) _ _ hfar hfarx hMe2 (of_decide_eq_true rfl) ?body ?done ?stop
        case stop =>
          rintro D c pre x post Wd hD hall hF hK
          exact hF.elim
        case body =>
          rintro l pre x X hI ⟨post, hall⟩ hsz
          obtain ⟨rfl, hi⟩ := allS_at hall
          obtain ⟨i, hie⟩ : ∃ i, pre.length = i := ⟨_, rfl⟩
          rw [hie] at hI hi ⊢
          have hil : (pre ++ [ofB N i]).length = i + 1 := by simp [hie]
          have hsB : isB (ofB N i) = true := isB_iff.2 ⟨by rw [ofB_length]; omega, ofB_bits _ _⟩
          rcases hdn : dN b K (N + 1) N i with ⟨v, gd, tt⟩
          have hdr : dr (ofB N i) 0 false K = (v, gd, tt, !gd) := by
            have h9 := drF_ofB N i b K (N + 1) 0 (Nat.zero_le _)
            rw [Nat.sub_zero, Nat.mod_eq_of_lt hi, hdn] at h9
            rw [dr_in (Nat.pos_iff_ne_zero.1 HKM.out.2), hwb, ofB_length, h9]
            simp
          have hvw := (dr_ways hdr).2.2
          have hcs : ∀ y, cF b K N (i + 1) y = cF b K N i y + (if gd = true ∧ v = y then 1 else 0) := fun y => by unfold cF; rw [sumN, hdn]
          have hc9 : ∀ y, cF b K N i y ≤ i := fun y => by
            unfold cF
            have h9 := sumN_le (f := fun j => if (dN b K (N + 1) N j).2.1 = true ∧ (dN b K (N + 1) N j).1 = y then 1 else 0) (g := fun _ => 1) (n := i) (fun j _ => by split <;> omega)
            rw [sumN_const] at h9
            omega
          obtain ⟨sx, hsx⟩ : ∃ sx, ofB N i = sx := ⟨_, rfl⟩
          rw [hsx] at hil hsB hdr ⊢
          have HY := Lib.hid (fun X : World => by_yes X hsB HKM.out.1 hdr)
          obtain ⟨cf, hcf⟩ : ∃ c, cF b K N i = c := ⟨_, rfl⟩
          rw [hcf] at hI hcs hc9
          have HIL := Lib.hid hil
          have HCS := Lib.hid hcs
          have HI := Lib.hid hI
          obtain ⟨c1, c0⟩ := hI.a.cells
          clear hI hall hcs hcf hdn hdr hsB hil hsx hie hMe2
          gi_wp2_with fail
          refine ⟨trivial, ?_⟩
          gi_at_call 16
          refine (CallsIn.inRound l (callsIn_wide.2 (HY.out X))).mono ?_
          rintro e Xa ⟨rfl, hba⟩
          have HV := Lib.hid (Above.of_below (B := L2.heap.size) hba)
          have hIa := HI.out.on hba
          clear c1 c0 hba HI
          have HIa := Lib.hid hIa
          obtain ⟨c1, c0⟩ := hIa.a.cells
          clear hIa
          cases gd with
          | true =>
            obtain ⟨hvK, hv64⟩ : v < K ∧ v < 64 := by
              rcases hvw with ⟨_, e, _⟩ | ⟨e, _⟩
              · exact ⟨e, by omega⟩
              · cases e
            have hvk : ¬ (K : Int) ≤ (v : Int) := by omega
            have hv9 : (v : Int) < 64 := by omega
            obtain ⟨cv, hcv⟩ : ∃ c, cf v = c := ⟨_, rfl⟩
            have hcc := HIa.out.cell hv64
            have hfr := HIa.out.fr v
            rw [hcv] at hcc
            have hcv9 : cv ≤ 512 := by rw [← hcv]; have := hc9 v; omega
            have hw1 : IntKind.i64.wrap ((cv : Int) + 1) = (cv : Int) + 1 := by rw [IntKind.wrap_i64]; omega
            have HCV := Lib.hid hcv
            clear hvw hc9 hcv hvK hcv9
            gi_wp2
            refine ⟨HV.out.trans (Above.set _ _ (by show u < _; omega)), ?_⟩
            show ShB w s t u K (cF b K N (pre ++ [sx]).length) _
            rw [HIL.out, ← HCV.out]
            exact HIa.out.inc hts.1 hu9 hv64 (fun y => by rw [HCS.out y]; simp)
          | false =>
            clear hvw hc9
            gi_wp2
            refine ⟨HV.out, ?_⟩
            show ShB w s t u K (cF b K N (pre ++ [sx]).length) _
            rw [HIL.out, show cF b K N (i + 1) = cf from funext fun y => by rw [HCS.out y]; simp]
            exact HIa.out
        case done =>
          rintro D Wd hD hI hK
          rw [allS_length] at hI
          have hcW : ∀ y, y < K → cF b K N (2 ^ N) y = W := fun y hy => by
            have h9 := cntN_way (k := N + 1) (n := N) hy HPK.out
            rw [hW] at h9
            exact h9
          obtain ⟨cf, hcf⟩ : ∃ c, cF b K N (2 ^ N) = c := ⟨_, rfl⟩
          rw [hcf] at hI hcW
          have HI := Lib.hid hI
          have HK := Lib.hid hK
          have HCW := Lib.hid hcW
          have HDS := Lib.hid (show s ≠ D ∧ w.heap.size ≤ D by omega)
          clear hcf hcW hI hK hD hfar hfarx hMe2 hs2 hcb hsL hW hnw hW9
          go_wp2_with fail
          go_loopw [16] (fun iv wr => ∃ i : Nat, i ≤ K ∧ iv = .int .u64 (i : Nat) ∧ ShB w s t u K cf wr ∧ Below Wd.heap.size Wd wr) (fun iv _ => K - (intOf iv).toNat)
          case atStart => exact ⟨0, by omega, rfl, HI.out, Below.refl _ _⟩
          case round =>
            obtain ⟨i, hiK, rfl, hI2, hbw⟩ := hrel
            have HI2 := Lib.hid hI2
            have HBW := Lib.hid hbw
            obtain ⟨c1, c0⟩ := hI2.a.cells
            by_cases h1 : i < K
            · have h2 : (i : Int) < (K : Int) := by omega
              have h3 : (i : Int) < 64 := by omega
              have hcc := hI2.cell (y := i) (by omega)
              rw [HCW.out i h1] at hcc
              clear hI2 hbw
              go_wp2
              go_roundw
              case rel => exact ⟨i + 1, by omega, by go_num, HI2.out, HBW.out⟩
              case measure => simp [intOf]; omega
            · have h2 : ¬ (i : Int) < (K : Int) := by omega
              have hf0 := hI2.a.c0.fr 0
              have hXK := (KeepsOthers.setCell wr ⟨s, 0, none⟩ (.bool true)).same D _ ((hbw.block D (Array.getElem?_eq_some_iff.1 HK.out).1).trans HK.out) rfl
              have hXc := World.cell?_setCell_same' wr ⟨s, 0, none⟩ (.bool true) (by rw [c0]; rfl)
              have hXb := hI2.a.bl.setCell (p := ⟨s, 0, none⟩) (by show w.heap.size ≤ s; omega) (.bool true)
              have HXK := Lib.hid hXK
              have HXC := Lib.hid hXc
              have HXB := Lib.hid hXb
              clear hI2 hbw hXK hXc hXb
              go_wp2
              refine ⟨by simp, .inl ⟨_, _, rfl, run_takeDeferred HXK.out, ?_⟩⟩
              have hc5 := cell_kept HXC.out (grownBy_putObj' _ D (.deferred none)) (fun r e => by cases e; exact ⟨_, HXK.out, rfl⟩)
              exact ⟨.bool true, by simp [results, Tryd.f4, go_sem, hc5], rfl, by have h9 := HXB.out.trans (below_put _ (.deferred none) HDS.out.2); rw [HSW.out] at h9; exact h9⟩
set_option maxRecDepth 100000 in
theorem lifted (os : Os) (started : os.Started) (H : Type) (enc : TypeId × Value → H) :
    ReturnsInHanded {} Tryd.checked os 4 .any (fun w args => (Rows.belowSharesSpec.pre enc Tryd.prog Tryd.f4 Rows.belowSharesRow.domain false w args ∧ laidMetH Tryd.prog Rows.belowSharesRow.laid w) ∧ sizedMet enc Tryd.prog Tryd.f4 (OpenSpec.ofChange Rows.belowSharesSpec) false w args) (Rows.belowSharesSpec.post enc Tryd.prog Tryd.f4 false true false false) := by
  refine returnsInHanded_of_change_and (C := Tryd.checked) (X := fun w _ => laidMetH Tryd.prog Rows.belowSharesRow.laid w) (fun _ _ _ hh h => h.of_heap hh) own started (by kernel_rfl) Tryd.func4
    (ChangeSpec.witness_shaped (enc := enc) (C := Tryd.checked) (os := os) (X := fun w _ => laidMetH Tryd.prog Rows.belowSharesRow.laid w) false (World.laidAll Tryd.prog os Rows.belowSharesRow.laid) #[.int .u8 0, .int .u8 0] 8 (World.laidAll_os _ _ _)
      (World.shaped_of_ZipB (by kernel_rfl) (by kernel_rfl)) (by kernel_rfl) (by kernel_rfl) (by kernel_rfl)
      (by rw [MakeChecks.laidMetH_plain _ _ _ (by kernel_rfl)]; exact laidMet_laidAll _ (by kernel_rfl) (by kernel_rfl))) ?_
  intro W base args ds gs before hval0 hW hcnd _ _ _
  have hval : ∀ (j : Nat) t v, Tryd.f4.params[j]? = some t → args[j]? = some v → Value.okWide Tryd.prog W .any base t v := hval0
  have hW' := hW
  obtain ⟨p, q, hA0, hV, hpq, hfz, hnd⟩ := hW
  have hA : DataW.TrodAll enc Tryd.prog W 0 (fun _ => true) true Tryd.f4.params.toList args.toList ds p := hA0
  rw [Tryd.params4] at hA hval
  obtain ⟨v0, vs0, d0, ds0, p0, q0, hargs, rfl, rfl, h0, r0⟩ := trodAll_cons hA
  obtain ⟨v1, vs1, d1, ds1, p1, q1, rfl, rfl, rfl, h1, r1⟩ := trodAll_cons r0
  obtain ⟨rfl, rfl, rfl⟩ := trodAll_nil r1
  obtain rfl : args = #[v0, v1] := by cases args; simp_all
  obtain ⟨rfl, rfl⟩ := trodVars_none hV
  obtain ⟨a0, rfl, rfl, rfl, w0⟩ := open_int Tryd.underlying5 (hval 0 5 v0 rfl rfl) h0
  obtain ⟨a1, rfl, rfl, rfl, w1⟩ := open_int Tryd.underlying5 (hval 1 5 v1 rfl rfl) h1
  refine (walk W a0 w0 a1 w1).mono fun e W' ⟨he, hb⟩ => ?_
  subst he
  exact ⟨_, rfl, Frame.close laidOut hW' rfl rfl rfl Tryd.underlying4 (fun t ht => by rw [Tryd.params4] at ht; simp at ht; rcases ht with rfl <;> exact ⟨by kernel_rfl, of_decide_eq_true (by kernel_rfl)⟩) hb⟩
theorem over : Rows.belowSharesRow.holds Tryd.pinned (OpenSpec.ofChange Rows.belowSharesSpec) :=
  OpenClaim.holds_of_wide 4 Tryd.f4 rfl rfl rfl rfl rfl rfl rfl ⟨rfl, rfl, rfl, rfl, rfl⟩ rfl rfl rfl rfl rfl (by kernel_rfl) Tryd.func4 (by kernel_rfl)
    (of_decide_eq_true (by kernel_rfl)) (by unfold Func.isWrapper; first | (rw [if_pos (by decide +kernel)]; kernel_rfl) | (rw [if_neg (by decide +kernel)]; exact ⟨rfl, rfl⟩))
    (fun os started H enc _ => lifted os started H enc)
/-- the statement -/
theorem proved : Rows.BelowSharesCardSaid :=
  Claim7.holds_tied_plain_at .later [] _ _ _ _ over (fun _ h => by cases h) (by kernel_rfl) (fun _ h => by cases h) belowShares_row_tie rfl ⟨rfl, rfl⟩ (by kernel_rfl) rfl
    (fun f fn hf hfn => by
      obtain rfl : f = 4 := Option.some.inj ((show Tryd.prog.funcNamed "tombola/tombolalaw09.BelowShares" = some 4 by kernel_rfl).symm.trans hf) |>.symm
      obtain rfl : fn = Tryd.f4 := (Option.some.inj (Tryd.func4.symm.trans hfn)).symm
      exact ⟨by kernel_rfl, (fun j t ht => by
        rw [Tryd.params4] at ht
        have hm : t ∈ [5, 5] := by simpa using Array.mem_of_getElem? ht
        have hall : ([5, 5].all fun u => !Tryd.prog.wantsStandIn u) = true := by kernel_rfl
        exact (show Tryd.prog.wantsStandIn t = false by simpa using List.all_eq_true.1 hall t hm))⟩)
    (by kernel_rfl)
#print axioms proved
end Go.Proofs.YtfmhghemlcbapaaDoor.belowShares
