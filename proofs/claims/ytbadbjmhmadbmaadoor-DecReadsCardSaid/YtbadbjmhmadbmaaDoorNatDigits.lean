/- What the document's own helpers for digits of 16 bits (cut, Digits, Join) answer, over this translation. -/
import Derived.Test.YtbadbjmhmadbmaaDoorNatApp
import Derived.Test.YtbadbjmhmadbmaaDoorNatBare
import Derived.Test.YtbadbjmhmadbmaaDoorNatMath2
namespace Go.Proofs.YtbadbjmhmadbmaaDoor
open Go.RowKit
set_option linter.unusedVariables false
set_option maxRecDepth 20000
open N
theorem cut_any (w : World) (A : Option Addr) (n c : Nat) (xs : List Int) (h : Sl w A n c xs) :
    Calls Tryd.prog 55 #[.slice A n c] w fun e w' => e = .returned (.slice A (nn xs) c) ∧ w' = w := by
  have hl := h.len
  have hc := h.cap
  have hm := h.max
  have hA := h.nil
  have hn := nn_le xs
  have HL := Lib.hid hl
  have HA := Lib.hid hA
  rw [hl] at hn
  unfold maxLen at hm
  clear hl hA
  go_enter Tryd.func55, Tryd.ntmps55
  go_wp2
  go_loop [3] (fun i => ∃ k : Nat, k ≤ n ∧ nn xs ≤ k ∧ i = .int .i64 k) (fun i => (intOf i).toNat)
  case atStart => exact ⟨n, Nat.le_refl _, hn, rfl⟩
  case round =>
    obtain ⟨k, hk, hnk, rfl⟩ := hrel
    by_cases h0 : 0 < k
    · obtain ⟨ad, rfl, _, hcell⟩ := h.cell (k := k - 1) (by omega)
      by_cases hz : lim xs (k - 1) = 0
      · have hs := nn_step xs (k - 1) (by omega) hz
        rw [hz] at hcell
        clear hz
        have e1 : ((k : Int) - 1).toNat = k - 1 := by omega
        go_wp2
        go_round
        case rel => exact ⟨k - 1, by omega, hs, by congr 1; omega⟩
        case measure => simp [intOf]; omega
      · have hs := nn_eq xs k hnk (.inr hz)
        have e2 : (lim xs (k - 1) == 0) = false := by simpa using hz
        have HS := Lib.hid hs
        clear hs hz
        have e1 : ((k : Int) - 1).toNat = k - 1 := by omega
        go_wp2
        go_ret
        rw [HS.out]
        exact ⟨rfl, rfl⟩
    · obtain rfl : k = 0 := by omega
      have hs : nn xs = 0 := by omega
      have HS := Lib.hid hs
      clear hs
      go_wp2
      go_ret
      rw [HS.out]
      exact ⟨rfl, rfl⟩
namespace N
theorem Dg.up {xs : List Int} (h : Dg D xs) : Dg B xs := fun x hx => ⟨(h x hx).1, by have : x < 65536 := (h x hx).2; show x < 18446744073709551616; omega⟩
theorem QD_four (k : Nat) : Q D (4 * k) = Q B k := by
  unfold Q
  rw [Int.pow_mul]; rfl
/-- what a call tells that makes digits -/
def OutD (W : World) (m : Nat) (r : Int) (e : Ending) (w' : World) : Prop :=
  ∃ A n c, e = .returned (.slice A n c) ∧ n ≤ m ∧ Own w' W.heap.size A n c (digs r) ∧ Below W.heap.size W w'
theorem digs_start {xs ds : List Int} {x : Int} (k : Nat) (hx : x = lim xs k) (hl : ds.length = 4 * k) (hv : val D ds = lo B xs k) : val D ds + x * Q D (4 * k + 0) = lo B xs (k + 1) := by
  rw [Nat.add_zero, QD_four, lo_succ, hv, hx]
theorem digs_step {ds : List Int} {x V : Int} {p : Nat} (hx : 0 ≤ x) (hl : ds.length = p) (h : val D ds + x * Q D p = V) : val D (ds ++ [x % 65536]) + x / 65536 * Q D (p + 1) = V := by
  rw [val_append, hl, ← h, Q_succ]
  show val D ds + Q D p * (x % 65536 + 65536 * 0) + x / 65536 * (Q D p * 65536) = _
  have e : x = x % 65536 + 65536 * (x / 65536) := by omega
  have e2 : x * Q D p = x % 65536 * Q D p + 65536 * (x / 65536) * Q D p := by rw [← Int.add_mul, ← e]
  rw [e2, Int.mul_zero, Int.add_zero, Int.mul_comm (Q D p) (x % 65536), Int.mul_comm (Q D p) 65536, ← Int.mul_assoc (x / 65536), Int.mul_comm (x / 65536) 65536]
  omega
end N
def DigOut (w : World) (xs : List Int) (i o : Value) (wr : World) : Prop :=
  ∃ (k : Nat) (ds : List Int) (A : Option Addr) (n c : Nat), i = .int .i64 k ∧ k ≤ xs.length ∧ o = .slice A n c ∧ n = 4 * k ∧ N.Own wr w.heap.size A n c ds ∧ Dg D ds ∧ val D ds = lo B xs k ∧ Below w.heap.size w wr
def DigIn (w : World) (xs : List Int) (k : Nat) (x o i : Value) (wr : World) : Prop :=
  ∃ (q : Nat) (ds : List Int) (y : Int) (A : Option Addr) (n c : Nat), i = .int .i64 q ∧ q ≤ 4 ∧ x = .int .u64 y ∧ 0 ≤ y ∧ y < Q D (4 - q) ∧ o = .slice A n c ∧ n = 4 * k + q ∧ N.Own wr w.heap.size A n c ds ∧ Dg D ds ∧ val D ds + y * Q D (4 * k + q) = lo B xs (k + 1) ∧ Below w.heap.size w wr
theorem digits_any (w : World) (A : Option Addr) (n c : Nat) (xs : List Int) (h : Sl w A n c xs) (hn : n ≤ 1099511627776) :
    Calls Tryd.prog 35 #[.slice A n c] w (OutD w (4 * n) (val B xs)) := by
  have hl := h.len
  have hc := h.cap
  have hm := h.max
  unfold maxLen at hm
  have HH := Lib.hid h
  have HL := Lib.hid hl
  clear h hl
  go_enter Tryd.func35, Tryd.ntmps35
  go_wp2
  go_loopw [3, 4] (fun o i wr => DigOut w xs i o wr) (fun _ i _ => n - (intOf i).toNat)
  case atStart => exact ⟨0, [], none, 0, 0, rfl, Nat.zero_le _, rfl, rfl, Own.nil_ _ _, Dg.nil, by rw [lo_zero]; rfl, Below.refl _ _⟩
  case round =>
    obtain ⟨k, ds, A1, n1, c1, rfl, hk, rfl, hn1, ho, hd, hv, hb⟩ := hrel
    obtain ⟨wo, rfl⟩ : ∃ wo : World, wo = wr := ⟨_, rfl⟩
    rw [HL.out] at hk
    have HN1 := Lib.hid hn1
    have hn1' : n1 ≤ 4 * n := by omega
    have HV := Lib.hid hv
    have HO := Lib.hid ho
    clear hn1 hv ho
    by_cases hlt : k < n
    · obtain ⟨ad, rfl, _, hcell⟩ := (HH.out.below hb).cell (k := k) hlt
      have hx := HH.out.dg.lim (b := B) (by decide) k
      go_wp2
      go_loopw [5, 3, 6] (fun x o i wr => DigIn w xs k x o i wr) (fun _ _ i _ => 4 - (intOf i).toNat)
      case atStart => exact ⟨0, ds, _, A1, n1, c1, rfl, by omega, rfl, hx.1, hx.2, rfl, by have := HN1.out; omega, HO.out, hd, digs_start k rfl (by rw [HO.out.len]; exact HN1.out) HV.out, hb⟩
      case round =>
        obtain ⟨q, ds2, y, A2, n2, c2, rfl, hq, rfl, hy0, hy1, rfl, hn2, ho2, hd2, hv2, hb2⟩ := hrel
        obtain ⟨wi, rfl⟩ : ∃ wi : World, wi = wr := ⟨_, rfl⟩
        have HN2 := Lib.hid hn2
        have hn2' : n2 ≤ 4398046511104 := by omega
        have HV2 := Lib.hid hv2
        have HO2 := Lib.hid ho2
        clear hn2 hv2 ho2
        by_cases hql : q < 4
        · have hyB : y < 18446744073709551616 := by
            have h4 : Q D (4 - q) ≤ 18446744073709551616 := by
              have e : Q D 4 = Q D (4 - q) * Q D q := by rw [← Q_add]; congr 1; omega
              have e4 : Q D 4 = 18446744073709551616 := by unfold Q; decide
              have hp := Q_pos (b := D) (by decide) q
              have hp2 := Q_pos (b := D) (by decide) (4 - q)
              have h5 : Q D (4 - q) * 1 ≤ Q D (4 - q) * Q D q := Int.mul_le_mul_of_nonneg_left (by omega) (by omega)
              rw [← e, e4] at h5; omega
            omega
          have hy2 : y / 65536 < Q D (4 - (q + 1)) := by
            have e : Q D (4 - q) = Q D (4 - (q + 1)) * 65536 := by rw [← Q_succ]; congr 1; omega
            rw [e] at hy1
            exact Int.ediv_lt_of_lt_mul (by omega) hy1
          have HS := Lib.hid (digs_step hy0 (by rw [HO2.out.len]; exact HN2.out) HV2.out)
          have hba : Below w.heap.size w (wi.alloc (.cells #[.int .u64 (y % 65536)] 33)) := hb2.alloc hb2.size _
          have hoa := HO2.out.below ((Below.refl wi.heap.size wi).alloc (Nat.le_refl _) (.cells #[.int .u64 (y % 65536)] 33))
          have hsl : Sl (wi.alloc (.cells #[.int .u64 (y % 65536)] 33)) (some ⟨wi.heap.size, 0, none⟩) 1 1 [y % 65536] := (Arr.lit wi [y % 65536] _ rfl).sl rfl (by unfold maxLen; omega) (Dg.one (by omega) (by show y % 65536 < 18446744073709551616; omega))
          have HY1 := Lib.hid hy1
          clear hy1
          go_wp2_with (first
            | (at_builtin; refine wp_app rfl _ _ _ rfl slU w.heap.size rfl hoa rfl hsl (by omega) (by omega) hba.size ?_; intro A3 c3 w3 hown3 _ _ hb3))
          go_roundw
          case rel => exact ⟨q + 1, _, _, A3, n2 + 1, c3, by go_num, by omega, rfl, by omega, hy2, rfl, by have := HN2.out; omega, hown3, hd2.append (Dg.one (by omega) (by show y % 65536 < 65536; omega)), HS.out, hba.trans hb3⟩
          case measure => simp [intOf]; omega
        · obtain rfl : q = 4 := by omega
          have hy : y = 0 := by
            have : y < Q D 0 := hy1
            rw [Q_zero] at this; omega
          have hv3 : val D ds2 = lo B xs (k + 1) := by rw [← HV2.out, hy, Int.zero_mul, Int.add_zero]
          have HV3 := Lib.hid hv3
          clear hy hy1 hv3
          go_wp2
          go_roundw
          case rel => exact ⟨k + 1, ds2, A2, n2, c2, by go_num, by rw [HL.out]; omega, rfl, by have := HN2.out; omega, HO2.out, hd2, HV3.out, hb2⟩
          case measure => simp [intOf]; omega
    · obtain rfl : k = n := by omega
      have hsl := HO.out.sl
      have hnn := nn_le ds
      rw [HO.out.len] at hnn
      go_wp2_with (go_at_call 55; refine (cut_any _ _ _ _ ds hsl).mono ?_; rintro e w3 ⟨rfl, rfl⟩)
      go_ret
      refine ⟨_, _, _, rfl, by omega, ?_, hb⟩
      have e : val B xs = val D ds := by rw [HV.out, lo_all B xs _ (by rw [HL.out]; exact Nat.le_refl _)]
      rw [e, digs_of hd]
      exact HO.out.tr
end Go.Proofs.YtbadbjmhmadbmaaDoor
