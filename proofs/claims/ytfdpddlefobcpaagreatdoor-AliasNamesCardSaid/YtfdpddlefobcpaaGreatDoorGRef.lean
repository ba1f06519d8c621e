/- Gathered: NatDigits, NatJoin, RefTen, RefShow, RefRead, RefAdd, RefCmp, RefSub, RefTell. -/
import Derived.Test.YtfdpddlefobcpaaGreatDoorGMem
import Derived.Test.YtfdpddlefobcpaaGreatDoorGMath
import Derived.Test.YtfdpddlefobcpaaGreatDoorGNatA
/- What the document's own helpers for digits of 16 bits (cut, Digits, Join) answer, over this translation. -/
namespace Go.Proofs.YtfdpddlefobcpaaGreatDoor
open Go.RowKit
set_option linter.unusedVariables false
set_option maxRecDepth 20000
open N
theorem cut_any (w : World) (A : Option Addr) (n c : Nat) (xs : List Int) (h : Sl w A n c xs) :
    Calls Tryz.prog 109 #[.slice A n c] w fun e w' => e = .returned (.slice A (nn xs) c) ∧ w' = w := by
  have hl := h.len
  have hc := h.cap
  have hm := h.max
  have hA := h.nil
  have hn := nn_le xs
  have HL := Lib.hid hl
  have HA := Lib.hid hA
  rw [hl] at hn
  unfold maxLen at hm
  clear hl hA
  go_enter Tryz.func109, Tryz.ntmps109
  go_wp2
  go_loop [3] (fun i => ∃ k : Nat, k ≤ n ∧ nn xs ≤ k ∧ i = .int .i64 k) (fun i => (intOf i).toNat)
  case atStart => exact ⟨n, Nat.le_refl _, hn, rfl⟩
  case round =>
    obtain ⟨k, hk, hnk, rfl⟩ := hrel
    by_cases h0 : 0 < k
    · obtain ⟨ad, rfl, _, hcell⟩ := h.cell (k := k - 1) (by omega)
      by_cases hz : lim xs (k - 1) = 0
      · have hs := nn_step xs (k - 1) (by omega) hz
        rw [hz] at hcell
        clear hz
        have e1 : ((k : Int) - 1).toNat = k - 1 := by omega
        go_wp2
        go_round
        case rel => exact ⟨k - 1, by omega, hs, by congr 1; omega⟩
        case measure => simp [intOf]; omega
      · have hs := nn_eq xs k hnk (.inr hz)
        have e2 : (lim xs (k - 1) == 0) = false := by simpa using hz
        have HS := Lib.hid hs
        clear hs hz
        have e1 : ((k : Int) - 1).toNat = k - 1 := by omega
        go_wp2
        go_ret
        rw [HS.out]
        exact ⟨rfl, rfl⟩
    · obtain rfl : k = 0 := by omega
      have hs : nn xs = 0 := by omega
      have HS := Lib.hid hs
      clear hs
      go_wp2
      go_ret
      rw [HS.out]
      exact ⟨rfl, rfl⟩
namespace N
theorem Dg.up {xs : List Int} (h : Dg D xs) : Dg B xs := fun x hx => ⟨(h x hx).1, by have : x < 65536 := (h x hx).2; show x < 18446744073709551616; omega⟩
theorem QD_four (k : Nat) : Q D (4 * k) = Q B k := by
  unfold Q
  rw [Int.pow_mul]; rfl
/-- what a call tells that makes digits -/
def OutD (W : World) (m : Nat) (r : Int) (e : Ending) (w' : World) : Prop :=
  ∃ A n c, e = .returned (.slice A n c) ∧ n ≤ m ∧ N.Own w' W.heap.size A n c (digs r) ∧ Below W.heap.size W w'
theorem digs_start {xs ds : List Int} {x : Int} (k : Nat) (hx : x = lim xs k) (hl : ds.length = 4 * k) (hv : val D ds = lo B xs k) : val D ds + x * Q D (4 * k + 0) = lo B xs (k + 1) := by
  rw [Nat.add_zero, QD_four, lo_succ, hv, hx]
theorem digs_step {ds : List Int} {x V : Int} {p : Nat} (hx : 0 ≤ x) (hl : ds.length = p) (h : val D ds + x * Q D p = V) : val D (ds ++ [x % 65536]) + x / 65536 * Q D (p + 1) = V := by
  rw [val_append, hl, ← h, Q_succ]
  show val D ds + Q D p * (x % 65536 + 65536 * 0) + x / 65536 * (Q D p * 65536) = _
  have e : x = x % 65536 + 65536 * (x / 65536) := by omega
  have e2 : x * Q D p = x % 65536 * Q D p + 65536 * (x / 65536) * Q D p := by rw [← Int.add_mul, ← e]
  rw [e2, Int.mul_zero, Int.add_zero, Int.mul_comm (Q D p) (x % 65536), Int.mul_comm (Q D p) 65536, ← Int.mul_assoc (x / 65536), Int.mul_comm (x / 65536) 65536]
  omega
end N
def DigOut (w : World) (xs : List Int) (i o : Value) (wr : World) : Prop :=
  ∃ (k : Nat) (ds : List Int) (A : Option Addr) (n c : Nat), i = .int .i64 k ∧ k ≤ xs.length ∧ o = .slice A n c ∧ n = 4 * k ∧ N.Own wr w.heap.size A n c ds ∧ Dg D ds ∧ val D ds = lo B xs k ∧ Below w.heap.size w wr
def DigIn (w : World) (xs : List Int) (k : Nat) (x o i : Value) (wr : World) : Prop :=
  ∃ (q : Nat) (ds : List Int) (y : Int) (A : Option Addr) (n c : Nat), i = .int .i64 q ∧ q ≤ 4 ∧ x = .int .u64 y ∧ 0 ≤ y ∧ y < Q D (4 - q) ∧ o = .slice A n c ∧ n = 4 * k + q ∧ N.Own wr w.heap.size A n c ds ∧ Dg D ds ∧ val D ds + y * Q D (4 * k + q) = lo B xs (k + 1) ∧ Below w.heap.size w wr
theorem digits_any (w : World) (A : Option Addr) (n c : Nat) (xs : List Int) (h : Sl w A n c xs) (hn : n ≤ 1099511627776) :
    Calls Tryz.prog 84 #[.slice A n c] w (OutD w (4 * n) (val B xs)) := by
  have hl := h.len
  have hc := h.cap
  have hm := h.max
  unfold maxLen at hm
  have HH := Lib.hid h
  have HL := Lib.hid hl
  clear h hl
  go_enter Tryz.func84, Tryz.ntmps84
  go_wp2
  go_loopw [3, 4] (fun o i wr => DigOut w xs i o wr) (fun _ i _ => n - (intOf i).toNat)
  case atStart => exact ⟨0, [], none, 0, 0, rfl, Nat.zero_le _, rfl, rfl, Own.nil_ _ _, Dg.nil, by rw [lo_zero]; rfl, Below.refl _ _⟩
  case round =>
    obtain ⟨k, ds, A1, n1, c1, rfl, hk, rfl, hn1, ho, hd, hv, hb⟩ := hrel
    obtain ⟨wo, rfl⟩ : ∃ wo : World, wo = wr := ⟨_, rfl⟩
    rw [HL.out] at hk
    have HN1 := Lib.hid hn1
    have hn1' : n1 ≤ 4 * n := by omega
    have HV := Lib.hid hv
    have HO := Lib.hid ho
    clear hn1 hv ho
    by_cases hlt : k < n
    · obtain ⟨ad, rfl, _, hcell⟩ := (HH.out.below hb).cell (k := k) hlt
      have hx := HH.out.dg.lim (b := B) (by decide) k
      go_wp2
      go_loopw [5, 3, 6] (fun x o i wr => DigIn w xs k x o i wr) (fun _ _ i _ => 4 - (intOf i).toNat)
      case atStart => exact ⟨0, ds, _, A1, n1, c1, rfl, by omega, rfl, hx.1, hx.2, rfl, by have := HN1.out; omega, HO.out, hd, digs_start k rfl (by rw [HO.out.len]; exact HN1.out) HV.out, hb⟩
      case round =>
        obtain ⟨q, ds2, y, A2, n2, c2, rfl, hq, rfl, hy0, hy1, rfl, hn2, ho2, hd2, hv2, hb2⟩ := hrel
        obtain ⟨wi, rfl⟩ : ∃ wi : World, wi = wr := ⟨_, rfl⟩
        have HN2 := Lib.hid hn2
        have hn2' : n2 ≤ 4398046511104 := by omega
        have HV2 := Lib.hid hv2
        have HO2 := Lib.hid ho2
        clear hn2 hv2 ho2
        by_cases hql : q < 4
        · have hyB : y < 18446744073709551616 := by
            have h4 : Q D (4 - q) ≤ 18446744073709551616 := by
              have e : Q D 4 = Q D (4 - q) * Q D q := by rw [← Q_add]; congr 1; omega
              have e4 : Q D 4 = 18446744073709551616 := by unfold Q; decide
              have hp := Q_pos (b := D) (by decide) q
              have hp2 := Q_pos (b := D) (by decide) (4 - q)
              have h5 : Q D (4 - q) * 1 ≤ Q D (4 - q) * Q D q := Int.mul_le_mul_of_nonneg_left (by omega) (by omega)
              rw [← e, e4] at h5; omega
            omega
          have hy2 : y / 65536 < Q D (4 - (q + 1)) := by
            have e : Q D (4 - q) = Q D (4 - (q + 1)) * 65536 := by rw [← Q_succ]; congr 1; omega
            rw [e] at hy1
            exact Int.ediv_lt_of_lt_mul (by omega) hy1
          have HS := Lib.hid (digs_step hy0 (by rw [HO2.out.len]; exact HN2.out) HV2.out)
          have hba : Below w.heap.size w (wi.alloc (.cells #[.int .u64 (y % 65536)] 72)) := hb2.alloc hb2.size _
          have hoa := HO2.out.below ((Below.refl wi.heap.size wi).alloc (Nat.le_refl _) (.cells #[.int .u64 (y % 65536)] 72))
          have hsl : Sl (wi.alloc (.cells #[.int .u64 (y % 65536)] 72)) (some ⟨wi.heap.size, 0, none⟩) 1 1 [y % 65536] := (Arr.lit wi [y % 65536] _ rfl).sl rfl (by unfold maxLen; omega) (Dg.one (by omega) (by show y % 65536 < 18446744073709551616; omega))
          have HY1 := Lib.hid hy1
          clear hy1
          go_wp2_with (first
            | (at_builtin; refine wp_app rfl _ _ _ rfl slU w.heap.size rfl hoa rfl hsl (by omega) (by omega) hba.size ?_; intro A3 c3 w3 hown3 _ _ hb3))
          go_roundw
          case rel => exact ⟨q + 1, _, _, A3, n2 + 1, c3, by go_num, by omega, rfl, by omega, hy2, rfl, by have := HN2.out; omega, hown3, hd2.append (Dg.one (by omega) (by show y % 65536 < 65536; omega)), HS.out, hba.trans hb3⟩
          case measure => simp [intOf]; omega
        · obtain rfl : q = 4 := by omega
          have hy : y = 0 := by
            have : y < Q D 0 := hy1
            rw [Q_zero] at this; omega
          have hv3 : val D ds2 = lo B xs (k + 1) := by rw [← HV2.out, hy, Int.zero_mul, Int.add_zero]
          have HV3 := Lib.hid hv3
          clear hy hy1 hv3
          go_wp2
          go_roundw
          case rel => exact ⟨k + 1, ds2, A2, n2, c2, by go_num, by rw [HL.out]; omega, rfl, by have := HN2.out; omega, HO2.out, hd2, HV3.out, hb2⟩
          case measure => simp [intOf]; omega
    · obtain rfl : k = n := by omega
      have hsl := HO.out.sl
      have hnn := nn_le ds
      rw [HO.out.len] at hnn
      go_wp2_with (go_at_call 109; refine (cut_any _ _ _ _ ds hsl).mono ?_; rintro e w3 ⟨rfl, rfl⟩)
      go_ret
      refine ⟨_, _, _, rfl, by omega, ?_, hb⟩
      have e : val B xs = val D ds := by rw [HV.out, lo_all B xs _ (by rw [HL.out]; exact Nat.le_refl _)]
      rw [e, digs_of hd]
      exact HO.out.tr
end Go.Proofs.YtfdpddlefobcpaaGreatDoor
/- What the document's own Join answers, over this translation. -/
namespace Go.Proofs.YtfdpddlefobcpaaGreatDoor
open Go.RowKit
set_option linter.unusedVariables false
set_option maxRecDepth 20000
open N
namespace N
theorem val_lim0 (b : Int) : ∀ ys : List Int, (∀ j, lim ys j = 0) → val b ys = 0
  | [], _ => rfl
  | y :: t, h => by
    unfold val
    have h0 := h 0
    rw [lim_cons_zero] at h0
    rw [h0, val_lim0 b t (fun j => by have := h (j + 1); rwa [lim_cons_succ] at this)]; simp
theorem lo_nn (b : Int) (xs : List Int) {k : Nat} (h : nn xs ≤ k) : lo b xs k = val b xs := by
  rw [val_split b xs k, val_lim0 b (xs.drop k) (fun j => by rw [lim_drop]; exact nn_zero xs _ (by omega))]; simp
theorem val_ge {b : Int} (hb : 1 < b) {xs : List Int} (h : Dg b xs) (h0 : 0 < nn xs) : Q b (nn xs - 1) ≤ val b xs := by
  rw [val_top b xs h0]
  have h1 := lo_lt (by omega) h (nn xs - 1)
  have h2 := nn_top xs h0
  have h3 := h.lim (by omega) (nn xs - 1)
  have h4 := Q_pos (show 0 < b by omega) (nn xs - 1)
  have h5 : 1 * Q b (nn xs - 1) ≤ lim xs (nn xs - 1) * Q b (nn xs - 1) := Int.mul_le_mul_of_nonneg_right (by omega) (by omega)
  omega
theorem Q_mono {b : Int} (hb : 1 ≤ b) {i j : Nat} (h : i ≤ j) : Q b i ≤ Q b j := by
  have e : Q b j = Q b i * Q b (j - i) := by rw [← Q_add]; congr 1; omega
  have h1 := Q_pos (show 0 < b by omega) i
  have h2 := Q_pos (show 0 < b by omega) (j - i)
  have h3 : Q b i * 1 ≤ Q b i * Q b (j - i) := Int.mul_le_mul_of_nonneg_left (by omega) (by omega)
  rw [e]; omega
theorem QD4 : Q D 4 = 18446744073709551616 := by unfold Q; decide
theorem QD3 : Q D 3 = 281474976710656 := by unfold Q; decide
/-- the joined limbs are the canonical ones -/
theorem join_full {ds zs : List Int} (hd : Dg D ds) (hz : Dg B zs) (hv : val B zs = val D ds) (h1 : nn ds ≤ 4 * zs.length) (h2 : 4 * zs.length < nn ds + 4) : zs = limbs (val D ds) := by
  rw [← hv, limbs_of hz]
  refine (tr_full ?_).symm
  have hle := nn_le zs
  by_cases h0 : zs.length = 0
  · omega
  · have hn : 0 < nn ds := by omega
    have h3 := val_ge (b := D) (by decide) hd hn
    have h4 : Q D (4 * (zs.length - 1)) ≤ Q D (nn ds - 1) := Q_mono (by decide) (by omega)
    rw [QD_four] at h4
    have h5 := limbs_len_le (val_nonneg (b := B) (by decide) hz) (zs.length - 1)
    rw [← nn_limbs hz, hv] at h5
    omega
theorem join_step {ds : List Int} {x V : Int} {s : Nat} (h : x * Q D (s + 1) + lo D ds (s + 1) = V) : (x * 65536 + lim ds s) * Q D s + lo D ds s = V := by
  rw [lo_succ, Q_succ] at h
  rw [← h, Int.add_mul, Int.mul_assoc, Int.mul_comm (65536 : Int)]
  show x * (Q D s * 65536) + _ + _ = x * (Q D s * 65536) + _
  omega
end N
def JoinOut (w : World) (ds : List Int) (o i : Value) (wr : World) : Prop :=
  ∃ (p : Nat) (zs : List Int) (A : Option Addr) (n c : Nat), i = .int .i64 p ∧ p = 4 * zs.length ∧ p < nn ds + 4 ∧ o = .slice A n c ∧ N.Own wr w.heap.size A n c zs ∧ val B zs = lo D ds p ∧ Below w.heap.size w wr
def JoinIn (ds : List Int) (p hi : Nat) (x k : Value) : Prop :=
  ∃ (r : Nat) (y : Int), k = .int .i64 ((p : Int) + r - 1) ∧ p + r ≤ hi ∧ x = .int .u64 y ∧ 0 ≤ y ∧ y < Q D (hi - p - r) ∧ y * Q D (p + r) + lo D ds (p + r) = lo D ds hi
set_option maxHeartbeats 1000000 in
theorem join_any (w : World) (A : Option Addr) (n c : Nat) (ds : List Int) (h : Sl w A n c ds) (hd : Dg D ds) (hn : n ≤ 4398046511104) :
    Calls Tryz.prog 83 #[.slice A n c] w (Out w (n + 1) (val D ds)) := by
  have hnn := nn_le ds
  rw [h.len] at hnn
  have hcap := h.cap
  have HH := Lib.hid h
  clear h
  go_enter Tryz.func83, Tryz.ntmps83
  go_wp2_with (go_at_call 109; refine (cut_any _ _ _ _ ds HH.out).mono ?_; rintro e w1 ⟨rfl, rfl⟩)
  go_loopw [3, 4] (fun o i wr => JoinOut w1 ds o i wr) (fun _ i _ => nn ds + 4 - (intOf i).toNat)
  case atStart => exact ⟨0, [], none, 0, 0, rfl, rfl, by omega, rfl, Own.nil_ _ _, (lo_zero D ds).symm, Below.refl _ _⟩
  case round =>
    obtain ⟨p, zs, A1, n1, c1, rfl, hp, hpn, rfl, ho, hv, hb⟩ := hrel
    obtain ⟨wo, rfl⟩ : ∃ wo : World, wo = wr := ⟨_, rfl⟩
    have hn1 := ho.len
    have hn1' : n1 ≤ 4398046511104 := by omega
    have HP := Lib.hid hp
    have HN1 := Lib.hid hn1
    have HV := Lib.hid hv
    have HO := Lib.hid ho
    clear hp hn1 hv ho
    by_cases hlt : p < nn ds
    · obtain ⟨hi, hhi, h1, h2, h3⟩ : ∃ hi : Nat, min (nn ds : Int) ((p : Int) + 4) = (hi : Int) ∧ p < hi ∧ hi ≤ p + 4 ∧ hi ≤ nn ds := ⟨min (nn ds) (p + 4), by omega, by omega, by omega, by omega⟩
      have HHI := Lib.hid hhi
      go_wp2
      clear hhi
      go_loop [5, 6] (fun x k => JoinIn ds p hi x k) (fun _ k => (intOf k + 1).toNat)
      case atStart =>
        refine ⟨hi - p, 0, by congr 1; omega, by omega, rfl, by omega, Q_pos (by decide) _, ?_⟩
        rw [show p + (hi - p) = hi by omega]; omega
      case round =>
        obtain ⟨r, y, rfl, hr, rfl, hy0, hy1, hy⟩ := hrel
        have HY := Lib.hid hy
        by_cases hr0 : 0 < r
        · obtain ⟨s, hs⟩ : ∃ s : Nat, (p : Int) + r - 1 = (s : Int) := ⟨p + r - 1, by omega⟩
          have hsl : s < n := by omega
          obtain ⟨ad, rfl, _, hcell⟩ := (HH.out.below hb).cell hsl
          have hlm := hd.lim (by decide) s
          have hlm1 : lim ds s < 65536 := hlm.2
          have hlm0 := hlm.1
          have hy3 : y < 281474976710656 := by
            have := Q_mono (b := D) (by decide) (show hi - p - r ≤ 3 by omega)
            rw [QD3] at this; omega
          have hnew : y * 65536 + lim ds s < Q D (hi - p - (r - 1)) := by
            have e : Q D (hi - p - (r - 1)) = Q D (hi - p - r) * 65536 := by rw [← Q_succ]; congr 1; omega
            rw [e]
            have : (y + 1) * 65536 ≤ Q D (hi - p - r) * 65536 := Int.mul_le_mul_of_nonneg_right (by omega) (by omega)
            omega
          have hsr : s + 1 = p + r := by omega
          have HS := Lib.hid (join_step (ds := ds) (x := y) (V := lo D ds hi) (s := s) (by rw [hsr]; exact hy))
          have HSS := Lib.hid hs
          have HNW := Lib.hid hnew
          clear hy hy1 hnew hlm
          rw [hs]
          clear hs
          have hge : p ≤ s := by have := HSS.out; omega
          go_wp2
          go_round
          case rel =>
            have := HSS.out
            exact ⟨r - 1, _, by congr 1; omega, by omega, rfl, by omega, HNW.out, by rw [show p + (r - 1) = s by omega]; exact HS.out⟩
          case measure => have := HSS.out; simp [intOf]
        · obtain rfl : r = 0 := by omega
          have hyB : y < 18446744073709551616 := by
            have := Q_mono (b := D) (by decide) (show hi - p - 0 ≤ 4 by omega)
            rw [QD4] at this; omega
          have hval : val B (zs ++ [y]) = lo D ds (p + 4) := by
            have e1 : lo D ds (p + 4) = lo D ds hi := by
              by_cases hh : hi = p + 4
              · rw [hh]
              · rw [lo_nn D ds (show nn ds ≤ p + 4 by have := HHI.out; omega), lo_nn D ds (show nn ds ≤ hi by have := HHI.out; omega)]
            rw [val_append, e1, ← hy, Nat.add_zero, HV.out, ← QD_four, HP.out]
            show _ + _ * (y + B * 0) = _
            rw [Int.mul_zero, Int.add_zero, Int.mul_comm]; omega
          have HVL := Lib.hid hval
          clear hy hy1 hval
          have hba : Below w1.heap.size w1 (wo.alloc (.cells #[.int .u64 y] 72)) := hb.alloc hb.size _
          have hoa := HO.out.below ((Below.refl wo.heap.size wo).alloc (Nat.le_refl _) (.cells #[.int .u64 y] 72))
          have hsl : Sl (wo.alloc (.cells #[.int .u64 y] 72)) (some ⟨wo.heap.size, 0, none⟩) 1 1 [y] := (Arr.lit wo [y] _ rfl).sl rfl (by unfold maxLen; omega) (Dg.one hy0 (by show y < 18446744073709551616; omega))
          go_wp2_with (first
            | (at_builtin; refine wp_app rfl _ _ _ rfl slNat w1.heap.size rfl hoa rfl hsl (by omega) (by omega) hba.size ?_; intro A3 c3 w3 hown3 _ _ hb3))
          go_roundw
          case rel => exact ⟨p + 4, zs ++ [y], A3, n1 + 1, c3, by go_num, by rw [List.length_append, List.length_singleton]; have := HP.out; omega, by omega, rfl, hown3, HVL.out, hba.trans hb3⟩
          case measure => simp [intOf]; omega
    · go_wp2
      go_ret
      refine ⟨A1, n1, c1, rfl, by have := HP.out; have := HN1.out; omega, ?_, hb⟩
      have hz := HO.out
      have e : zs = limbs (val D ds) := join_full hd hz.dg (by rw [HV.out]; exact lo_nn D ds (by omega)) (by have := HP.out; omega) (by have := HP.out; omega)
      rw [← e]
      exact hz
end Go.Proofs.YtfdpddlefobcpaaGreatDoor
/- What the document's own Ten (a natural divided by ten, over its digits of 16 bits) answers, over this translation. -/
namespace Go.Proofs.YtfdpddlefobcpaaGreatDoor
open Go.RowKit
set_option linter.unusedVariables false
set_option maxRecDepth 20000
open N
namespace N
theorem val_drop (b : Int) (xs : List Int) (k : Nat) (h : k < xs.length) : val b (xs.drop k) = lim xs k + b * val b (xs.drop (k + 1)) := by
  rw [List.drop_eq_getElem_cons h, lim_lt xs k h]; rfl
theorem set_drop (zs : List Int) (k : Nat) (v : Int) (h : k < zs.length) : (zs.set k v).drop (k + 1) = zs.drop (k + 1) := by
  refine ext_lim (by simp) fun j => ?_
  rw [lim_drop, lim_drop, lim_set _ _ _ _ h, if_neg (by omega)]
theorem ten_arith (l h : Int) : (l + 65536 * h) / 10 = (h % 10 * 65536 + l) / 10 + 65536 * (h / 10) ∧ (l + 65536 * h) % 10 = (h % 10 * 65536 + l) % 10 := by omega
/-- one round: the digit at place k -/
theorem ten_step {xs zs : List Int} {k : Nat} (hk : k < xs.length) (hl : zs.length = xs.length) (hz : val D (zs.drop (k + 1)) = val D (xs.drop (k + 1)) / 10) :
    val D ((zs.set k ((val D (xs.drop (k + 1)) % 10 * 65536 + lim xs k) / 10)).drop k) = val D (xs.drop k) / 10 ∧ (val D (xs.drop (k + 1)) % 10 * 65536 + lim xs k) % 10 = val D (xs.drop k) % 10 := by
  obtain ⟨h1, h2⟩ := ten_arith (lim xs k) (val D (xs.drop (k + 1)))
  rw [val_drop D _ k (by rw [List.length_set]; omega), set_drop _ _ _ (by omega), lim_set _ _ _ _ (by omega), if_pos rfl, hz, val_drop D xs k hk]
  exact ⟨h1.symm, h2.symm⟩
end N
/-- the answer: the quotient's digits, in memory of the call's own, and what is left -/
def OutTen (W : World) (m : Nat) (v : Int) (e : Ending) (w' : World) : Prop :=
  ∃ A n c, e = .returned (.tuple #[.slice A n c, .int .u64 (v % 10)]) ∧ n ≤ m ∧ N.Own w' W.heap.size A n c (digs (v / 10)) ∧ Below W.heap.size W w'
end Go.Proofs.YtfdpddlefobcpaaGreatDoor
/- What the document's own Show and Many answer, over this translation: the decimal digits. -/
namespace Go.Proofs.YtfdpddlefobcpaaGreatDoor
open Go.RowKit
set_option linter.unusedVariables false
set_option maxRecDepth 20000
open N
open Go.Lib (decDigits nDigits decDigits_length nDigits_pos)
namespace N
/-- the digits of what is left, none of 0 -/
def topD (u : Nat) : List UInt8 := if u = 0 then [] else decDigits u
theorem topD_zero : topD 0 = [] := by simp [topD]
theorem topD_pos {u : Nat} (h : 0 < u) : topD u = decDigits u := by unfold topD; rw [if_neg (by omega)]
theorem topD_step {u : Nat} (h : 0 < u) : topD u = topD (u / 10) ++ [UInt8.ofNat (48 + u % 10)] := by
  rw [topD_pos h]
  by_cases h' : u < 10
  · rw [dd_small h', show u / 10 = 0 by omega, topD_zero, show u % 10 = u by omega]; rfl
  · rw [dd_big h', topD_pos (by omega)]
theorem nDigits_le {u k : Nat} (h : u < 10 ^ k) (hk : 1 ≤ k) : nDigits u ≤ k := (padD_dd k u h hk).1
theorem nDigits_val {xs : List Int} {n v : Nat} (hd : Dg B xs) (hl : xs.length = n) (hv : val B xs = (v : Int)) : nDigits v ≤ 20 * n + 1 := by
  refine nDigits_le ?_ (by omega)
  have h1 := val_lt (b := B) (by decide) hd
  rw [hl, hv] at h1
  have h2 : (Q B n) = ((18446744073709551616 ^ n : Nat) : Int) := by unfold Q; rw [Int.natCast_pow]; rfl
  rw [h2] at h1
  have h3 : v < 18446744073709551616 ^ n := by exact_mod_cast h1
  have h4 : 18446744073709551616 ^ n ≤ (10 ^ 20) ^ n := Nat.pow_le_pow_left (by decide) n
  rw [← Nat.pow_mul] at h4
  have h5 : 10 ^ (20 * n) ≤ 10 ^ (20 * n + 1) := Nat.pow_le_pow_right (by omega) (by omega)
  omega
theorem digs_nil_iff {u : Nat} : (digs (u : Int)).length = 0 ↔ u = 0 := by
  have h := digs_len_le (n := (u : Int)) (by omega) 0
  rw [Q_zero] at h
  omega
theorem rev_step (bs : List UInt8) (k : Nat) (h : k < bs.length) :
    (List.replicate (bs.length - k) 0 ++ (bs.take k).reverse).set (bs.length - 1 - k) bs[k] = List.replicate (bs.length - (k + 1)) 0 ++ (bs.take (k + 1)).reverse := by
  rw [show bs.length - k = (bs.length - (k + 1)) + 1 by omega, List.replicate_succ', List.append_assoc, List.set_append_right _ _ (by simp; omega), List.length_replicate,
    show bs.length - 1 - k - (bs.length - (k + 1)) = 0 by omega, List.take_succ_eq_append_getElem h, List.reverse_append]
  rfl
def lenOf : Value → Nat
  | .slice _ n _ => n
  | _ => 0
end N
def ShRel (w : World) (v M : Nat) (l t : Value) (wr : World) : Prop :=
  ∃ (u : Nat) (bs : List UInt8) (A : Option Addr) (n c : Nat) (A' : Option Addr) (m d : Nat), l = .slice A n c ∧ t = .slice A' m d ∧ n ≤ M ∧ N.Own wr w.heap.size A n c (digs (u : Int)) ∧ OwnB wr w.heap.size A' m d bs ∧ decDigits v = topD u ++ bs.reverse ∧ Below w.heap.size w wr
end Go.Proofs.YtfdpddlefobcpaaGreatDoor
/- What the document's own Read answers, over this translation: the natural of decimal digits, or why it is none. -/
namespace Go.Proofs.YtfdpddlefobcpaaGreatDoor
open Go.RowKit
set_option linter.unusedVariables false
set_option maxRecDepth 20000
open N
namespace N
/-- digits times ten, and a digit more: what is done below place j -/
structure RRst (ls : List Int) (d : Int) (j : Nat) (q : Int) (zs : List Int) : Prop where
  len : zs.length = ls.length
  dg : Dg D zs
  q0 : 0 ≤ q
  q1 : q ≤ 9
  sum : val D zs + q * Q D j + 9 * (val D ls - lo D ls j) = val D ls * 10 + d
  rest : ∀ i, j ≤ i → lim zs i = lim ls i
theorem RRst.start {ls : List Int} {d : Int} (hd : Dg D ls) (h0 : 0 ≤ d) (h1 : d ≤ 9) : RRst ls d 0 d ls :=
  ⟨rfl, hd, h0, h1, by rw [Q_zero, lo_zero]; omega, fun _ _ => rfl⟩
theorem RRst.bd {ls : List Int} {d : Int} {j : Nat} {q : Int} {zs : List Int} (h : RRst ls d j q zs) : 0 ≤ lim zs j * 10 + q ∧ lim zs j * 10 + q < 655360 := by
  have h1 := h.dg.lim (b := D) (by decide) j
  have h2 : lim zs j < 65536 := h1.2
  have := h.q0; have := h.q1; omega
theorem RRst.step {ls : List Int} {d : Int} {j : Nat} {q : Int} {zs : List Int} (h : RRst ls d j q zs) (hj : j < ls.length) :
    RRst ls d (j + 1) ((lim zs j * 10 + q) / 65536) (zs.set j ((lim zs j * 10 + q) % 65536)) := by
  obtain ⟨b0, b1⟩ := h.bd
  refine ⟨by rw [List.length_set, h.len], h.dg.set j (by omega) (by show _ < (65536 : Int); omega), by omega, by omega, ?_, fun i hi => ?_⟩
  · have hs := h.sum
    have hr := h.rest j (Nat.le_refl _)
    rw [val_set D zs j _ (by rw [h.len]; exact hj), lo_succ, Q_succ, ← hr]
    obtain ⟨x, hx⟩ : ∃ x, lim zs j * 10 + q = x := ⟨_, rfl⟩
    have e1 : x / 65536 * (Q D j * 65536) = (x / 65536 * 65536) * Q D j := by rw [Int.mul_comm (Q D j), Int.mul_assoc]
    have e2 : (x % 65536 - lim zs j) * Q D j + (x / 65536 * 65536) * Q D j = (lim zs j * 9 + q) * Q D j := by
      rw [← Int.add_mul]; congr 1; omega
    rw [hx]
    show val D zs + _ + x / 65536 * (Q D j * 65536) + _ = _
    rw [e1]
    have e3 : (lim zs j * 9 + q) * Q D j = 9 * (lim zs j * Q D j) + q * Q D j := by rw [Int.add_mul, Int.mul_comm (lim zs j) 9, Int.mul_assoc]
    omega
  · rw [lim_set _ _ _ _ (by rw [h.len]; exact hj), if_neg (by omega)]; exact h.rest i (by omega)
theorem RRst.done {ls : List Int} {d : Int} {j : Nat} {q : Int} {zs : List Int} (h : RRst ls d j q zs) (hj : ls.length ≤ j) (hj' : j ≤ ls.length) : val D (zs ++ [q]) = val D ls * 10 + d := by
  obtain rfl : j = ls.length := by omega
  have hs := h.sum
  rw [lo_all D ls _ (Nat.le_refl _)] at hs
  rw [val_append, h.len]
  show _ + _ * (q + D * 0) = _
  rw [Int.mul_zero, Int.add_zero, Int.mul_comm]
  omega
theorem dv_take (bs : List UInt8) (k : Nat) (h : k < bs.length) : (dv (bs.take (k + 1)) : Int) = (dv (bs.take k) : Int) * 10 + (((bs.getD k 0).toNat - 48 : Nat) : Int) := by
  rw [List.take_succ_eq_append_getElem h, dv_snoc, List.getD_eq_getElem?_getD, List.getElem?_eq_getElem h]
  simp
end N
def RdRel (w : World) (bs : List UInt8) (l i : Value) (wr : World) : Prop :=
  ∃ (k : Nat) (ls : List Int) (A : Option Addr) (n c : Nat), i = .int .i64 k ∧ k ≤ bs.length ∧ l = .slice A n c ∧ n ≤ k ∧ N.Own wr w.heap.size A n c ls ∧ Dg D ls ∧ val D ls = (dv (bs.take k) : Int) ∧ Below w.heap.size w wr
end Go.Proofs.YtfdpddlefobcpaaGreatDoor
/- What the document's own Trim, Of and Add answer, over this translation. -/
namespace Go.Proofs.YtfdpddlefobcpaaGreatDoor
open Go.RowKit
set_option linter.unusedVariables false
set_option maxRecDepth 20000
open N
theorem Out.weaken {W : World} {m m' : Nat} {r : Int} (hm : m ≤ m') {e : Ending} {w' : World} (h : Out W m r e w') : Out W m' r e w' := by
  obtain ⟨A, n, c, he, hn, ho, hb⟩ := h
  exact ⟨A, n, c, he, by omega, ho, hb⟩
theorem rtrim_any (w : World) (A : Option Addr) (n c : Nat) (xs : List Int) (h : Sl w A n c xs) (hn : n ≤ 1099511627776) :
    Calls Tryz.prog 61 #[.slice A n c] w (Out w (4 * n + 1) (val B xs)) := by
  have hv := Lib.hid (digs_val (val_nonneg (b := B) (by decide) h.dg))
  go_enter Tryz.func61, Tryz.ntmps61
  go_wp2_with (first
    | (go_at_call 84; refine (digits_any _ _ _ _ xs h hn).mono ?_; rintro e w1 ⟨A1, n1, c1, rfl, hn1, ho1, hb1⟩)
    | (go_at_call 83; refine (join_any _ _ _ _ _ ho1.sl (digs_dg _) (by omega)).mono ?_; rintro e w2 ⟨A2, n2, c2, rfl, hn2, ho2, hb2⟩))
  go_ret
  rw [hv.out] at ho2
  exact Out.weaken (by omega) (Out.lift hb1 ⟨A2, n2, c2, rfl, hn2, ho2, hb2⟩)
theorem rof_any (w : World) (x : Int) (hx : W.Wd x) :
    Calls Tryz.prog 88 #[.int .u64 x] w (Out w 5 x) := by
  have hs := Sl.lit w [x] #[.int .u64 x] 1 rfl (Dg.one hx.1 hx.2) rfl (by omega)
  go_enter Tryz.func88, Tryz.ntmps88
  go_wp2_with (go_at_call 61; refine (rtrim_any _ _ _ _ _ hs (by omega)).mono ?_; rintro e w' ⟨A, n, c, rfl, hn, ho, hb⟩)
  go_ret
  refine Out.lift ((Below.refl _ w).alloc (Nat.le_refl _) _) ⟨A, n, c, rfl, hn, ?_, hb⟩
  simpa [val] using ho
namespace N
theorem radd_step {X Y zs : List Int} {c s : Int} {k : Nat} (hl : zs.length = k) (hs : s = c + lim X k + lim Y k) (h : val D zs + c * Q D k = lo D X k + lo D Y k) :
    val D (zs ++ [s % 65536]) + s / 65536 * Q D (k + 1) = lo D X (k + 1) + lo D Y (k + 1) := by
  rw [val_append, hl, lo_succ, lo_succ, Q_succ]
  show val D zs + Q D k * (s % 65536 + 65536 * 0) + s / 65536 * (Q D k * 65536) = _
  have e : s = s % 65536 + 65536 * (s / 65536) := by omega
  have e2 : s * Q D k = s % 65536 * Q D k + 65536 * (s / 65536) * Q D k := by rw [← Int.add_mul, ← e]
  have e3 : s * Q D k = c * Q D k + lim X k * Q D k + lim Y k * Q D k := by rw [hs, Int.add_mul, Int.add_mul]
  rw [Int.mul_zero, Int.add_zero, Int.mul_comm (Q D k) (s % 65536), Int.mul_comm (Q D k) 65536, ← Int.mul_assoc (s / 65536), Int.mul_comm (s / 65536) 65536]
  omega
end N
def RAddRel (w : World) (X Y : List Int) (M : Nat) (o c i : Value) (wr : World) : Prop :=
  ∃ (k : Nat) (zs : List Int) (q : Int) (A : Option Addr) (n cc : Nat), i = .int .i64 k ∧ c = .int .u64 q ∧ 0 ≤ q ∧ q ≤ 1 ∧ k ≤ M + 1 ∧ (q = 1 → k ≤ M) ∧ o = .slice A n cc ∧ n = k ∧ N.Own wr w.heap.size A n cc zs ∧ Dg D zs ∧
    val D zs + q * Q D k = lo D X k + lo D Y k ∧ Below w.heap.size w wr
/-- a round of the loop, whichever digits there are -/
theorem RAddRel.next {w w3 : World} {X Y : List Int} {M k : Nat} {zs : List Int} {q s : Int} {A3 : Option Addr} {c3 : Nat} (h1 : k ≤ M) (hs : s = q + lim X k + lim Y k) (h0 : 0 ≤ s) (h2 : s < 131072) (hM : k = M → s ≤ 1)
    (hl : zs.length = k) (hd : Dg D zs) (hv : val D zs + q * Q D k = lo D X k + lo D Y k) (ho : N.Own w3 w.heap.size A3 (k + 1) c3 (zs ++ [s % 65536])) (hb : Below w.heap.size w w3) :
    RAddRel w X Y M (.slice A3 (k + 1) c3) (.int .u64 (s / 65536)) (.int .i64 ((k : Int) + 1)) w3 :=
  ⟨k + 1, zs ++ [s % 65536], s / 65536, A3, k + 1, c3, by go_num, rfl, by omega, by omega, by omega, fun e => by by_cases hkm : k = M; have := hM hkm; omega; omega, rfl, rfl, ho, hd.append (Dg.one (by omega) (by show s % 65536 < 65536; omega)), radd_step hl hs hv, hb⟩
set_option maxHeartbeats 2000000 in
theorem radd_any (w : World) (A A' : Option Addr) (n c m d : Nat) (xs ys : List Int) (hx : Sl w A n c xs) (hy : Sl w A' m d ys) (hn : n ≤ 1000000) (hm : m ≤ 1000000) :
    Calls Tryz.prog 92 #[.slice A n c, .slice A' m d] w (Out w (4 * n + 4 * m + 2) (val B xs + val B ys)) := by
  have hvx := Lib.hid (digs_val (val_nonneg (b := B) (by decide) hx.dg))
  have hvy := Lib.hid (digs_val (val_nonneg (b := B) (by decide) hy.dg))
  go_enter Tryz.func92, Tryz.ntmps92
  go_wp2_with (first
    | (go_at_call_of 84 (Value.slice A n c); refine (digits_any _ _ _ _ xs hx (by omega)).mono ?_; rintro e w1 ⟨A1, n1, c1, rfl, hn1, ho1, hb1⟩; have hy1 := hy.below hb1)
    | (go_at_call_of 84 (Value.slice A' m d); refine (digits_any _ _ _ _ ys hy1 (by omega)).mono ?_; rintro e w2 ⟨A2, n2, c2, rfl, hn2, ho2, hb2⟩))
  have HX := Lib.hid (ho1.sl.below hb2)
  have HY := Lib.hid ho2.sl
  obtain ⟨X, hX⟩ : ∃ X, digs (val B xs) = X := ⟨_, rfl⟩
  obtain ⟨Y, hY⟩ : ∃ Y, digs (val B ys) = Y := ⟨_, rfl⟩
  have HDX := Lib.hid (digs_dg (val B xs))
  have HDY := Lib.hid (digs_dg (val B ys))
  rw [hX] at HX HDX hvx
  rw [hY] at HY HDY hvy
  have HB := Lib.hid (hb1.trans (hb2.mono hb1.size))
  clear hX hY hx hy hy1 ho1 ho2 hb1 hb2
  have hc1 := HX.out.cap
  have hc2 := HY.out.cap
  go_loopw [7, 8, 9] (fun o c i wr => RAddRel w2 X Y (n1 + n2) o c i wr) (fun _ _ i _ => n1 + n2 + 2 - (intOf i).toNat)
  case atStart => exact ⟨0, [], 0, none, 0, 0, rfl, rfl, by omega, by omega, by omega, fun _ => by omega, rfl, rfl, Own.nil_ _ _, Dg.nil, by rw [lo_zero, lo_zero]; simp [val], Below.refl _ _⟩
  case round =>
    obtain ⟨k, zs, q, A3, n3, c3, rfl, rfl, hq0, hq1, hkM, hkq, rfl, hnk, ho, hd, hv, hb⟩ := hrel
    obtain rfl : k = n3 := hnk.symm
    clear hnk
    obtain ⟨wi, rfl⟩ : ∃ wi : World, wi = wr := ⟨_, rfl⟩
    have hx0 := HDX.out.lim (by decide) k
    have hy0 := HDY.out.lim (by decide) k
    have hx1 : lim X k < 65536 := hx0.2
    have hy1 : lim Y k < 65536 := hy0.2
    have hxx := hx0.1
    have hyy := hy0.1
    have HO := Lib.hid ho
    have HV := Lib.hid hv
    have HKQ := Lib.hid hkq
    clear hx0 hy0 ho hv hkq
    have hoa := fun (u : Int) => HO.out.below ((Below.refl wi.heap.size wi).alloc (Nat.le_refl _) (.cells #[.int .u64 u] 72))
    have hsl := fun (u : Int) (h0 : 0 ≤ u) (h1 : u < 65536) => (Arr.lit wi [u] #[.int .u64 u] rfl).sl (n := 1) rfl (by unfold maxLen; omega) (Dg.one h0 (by show u < 18446744073709551616; omega))
    have HOA := Lib.hid hoa
    have HSL := Lib.hid hsl
    have hba := Lib.hid (fun (u : Int) => hb.alloc hb.size (.cells #[.int .u64 u] 72))
    clear hoa hsl
    by_cases hk1 : k < n1
    · by_cases hk2 : k < n2
      · obtain ⟨ad1, rfl, _, hcx⟩ := (HX.out.below hb).cell hk1
        obtain ⟨ad2, rfl, _, hcy⟩ := (HY.out.below hb).cell hk2
        have hs0 : 0 ≤ q + lim X k + lim Y k := by omega
        have hs1 : q + lim X k + lim Y k < 131072 := by omega
        have ho5 := HOA.out ((q + lim X k + lim Y k) % 65536)
        have hs5 := HSL.out ((q + lim X k + lim Y k) % 65536) (by omega) (by omega)
        have hb5 := hba.out ((q + lim X k + lim Y k) % 65536)
        go_wp2_with (first
          | (at_builtin; refine wp_app rfl _ _ _ rfl slU w2.heap.size rfl ho5 rfl hs5 (by omega) (by omega) hb5.size ?_; intro A6 c6 w6 hown6 _ _ hb6))
        go_roundw
        case rel =>
          have := RAddRel.next (M := n1 + n2) (X := X) (Y := Y) (s := q + lim X k + lim Y k) (q := q) (by omega) (by omega) (by omega) (by omega) (by omega) HO.out.len hd HV.out hown6 (hb5.trans hb6)
          exact this
        case measure => simp [intOf]; omega
      · obtain ⟨ad1, rfl, _, hcx⟩ := (HX.out.below hb).cell hk1
        have z2 := Lib.hid (lim_over Y k (by rw [HY.out.len]; omega))
        have hs0 : 0 ≤ q + lim X k := by omega
        have hs1 : q + lim X k < 131072 := by omega
        have ho5 := HOA.out ((q + lim X k) % 65536)
        have hs5 := HSL.out ((q + lim X k) % 65536) (by omega) (by omega)
        have hb5 := hba.out ((q + lim X k) % 65536)
        go_wp2_with (first
          | (at_builtin; refine wp_app rfl _ _ _ rfl slU w2.heap.size rfl ho5 rfl hs5 (by omega) (by omega) hb5.size ?_; intro A6 c6 w6 hown6 _ _ hb6))
        go_roundw
        case rel =>
          have := RAddRel.next (M := n1 + n2) (X := X) (Y := Y) (s := q + lim X k) (q := q) (by omega) (by rw [z2.out]; omega) (by omega) (by omega) (by omega) HO.out.len hd HV.out hown6 (hb5.trans hb6)
          exact this
        case measure => simp [intOf]; omega
    · by_cases hk2 : k < n2
      · have z1 := Lib.hid (lim_over X k (by rw [HX.out.len]; omega))
        obtain ⟨ad2, rfl, _, hcy⟩ := (HY.out.below hb).cell hk2
        have hs0 : 0 ≤ q + lim Y k := by omega
        have hs1 : q + lim Y k < 131072 := by omega
        have ho5 := HOA.out ((q + lim Y k) % 65536)
        have hs5 := HSL.out ((q + lim Y k) % 65536) (by omega) (by omega)
        have hb5 := hba.out ((q + lim Y k) % 65536)
        go_wp2_with (first
          | (at_builtin; refine wp_app rfl _ _ _ rfl slU w2.heap.size rfl ho5 rfl hs5 (by omega) (by omega) hb5.size ?_; intro A6 c6 w6 hown6 _ _ hb6))
        go_roundw
        case rel =>
          have := RAddRel.next (M := n1 + n2) (X := X) (Y := Y) (s := q + lim Y k) (q := q) (by omega) (by rw [z1.out]; omega) (by omega) (by omega) (by omega) HO.out.len hd HV.out hown6 (hb5.trans hb6)
          exact this
        case measure => simp [intOf]; omega
      · have z1 := Lib.hid (lim_over X k (by rw [HX.out.len]; omega))
        have z2 := Lib.hid (lim_over Y k (by rw [HY.out.len]; omega))
        rcases Int.lt_or_eq_of_le hq0 with hqp | hqp
        · obtain rfl : q = 1 := by omega
          have hkM2 : k ≤ n1 + n2 := HKQ.out rfl
          have ho5 := HOA.out 1
          have hs5 := HSL.out 1 (by omega) (by omega)
          have hb5 := hba.out 1
          go_wp2_with (first
            | (at_builtin; refine wp_app rfl _ _ _ rfl slU w2.heap.size rfl ho5 rfl hs5 (by omega) (by omega) hb5.size ?_; intro A6 c6 w6 hown6 _ _ hb6))
          go_roundw
          case rel =>
            have := RAddRel.next (M := n1 + n2) (X := X) (Y := Y) (s := (1 : Int)) (q := 1) (by omega) (by rw [z1.out, z2.out]; omega) (by omega) (by omega) (by omega) HO.out.len hd HV.out hown6 (hb5.trans hb6)
            exact this
          case measure => simp [intOf]; omega
        · obtain rfl : q = 0 := hqp.symm
          have hsl2 := HO.out.sl
          go_wp2_with (go_at_call 83; refine (join_any _ _ _ _ zs hsl2 hd (by omega)).mono ?_; rintro e w4 ⟨A4, n4, c4, rfl, hn4, ho4, hb4⟩)
          go_ret
          have e : val D zs = val B xs + val B ys := by
            have h := HV.out
            rw [lo_all D X k (by rw [HX.out.len]; omega), lo_all D Y k (by rw [HY.out.len]; omega), hvx.out, hvy.out] at h
            rw [← h]; simp
          rw [e] at ho4
          exact Out.weaken (by omega) (Out.lift (HB.out.trans (hb.mono HB.out.size)) ⟨A4, n4, c4, rfl, hn4, ho4, hb4⟩)
end Go.Proofs.YtfdpddlefobcpaaGreatDoor
/- What the document's own Cmp answers, over this translation. -/
namespace Go.Proofs.YtfdpddlefobcpaaGreatDoor
open Go.RowKit
set_option linter.unusedVariables false
set_option maxRecDepth 20000
open N
namespace N
theorem lt_of_len {X Y : List Int} (hX : Dg D X) (hY : Dg D Y) (hn : nn Y = Y.length) (h : X.length < Y.length) : val D X < val D Y := by
  have h1 := val_lt (b := D) (by decide) hX
  have h2 := val_ge (b := D) (by decide) hY (by omega)
  have h3 := Q_mono (b := D) (by decide) (show X.length ≤ nn Y - 1 by omega)
  omega
end N
set_option maxHeartbeats 2000000 in
theorem rcmp_any (w : World) (A A' : Option Addr) (n c m d : Nat) (xs ys : List Int) (hx : Sl w A n c xs) (hy : Sl w A' m d ys) (hn : n ≤ 1000000) (hm : m ≤ 1000000) :
    Calls Tryz.prog 89 #[.slice A n c, .slice A' m d] w fun e w' => e = .returned (.int .i64 (cmpI (val B xs) (val B ys))) ∧ Below w.heap.size w w' := by
  have hvx := Lib.hid (digs_val (val_nonneg (b := B) (by decide) hx.dg))
  have hvy := Lib.hid (digs_val (val_nonneg (b := B) (by decide) hy.dg))
  rcases Nat.lt_trichotomy (digs (val B xs)).length (digs (val B ys)).length with hl | hl | hl
  · have HL := Lib.hid hl
    clear hl
    go_enter Tryz.func89, Tryz.ntmps89
    go_wp2_with (first
      | (go_at_call_of 84 (Value.slice A n c); refine (digits_any _ _ _ _ xs hx (by omega)).mono ?_; rintro e w1 ⟨A1, n1, c1, rfl, hn1, ho1, hb1⟩; have hy1 := hy.below hb1)
      | (go_at_call_of 84 (Value.slice A' m d); refine (digits_any _ _ _ _ ys hy1 (by omega)).mono ?_; rintro e w2 ⟨A2, n2, c2, rfl, hn2, ho2, hb2⟩; have h5 : n1 < n2 := by { have := HL.out; rw [ho1.len, ho2.len] at this; exact this }; have h6 : ((n1 : Int) != (n2 : Int)) = true := by { simp; omega }))
    go_ret
    refine ⟨ret1 ?_, hb1.trans (hb2.mono hb1.size)⟩
    rw [cmpI_lt]
    rw [← hvx.out, ← hvy.out]
    exact lt_of_len (digs_dg _) (digs_dg _) (digs_nn _) HL.out
  · have HL := Lib.hid hl
    clear hl
    go_enter Tryz.func89, Tryz.ntmps89
    go_wp2_with (first
      | (go_at_call_of 84 (Value.slice A n c); refine (digits_any _ _ _ _ xs hx (by omega)).mono ?_; rintro e w1 ⟨A1, n1, c1, rfl, hn1, ho1, hb1⟩; have hy1 := hy.below hb1)
      | (go_at_call_of 84 (Value.slice A' m d); refine (digits_any _ _ _ _ ys hy1 (by omega)).mono ?_; rintro e w2 ⟨A2, n2, c2, rfl, hn2, ho2, hb2⟩; have h5 : n2 = n1 := by { have := HL.out; rw [ho1.len, ho2.len] at this; exact this.symm }; subst h5; have h6 : ((n2 : Int) != (n2 : Int)) = false := by { simp }))
    have HX := Lib.hid (ho1.sl.below hb2)
    have HY := Lib.hid ho2.sl
    obtain ⟨X, hX⟩ : ∃ X, digs (val B xs) = X := ⟨_, rfl⟩
    obtain ⟨Y, hY⟩ : ∃ Y, digs (val B ys) = Y := ⟨_, rfl⟩
    have HDX := Lib.hid (digs_dg (val B xs))
    have HDY := Lib.hid (digs_dg (val B ys))
    rw [hX] at HX HDX hvx
    rw [hY] at HY HDY hvy
    have HB := Lib.hid (hb1.trans (hb2.mono hb1.size))
    have hc1 := HX.out.cap
    have hc2 := HY.out.cap
    clear hX hY hx hy hy1 ho1 ho2 hb1 hb2
    go_loopw [7] (fun i wr => ∃ (r q : Nat), r ≤ n2 ∧ i = .int .i64 ((r : Int) - 1) ∧ (∀ j, r ≤ j → lim X j = lim Y j) ∧ wr = w2.drewN q) (fun i _ => (intOf i + 1).toNat)
    case atStart => exact ⟨n2, 0, Nat.le_refl _, rfl, fun j hj => by rw [lim_over X j (by rw [HX.out.len]; exact hj), lim_over Y j (by rw [HY.out.len]; exact hj)], rfl⟩
    case round =>
      obtain ⟨r, q, hr, rfl, hj, rfl⟩ := hrel
      have HJ := Lib.hid hj
      clear hj
      by_cases hr0 : 0 < r
      · obtain ⟨s, hs⟩ : ∃ s : Nat, (r : Int) - 1 = (s : Int) := ⟨r - 1, by omega⟩
        obtain ⟨ad, rfl, _, h1⟩ := HX.out.cell (k := s) (by omega)
        obtain ⟨ad', rfl, _, h2⟩ := HY.out.cell (k := s) (by omega)
        have hsn : s < n2 := by omega
        have HS := Lib.hid hs
        rw [hs]
        clear hs
        rcases Int.lt_trichotomy (lim X s) (lim Y s) with hq | hq | hq
        · have HQ := Lib.hid hq
          have hd1 : decide (lim X s < lim Y s) = true := decide_eq_true hq
          go_wp2
          go_quiet (fail)
          go_wp2
          go_ret
          refine ⟨ret1 ?_, HB.out.trans ⟨rfl, rfl, rfl, Nat.le_refl _, fun _ _ => rfl⟩⟩
          rw [cmpI_lt]
          rw [← hvx.out, ← hvy.out]
          exact lt_of_place (by decide) HDX.out HDY.out s (fun j hj => HJ.out j (by have := HS.out; omega)) HQ.out
        · have HQ := Lib.hid hq
          have hd1 : decide (lim X s < lim Y s) = false := decide_eq_false (by omega)
          have hd2 : decide (lim Y s < lim X s) = false := decide_eq_false (by omega)
          clear hq
          go_wp2
          go_quiet (fail)
          go_wp2
          go_quiet (fail)
          go_wp2
          go_roundw
          case rel => exact ⟨s, _, by omega, rfl, fun j hj => by
            by_cases hjs : j = s
            · rw [hjs]; exact HQ.out
            · exact HJ.out j (by have := HS.out; omega), rfl⟩
          case measure => simp [intOf]
        · have HQ := Lib.hid hq
          have hd1 : decide (lim X s < lim Y s) = false := decide_eq_false (by omega)
          have hd2 : decide (lim Y s < lim X s) = true := decide_eq_true hq
          go_wp2
          go_quiet (fail)
          go_wp2
          go_quiet (fail)
          go_wp2
          go_ret
          refine ⟨ret1 ?_, HB.out.trans ⟨rfl, rfl, rfl, Nat.le_refl _, fun _ _ => rfl⟩⟩
          rw [cmpI_gt]
          rw [← hvx.out, ← hvy.out]
          exact lt_of_place (by decide) HDY.out HDX.out s (fun j hj => (HJ.out j (by have := HS.out; omega)).symm) HQ.out
      · obtain rfl : r = 0 := by omega
        go_wp2
        go_ret
        refine ⟨ret1 ?_, HB.out.trans ⟨rfl, rfl, rfl, Nat.le_refl _, fun _ _ => rfl⟩⟩
        rw [cmpI_eq]
        rw [← hvx.out, ← hvy.out]
        exact val_of_lim D (fun j => HJ.out j (Nat.zero_le _))
  · have HL := Lib.hid hl
    clear hl
    go_enter Tryz.func89, Tryz.ntmps89
    go_wp2_with (first
      | (go_at_call_of 84 (Value.slice A n c); refine (digits_any _ _ _ _ xs hx (by omega)).mono ?_; rintro e w1 ⟨A1, n1, c1, rfl, hn1, ho1, hb1⟩; have hy1 := hy.below hb1)
      | (go_at_call_of 84 (Value.slice A' m d); refine (digits_any _ _ _ _ ys hy1 (by omega)).mono ?_; rintro e w2 ⟨A2, n2, c2, rfl, hn2, ho2, hb2⟩; have h5 : n2 < n1 := by { have := HL.out; rw [ho1.len, ho2.len] at this; exact this }; have h6 : ((n1 : Int) != (n2 : Int)) = true := by { simp; omega }))
    go_ret
    refine ⟨ret1 ?_, hb1.trans (hb2.mono hb1.size)⟩
    rw [cmpI_gt]
    rw [← hvx.out, ← hvy.out]
    exact lt_of_len (digs_dg _) (digs_dg _) (digs_nn _) HL.out
end Go.Proofs.YtfdpddlefobcpaaGreatDoor
/- What the document's own Sub answers, over this translation. -/
namespace Go.Proofs.YtfdpddlefobcpaaGreatDoor
open Go.RowKit
set_option linter.unusedVariables false
set_option maxRecDepth 20000
open N
theorem rsub_no (w : World) (A A' : Option Addr) (n c m d : Nat) (xs ys : List Int) (hx : Sl w A n c xs) (hy : Sl w A' m d ys) (hn : n ≤ 1000000) (hm : m ≤ 1000000) (hlt : val B xs < val B ys) :
    Calls Tryz.prog 90 #[.slice A n c, .slice A' m d] w fun e w' => e = .returned (.tuple #[.slice none 0 0, .int .i64 8]) ∧ Below w.heap.size w w' := by
  have HC := Lib.hid (cmpI_lt hlt)
  go_enter Tryz.func90, Tryz.ntmps90
  go_wp2_with (go_at_call 89; refine (rcmp_any _ _ _ _ _ _ _ xs ys hx hy hn hm).mono ?_; rintro e w1 ⟨rfl, hb1⟩; rw [HC.out])
  go_ret2
  exact ⟨rfl, hb1⟩
namespace N
theorem rsub_step {X Y zs : List Int} {q g p : Int} {k : Nat} (hl : zs.length = k) (hg : g - p * 65536 = lim X k - lim Y k - q) (h : val D zs - q * Q D k = lo D X k - lo D Y k) :
    val D (zs ++ [g]) - p * Q D (k + 1) = lo D X (k + 1) - lo D Y (k + 1) := by
  rw [val_append, hl, lo_succ, lo_succ, Q_succ]
  show val D zs + Q D k * (g + 65536 * 0) - p * (Q D k * 65536) = _
  have e : g = lim X k - lim Y k - q + p * 65536 := by omega
  have e2 : g * Q D k = lim X k * Q D k - lim Y k * Q D k - q * Q D k + p * 65536 * Q D k := by rw [e, Int.add_mul, Int.sub_mul, Int.sub_mul]
  rw [Int.mul_zero, Int.add_zero, Int.mul_comm (Q D k) g, Int.mul_comm (Q D k) 65536, ← Int.mul_assoc p]
  omega
theorem rsub_last {X Y zs : List Int} {q : Int} {n : Nat} (hX : Dg D X) (hY : Dg D Y) (hz : Dg D zs) (hl : zs.length = n) (hXl : X.length = n) (hle : val D Y ≤ val D X) (hq : 0 ≤ q) (h : val D zs - q * Q D n = lo D X n - lo D Y n) :
    val D zs = val D X - val D Y := by
  have e1 := val_lt (b := D) (by decide) hX
  rw [hXl] at e1
  rw [lo_all D X n (by omega)] at h
  have e2 : lo D Y n = val D Y := by
    rw [← (val_div (by decide) hY n).2]
    exact Int.emod_eq_of_lt (val_nonneg (by decide) hY) (by omega)
  rw [e2] at h
  have e3 := val_lt (b := D) (by decide) hz
  rw [hl] at e3
  have e4 := Q_pos (b := D) (by decide) n
  have : q = 0 := by
    apply Classical.byContradiction; intro hne
    have e6 : 1 * Q D n ≤ q * Q D n := Int.mul_le_mul_of_nonneg_right (by omega) (by omega)
    omega
  subst this
  omega
end N
def RSubRel (w : World) (X Y : List Int) (M : Nat) (o c i : Value) (wr : World) : Prop :=
  ∃ (k : Nat) (zs : List Int) (q : Int) (A : Option Addr) (n cc : Nat), i = .int .i64 k ∧ c = .int .u64 q ∧ 0 ≤ q ∧ q ≤ 1 ∧ k ≤ M ∧ o = .slice A n cc ∧ n = k ∧ N.Own wr w.heap.size A n cc zs ∧ Dg D zs ∧
    val D zs - q * Q D k = lo D X k - lo D Y k ∧ Below w.heap.size w wr
theorem RSubRel.next {w w3 : World} {X Y : List Int} {M k : Nat} {zs : List Int} {q g p : Int} {A3 : Option Addr} {c3 : Nat} (h1 : k < M) (hg : g - p * 65536 = lim X k - lim Y k - q) (h0 : 0 ≤ g) (h2 : g < 65536) (hp0 : 0 ≤ p) (hp1 : p ≤ 1)
    (hl : zs.length = k) (hd : Dg D zs) (hv : val D zs - q * Q D k = lo D X k - lo D Y k) (ho : N.Own w3 w.heap.size A3 (k + 1) c3 (zs ++ [g])) (hb : Below w.heap.size w w3) :
    RSubRel w X Y M (.slice A3 (k + 1) c3) (.int .u64 p) (.int .i64 ((k : Int) + 1)) w3 :=
  ⟨k + 1, zs ++ [g], p, A3, k + 1, c3, by go_num, rfl, by omega, by omega, by omega, rfl, rfl, ho, hd.append (Dg.one (by omega) (by show g < 65536; omega)), rsub_step hl hg hv, hb⟩
set_option maxHeartbeats 2000000 in
theorem rsub_yes (w : World) (A A' : Option Addr) (n c m d : Nat) (xs ys : List Int) (hx : Sl w A n c xs) (hy : Sl w A' m d ys) (hn : n ≤ 1000000) (hm : m ≤ 1000000) (hle : val B ys ≤ val B xs) :
    Calls Tryz.prog 90 #[.slice A n c, .slice A' m d] w (Out2 w (4 * n + 1) (val B xs - val B ys) 0) := by
  have hvx := Lib.hid (digs_val (val_nonneg (b := B) (by decide) hx.dg))
  have hvy := Lib.hid (digs_val (val_nonneg (b := B) (by decide) hy.dg))
  obtain ⟨cc, hcc, hc0⟩ : ∃ cc : Int, cmpI (val B xs) (val B ys) = cc ∧ 0 ≤ cc := by
    rcases Int.lt_or_eq_of_le hle with h | h
    · exact ⟨1, cmpI_gt h, by omega⟩
    · exact ⟨0, cmpI_eq h.symm, by omega⟩
  have HC := Lib.hid hcc
  have HLE := Lib.hid hle
  clear hcc hle
  go_enter Tryz.func90, Tryz.ntmps90
  go_wp2_with (first
    | (go_at_call 89; refine (rcmp_any _ _ _ _ _ _ _ xs ys hx hy hn hm).mono ?_; rintro e w0 ⟨rfl, hb0⟩; rw [HC.out]; have hx0 := hx.below hb0; have hy0 := hy.below hb0)
    | (go_at_call_of 84 (Value.slice A n c); refine (digits_any _ _ _ _ xs hx0 (by omega)).mono ?_; rintro e w1 ⟨A1, n1, c1, rfl, hn1, ho1, hb1⟩; have hy1 := hy0.below hb1)
    | (go_at_call_of 84 (Value.slice A' m d); refine (digits_any _ _ _ _ ys hy1 (by omega)).mono ?_; rintro e w2 ⟨A2, n2, c2, rfl, hn2, ho2, hb2⟩))
  have HX := Lib.hid (ho1.sl.below hb2)
  have HY := Lib.hid ho2.sl
  obtain ⟨X, hX⟩ : ∃ X, digs (val B xs) = X := ⟨_, rfl⟩
  obtain ⟨Y, hY⟩ : ∃ Y, digs (val B ys) = Y := ⟨_, rfl⟩
  have HDX := Lib.hid (digs_dg (val B xs))
  have HDY := Lib.hid (digs_dg (val B ys))
  rw [hX] at HX HDX hvx
  rw [hY] at HY HDY hvy
  have HB := Lib.hid ((hb0.trans (hb1.mono hb0.size)).trans (hb2.mono (Nat.le_trans hb0.size hb1.size)))
  clear hX hY hx hy hy1 ho1 ho2 hb1 hb2 hx0 hy0 hb0
  have hc1 := HX.out.cap
  have hc2 := HY.out.cap
  go_loopw [8, 9, 10] (fun o c i wr => RSubRel w2 X Y n1 o c i wr) (fun _ _ i _ => n1 - (intOf i).toNat)
  case atStart => exact ⟨0, [], 0, none, 0, 0, rfl, rfl, by omega, by omega, by omega, rfl, rfl, Own.nil_ _ _, Dg.nil, by rw [lo_zero, lo_zero]; simp [val], Below.refl _ _⟩
  case round =>
    obtain ⟨k, zs, q, A3, n3, c3, rfl, rfl, hq0, hq1, hkM, rfl, hnk, ho, hd, hv, hb⟩ := hrel
    obtain rfl : k = n3 := hnk.symm
    clear hnk
    obtain ⟨wi, rfl⟩ : ∃ wi : World, wi = wr := ⟨_, rfl⟩
    have hx0 := HDX.out.lim (by decide) k
    have hy0 := HDY.out.lim (by decide) k
    have hx1 : lim X k < 65536 := hx0.2
    have hy1 : lim Y k < 65536 := hy0.2
    have hxx := hx0.1
    have hyy := hy0.1
    have HO := Lib.hid ho
    have HV := Lib.hid hv
    clear hx0 hy0 ho hv
    have HOA := Lib.hid (fun (u : Int) => HO.out.below ((Below.refl wi.heap.size wi).alloc (Nat.le_refl _) (.cells #[.int .u64 u] 72)))
    have HSL := Lib.hid (fun (u : Int) (h0 : 0 ≤ u) (h1 : u < 65536) => (Arr.lit wi [u] #[.int .u64 u] rfl).sl (n := 1) rfl (by unfold maxLen; omega) (Dg.one h0 (by show u < 18446744073709551616; omega)))
    have hba := Lib.hid (fun (u : Int) => hb.alloc hb.size (.cells #[.int .u64 u] 72))
    by_cases hk1 : k < n1
    · obtain ⟨ad1, rfl, _, hcx⟩ := (HX.out.below hb).cell hk1
      by_cases hk2 : k < n2
      · obtain ⟨ad2, rfl, _, hcy⟩ := (HY.out.below hb).cell hk2
        by_cases hc : lim X k < q + lim Y k
        · have ho5 := HOA.out (lim X k + 65536 - (q + lim Y k))
          have hs5 := HSL.out (lim X k + 65536 - (q + lim Y k)) (by omega) (by omega)
          have hb5 := hba.out (lim X k + 65536 - (q + lim Y k))
          go_wp2_with (first
            | (at_builtin; refine wp_app rfl _ _ _ rfl slU w2.heap.size rfl ho5 rfl hs5 (by omega) (by omega) hb5.size ?_; intro A6 c6 w6 hown6 _ _ hb6))
          go_roundw
          case rel =>
            have := RSubRel.next (M := n1) (X := X) (Y := Y) (g := lim X k + 65536 - (q + lim Y k)) (p := 1) (q := q) hk1 (by omega) (by omega) (by omega) (by omega) (by omega) HO.out.len hd HV.out hown6 (hb5.trans hb6)
            exact this
          case measure => simp [intOf]; omega
        · have ho5 := HOA.out (lim X k - (q + lim Y k))
          have hs5 := HSL.out (lim X k - (q + lim Y k)) (by omega) (by omega)
          have hb5 := hba.out (lim X k - (q + lim Y k))
          go_wp2_with (first
            | (at_builtin; refine wp_app rfl _ _ _ rfl slU w2.heap.size rfl ho5 rfl hs5 (by omega) (by omega) hb5.size ?_; intro A6 c6 w6 hown6 _ _ hb6))
          go_roundw
          case rel =>
            have := RSubRel.next (M := n1) (X := X) (Y := Y) (g := lim X k - (q + lim Y k)) (p := 0) (q := q) hk1 (by omega) (by omega) (by omega) (by omega) (by omega) HO.out.len hd HV.out hown6 (hb5.trans hb6)
            exact this
          case measure => simp [intOf]; omega
      · have z2 := Lib.hid (lim_over Y k (by rw [HY.out.len]; omega))
        by_cases hc : lim X k < q
        · have ho5 := HOA.out (lim X k + 65536 - q)
          have hs5 := HSL.out (lim X k + 65536 - q) (by omega) (by omega)
          have hb5 := hba.out (lim X k + 65536 - q)
          go_wp2_with (first
            | (at_builtin; refine wp_app rfl _ _ _ rfl slU w2.heap.size rfl ho5 rfl hs5 (by omega) (by omega) hb5.size ?_; intro A6 c6 w6 hown6 _ _ hb6))
          go_roundw
          case rel =>
            have := RSubRel.next (M := n1) (X := X) (Y := Y) (g := lim X k + 65536 - q) (p := 1) (q := q) hk1 (by rw [z2.out]; omega) (by omega) (by omega) (by omega) (by omega) HO.out.len hd HV.out hown6 (hb5.trans hb6)
            exact this
          case measure => simp [intOf]; omega
        · have ho5 := HOA.out (lim X k - q)
          have hs5 := HSL.out (lim X k - q) (by omega) (by omega)
          have hb5 := hba.out (lim X k - q)
          go_wp2_with (first
            | (at_builtin; refine wp_app rfl _ _ _ rfl slU w2.heap.size rfl ho5 rfl hs5 (by omega) (by omega) hb5.size ?_; intro A6 c6 w6 hown6 _ _ hb6))
          go_roundw
          case rel =>
            have := RSubRel.next (M := n1) (X := X) (Y := Y) (g := lim X k - q) (p := 0) (q := q) hk1 (by rw [z2.out]; omega) (by omega) (by omega) (by omega) (by omega) HO.out.len hd HV.out hown6 (hb5.trans hb6)
            exact this
          case measure => simp [intOf]; omega
    · obtain rfl : k = n1 := by omega
      have hsl2 := HO.out.sl
      go_wp2_with (go_at_call 83; refine (join_any _ _ _ _ zs hsl2 hd (by omega)).mono ?_; rintro e w4 ⟨A4, n4, c4, rfl, hn4, ho4, hb4⟩)
      go_ret2
      have e : val D zs = val B xs - val B ys := by
        rw [← hvx.out, ← hvy.out]
        exact rsub_last HDX.out HDY.out hd HO.out.len HX.out.len (by rw [hvx.out, hvy.out]; exact HLE.out) hq0 HV.out
      rw [e] at ho4
      exact Out2.lift (HB.out.trans (hb.mono HB.out.size)) ⟨A4, n4, c4, rfl, by omega, ho4, hb4⟩
end Go.Proofs.YtfdpddlefobcpaaGreatDoor
/- What the document's own Small, Len and Bit answer, over this translation. -/
namespace Go.Proofs.YtfdpddlefobcpaaGreatDoor
open Go.RowKit
set_option linter.unusedVariables false
set_option maxRecDepth 20000
open N
namespace N
theorem Q_twoD (k : Nat) : Q D k = 2 ^ (16 * k) := by
  unfold Q
  rw [Int.pow_mul]; rfl
theorem nn_zeroD {n : Int} (h0 : 0 ≤ n) : (digs n).length = 0 ↔ n = 0 := by
  have := digs_len_le h0 0
  rw [Q_zero] at this
  omega
/-- the length of a value by its digits -/
theorem len_topD {v : Int} (h0 : 0 ≤ v) (h : 0 < (digs v).length) : W.len v = (((digs v).length - 1 : Nat) : Int) * 16 + W.len (lim (digs v) ((digs v).length - 1)) := by
  have hd := digs_dg v
  have hv := val_top D (digs v) (by rw [digs_nn]; exact h)
  have hl := lo_lt (by decide) hd ((digs v).length - 1)
  have ht := nn_top (digs v) (by rw [digs_nn]; exact h)
  rw [digs_nn] at hv ht
  rw [digs_val h0] at hv
  have hg := hd.lim (by decide) ((digs v).length - 1)
  generalize lim (digs v) ((digs v).length - 1) = x at *
  generalize (digs v).length - 1 = t at *
  obtain ⟨k, hk, h1, h2⟩ := len_spec x hg.1
  have hk0 : k ≠ 0 := by
    rintro rfl
    simp at h1; omega
  have h2' : 2 ^ (k - 1) ≤ x := by rcases h2 with h2 | h2; exact absurd h2 hk0; exact h2
  have hq := Q_pos (b := D) (by decide) t
  rw [hk, len_of' v (16 * t + k) h0]
  · omega
  · rw [hv, Int.pow_add, ← Q_twoD]
    have : (x + 1) * Q D t ≤ 2 ^ k * Q D t := Int.mul_le_mul_of_nonneg_right (by omega) (by omega)
    rw [Int.add_mul, Int.one_mul] at this
    rw [Int.mul_comm (Q D t)]; omega
  · right
    rw [hv, show 16 * t + k - 1 = 16 * t + (k - 1) by omega, Int.pow_add, ← Q_twoD, Int.mul_comm (Q D t)]
    have : 2 ^ (k - 1) * Q D t ≤ x * Q D t := Int.mul_le_mul_of_nonneg_right h2' (by omega)
    omega
/-- a place of a value, by its digit -/
theorem bit_limD {v : Int} (h0 : 0 ≤ v) (n : Nat) : lim (digs v) (n / 16) / 2 ^ (n % 16) % 2 = v / 2 ^ n % 2 := by
  rw [lim_div (by decide) (digs_dg v), Q_twoD, digs_val h0]
  have e : (2 : Int) ^ n = 2 ^ (16 * (n / 16)) * 2 ^ (n % 16) := by rw [← Int.pow_add]; congr 1; omega
  rw [e, ← Int.ediv_ediv_of_nonneg (Int.le_of_lt (W.pow_pos _))]
  generalize v / 2 ^ (16 * (n / 16)) = v
  have hr : n % 16 < 16 := Nat.mod_lt _ (by omega)
  generalize n % 16 = r at *
  have e2 : (D : Int) = 2 ^ r * (2 * 2 ^ (15 - r)) := by
    rw [← W.pow_succ, ← Int.pow_add, show r + (15 - r + 1) = 16 by omega]; rfl
  rw [e2]
  have hp := W.pow_pos r
  generalize (2 : Int) ^ (15 - r) = s
  generalize (2 : Int) ^ r = p at *
  have e3 := Int.mul_ediv_add_emod v (p * (2 * s))
  generalize v % (p * (2 * s)) = m at *
  generalize v / (p * (2 * s)) = q at *
  rw [← e3, show p * (2 * s) * q + m = m + p * (2 * (s * q)) by rw [Int.mul_assoc, Int.mul_assoc]; omega, Int.add_mul_ediv_left _ _ (by omega)]
  omega
end N
theorem rsmall_no (w : World) (A : Option Addr) (n c : Nat) (xs : List Int) (h : Sl w A n c xs) (hn : n ≤ 1099511627776) (hv : 18446744073709551616 ≤ val B xs) :
    Calls Tryz.prog 87 #[.slice A n c] w fun e w' => e = .returned (.tuple #[.int .u64 0, .bool false]) ∧ Below w.heap.size w w' := by
  have hlen : 1 < (limbs (val B xs)).length := by
    have := limbs_len_le (n := val B xs) (by omega) 1
    have e : Q B 1 = 18446744073709551616 := by unfold Q; rfl
    omega
  have HL := Lib.hid hlen
  clear hlen
  go_enter Tryz.func87, Tryz.ntmps87
  go_wp2_with (go_at_call 61; refine (rtrim_any _ _ _ _ xs h hn).mono ?_; rintro e w1 ⟨A1, n1, c1, rfl, hn1, ho1, hb1⟩; have h1 : 1 < n1 := by { have := ho1.len; have := HL.out; omega })
  go_ret2
  exact ⟨rfl, hb1⟩
theorem rsmall_yes (w : World) (A : Option Addr) (n c : Nat) (xs : List Int) (h : Sl w A n c xs) (hn : n ≤ 1099511627776) (hv : val B xs < 18446744073709551616) :
    Calls Tryz.prog 87 #[.slice A n c] w fun e w' => e = .returned (.tuple #[.int .u64 (val B xs), .bool true]) ∧ Below w.heap.size w w' := by
  have hg := val_nonneg (b := B) (by decide) h.dg
  obtain ⟨v, hV⟩ : ∃ v, val B xs = v := ⟨_, rfl⟩
  rw [hV] at hg hv ⊢
  rcases Int.lt_or_eq_of_le hg with hp | hp
  · have e1 := Lib.hid (limbs_lit [v] v (Dg.one hg hv) (by have : v ≠ 0 := by omega
                                                           simp [nn, this]) (by simp [val]))
    have HV := Lib.hid hV
    clear hV
    go_enter Tryz.func87, Tryz.ntmps87
    go_wp2_with (go_at_call 61; refine (rtrim_any _ _ _ _ xs h hn).mono ?_; rintro e w1 ⟨A1, n1, c1, rfl, hn1, ho1, hb1⟩; rw [HV.out, e1.out] at ho1; obtain rfl : n1 = 1 := ho1.len.symm; obtain ⟨ad, rfl, _, hcell0⟩ := ho1.sl.cell (k := 0) (by omega); have hcell : w1.cell? ad = some (.int .u64 v) := hcell0; clear hcell0)
    go_ret2
    exact ⟨rfl, hb1⟩
  · subst hp
    have HV := Lib.hid hV
    clear hV
    go_enter Tryz.func87, Tryz.ntmps87
    go_wp2_with (go_at_call 61; refine (rtrim_any _ _ _ _ xs h hn).mono ?_; rintro e w1 ⟨A1, n1, c1, rfl, hn1, ho1, hb1⟩; rw [HV.out, limbs_zero] at ho1; obtain rfl : n1 = 0 := ho1.len.symm)
    go_ret2
    exact ⟨rfl, hb1⟩
theorem rlen_any (w : World) (A : Option Addr) (n c : Nat) (xs : List Int) (h : Sl w A n c xs) (hn : n ≤ 1000000) :
    Calls Tryz.prog 93 #[.slice A n c] w fun e w' => e = .returned (.int .i64 (W.len (val B xs))) ∧ Below w.heap.size w w' := by
  have hg := val_nonneg (b := B) (by decide) h.dg
  obtain ⟨v, hV⟩ : ∃ v, val B xs = v := ⟨_, rfl⟩
  rw [hV] at hg ⊢
  have HV := Lib.hid hV
  clear hV
  by_cases h0 : (digs v).length = 0
  · have H2 := Lib.hid (by rw [(nn_zeroD hg).1 h0]; exact len_0 : W.len v = 0)
    have H0 := Lib.hid h0
    clear h0
    go_enter Tryz.func93, Tryz.ntmps93
    go_wp2_with (go_at_call 84; refine (digits_any _ _ _ _ xs h (by omega)).mono ?_; rintro e w1 ⟨A1, n1, c1, rfl, hn1, ho1, hb1⟩; rw [HV.out] at ho1; obtain rfl : n1 = 0 := by { have := ho1.len; have := H0.out; omega })
    go_ret
    exact ⟨ret1 H2.out.symm, hb1⟩
  · have H2 := Lib.hid (len_topD hg (by omega))
    have H0 := Lib.hid h0
    have HD := Lib.hid (digs_dg v)
    clear h0
    go_enter Tryz.func93, Tryz.ntmps93
    go_wp2_with (go_at_call 84; refine (digits_any _ _ _ _ xs h (by omega)).mono ?_; rintro e w1 ⟨A1, n1, c1, rfl, hn1, ho1, hb1⟩; rw [HV.out] at ho1; have hn0 : 0 < n1 := by { have := ho1.len; have := H0.out; omega }; obtain ⟨ad, rfl, _, hcell⟩ := ho1.sl.cell (k := n1 - 1) (by omega); have e1 : ((n1 : Int) - 1).toNat = n1 - 1 := by omega)
    obtain rfl : (digs v).length = n1 := ho1.len
    obtain ⟨t, hT⟩ : ∃ t, lim (digs v) ((digs v).length - 1) = t := ⟨_, rfl⟩
    have ht := HD.out.lim (by decide) ((digs v).length - 1)
    rw [hT] at H2 hcell ht
    rw [hT]
    have ht1 : t < 65536 := ht.2
    have ht0 := ht.1
    have htw : W.Wd t := ⟨ht0, by omega⟩
    obtain ⟨m, hM⟩ : ∃ m, (digs v).length = m := ⟨_, rfl⟩
    rw [hM] at hn0 hn1 H2 e1
    rw [hM]
    clear ht hT hM ho1 H0 HD hcell
    go_loop [4, 5] (fun l x => ∃ k : Nat, k ≤ 64 ∧ l = .int .i64 (16 * ((m : Int) - 1) + k) ∧ x = .int .u64 (t / 2 ^ k) ∧ (k = 0 ∨ 0 < t / 2 ^ (k - 1))) (fun _ x => (intOf x).toNat)
    case atStart => exact ⟨0, Nat.zero_le _, by simp, by simp, Or.inl rfl⟩
    case round =>
      obtain ⟨k, hk, rfl, rfl, hp⟩ := hrel
      have hd := W.div_le t k ht0
      have HD : Hid (t / 2 ^ (k + 1) = t / 2 ^ k / 2) := Lib.hid (W.div_div2 t k)
      have HP := Lib.hid hp
      clear hp
      by_cases h0 : 0 < t / 2 ^ k
      · have := W.div_pos_lt t k htw h0
        go_wp2
        go_round
        case rel => exact ⟨k + 1, by omega, by go_num, by rw [HD.out], Or.inr h0⟩
        case measure => first | (simp [intOf]; done) | (simp [intOf]; omega)
      · have HE : Hid (t / 2 ^ k = 0) := Lib.hid (by omega)
        go_wp2
        go_ret
        refine ⟨ret1 ?_, hb1⟩
        rw [H2.out, W.len_of t k ht0 HE.out HP.out]
        omega
theorem rbit_neg (w : World) (A : Option Addr) (n c : Nat) (xs : List Int) (h : Sl w A n c xs) (hn : n ≤ 1000000) (i : Int) (hi : i < 0) :
    Calls Tryz.prog 85 #[.slice A n c, .int .i64 i] w fun e w' => e = .returned (.bool false) ∧ Below w.heap.size w w' := by
  go_enter Tryz.func85, Tryz.ntmps85
  go_wp2_with (go_at_call 84; refine (digits_any _ _ _ _ xs h (by omega)).mono ?_; rintro e w1 ⟨A1, n1, c1, rfl, hn1, ho1, hb1⟩)
  go_ret
  exact ⟨rfl, hb1⟩
theorem rbit_any (w : World) (A : Option Addr) (n c : Nat) (xs : List Int) (h : Sl w A n c xs) (hn : n ≤ 1000000) (i : Nat) (hi : i ≤ 9223372036854775807) :
    Calls Tryz.prog 85 #[.slice A n c, .int .i64 i] w fun e w' => e = .returned (.bool (val B xs / 2 ^ i % 2 == 1)) ∧ Below w.heap.size w w' := by
  have hg := val_nonneg (b := B) (by decide) h.dg
  obtain ⟨v, hV⟩ : ∃ v, val B xs = v := ⟨_, rfl⟩
  rw [hV] at hg ⊢
  have HV := Lib.hid hV
  have HB := Lib.hid (bit_limD hg i)
  have HD := Lib.hid (digs_dg v)
  clear hV
  by_cases h0 : (digs v).length ≤ i / 16
  · have H0 := Lib.hid h0
    have H2 := Lib.hid (lim_over (digs v) (i / 16) h0)
    clear h0
    go_enter Tryz.func85, Tryz.ntmps85
    go_wp2_with (go_at_call 84; refine (digits_any _ _ _ _ xs h (by omega)).mono ?_; rintro e w1 ⟨A1, n1, c1, rfl, hn1, ho1, hb1⟩; rw [HV.out] at ho1; have h1 : n1 ≤ i / 16 := by { have := ho1.len; have := H0.out; omega })
    go_ret
    have hz : (v / 2 ^ i % 2 == 1) = false := by rw [← HB.out, H2.out]; simp
    rw [hz]
    exact ⟨rfl, hb1⟩
  · have H0 := Lib.hid h0
    have e1 : ((i : Int) / 16).toNat = i / 16 := by omega
    clear h0
    go_enter Tryz.func85, Tryz.ntmps85
    go_wp2_with (go_at_call 84; refine (digits_any _ _ _ _ xs h (by omega)).mono ?_; rintro e w1 ⟨A1, n1, c1, rfl, hn1, ho1, hb1⟩; rw [HV.out] at ho1; have h1 : i / 16 < n1 := by { have := ho1.len; have := H0.out; omega }; obtain ⟨ad, rfl, _, hcell⟩ := ho1.sl.cell (k := i / 16) h1)
    obtain ⟨t, hT⟩ : ∃ t, lim (digs v) (i / 16) = t := ⟨_, rfl⟩
    have ht := HD.out.lim (by decide) (i / 16)
    rw [hT] at HB hcell ht
    rw [hT]
    have ht1 : t < 65536 := ht.2
    have ht0 := ht.1
    clear ht hT ho1 H0 HD hcell
    go_loop [6, 7] (fun x j => ∃ k : Nat, k ≤ i % 16 ∧ j = .int .i64 k ∧ x = .int .u64 (t / 2 ^ k)) (fun _ j => i % 16 - (intOf j).toNat)
    case atStart => exact ⟨0, Nat.zero_le _, rfl, by simp⟩
    case round =>
      obtain ⟨k, hk, rfl, rfl⟩ := hrel
      have hd := W.div_le t k ht0
      have HD : Hid (t / 2 ^ (k + 1) = t / 2 ^ k / 2) := Lib.hid (W.div_div2 t k)
      by_cases hk2 : k < i % 16
      · go_wp2
        go_round
        case rel => exact ⟨k + 1, by omega, by go_num, by rw [HD.out]⟩
        case measure => first | (simp [intOf]; done) | (simp [intOf]; omega)
      · have HK : Hid (k = i % 16) := Lib.hid (by omega)
        go_wp2
        go_ret
        refine ⟨?_, hb1⟩
        rw [← HB.out, HK.out]
        rfl
end Go.Proofs.YtfdpddlefobcpaaGreatDoor
