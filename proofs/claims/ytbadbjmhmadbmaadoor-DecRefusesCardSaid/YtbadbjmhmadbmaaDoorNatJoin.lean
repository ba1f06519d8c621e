/- What the document's own Join answers, over this translation. -/
import Derived.Test.YtbadbjmhmadbmaaDoorNatDigits
import Derived.Test.YtbadbjmhmadbmaaDoorNatTell
namespace Go.Proofs.YtbadbjmhmadbmaaDoor
open Go.RowKit
set_option linter.unusedVariables false
set_option maxRecDepth 20000
open N
namespace N
theorem val_lim0 (b : Int) : ∀ ys : List Int, (∀ j, lim ys j = 0) → val b ys = 0
  | [], _ => rfl
  | y :: t, h => by
    unfold val
    have h0 := h 0
    rw [lim_cons_zero] at h0
    rw [h0, val_lim0 b t (fun j => by have := h (j + 1); rwa [lim_cons_succ] at this)]; simp
theorem lo_nn (b : Int) (xs : List Int) {k : Nat} (h : nn xs ≤ k) : lo b xs k = val b xs := by
  rw [val_split b xs k, val_lim0 b (xs.drop k) (fun j => by rw [lim_drop]; exact nn_zero xs _ (by omega))]; simp
theorem val_ge {b : Int} (hb : 1 < b) {xs : List Int} (h : Dg b xs) (h0 : 0 < nn xs) : Q b (nn xs - 1) ≤ val b xs := by
  rw [val_top b xs h0]
  have h1 := lo_lt (by omega) h (nn xs - 1)
  have h2 := nn_top xs h0
  have h3 := h.lim (by omega) (nn xs - 1)
  have h4 := Q_pos (show 0 < b by omega) (nn xs - 1)
  have h5 : 1 * Q b (nn xs - 1) ≤ lim xs (nn xs - 1) * Q b (nn xs - 1) := Int.mul_le_mul_of_nonneg_right (by omega) (by omega)
  omega
theorem Q_mono {b : Int} (hb : 1 ≤ b) {i j : Nat} (h : i ≤ j) : Q b i ≤ Q b j := by
  have e : Q b j = Q b i * Q b (j - i) := by rw [← Q_add]; congr 1; omega
  have h1 := Q_pos (show 0 < b by omega) i
  have h2 := Q_pos (show 0 < b by omega) (j - i)
  have h3 : Q b i * 1 ≤ Q b i * Q b (j - i) := Int.mul_le_mul_of_nonneg_left (by omega) (by omega)
  rw [e]; omega
theorem QD4 : Q D 4 = 18446744073709551616 := by unfold Q; decide
theorem QD3 : Q D 3 = 281474976710656 := by unfold Q; decide
/-- the joined limbs are the canonical ones -/
theorem join_full {ds zs : List Int} (hd : Dg D ds) (hz : Dg B zs) (hv : val B zs = val D ds) (h1 : nn ds ≤ 4 * zs.length) (h2 : 4 * zs.length < nn ds + 4) : zs = limbs (val D ds) := by
  rw [← hv, limbs_of hz]
  refine (tr_full ?_).symm
  have hle := nn_le zs
  by_cases h0 : zs.length = 0
  · omega
  · have hn : 0 < nn ds := by omega
    have h3 := val_ge (b := D) (by decide) hd hn
    have h4 : Q D (4 * (zs.length - 1)) ≤ Q D (nn ds - 1) := Q_mono (by decide) (by omega)
    rw [QD_four] at h4
    have h5 := limbs_len_le (val_nonneg (b := B) (by decide) hz) (zs.length - 1)
    rw [← nn_limbs hz, hv] at h5
    omega
theorem join_step {ds : List Int} {x V : Int} {s : Nat} (h : x * Q D (s + 1) + lo D ds (s + 1) = V) : (x * 65536 + lim ds s) * Q D s + lo D ds s = V := by
  rw [lo_succ, Q_succ] at h
  rw [← h, Int.add_mul, Int.mul_assoc, Int.mul_comm (65536 : Int)]
  show x * (Q D s * 65536) + _ + _ = x * (Q D s * 65536) + _
  omega
end N
def JoinOut (w : World) (ds : List Int) (o i : Value) (wr : World) : Prop :=
  ∃ (p : Nat) (zs : List Int) (A : Option Addr) (n c : Nat), i = .int .i64 p ∧ p = 4 * zs.length ∧ p < nn ds + 4 ∧ o = .slice A n c ∧ N.Own wr w.heap.size A n c zs ∧ val B zs = lo D ds p ∧ Below w.heap.size w wr
def JoinIn (ds : List Int) (p hi : Nat) (x k : Value) : Prop :=
  ∃ (r : Nat) (y : Int), k = .int .i64 ((p : Int) + r - 1) ∧ p + r ≤ hi ∧ x = .int .u64 y ∧ 0 ≤ y ∧ y < Q D (hi - p - r) ∧ y * Q D (p + r) + lo D ds (p + r) = lo D ds hi
set_option maxHeartbeats 1000000 in
theorem join_any (w : World) (A : Option Addr) (n c : Nat) (ds : List Int) (h : Sl w A n c ds) (hd : Dg D ds) (hn : n ≤ 4398046511104) :
    Calls Tryd.prog 37 #[.slice A n c] w (Out w (n + 1) (val D ds)) := by
  have hnn := nn_le ds
  rw [h.len] at hnn
  have hcap := h.cap
  have HH := Lib.hid h
  clear h
  go_enter Tryd.func37, Tryd.ntmps37
  go_wp2_with (go_at_call 55; refine (cut_any _ _ _ _ ds HH.out).mono ?_; rintro e w1 ⟨rfl, rfl⟩)
  go_loopw [3, 4] (fun o i wr => JoinOut w1 ds o i wr) (fun _ i _ => nn ds + 4 - (intOf i).toNat)
  case atStart => exact ⟨0, [], none, 0, 0, rfl, rfl, by omega, rfl, Own.nil_ _ _, (lo_zero D ds).symm, Below.refl _ _⟩
  case round =>
    obtain ⟨p, zs, A1, n1, c1, rfl, hp, hpn, rfl, ho, hv, hb⟩ := hrel
    obtain ⟨wo, rfl⟩ : ∃ wo : World, wo = wr := ⟨_, rfl⟩
    have hn1 := ho.len
    have hn1' : n1 ≤ 4398046511104 := by omega
    have HP := Lib.hid hp
    have HN1 := Lib.hid hn1
    have HV := Lib.hid hv
    have HO := Lib.hid ho
    clear hp hn1 hv ho
    by_cases hlt : p < nn ds
    · obtain ⟨hi, hhi, h1, h2, h3⟩ : ∃ hi : Nat, min (nn ds : Int) ((p : Int) + 4) = (hi : Int) ∧ p < hi ∧ hi ≤ p + 4 ∧ hi ≤ nn ds := ⟨min (nn ds) (p + 4), by omega, by omega, by omega, by omega⟩
      have HHI := Lib.hid hhi
      go_wp2
      clear hhi
      go_loop [5, 6] (fun x k => JoinIn ds p hi x k) (fun _ k => (intOf k + 1).toNat)
      case atStart =>
        refine ⟨hi - p, 0, by congr 1; omega, by omega, rfl, by omega, Q_pos (by decide) _, ?_⟩
        rw [show p + (hi - p) = hi by omega]; omega
      case round =>
        obtain ⟨r, y, rfl, hr, rfl, hy0, hy1, hy⟩ := hrel
        have HY := Lib.hid hy
        by_cases hr0 : 0 < r
        · obtain ⟨s, hs⟩ : ∃ s : Nat, (p : Int) + r - 1 = (s : Int) := ⟨p + r - 1, by omega⟩
          have hsl : s < n := by omega
          obtain ⟨ad, rfl, _, hcell⟩ := (HH.out.below hb).cell hsl
          have hlm := hd.lim (by decide) s
          have hlm1 : lim ds s < 65536 := hlm.2
          have hlm0 := hlm.1
          have hy3 : y < 281474976710656 := by
            have := Q_mono (b := D) (by decide) (show hi - p - r ≤ 3 by omega)
            rw [QD3] at this; omega
          have hnew : y * 65536 + lim ds s < Q D (hi - p - (r - 1)) := by
            have e : Q D (hi - p - (r - 1)) = Q D (hi - p - r) * 65536 := by rw [← Q_succ]; congr 1; omega
            rw [e]
            have : (y + 1) * 65536 ≤ Q D (hi - p - r) * 65536 := Int.mul_le_mul_of_nonneg_right (by omega) (by omega)
            omega
          have hsr : s + 1 = p + r := by omega
          have HS := Lib.hid (join_step (ds := ds) (x := y) (V := lo D ds hi) (s := s) (by rw [hsr]; exact hy))
          have HSS := Lib.hid hs
          have HNW := Lib.hid hnew
          clear hy hy1 hnew hlm
          rw [hs]
          clear hs
          have hge : p ≤ s := by have := HSS.out; omega
          go_wp2
          go_round
          case rel =>
            have := HSS.out
            exact ⟨r - 1, _, by congr 1; omega, by omega, rfl, by omega, HNW.out, by rw [show p + (r - 1) = s by omega]; exact HS.out⟩
          case measure => have := HSS.out; simp [intOf]
        · obtain rfl : r = 0 := by omega
          have hyB : y < 18446744073709551616 := by
            have := Q_mono (b := D) (by decide) (show hi - p - 0 ≤ 4 by omega)
            rw [QD4] at this; omega
          have hval : val B (zs ++ [y]) = lo D ds (p + 4) := by
            have e1 : lo D ds (p + 4) = lo D ds hi := by
              by_cases hh : hi = p + 4
              · rw [hh]
              · rw [lo_nn D ds (show nn ds ≤ p + 4 by have := HHI.out; omega), lo_nn D ds (show nn ds ≤ hi by have := HHI.out; omega)]
            rw [val_append, e1, ← hy, Nat.add_zero, HV.out, ← QD_four, HP.out]
            show _ + _ * (y + B * 0) = _
            rw [Int.mul_zero, Int.add_zero, Int.mul_comm]; omega
          have HVL := Lib.hid hval
          clear hy hy1 hval
          have hba : Below w1.heap.size w1 (wo.alloc (.cells #[.int .u64 y] 33)) := hb.alloc hb.size _
          have hoa := HO.out.below ((Below.refl wo.heap.size wo).alloc (Nat.le_refl _) (.cells #[.int .u64 y] 33))
          have hsl : Sl (wo.alloc (.cells #[.int .u64 y] 33)) (some ⟨wo.heap.size, 0, none⟩) 1 1 [y] := (Arr.lit wo [y] _ rfl).sl rfl (by unfold maxLen; omega) (Dg.one hy0 (by show y < 18446744073709551616; omega))
          go_wp2_with (first
            | (at_builtin; refine wp_app rfl _ _ _ rfl slNat w1.heap.size rfl hoa rfl hsl (by omega) (by omega) hba.size ?_; intro A3 c3 w3 hown3 _ _ hb3))
          go_roundw
          case rel => exact ⟨p + 4, zs ++ [y], A3, n1 + 1, c3, by go_num, by rw [List.length_append, List.length_singleton]; have := HP.out; omega, by omega, rfl, hown3, HVL.out, hba.trans hb3⟩
          case measure => simp [intOf]; omega
    · go_wp2
      go_ret
      refine ⟨A1, n1, c1, rfl, by have := HP.out; have := HN1.out; omega, ?_, hb⟩
      have hz := HO.out
      have e : zs = limbs (val D ds) := join_full hd hz.dg (by rw [HV.out]; exact lo_nn D ds (by omega)) (by have := HP.out; omega) (by have := HP.out; omega)
      rw [← e]
      exact hz
end Go.Proofs.YtbadbjmhmadbmaaDoor
