/- What the document's own Ten (a natural divided by ten, over its digits of 16 bits) answers, over this translation. -/
import Derived.Test.YtbadbjmhmadbmaaDoorNatDigits
namespace Go.Proofs.YtbadbjmhmadbmaaDoor
open Go.RowKit
set_option linter.unusedVariables false
set_option maxRecDepth 20000
open N
namespace N
theorem val_drop (b : Int) (xs : List Int) (k : Nat) (h : k < xs.length) : val b (xs.drop k) = lim xs k + b * val b (xs.drop (k + 1)) := by
  rw [List.drop_eq_getElem_cons h, lim_lt xs k h]; rfl
theorem set_drop (zs : List Int) (k : Nat) (v : Int) (h : k < zs.length) : (zs.set k v).drop (k + 1) = zs.drop (k + 1) := by
  refine ext_lim (by simp) fun j => ?_
  rw [lim_drop, lim_drop, lim_set _ _ _ _ h, if_neg (by omega)]
theorem ten_arith (l h : Int) : (l + 65536 * h) / 10 = (h % 10 * 65536 + l) / 10 + 65536 * (h / 10) ∧ (l + 65536 * h) % 10 = (h % 10 * 65536 + l) % 10 := by omega
/-- one round: the digit at place k -/
theorem ten_step {xs zs : List Int} {k : Nat} (hk : k < xs.length) (hl : zs.length = xs.length) (hz : val D (zs.drop (k + 1)) = val D (xs.drop (k + 1)) / 10) :
    val D ((zs.set k ((val D (xs.drop (k + 1)) % 10 * 65536 + lim xs k) / 10)).drop k) = val D (xs.drop k) / 10 ∧ (val D (xs.drop (k + 1)) % 10 * 65536 + lim xs k) % 10 = val D (xs.drop k) % 10 := by
  obtain ⟨h1, h2⟩ := ten_arith (lim xs k) (val D (xs.drop (k + 1)))
  rw [val_drop D _ k (by rw [List.length_set]; omega), set_drop _ _ _ (by omega), lim_set _ _ _ _ (by omega), if_pos rfl, hz, val_drop D xs k hk]
  exact ⟨h1.symm, h2.symm⟩
end N
/-- the answer: the quotient's digits, in memory of the call's own, and what is left -/
def OutTen (W : World) (m : Nat) (v : Int) (e : Ending) (w' : World) : Prop :=
  ∃ A n c, e = .returned (.tuple #[.slice A n c, .int .u64 (v % 10)]) ∧ n ≤ m ∧ N.Own w' W.heap.size A n c (digs (v / 10)) ∧ Below W.heap.size W w'
theorem rten_any (w : World) (A : Option Addr) (n c : Nat) (xs : List Int) (h : Sl w A n c xs) (hd : Dg D xs) (hn : n ≤ 4398046511104) :
    Calls Tryd.prog 36 #[.slice A n c] w (OutTen w n (val D xs)) := by
  have hl := h.len
  have HH := Lib.hid h
  have HL := Lib.hid hl
  have HD := Lib.hid hd
  have hmk := make_run 22 slU n hn
  clear h hl hd
  go_enter Tryd.func36, Tryd.ntmps36
  go_wp2
  clear hmk
  go_loopw [5, 6] (fun o i wr => ∃ (k : Nat) (zs : List Int), i = .int .i64 ((k : Int) - 1) ∧ k ≤ n ∧ o = .int .u64 (val D (xs.drop k) % 10) ∧ zs.length = n ∧ Dg D zs ∧ val D (zs.drop k) = val D (xs.drop k) / 10 ∧ Arr wr w.heap.size zs ∧ Below w.heap.size w wr) (fun _ i _ => (intOf i + 1).toNat)
  case atStart =>
    refine ⟨n, List.replicate n 0, rfl, Nat.le_refl _, ?_, by simp, Dg.zeros (by decide) _, ?_, Arr.made w _, (Below.refl _ w).alloc (Nat.le_refl _) _⟩
    · rw [List.drop_of_length_le (by rw [HL.out]; exact Nat.le_refl _)]; rfl
    · rw [List.drop_of_length_le (by simp), List.drop_of_length_le (by rw [HL.out]; exact Nat.le_refl _)]; rfl
  case round =>
    obtain ⟨k, zs, rfl, hk, rfl, hzl, hzd, hv, hA, hb⟩ := hrel
    obtain ⟨wi, rfl⟩ : ∃ wi : World, wi = wr := ⟨_, rfl⟩
    by_cases h0 : 0 < k
    · obtain ⟨j, rfl⟩ : ∃ j, k = j + 1 := ⟨k - 1, by omega⟩
      obtain ⟨ad, rfl, _, hcell⟩ := (HH.out.below hb).cell (k := j) (by omega)
      have hcz := hA.cell (k := j) (by omega)
      have hfz := hA.frozen j
      obtain ⟨s1, s2⟩ := ten_step (xs := xs) (zs := zs) (k := j) (by rw [HL.out]; omega) (by rw [HL.out]; exact hzl) hv
      have hx := HD.out.lim (b := D) (by decide) j
      have hx1 : lim xs j < 65536 := hx.2
      have hx0 := hx.1
      obtain ⟨r, hr⟩ : ∃ r, val D (xs.drop (j + 1)) % 10 = r := ⟨_, rfl⟩
      have hr0 : 0 ≤ r := by rw [← hr]; exact Int.emod_nonneg _ (by omega)
      have hr1 : r < 10 := by rw [← hr]; exact Int.emod_lt_of_pos _ (by omega)
      rw [hr] at s1 s2 ⊢
      have HS1 := Lib.hid s1
      have HS2 := Lib.hid s2
      have HA := Lib.hid (hA.set j ((r * 65536 + lim xs j) / 10))
      have HB := Lib.hid hb
      have HZ := Lib.hid hzl
      have HZD := Lib.hid (hzd.set j (v := (r * 65536 + lim xs j) / 10) (by omega) (by show _ < (65536 : Int); omega))
      have e1 : ((j + 1 : Nat) : Int) - 1 = (j : Int) := by omega
      rw [e1]
      clear s1 s2 hA hb hzl hzd hv hx hr
      go_wp2
      go_roundw
      case rel => exact ⟨j, _, by congr 1, by omega, by rw [HS2.out], by rw [List.length_set]; exact HZ.out, HZD.out, HS1.out, HA.out, HB.out.setCell (Nat.le_refl _) _⟩
      case measure => simp [intOf]
    · obtain rfl : k = 0 := by omega
      have hsl := hA.sl hzl (by unfold maxLen; omega) hzd.up
      have HA := Lib.hid hA
      have HB := Lib.hid hb
      have HZ := Lib.hid hzl
      have HZD := Lib.hid hzd
      have hv' : val D zs = val D xs / 10 := by simpa using hv
      have HV := Lib.hid hv'
      have hnz := nn_le zs
      rw [hzl] at hnz
      have hE : N.Own wi w.heap.size (some ⟨w.heap.size, 0, none⟩) (nn zs) n (digs (val D xs / 10)) := by
        rw [← hv', digs_of hzd]
        exact ⟨hA.own (Nat.le_refl _) hzl (by unfold maxLen; omega) hnz, (hzd.take _).up⟩
      have HE := Lib.hid hE
      clear hA hb hzl hzd hv hv' hE
      go_wp2
      go_loop [8] (fun i => ∃ k : Nat, k ≤ n ∧ nn zs ≤ k ∧ i = .int .i64 k) (fun i => (intOf i).toNat)
      case atStart => exact ⟨n, Nat.le_refl _, hnz, rfl⟩
      case round =>
        obtain ⟨k, hk, hnk, rfl⟩ := hrel
        by_cases h0 : 0 < k
        · have hcell := HA.out.cell (k := k - 1) (by rw [HZ.out]; omega)
          by_cases hz : lim zs (k - 1) = 0
          · have hs := nn_step zs (k - 1) (by omega) hz
            rw [hz] at hcell
            clear hz
            have e1 : ((k : Int) - 1).toNat = k - 1 := by omega
            go_wp2
            go_round
            case rel => exact ⟨k - 1, by omega, hs, by congr 1; omega⟩
            case measure => simp [intOf]; omega
          · have hs := nn_eq zs k hnk (.inr hz)
            have e2 : (lim zs (k - 1) == 0) = false := by simpa using hz
            have HS := Lib.hid hs
            clear hs hz
            have e1 : ((k : Int) - 1).toNat = k - 1 := by omega
            go_wp2
            go_ret2
            rw [show k = nn zs from HS.out.symm]
            exact ⟨_, _, _, by simp, hnz, HE.out, HB.out⟩
        · obtain rfl : k = 0 := by omega
          have hs : nn zs = 0 := by omega
          have HS := Lib.hid hs
          clear hs
          go_wp2
          go_ret2
          have hE := HE.out
          rw [HS.out] at hE
          exact ⟨_, _, _, by simp, Nat.zero_le _, hE, HB.out⟩
end Go.Proofs.YtbadbjmhmadbmaaDoor
