/- The document of layer 6: Div. -/
import Derived.Test.YtfdpddlefobcpaaGreatDoorRefRatI
import Derived.Test.YtfdpddlefobcpaaGreatDoorRefRatN
import Derived.Deep.RegionHeld3
namespace Go.Proofs.YtfdpddlefobcpaaGreatDoor
open Go.RowKit
set_option linter.unusedVariables false
set_option linter.unusedSimpArgs false
set_option maxRecDepth 20000
open N
open Go.Lib (decDigits nDigits decDigits_length nDigits_pos)
section
variable {w0 v0 w w' : World} {S O : List Ent} {T : List Blk} {A A' : Option Addr} {n c m d k k' K : Nat} {xs ys : List Int} {v u : Int}
theorem rbit_i (h : SC w0 v0 w S T O) (h1 : (⟨A, n, c, k, xs, v⟩ : Ent) ∈ S) (hk : k ≤ 200000) {i : Nat} (hi : i ≤ 9223372036854775807) {b : Bool} (hb : (v / 2 ^ i % 2 == 1) = b) :
    Calls Tryz.prog 85 #[.slice A n c, .int .i64 i] w fun e w' => e = .returned (.bool b) ∧ SC w0 v0 w' S T O := by
  obtain ⟨a1, a2, rfl⟩ := h.get h1
  subst hb
  exact (rbit_any w A n c xs a1 (by omega) i hi).mono fun e w' ⟨he, hb⟩ => ⟨he, h.below hb⟩
theorem rof_wrap (h : SC w0 v0 w S T O) {r : Int} (hw : IntKind.u64.wrap r = r) (hr : W.Wd r) (hK : r < Q B K) :
    Calls Tryz.prog 88 #[.int .u64 (IntKind.u64.wrap r)] w fun e w' => ∃ A n c, e = .returned (.slice A n c) ∧ SC w0 v0 w' (⟨A, n, c, K, limbs (r), r⟩ :: S) T (⟨A, n, c, K, limbs (r), r⟩ :: O) := by
  rw [hw]; exact rof_k h hr hK
theorem rlen_k (h : SC w0 v0 w S T O) (h1 : (⟨A, n, c, k, xs, v⟩ : Ent) ∈ S) (hk : k ≤ 200000) {J : Int} (hJ : W.len v = J) :
    Calls Tryz.prog 93 #[.slice A n c] w fun e w' => e = .returned (.int .i64 J) ∧ SC w0 v0 w' S T O := by
  obtain ⟨a1, a2, rfl⟩ := h.get h1
  subst hJ
  exact (rlen_any w A n c xs a1 (by omega)).mono fun e w' ⟨he, hb⟩ => ⟨he, h.below hb⟩
theorem rdigits_k (h : SC w0 v0 w S T O) (h1 : (⟨A, n, c, k, xs, v⟩ : Ent) ∈ S) (hk : k ≤ 200000) :
    Calls Tryz.prog 84 #[.slice A n c] w fun e w' => ∃ A1 n1 c1, e = .returned (.slice A1 n1 c1) ∧ n1 ≤ 4 * k ∧ v < 65536 ^ n1 ∧ SC w0 v0 w' S T O := by
  obtain ⟨a1, a2, rfl⟩ := h.get h1
  refine (digits_any w A n c xs a1 (by omega)).mono ?_
  rintro e w' ⟨A1, n1, c1, rfl, hn, ho, hb⟩
  have hv0 := val_nonneg (b := B) (by decide) a1.dg
  have h2 := val_lt (b := D) (by decide) (digs_dg (val B xs))
  rw [digs_val hv0, ho.len] at h2
  exact ⟨A1, n1, c1, rfl, by omega, h2, h.below hb⟩
theorem rjoin_k (h : SC w0 v0 w S T O) {g : Nat} {L N : Nat} (i : Nat) (hi : T[i]? = some ⟨g, uv (qd L N), 72⟩) (hL : L ≤ 4000000) (hN : N < 65536 ^ L) {r : Int} (hr : (N : Int) = r) (hK : r < Q B K) :
    Calls Tryz.prog 83 #[.slice (some ⟨g, 0, none⟩) L L] w fun e w' => ∃ A n c, e = .returned (.slice A n c) ∧ SC w0 v0 w' (⟨A, n, c, K, limbs r, r⟩ :: S) T (⟨A, n, c, K, limbs r, r⟩ :: O) := by
  have hB : BlkOk w ⟨g, uv (qd L N), 72⟩ := h.box _ (List.mem_of_getElem? hi)
  have hdg := qd_dg L N
  have hsl : Sl w (some ⟨g, 0, none⟩) L L (qd L N) := (show Arr w g (qd L N) from hB).sl (qd_len L N) (by unfold maxLen; omega) (fun x hx => ⟨(hdg x hx).1, by have : x < 65536 := (hdg x hx).2; show x < 18446744073709551616; omega⟩)
  subst hr
  have h9 := join_any w _ L L (qd L N) hsl hdg (by omega)
  rw [qd_val L N hN] at h9
  exact h9.mono fun e w' ho => h.rNK (by omega) hK ho
theorem tdiv_one {a b : Int} (ha : 0 ≤ a) (hb : 0 < b) (h : a < 18446744073709551616) : 0 ≤ a / b ∧ a / b < 18446744073709551616 ∧ 0 ≤ a % b ∧ a % b < 18446744073709551616 := by
  have h1 := Int.ediv_nonneg ha (Int.le_of_lt hb)
  have h2 := Int.ediv_le_self b ha
  have h3 := Int.emod_nonneg a (Int.ne_of_gt hb)
  have h4 : a % b ≤ a := by rw [Int.emod_def]; have := Int.mul_nonneg (Int.le_of_lt hb) h1; omega
  omega
theorem QB_one {K : Nat} (h : 1 ≤ K) : (18446744073709551616 : Int) ≤ Q B K := by
  have := QB_le h
  rwa [show Q B 1 = 18446744073709551616 by unfold Q; decide] at this
theorem QB_dbl (K : Nat) : 2 * Q B K ≤ Q B (K + 1) := by
  have h1 : Q B (K + 1) = Q B K * 18446744073709551616 := by unfold Q; rw [Int.pow_succ]
  have h2 := Q_pos (b := B) (by decide) K
  omega
theorem lt_two_16 {va : Int} {L : Nat} (h : va < 65536 ^ L) : va < 2 ^ (16 * L) := by rwa [Int.pow_mul]
theorem len_16 {va : Int} {L : Nat} (h0 : 0 ≤ va) (h : va < 65536 ^ L) : ∃ J : Nat, W.len va = J ∧ va < 2 ^ J ∧ J ≤ 16 * L := by
  obtain ⟨j, e1, e2, e3⟩ := len_spec va h0
  refine ⟨j, e1, e2, ?_⟩
  apply Classical.byContradiction; intro hc
  have e4 : 2 ^ (j - 1) ≤ va := by rcases e3 with e3 | e3; omega; exact e3
  have h5 := lt_two_16 h
  have e6 : (2 : Int) ^ (16 * L) ≤ 2 ^ (j - 1) := by rw [← W.cast_pow, ← W.cast_pow]; exact Int.ofNat_le.2 (Nat.pow_le_pow_right (by omega) (by omega))
  omega
end
/-- the digits of the quotient so far -/
theorem quo_no {q : Int} {i : Nat} (hq : 0 ≤ q) : q.toNat * 2 ^ (i + 1) = (q + q).toNat * 2 ^ i := by
  obtain ⟨m, rfl⟩ := Int.eq_ofNat_of_zero_le hq
  rw [show ((m : Int) + m).toNat = 2 * m by omega, show ((m : Nat) : Int).toNat = m from rfl, Nat.pow_succ]
  rw [Nat.mul_comm (2 ^ i) 2, ← Nat.mul_assoc, Nat.mul_comm m 2]
theorem quo_yes {q : Int} {i : Nat} (hq : 0 ≤ q) : q.toNat * 2 ^ (i + 1) + 2 ^ i = (q + q + 1).toNat * 2 ^ i := by
  obtain ⟨m, rfl⟩ := Int.eq_ofNat_of_zero_le hq
  rw [show ((m : Int) + m + 1).toNat = 2 * m + 1 by omega, show ((m : Nat) : Int).toNat = m from rfl, Nat.pow_succ, Nat.add_mul, Nat.one_mul]
  rw [Nat.mul_comm (2 ^ i) 2, ← Nat.mul_assoc, Nat.mul_comm m 2]
set_option maxHeartbeats 4000000 in
theorem rdiv_small {w : World} {A A' : Option Addr} {n c m d K : Nat} {xs ys : List Int} (h : Sl w A n c xs) (h' : Sl w A' m d ys) (hn : n ≤ K) (hm : m ≤ K) (hK1 : 1 ≤ K) (hK : K ≤ 1000) (hb : 0 < val B ys) (hva64 : val B xs < 18446744073709551616) (hvb64 : val B ys < 18446744073709551616) : Calls Tryz.prog 63 #[.slice A n c, .slice A' m d] w fun e w' => ∃ A1 n1 c1 x, e = .returned (.tuple #[.slice A1 n1 c1, x]) ∧ n1 ≤ K ∧ N.Own w' w.heap.size A1 n1 c1 (limbs (val B xs / val B ys)) ∧ Below w.heap.size w w' := by
  have pa := h.nn0
  have hvK : val B xs < Q B K := Int.lt_of_lt_of_le h.lt (QB_le hn)
  have huK : val B ys < Q B K := Int.lt_of_lt_of_le h'.lt (QB_le hm)
  obtain ⟨va, hva⟩ : ∃ x, val B xs = x := ⟨_, rfl⟩
  obtain ⟨vb, hvb⟩ : ∃ x, val B ys = x := ⟨_, rfl⟩
  have hS := Lib.hid (((SC.start w).old (k := K) h' hm hvb).old (k := K) h hn hva)
  rw [hva] at hvK pa hva64 ⊢
  rw [hvb] at huK hb hvb64 ⊢
  clear h h' hva hvb
  have hy0 : (vb == 0) = false := by simp; omega
  have hyn : vb ≠ 0 := by omega
  have hqb := QB_one hK1
  obtain ⟨hq0, hq1, hr0, hr1⟩ := tdiv_one pa hb hva64
  have hqd : Int.tdiv va vb = va / vb := Int.tdiv_eq_ediv_of_nonneg pa
  have hqm : Int.tmod va vb = va % vb := Int.tmod_eq_emod_of_nonneg pa
  obtain ⟨q, hq⟩ : ∃ q, va / vb = q := ⟨_, rfl⟩
  obtain ⟨r, hr⟩ : ∃ r, va % vb = r := ⟨_, rfl⟩
  rw [hq] at hq0 hq1 hqd ⊢
  rw [hr] at hr0 hr1 hqm
  go_enter Tryz.func63, Tryz.ntmps63
  go_wp2_with fail
  go_at_call 87
  with_reducible refine (rsmall_y hS.out (by repeat (first | exact ms | apply mo)) (by omega) (q := va) rfl hva64).mono ?_
  rintro e v1 ⟨rfl, h1⟩
  clear hS; have hS := Lib.hid h1; clear h1
  go_wp2_with fail
  go_at_call 87
  with_reducible refine (rsmall_y hS.out (by repeat (first | exact ms | apply mo)) (by omega) (q := vb) rfl hvb64).mono ?_
  rintro e v2 ⟨rfl, h1⟩
  clear hS; have hS := Lib.hid h1; clear h1
  go_wp2_with fail
  have HDq := Lib.hid (show W.Wd q from ⟨by omega, by show _ < (18446744073709551616 : Int); omega⟩)
  have HDr := Lib.hid (show W.Wd r from ⟨by omega, by show _ < (18446744073709551616 : Int); omega⟩)
  have HWQ := Lib.hid (show IntKind.u64.wrap q = q by rw [IntKind.wrap_u64]; omega)
  have HWR := Lib.hid (show IntKind.u64.wrap r = r by rw [IntKind.wrap_u64]; omega)
  have h1 := hS.out.drew
  clear hS; have hS := Lib.hid h1; clear h1
  go_region_with (first
    | (go_at_call 88; (with_reducible refine (rof_wrap (K := K) (r := q) hS.out HWQ.out HDq.out (by omega)).mono ?_); rintro e w' ⟨Aq, nq, cq, rfl, h1⟩; clear hS; have hS := Lib.hid h1; clear h1)
    | (go_at_call 88; (with_reducible refine (rof_wrap (K := K) (r := r) hS.out HWR.out HDr.out (by omega)).mono ?_); rintro e w' ⟨Ar, nr, cr, rfl, h1⟩; clear hS; have hS := Lib.hid h1; clear h1)
    | (go_at_call 88; (with_reducible refine (rof_k (K := K) (r := q) hS.out HDq.out (by omega)).mono ?_); rintro e w' ⟨Aq, nq, cq, rfl, h1⟩; clear hS; have hS := Lib.hid h1; clear h1)
    | (go_at_call 88; (with_reducible refine (rof_k (K := K) (r := r) hS.out HDr.out (by omega)).mono ?_); rintro e w' ⟨Ar, nr, cr, rfl, h1⟩; clear hS; have hS := Lib.hid h1; clear h1))
  all_goals (go_wp2; go_ret2; exact ⟨_, _, _, _, rfl, own_len (hS.out.own _ (show (⟨Aq, nq, cq, K, limbs q, q⟩ : Ent) ∈ _ from (by repeat (first | exact ms | apply mo)))) rfl hq0 (by omega), hS.out.own _ (show (⟨Aq, nq, cq, K, limbs q, q⟩ : Ent) ∈ _ from (by repeat (first | exact ms | apply mo))), hS.out.bl⟩)
set_option maxRecDepth 100000 in
set_option maxHeartbeats 4000000 in
theorem rdiv_b1 {w : World} {A A' : Option Addr} {n c m d K : Nat} {xs ys : List Int} (h : Sl w A n c xs) (h' : Sl w A' m d ys) (hn : n ≤ K) (hm : m ≤ K) (hK1 : 1 ≤ K) (hK : K ≤ 1000) (hb : 0 < val B ys) (hsa : 18446744073709551616 ≤ val B xs) (hsb : val B ys < 18446744073709551616) : Calls Tryz.prog 63 #[.slice A n c, .slice A' m d] w fun e w' => ∃ A1 n1 c1 x, e = .returned (.tuple #[.slice A1 n1 c1, x]) ∧ n1 ≤ K ∧ N.Own w' w.heap.size A1 n1 c1 (limbs (val B xs / val B ys)) ∧ Below w.heap.size w w' := by
  have pa := h.nn0
  have hvK : val B xs < Q B K := Int.lt_of_lt_of_le h.lt (QB_le hn)
  have huK : val B ys < Q B K := Int.lt_of_lt_of_le h'.lt (QB_le hm)
  obtain ⟨va, hva⟩ : ∃ x, val B xs = x := ⟨_, rfl⟩
  obtain ⟨vb, hvb⟩ : ∃ x, val B ys = x := ⟨_, rfl⟩
  have hS := Lib.hid (((SC.start w).old (k := K) h' hm hvb).old (k := K) h hn hva)
  rw [hva] at hvK pa hsa ⊢
  rw [hvb] at huK hb hsb ⊢
  clear h h' hva hvb
  go_enter Tryz.func63, Tryz.ntmps63
  go_wp2_with fail
  go_at_call 87
  with_reducible refine (rsmall_n hS.out (by repeat (first | exact ms | apply mo)) (by omega) hsa).mono ?_
  rintro e v1 ⟨rfl, h1⟩
  clear hS; have hS := Lib.hid h1; clear h1
  go_wp2_with fail
  go_at_call 87
  with_reducible refine (rsmall_y hS.out (by repeat (first | exact ms | apply mo)) (by omega) (q := vb) rfl hsb).mono ?_
  rintro e v2 ⟨rfl, h1⟩
  clear hS; have hS := Lib.hid h1; clear h1
  go_wp2_with fail
  go_at_call 84
  with_reducible refine (rdigits_k hS.out (by repeat (first | exact ms | apply mo)) (by omega)).mono ?_
  rintro e v3 ⟨Ad, L, cd, rfl, hL, hva16, h1⟩
  clear hS; have hS := Lib.hid h1; clear h1
  obtain ⟨J, hJ, hJl, hJ16⟩ := len_16 pa hva16
  have hw1 : IntKind.i64.wrap ((L : Int) + 1) = (L : Int) + 1 := by rw [IntKind.wrap_i64]; omega
  have hmk : ∀ W : World, (Instr.makeSlice 57 (.int .i64 ((L : Int) + 1)) (.int .i64 ((L : Int) + 1))).run Tryz.prog W = .ok (.slice (some ⟨W.heap.size, 0, none⟩) (L + 1) (L + 1)) (W.alloc (.cells (madeCells #[.int .u64 0] (L + 1)) 72)) := fun W => make_run _ slU (L + 1) (by omega) W
  have HI0 := Lib.hid (show RdInv va vb J 0 0 from ⟨by omega, by omega, hb, by rw [Int.ediv_eq_zero_of_lt pa hJl]; simp⟩)
  have HV16 := Lib.hid hva16
  have HJ := Lib.hid hJ
  have hj1 : IntKind.i64.wrap ((J : Int) - 1) = (J : Int) - 1 := by rw [IntKind.wrap_i64]; omega
  clear hva16 hJ hJl
  go_wp2_with fail
  clear hmk hw1
  generalize hwa : World.alloc v3 _ = v4
  obtain ⟨g, hg⟩ : ∃ g, v3.heap.size = g := ⟨_, rfl⟩
  have h1 := hS.out.boxed (vs := uv (qd (L + 1) 0)) (cs := madeCells #[Value.int .u64 0] (L + 1)) (by rw [zeros_row, qd_zero]) hwa
  rw [hg] at h1 ⊢
  clear hwa hg
  clear hS; have hS := Lib.hid h1; clear h1
  go_at_call 93
  with_reducible refine (rlen_k hS.out (by repeat (first | exact ms | apply mo)) (by omega) HJ.out).mono ?_
  rintro e v5 ⟨rfl, h1⟩
  clear hS; have hS := Lib.hid h1; clear h1
  go_wp2_with fail
  clear hj1
  go_loopw [11, 12] (fun rs is wr => ∃ (j : Nat) (t q r : Int) (A2 : Option Addr) (n2 c2 : Nat), t + 1 = (j : Int) ∧ j ≤ 16 * L ∧ rs = .slice A2 n2 c2 ∧ is = .int .i64 t ∧ RdInv va vb j q r ∧
    SC w w wr [⟨A2, n2, c2, K + 1, limbs r, r⟩, ⟨A, n, c, K, xs, va⟩, ⟨A', m, d, K, ys, vb⟩] [⟨g, uv (qd (L + 1) (q.toNat * 2 ^ j)), 72⟩] []) (fun _ is _ => (intOf is + 1).toNat)
  case atStart => exact ⟨J, _, 0, 0, _, _, _, by omega, hJ16, rfl, rfl, HI0.out, by rw [limbs_zero, show (0 : Int).toNat * 2 ^ J = 0 by simp]; exact (hS.out.none_.re0 (k := K + 1))⟩
  case round =>
    obtain ⟨j, t, q, r, A2, n2, c2, ht, hj, rfl, rfl, hI, hst⟩ := hrel
    clear hS HI0
    have hS := Lib.hid hst
    clear hst
    by_cases h0t : 0 ≤ t
    · obtain ⟨i, rfl⟩ := Int.eq_ofNat_of_zero_le h0t
      obtain rfl : j = i + 1 := by omega
      have q0 := hI.1
      have r0 := hI.2.1
      have rb := hI.2.2.1
      have hqd := QB_dbl K
      have HQ1 := Lib.hid (show r + r < Q B (K + 1) by omega)
      have HQ2 := Lib.hid (show r + r + 1 < Q B (K + 1) by omega)
      have hti : IntKind.i64.wrap ((i : Int) - 1) = (i : Int) - 1 := by rw [IntKind.wrap_i64]; omega
      clear ht h0t
      by_cases hbit : va / 2 ^ i % 2 = 1
      · by_cases hge : vb ≤ r + r + 1
        · skip
          have hbt : va / 2 ^ i % 2 = 1 := hbit
          have HBT := Lib.hid (show (va / 2 ^ i % 2 == 1) = true by rw [hbt]; rfl)
          have HI := Lib.hid (hI.yes hb hbt (by omega) (by omega))
          obtain ⟨cc, hcc, hc0⟩ : ∃ cc : Int, cmpI (r + r + 1) vb = cc ∧ 0 ≤ cc := by
            rcases Int.lt_or_eq_of_le (show vb ≤ r + r + 1 by omega) with h | h
            · exact ⟨1, cmpI_gt h, by omega⟩
            · exact ⟨0, cmpI_eq h.symm, by omega⟩
          have HC := Lib.hid hcc
          clear hcc hbt hI hbit
          obtain ⟨p, s, his, hs16⟩ : ∃ p s : Nat, i = 16 * p + s ∧ s < 16 := ⟨i / 16, i % 16, by omega, by omega⟩
          have hm16 : (i : Int) % 16 = (s : Int) := by omega
          have hd16 : (i : Int) / 16 = (p : Int) := by omega
          have hm16' : Int.tmod (i : Int) 16 = (s : Int) := by rw [Int.tmod_eq_emod_of_nonneg (by omega)]; exact hm16
          have hd16' : Int.tdiv (i : Int) 16 = (p : Int) := by rw [Int.tdiv_eq_ediv_of_nonneg (by omega)]; exact hd16
          have hpL : p < L + 1 := by omega
          have HIS := Lib.hid his
          clear his
          go_wp2_with (first
            | (go_at_call 92; (with_reducible refine (radd_k (K := K + 1) (r := r + r) hS.out (by repeat (first | exact ms | apply mo)) (by omega) (by repeat (first | exact ms | apply mo)) (by omega) rfl HQ1.out).mono ?_); rintro e w' ⟨A3, n3, c3, rfl, h1⟩; clear hS; have hS := Lib.hid h1; clear h1)
            | (go_at_call 85; (with_reducible refine (rbit_i hS.out (by repeat (first | exact ms | apply mo)) (by omega) (by omega) HBT.out).mono ?_); rintro e w' ⟨rfl, h1⟩; clear hS; have hS := Lib.hid h1; clear h1)
            | (go_at_call 92; (with_reducible refine (radd_k (K := K + 1) (r := r + r + 1) (v := r + r) (u := 1) (hS.out.lit1 1 (by decide)) (by repeat (first | exact ms | apply mo)) (by omega) (by repeat (first | exact ms | apply mo)) (by omega) rfl HQ2.out).mono ?_); rintro e w' ⟨A4, n4, c4, rfl, h1⟩; clear hS; have hS := Lib.hid h1; clear h1)
            | (go_at_call 89; (with_reducible refine (rcmp_k hS.out (by repeat (first | exact ms | apply mo)) (by omega) (by repeat (first | exact ms | apply mo)) (by omega) HC.out).mono ?_); rintro e w' ⟨rfl, h1⟩; clear hS; have hS := Lib.hid h1; clear h1)
            | (go_at_call 90; (with_reducible refine (rsub_k (K := K + 1) (r := r + r + 1 - vb) hS.out (by repeat (first | exact ms | apply mo)) (by omega) (by repeat (first | exact ms | apply mo)) (by omega) (by omega) rfl (by omega)).mono ?_); rintro e w' ⟨A5, n5, c5, rfl, h1⟩; clear hS; have hS := Lib.hid h1; clear h1))
          go_loop [13, 14] (fun bt kk => ∃ t : Nat, t ≤ s ∧ kk = .int .i64 t ∧ bt = .int .u64 ((2 ^ t : Nat) : Int)) (fun _ kk => s - (intOf kk).toNat)
          case atStart => exact ⟨0, by omega, rfl, rfl⟩
          case round =>
            obtain ⟨t, htl, rfl, rfl⟩ := hrel
            have hp64 : 2 ^ t ≤ 2 ^ 16 := Nat.pow_le_pow_right (by decide) (by omega)
            obtain ⟨pt, hpt⟩ : ∃ x : Nat, 2 ^ t = x := ⟨_, rfl⟩
            have HPT := Lib.hid hpt
            rw [hpt] at hp64 ⊢
            clear hpt
            by_cases hlt : t < s
            · have hw2 : IntKind.u64.wrap (2 * (pt : Int)) = 2 * (pt : Int) := by rw [IntKind.wrap_u64]; omega
              go_wp2
              go_round
              case rel => exact ⟨t + 1, by omega, by go_num, by rw [Nat.pow_succ, HPT.out]; congr 1; omega⟩
              case measure => simp [intOf]; omega
            · obtain rfl : t = s := by omega
              obtain ⟨hds, hdr⟩ := digit_set (M := q.toNat) HIS.out hs16
              have hqs := qd_set (M := q.toNat) HIS.out hs16 hpL
              obtain ⟨dg, hdg⟩ : ∃ x : Nat, q.toNat * 2 ^ (i + 1) / 65536 ^ p % 65536 = x := ⟨_, rfl⟩
              have hcell := hS.out.cell 0 p rfl (show (uv (qd (L + 1) (q.toNat * 2 ^ (i + 1))))[p]? = some (.int .u64 (dg : Int)) by
                rw [uv_get _ _ (by rw [qd_len]; exact hpL)]; unfold lim; rw [List.getD_eq_getElem?_getD, qd_get hpL, hdg]; rfl)
              have hfz := hS.out.frs 0 rfl p
              rw [hdg, HPT.out] at hdr hqs
              rw [quo_yes q0] at hqs
              have hw3 : IntKind.u64.wrap ((dg : Int) + (pt : Int)) = (dg : Int) + (pt : Int) := by rw [IntKind.wrap_u64]; omega
              have hput := hS.out.put 0 p rfl (hS.out.ge_ 0 rfl) (.int .u64 ((dg : Int) + (pt : Int)))
              rw [List.set_cons_zero, uv_set, show (dg : Int) + (pt : Int) = ((dg + pt : Nat) : Int) by omega, hqs] at hput
              have HPUT := Lib.hid hput
              clear hput hqs hds hdr hdg
              go_wp2
              go_roundw
              case rel => exact ⟨i, _, q + q + 1, r + r + 1 - vb, _, _, _, by omega, by omega, rfl, rfl, HI.out, (HPUT.out.sub (by
                intro t ht
                simp only [List.mem_cons, List.not_mem_nil, or_false] at ht ⊢
                rcases ht with rfl | rfl | rfl <;> simp) (List.Sublist.refl _) (fun t ht => by cases ht))⟩
              case measure => simp [intOf]
        · skip
          have hbt : va / 2 ^ i % 2 = 1 := hbit
          have HBT := Lib.hid (show (va / 2 ^ i % 2 == 1) = true by rw [hbt]; rfl)
          have HI := Lib.hid (hI.no hb hbt (by omega) (by omega))
          obtain ⟨cc, hcc, hc0⟩ : ∃ cc : Int, cmpI (r + r + 1) vb = cc ∧ cc < 0 := ⟨-1, cmpI_lt (by omega), by omega⟩
          have HC := Lib.hid hcc
          clear hcc hbt hI hbit
          go_wp2_with (first
            | (go_at_call 92; (with_reducible refine (radd_k (K := K + 1) (r := r + r) hS.out (by repeat (first | exact ms | apply mo)) (by omega) (by repeat (first | exact ms | apply mo)) (by omega) rfl HQ1.out).mono ?_); rintro e w' ⟨A3, n3, c3, rfl, h1⟩; clear hS; have hS := Lib.hid h1; clear h1)
            | (go_at_call 85; (with_reducible refine (rbit_i hS.out (by repeat (first | exact ms | apply mo)) (by omega) (by omega) HBT.out).mono ?_); rintro e w' ⟨rfl, h1⟩; clear hS; have hS := Lib.hid h1; clear h1)
            | (go_at_call 92; (with_reducible refine (radd_k (K := K + 1) (r := r + r + 1) (v := r + r) (u := 1) (hS.out.lit1 1 (by decide)) (by repeat (first | exact ms | apply mo)) (by omega) (by repeat (first | exact ms | apply mo)) (by omega) rfl HQ2.out).mono ?_); rintro e w' ⟨A4, n4, c4, rfl, h1⟩; clear hS; have hS := Lib.hid h1; clear h1)
            | (go_at_call 89; (with_reducible refine (rcmp_k hS.out (by repeat (first | exact ms | apply mo)) (by omega) (by repeat (first | exact ms | apply mo)) (by omega) HC.out).mono ?_); rintro e w' ⟨rfl, h1⟩; clear hS; have hS := Lib.hid h1; clear h1))
          go_roundw
          case rel => exact ⟨i, _, q + q, r + r + 1, _, _, _, by omega, by omega, rfl, rfl, HI.out, by rw [← quo_no q0]; exact (hS.out.sub (by
            intro t ht
            simp only [List.mem_cons, List.not_mem_nil, or_false] at ht ⊢
            rcases ht with rfl | rfl | rfl <;> simp) (List.Sublist.refl _) (fun t ht => by cases ht))⟩
          case measure => simp [intOf]
      · by_cases hge : vb ≤ r + r
        · skip
          have hbt : va / 2 ^ i % 2 = 0 := by omega
          have HBT := Lib.hid (show (va / 2 ^ i % 2 == 1) = false by rw [hbt]; rfl)
          have HI := Lib.hid (hI.yes hb hbt (by omega) (by omega))
          rw [Int.add_zero] at HI
          obtain ⟨cc, hcc, hc0⟩ : ∃ cc : Int, cmpI (r + r) vb = cc ∧ 0 ≤ cc := by
            rcases Int.lt_or_eq_of_le (show vb ≤ r + r by omega) with h | h
            · exact ⟨1, cmpI_gt h, by omega⟩
            · exact ⟨0, cmpI_eq h.symm, by omega⟩
          have HC := Lib.hid hcc
          clear hcc hbt hI hbit
          obtain ⟨p, s, his, hs16⟩ : ∃ p s : Nat, i = 16 * p + s ∧ s < 16 := ⟨i / 16, i % 16, by omega, by omega⟩
          have hm16 : (i : Int) % 16 = (s : Int) := by omega
          have hd16 : (i : Int) / 16 = (p : Int) := by omega
          have hm16' : Int.tmod (i : Int) 16 = (s : Int) := by rw [Int.tmod_eq_emod_of_nonneg (by omega)]; exact hm16
          have hd16' : Int.tdiv (i : Int) 16 = (p : Int) := by rw [Int.tdiv_eq_ediv_of_nonneg (by omega)]; exact hd16
          have hpL : p < L + 1 := by omega
          have HIS := Lib.hid his
          clear his
          go_wp2_with (first
            | (go_at_call 92; (with_reducible refine (radd_k (K := K + 1) (r := r + r) hS.out (by repeat (first | exact ms | apply mo)) (by omega) (by repeat (first | exact ms | apply mo)) (by omega) rfl HQ1.out).mono ?_); rintro e w' ⟨A3, n3, c3, rfl, h1⟩; clear hS; have hS := Lib.hid h1; clear h1)
            | (go_at_call 85; (with_reducible refine (rbit_i hS.out (by repeat (first | exact ms | apply mo)) (by omega) (by omega) HBT.out).mono ?_); rintro e w' ⟨rfl, h1⟩; clear hS; have hS := Lib.hid h1; clear h1)
            | (go_at_call 92; (with_reducible refine (radd_k (K := K + 1) (r := r + r + 1) (v := r + r) (u := 1) (hS.out.lit1 1 (by decide)) (by repeat (first | exact ms | apply mo)) (by omega) (by repeat (first | exact ms | apply mo)) (by omega) rfl HQ2.out).mono ?_); rintro e w' ⟨A4, n4, c4, rfl, h1⟩; clear hS; have hS := Lib.hid h1; clear h1)
            | (go_at_call 89; (with_reducible refine (rcmp_k hS.out (by repeat (first | exact ms | apply mo)) (by omega) (by repeat (first | exact ms | apply mo)) (by omega) HC.out).mono ?_); rintro e w' ⟨rfl, h1⟩; clear hS; have hS := Lib.hid h1; clear h1)
            | (go_at_call 90; (with_reducible refine (rsub_k (K := K + 1) (r := r + r - vb) hS.out (by repeat (first | exact ms | apply mo)) (by omega) (by repeat (first | exact ms | apply mo)) (by omega) (by omega) rfl (by omega)).mono ?_); rintro e w' ⟨A5, n5, c5, rfl, h1⟩; clear hS; have hS := Lib.hid h1; clear h1))
          go_loop [13, 14] (fun bt kk => ∃ t : Nat, t ≤ s ∧ kk = .int .i64 t ∧ bt = .int .u64 ((2 ^ t : Nat) : Int)) (fun _ kk => s - (intOf kk).toNat)
          case atStart => exact ⟨0, by omega, rfl, rfl⟩
          case round =>
            obtain ⟨t, htl, rfl, rfl⟩ := hrel
            have hp64 : 2 ^ t ≤ 2 ^ 16 := Nat.pow_le_pow_right (by decide) (by omega)
            obtain ⟨pt, hpt⟩ : ∃ x : Nat, 2 ^ t = x := ⟨_, rfl⟩
            have HPT := Lib.hid hpt
            rw [hpt] at hp64 ⊢
            clear hpt
            by_cases hlt : t < s
            · have hw2 : IntKind.u64.wrap (2 * (pt : Int)) = 2 * (pt : Int) := by rw [IntKind.wrap_u64]; omega
              go_wp2
              go_round
              case rel => exact ⟨t + 1, by omega, by go_num, by rw [Nat.pow_succ, HPT.out]; congr 1; omega⟩
              case measure => simp [intOf]; omega
            · obtain rfl : t = s := by omega
              obtain ⟨hds, hdr⟩ := digit_set (M := q.toNat) HIS.out hs16
              have hqs := qd_set (M := q.toNat) HIS.out hs16 hpL
              obtain ⟨dg, hdg⟩ : ∃ x : Nat, q.toNat * 2 ^ (i + 1) / 65536 ^ p % 65536 = x := ⟨_, rfl⟩
              have hcell := hS.out.cell 0 p rfl (show (uv (qd (L + 1) (q.toNat * 2 ^ (i + 1))))[p]? = some (.int .u64 (dg : Int)) by
                rw [uv_get _ _ (by rw [qd_len]; exact hpL)]; unfold lim; rw [List.getD_eq_getElem?_getD, qd_get hpL, hdg]; rfl)
              have hfz := hS.out.frs 0 rfl p
              rw [hdg, HPT.out] at hdr hqs
              rw [quo_yes q0] at hqs
              have hw3 : IntKind.u64.wrap ((dg : Int) + (pt : Int)) = (dg : Int) + (pt : Int) := by rw [IntKind.wrap_u64]; omega
              have hput := hS.out.put 0 p rfl (hS.out.ge_ 0 rfl) (.int .u64 ((dg : Int) + (pt : Int)))
              rw [List.set_cons_zero, uv_set, show (dg : Int) + (pt : Int) = ((dg + pt : Nat) : Int) by omega, hqs] at hput
              have HPUT := Lib.hid hput
              clear hput hqs hds hdr hdg
              go_wp2
              go_roundw
              case rel => exact ⟨i, _, q + q + 1, r + r - vb, _, _, _, by omega, by omega, rfl, rfl, HI.out, (HPUT.out.sub (by
                intro t ht
                simp only [List.mem_cons, List.not_mem_nil, or_false] at ht ⊢
                rcases ht with rfl | rfl | rfl <;> simp) (List.Sublist.refl _) (fun t ht => by cases ht))⟩
              case measure => simp [intOf]
        · skip
          have hbt : va / 2 ^ i % 2 = 0 := by omega
          have HBT := Lib.hid (show (va / 2 ^ i % 2 == 1) = false by rw [hbt]; rfl)
          have HI := Lib.hid (hI.no hb hbt (by omega) (by omega))
          rw [Int.add_zero] at HI
          obtain ⟨cc, hcc, hc0⟩ : ∃ cc : Int, cmpI (r + r) vb = cc ∧ cc < 0 := ⟨-1, cmpI_lt (by omega), by omega⟩
          have HC := Lib.hid hcc
          clear hcc hbt hI hbit
          go_wp2_with (first
            | (go_at_call 92; (with_reducible refine (radd_k (K := K + 1) (r := r + r) hS.out (by repeat (first | exact ms | apply mo)) (by omega) (by repeat (first | exact ms | apply mo)) (by omega) rfl HQ1.out).mono ?_); rintro e w' ⟨A3, n3, c3, rfl, h1⟩; clear hS; have hS := Lib.hid h1; clear h1)
            | (go_at_call 85; (with_reducible refine (rbit_i hS.out (by repeat (first | exact ms | apply mo)) (by omega) (by omega) HBT.out).mono ?_); rintro e w' ⟨rfl, h1⟩; clear hS; have hS := Lib.hid h1; clear h1)
            | (go_at_call 92; (with_reducible refine (radd_k (K := K + 1) (r := r + r + 1) (v := r + r) (u := 1) (hS.out.lit1 1 (by decide)) (by repeat (first | exact ms | apply mo)) (by omega) (by repeat (first | exact ms | apply mo)) (by omega) rfl HQ2.out).mono ?_); rintro e w' ⟨A4, n4, c4, rfl, h1⟩; clear hS; have hS := Lib.hid h1; clear h1)
            | (go_at_call 89; (with_reducible refine (rcmp_k hS.out (by repeat (first | exact ms | apply mo)) (by omega) (by repeat (first | exact ms | apply mo)) (by omega) HC.out).mono ?_); rintro e w' ⟨rfl, h1⟩; clear hS; have hS := Lib.hid h1; clear h1))
          go_roundw
          case rel => exact ⟨i, _, q + q, r + r, _, _, _, by omega, by omega, rfl, rfl, HI.out, by rw [← quo_no q0]; exact (hS.out.sub (by
            intro t ht
            simp only [List.mem_cons, List.not_mem_nil, or_false] at ht ⊢
            rcases ht with rfl | rfl | rfl <;> simp) (List.Sublist.refl _) (fun t ht => by cases ht))⟩
          case measure => simp [intOf]
    · obtain rfl : j = 0 := by omega
      obtain rfl : t = -1 := by omega
      obtain ⟨i1, i2, i3, i4⟩ := hI
      rw [Int.pow_zero, Int.ediv_one] at i4
      have e1 : q = va / vb := by rw [← i4, Int.add_comm, Int.add_mul_ediv_right _ _ (by omega), Int.ediv_eq_zero_of_lt i2 i3]; omega
      have hqa : q ≤ va := by rw [e1]; exact Int.ediv_le_self vb pa
      have HE1 := Lib.hid e1
      clear e1 i4 ht h0t
      have hN : q.toNat * 2 ^ 0 < 65536 ^ (L + 1) := by
        have h6 := HV16.out
        have h7 : ((65536 ^ L : Nat) : Int) = 65536 ^ L := Int.natCast_pow 65536 L
        have h8 : (65536 : Nat) ^ L ≤ 65536 ^ (L + 1) := Nat.pow_le_pow_right (by decide) (by omega)
        simp only [Nat.pow_zero, Nat.mul_one]
        omega
      have HN := Lib.hid hN
      clear hN
      go_wp2_with fail
      go_at_call 83
      refine (rjoin_k (K := K) (r := q) hS.out 0 rfl (by omega) HN.out (by simp only [Nat.pow_zero, Nat.mul_one]; omega) (by omega)).mono ?_
      rintro e wz ⟨A9, n9, c9, rfl, h1⟩
      clear hS; have hS := Lib.hid h1; clear h1
      go_wp2
      go_ret2
      rw [← HE1.out]
      have ho := hS.out.own _ (show (⟨A9, n9, c9, K, limbs q, q⟩ : Ent) ∈ _ from List.mem_cons_self)
      exact ⟨A9, n9, c9, _, rfl, own_len ho rfl (by omega) (by omega), ho, hS.out.bl⟩
set_option maxRecDepth 100000 in
set_option maxHeartbeats 4000000 in
theorem rdiv_b2 {w : World} {A A' : Option Addr} {n c m d K : Nat} {xs ys : List Int} (h : Sl w A n c xs) (h' : Sl w A' m d ys) (hn : n ≤ K) (hm : m ≤ K) (hK1 : 1 ≤ K) (hK : K ≤ 1000) (hb : 0 < val B ys) (hsa : 18446744073709551616 ≤ val B xs) (hsb : 18446744073709551616 ≤ val B ys) : Calls Tryz.prog 63 #[.slice A n c, .slice A' m d] w fun e w' => ∃ A1 n1 c1 x, e = .returned (.tuple #[.slice A1 n1 c1, x]) ∧ n1 ≤ K ∧ N.Own w' w.heap.size A1 n1 c1 (limbs (val B xs / val B ys)) ∧ Below w.heap.size w w' := by
  have pa := h.nn0
  have hvK : val B xs < Q B K := Int.lt_of_lt_of_le h.lt (QB_le hn)
  have huK : val B ys < Q B K := Int.lt_of_lt_of_le h'.lt (QB_le hm)
  obtain ⟨va, hva⟩ : ∃ x, val B xs = x := ⟨_, rfl⟩
  obtain ⟨vb, hvb⟩ : ∃ x, val B ys = x := ⟨_, rfl⟩
  have hS := Lib.hid (((SC.start w).old (k := K) h' hm hvb).old (k := K) h hn hva)
  rw [hva] at hvK pa hsa ⊢
  rw [hvb] at huK hb hsb ⊢
  clear h h' hva hvb
  go_enter Tryz.func63, Tryz.ntmps63
  go_wp2_with fail
  go_at_call 87
  with_reducible refine (rsmall_n hS.out (by repeat (first | exact ms | apply mo)) (by omega) hsa).mono ?_
  rintro e v1 ⟨rfl, h1⟩
  clear hS; have hS := Lib.hid h1; clear h1
  go_wp2_with fail
  go_at_call 87
  with_reducible refine (rsmall_n hS.out (by repeat (first | exact ms | apply mo)) (by omega) hsb).mono ?_
  rintro e v2 ⟨rfl, h1⟩
  clear hS; have hS := Lib.hid h1; clear h1
  go_wp2_with fail
  go_at_call 84
  with_reducible refine (rdigits_k hS.out (by repeat (first | exact ms | apply mo)) (by omega)).mono ?_
  rintro e v3 ⟨Ad, L, cd, rfl, hL, hva16, h1⟩
  clear hS; have hS := Lib.hid h1; clear h1
  obtain ⟨J, hJ, hJl, hJ16⟩ := len_16 pa hva16
  have hw1 : IntKind.i64.wrap ((L : Int) + 1) = (L : Int) + 1 := by rw [IntKind.wrap_i64]; omega
  have hmk : ∀ W : World, (Instr.makeSlice 57 (.int .i64 ((L : Int) + 1)) (.int .i64 ((L : Int) + 1))).run Tryz.prog W = .ok (.slice (some ⟨W.heap.size, 0, none⟩) (L + 1) (L + 1)) (W.alloc (.cells (madeCells #[.int .u64 0] (L + 1)) 72)) := fun W => make_run _ slU (L + 1) (by omega) W
  have HI0 := Lib.hid (show RdInv va vb J 0 0 from ⟨by omega, by omega, hb, by rw [Int.ediv_eq_zero_of_lt pa hJl]; simp⟩)
  have HV16 := Lib.hid hva16
  have HJ := Lib.hid hJ
  have hj1 : IntKind.i64.wrap ((J : Int) - 1) = (J : Int) - 1 := by rw [IntKind.wrap_i64]; omega
  clear hva16 hJ hJl
  go_wp2_with fail
  clear hmk hw1
  generalize hwa : World.alloc v3 _ = v4
  obtain ⟨g, hg⟩ : ∃ g, v3.heap.size = g := ⟨_, rfl⟩
  have h1 := hS.out.boxed (vs := uv (qd (L + 1) 0)) (cs := madeCells #[Value.int .u64 0] (L + 1)) (by rw [zeros_row, qd_zero]) hwa
  rw [hg] at h1 ⊢
  clear hwa hg
  clear hS; have hS := Lib.hid h1; clear h1
  go_at_call 93
  with_reducible refine (rlen_k hS.out (by repeat (first | exact ms | apply mo)) (by omega) HJ.out).mono ?_
  rintro e v5 ⟨rfl, h1⟩
  clear hS; have hS := Lib.hid h1; clear h1
  go_wp2_with fail
  clear hj1
  go_loopw [11, 12] (fun rs is wr => ∃ (j : Nat) (t q r : Int) (A2 : Option Addr) (n2 c2 : Nat), t + 1 = (j : Int) ∧ j ≤ 16 * L ∧ rs = .slice A2 n2 c2 ∧ is = .int .i64 t ∧ RdInv va vb j q r ∧
    SC w w wr [⟨A2, n2, c2, K + 1, limbs r, r⟩, ⟨A, n, c, K, xs, va⟩, ⟨A', m, d, K, ys, vb⟩] [⟨g, uv (qd (L + 1) (q.toNat * 2 ^ j)), 72⟩] []) (fun _ is _ => (intOf is + 1).toNat)
  case atStart => exact ⟨J, _, 0, 0, _, _, _, by omega, hJ16, rfl, rfl, HI0.out, by rw [limbs_zero, show (0 : Int).toNat * 2 ^ J = 0 by simp]; exact (hS.out.none_.re0 (k := K + 1))⟩
  case round =>
    obtain ⟨j, t, q, r, A2, n2, c2, ht, hj, rfl, rfl, hI, hst⟩ := hrel
    clear hS HI0
    have hS := Lib.hid hst
    clear hst
    by_cases h0t : 0 ≤ t
    · obtain ⟨i, rfl⟩ := Int.eq_ofNat_of_zero_le h0t
      obtain rfl : j = i + 1 := by omega
      have q0 := hI.1
      have r0 := hI.2.1
      have rb := hI.2.2.1
      have hqd := QB_dbl K
      have HQ1 := Lib.hid (show r + r < Q B (K + 1) by omega)
      have HQ2 := Lib.hid (show r + r + 1 < Q B (K + 1) by omega)
      have hti : IntKind.i64.wrap ((i : Int) - 1) = (i : Int) - 1 := by rw [IntKind.wrap_i64]; omega
      clear ht h0t
      by_cases hbit : va / 2 ^ i % 2 = 1
      · by_cases hge : vb ≤ r + r + 1
        · skip
          have hbt : va / 2 ^ i % 2 = 1 := hbit
          have HBT := Lib.hid (show (va / 2 ^ i % 2 == 1) = true by rw [hbt]; rfl)
          have HI := Lib.hid (hI.yes hb hbt (by omega) (by omega))
          obtain ⟨cc, hcc, hc0⟩ : ∃ cc : Int, cmpI (r + r + 1) vb = cc ∧ 0 ≤ cc := by
            rcases Int.lt_or_eq_of_le (show vb ≤ r + r + 1 by omega) with h | h
            · exact ⟨1, cmpI_gt h, by omega⟩
            · exact ⟨0, cmpI_eq h.symm, by omega⟩
          have HC := Lib.hid hcc
          clear hcc hbt hI hbit
          obtain ⟨p, s, his, hs16⟩ : ∃ p s : Nat, i = 16 * p + s ∧ s < 16 := ⟨i / 16, i % 16, by omega, by omega⟩
          have hm16 : (i : Int) % 16 = (s : Int) := by omega
          have hd16 : (i : Int) / 16 = (p : Int) := by omega
          have hm16' : Int.tmod (i : Int) 16 = (s : Int) := by rw [Int.tmod_eq_emod_of_nonneg (by omega)]; exact hm16
          have hd16' : Int.tdiv (i : Int) 16 = (p : Int) := by rw [Int.tdiv_eq_ediv_of_nonneg (by omega)]; exact hd16
          have hpL : p < L + 1 := by omega
          have HIS := Lib.hid his
          clear his
          go_wp2_with (first
            | (go_at_call 92; (with_reducible refine (radd_k (K := K + 1) (r := r + r) hS.out (by repeat (first | exact ms | apply mo)) (by omega) (by repeat (first | exact ms | apply mo)) (by omega) rfl HQ1.out).mono ?_); rintro e w' ⟨A3, n3, c3, rfl, h1⟩; clear hS; have hS := Lib.hid h1; clear h1)
            | (go_at_call 85; (with_reducible refine (rbit_i hS.out (by repeat (first | exact ms | apply mo)) (by omega) (by omega) HBT.out).mono ?_); rintro e w' ⟨rfl, h1⟩; clear hS; have hS := Lib.hid h1; clear h1)
            | (go_at_call 92; (with_reducible refine (radd_k (K := K + 1) (r := r + r + 1) (v := r + r) (u := 1) (hS.out.lit1 1 (by decide)) (by repeat (first | exact ms | apply mo)) (by omega) (by repeat (first | exact ms | apply mo)) (by omega) rfl HQ2.out).mono ?_); rintro e w' ⟨A4, n4, c4, rfl, h1⟩; clear hS; have hS := Lib.hid h1; clear h1)
            | (go_at_call 89; (with_reducible refine (rcmp_k hS.out (by repeat (first | exact ms | apply mo)) (by omega) (by repeat (first | exact ms | apply mo)) (by omega) HC.out).mono ?_); rintro e w' ⟨rfl, h1⟩; clear hS; have hS := Lib.hid h1; clear h1)
            | (go_at_call 90; (with_reducible refine (rsub_k (K := K + 1) (r := r + r + 1 - vb) hS.out (by repeat (first | exact ms | apply mo)) (by omega) (by repeat (first | exact ms | apply mo)) (by omega) (by omega) rfl (by omega)).mono ?_); rintro e w' ⟨A5, n5, c5, rfl, h1⟩; clear hS; have hS := Lib.hid h1; clear h1))
          go_loop [13, 14] (fun bt kk => ∃ t : Nat, t ≤ s ∧ kk = .int .i64 t ∧ bt = .int .u64 ((2 ^ t : Nat) : Int)) (fun _ kk => s - (intOf kk).toNat)
          case atStart => exact ⟨0, by omega, rfl, rfl⟩
          case round =>
            obtain ⟨t, htl, rfl, rfl⟩ := hrel
            have hp64 : 2 ^ t ≤ 2 ^ 16 := Nat.pow_le_pow_right (by decide) (by omega)
            obtain ⟨pt, hpt⟩ : ∃ x : Nat, 2 ^ t = x := ⟨_, rfl⟩
            have HPT := Lib.hid hpt
            rw [hpt] at hp64 ⊢
            clear hpt
            by_cases hlt : t < s
            · have hw2 : IntKind.u64.wrap (2 * (pt : Int)) = 2 * (pt : Int) := by rw [IntKind.wrap_u64]; omega
              go_wp2
              go_round
              case rel => exact ⟨t + 1, by omega, by go_num, by rw [Nat.pow_succ, HPT.out]; congr 1; omega⟩
              case measure => simp [intOf]; omega
            · obtain rfl : t = s := by omega
              obtain ⟨hds, hdr⟩ := digit_set (M := q.toNat) HIS.out hs16
              have hqs := qd_set (M := q.toNat) HIS.out hs16 hpL
              obtain ⟨dg, hdg⟩ : ∃ x : Nat, q.toNat * 2 ^ (i + 1) / 65536 ^ p % 65536 = x := ⟨_, rfl⟩
              have hcell := hS.out.cell 0 p rfl (show (uv (qd (L + 1) (q.toNat * 2 ^ (i + 1))))[p]? = some (.int .u64 (dg : Int)) by
                rw [uv_get _ _ (by rw [qd_len]; exact hpL)]; unfold lim; rw [List.getD_eq_getElem?_getD, qd_get hpL, hdg]; rfl)
              have hfz := hS.out.frs 0 rfl p
              rw [hdg, HPT.out] at hdr hqs
              rw [quo_yes q0] at hqs
              have hw3 : IntKind.u64.wrap ((dg : Int) + (pt : Int)) = (dg : Int) + (pt : Int) := by rw [IntKind.wrap_u64]; omega
              have hput := hS.out.put 0 p rfl (hS.out.ge_ 0 rfl) (.int .u64 ((dg : Int) + (pt : Int)))
              rw [List.set_cons_zero, uv_set, show (dg : Int) + (pt : Int) = ((dg + pt : Nat) : Int) by omega, hqs] at hput
              have HPUT := Lib.hid hput
              clear hput hqs hds hdr hdg
              go_wp2
              go_roundw
              case rel => exact ⟨i, _, q + q + 1, r + r + 1 - vb, _, _, _, by omega, by omega, rfl, rfl, HI.out, (HPUT.out.sub (by
                intro t ht
                simp only [List.mem_cons, List.not_mem_nil, or_false] at ht ⊢
                rcases ht with rfl | rfl | rfl <;> simp) (List.Sublist.refl _) (fun t ht => by cases ht))⟩
              case measure => simp [intOf]
        · skip
          have hbt : va / 2 ^ i % 2 = 1 := hbit
          have HBT := Lib.hid (show (va / 2 ^ i % 2 == 1) = true by rw [hbt]; rfl)
          have HI := Lib.hid (hI.no hb hbt (by omega) (by omega))
          obtain ⟨cc, hcc, hc0⟩ : ∃ cc : Int, cmpI (r + r + 1) vb = cc ∧ cc < 0 := ⟨-1, cmpI_lt (by omega), by omega⟩
          have HC := Lib.hid hcc
          clear hcc hbt hI hbit
          go_wp2_with (first
            | (go_at_call 92; (with_reducible refine (radd_k (K := K + 1) (r := r + r) hS.out (by repeat (first | exact ms | apply mo)) (by omega) (by repeat (first | exact ms | apply mo)) (by omega) rfl HQ1.out).mono ?_); rintro e w' ⟨A3, n3, c3, rfl, h1⟩; clear hS; have hS := Lib.hid h1; clear h1)
            | (go_at_call 85; (with_reducible refine (rbit_i hS.out (by repeat (first | exact ms | apply mo)) (by omega) (by omega) HBT.out).mono ?_); rintro e w' ⟨rfl, h1⟩; clear hS; have hS := Lib.hid h1; clear h1)
            | (go_at_call 92; (with_reducible refine (radd_k (K := K + 1) (r := r + r + 1) (v := r + r) (u := 1) (hS.out.lit1 1 (by decide)) (by repeat (first | exact ms | apply mo)) (by omega) (by repeat (first | exact ms | apply mo)) (by omega) rfl HQ2.out).mono ?_); rintro e w' ⟨A4, n4, c4, rfl, h1⟩; clear hS; have hS := Lib.hid h1; clear h1)
            | (go_at_call 89; (with_reducible refine (rcmp_k hS.out (by repeat (first | exact ms | apply mo)) (by omega) (by repeat (first | exact ms | apply mo)) (by omega) HC.out).mono ?_); rintro e w' ⟨rfl, h1⟩; clear hS; have hS := Lib.hid h1; clear h1))
          go_roundw
          case rel => exact ⟨i, _, q + q, r + r + 1, _, _, _, by omega, by omega, rfl, rfl, HI.out, by rw [← quo_no q0]; exact (hS.out.sub (by
            intro t ht
            simp only [List.mem_cons, List.not_mem_nil, or_false] at ht ⊢
            rcases ht with rfl | rfl | rfl <;> simp) (List.Sublist.refl _) (fun t ht => by cases ht))⟩
          case measure => simp [intOf]
      · by_cases hge : vb ≤ r + r
        · skip
          have hbt : va / 2 ^ i % 2 = 0 := by omega
          have HBT := Lib.hid (show (va / 2 ^ i % 2 == 1) = false by rw [hbt]; rfl)
          have HI := Lib.hid (hI.yes hb hbt (by omega) (by omega))
          rw [Int.add_zero] at HI
          obtain ⟨cc, hcc, hc0⟩ : ∃ cc : Int, cmpI (r + r) vb = cc ∧ 0 ≤ cc := by
            rcases Int.lt_or_eq_of_le (show vb ≤ r + r by omega) with h | h
            · exact ⟨1, cmpI_gt h, by omega⟩
            · exact ⟨0, cmpI_eq h.symm, by omega⟩
          have HC := Lib.hid hcc
          clear hcc hbt hI hbit
          obtain ⟨p, s, his, hs16⟩ : ∃ p s : Nat, i = 16 * p + s ∧ s < 16 := ⟨i / 16, i % 16, by omega, by omega⟩
          have hm16 : (i : Int) % 16 = (s : Int) := by omega
          have hd16 : (i : Int) / 16 = (p : Int) := by omega
          have hm16' : Int.tmod (i : Int) 16 = (s : Int) := by rw [Int.tmod_eq_emod_of_nonneg (by omega)]; exact hm16
          have hd16' : Int.tdiv (i : Int) 16 = (p : Int) := by rw [Int.tdiv_eq_ediv_of_nonneg (by omega)]; exact hd16
          have hpL : p < L + 1 := by omega
          have HIS := Lib.hid his
          clear his
          go_wp2_with (first
            | (go_at_call 92; (with_reducible refine (radd_k (K := K + 1) (r := r + r) hS.out (by repeat (first | exact ms | apply mo)) (by omega) (by repeat (first | exact ms | apply mo)) (by omega) rfl HQ1.out).mono ?_); rintro e w' ⟨A3, n3, c3, rfl, h1⟩; clear hS; have hS := Lib.hid h1; clear h1)
            | (go_at_call 85; (with_reducible refine (rbit_i hS.out (by repeat (first | exact ms | apply mo)) (by omega) (by omega) HBT.out).mono ?_); rintro e w' ⟨rfl, h1⟩; clear hS; have hS := Lib.hid h1; clear h1)
            | (go_at_call 92; (with_reducible refine (radd_k (K := K + 1) (r := r + r + 1) (v := r + r) (u := 1) (hS.out.lit1 1 (by decide)) (by repeat (first | exact ms | apply mo)) (by omega) (by repeat (first | exact ms | apply mo)) (by omega) rfl HQ2.out).mono ?_); rintro e w' ⟨A4, n4, c4, rfl, h1⟩; clear hS; have hS := Lib.hid h1; clear h1)
            | (go_at_call 89; (with_reducible refine (rcmp_k hS.out (by repeat (first | exact ms | apply mo)) (by omega) (by repeat (first | exact ms | apply mo)) (by omega) HC.out).mono ?_); rintro e w' ⟨rfl, h1⟩; clear hS; have hS := Lib.hid h1; clear h1)
            | (go_at_call 90; (with_reducible refine (rsub_k (K := K + 1) (r := r + r - vb) hS.out (by repeat (first | exact ms | apply mo)) (by omega) (by repeat (first | exact ms | apply mo)) (by omega) (by omega) rfl (by omega)).mono ?_); rintro e w' ⟨A5, n5, c5, rfl, h1⟩; clear hS; have hS := Lib.hid h1; clear h1))
          go_loop [13, 14] (fun bt kk => ∃ t : Nat, t ≤ s ∧ kk = .int .i64 t ∧ bt = .int .u64 ((2 ^ t : Nat) : Int)) (fun _ kk => s - (intOf kk).toNat)
          case atStart => exact ⟨0, by omega, rfl, rfl⟩
          case round =>
            obtain ⟨t, htl, rfl, rfl⟩ := hrel
            have hp64 : 2 ^ t ≤ 2 ^ 16 := Nat.pow_le_pow_right (by decide) (by omega)
            obtain ⟨pt, hpt⟩ : ∃ x : Nat, 2 ^ t = x := ⟨_, rfl⟩
            have HPT := Lib.hid hpt
            rw [hpt] at hp64 ⊢
            clear hpt
            by_cases hlt : t < s
            · have hw2 : IntKind.u64.wrap (2 * (pt : Int)) = 2 * (pt : Int) := by rw [IntKind.wrap_u64]; omega
              go_wp2
              go_round
              case rel => exact ⟨t + 1, by omega, by go_num, by rw [Nat.pow_succ, HPT.out]; congr 1; omega⟩
              case measure => simp [intOf]; omega
            · obtain rfl : t = s := by omega
              obtain ⟨hds, hdr⟩ := digit_set (M := q.toNat) HIS.out hs16
              have hqs := qd_set (M := q.toNat) HIS.out hs16 hpL
              obtain ⟨dg, hdg⟩ : ∃ x : Nat, q.toNat * 2 ^ (i + 1) / 65536 ^ p % 65536 = x := ⟨_, rfl⟩
              have hcell := hS.out.cell 0 p rfl (show (uv (qd (L + 1) (q.toNat * 2 ^ (i + 1))))[p]? = some (.int .u64 (dg : Int)) by
                rw [uv_get _ _ (by rw [qd_len]; exact hpL)]; unfold lim; rw [List.getD_eq_getElem?_getD, qd_get hpL, hdg]; rfl)
              have hfz := hS.out.frs 0 rfl p
              rw [hdg, HPT.out] at hdr hqs
              rw [quo_yes q0] at hqs
              have hw3 : IntKind.u64.wrap ((dg : Int) + (pt : Int)) = (dg : Int) + (pt : Int) := by rw [IntKind.wrap_u64]; omega
              have hput := hS.out.put 0 p rfl (hS.out.ge_ 0 rfl) (.int .u64 ((dg : Int) + (pt : Int)))
              rw [List.set_cons_zero, uv_set, show (dg : Int) + (pt : Int) = ((dg + pt : Nat) : Int) by omega, hqs] at hput
              have HPUT := Lib.hid hput
              clear hput hqs hds hdr hdg
              go_wp2
              go_roundw
              case rel => exact ⟨i, _, q + q + 1, r + r - vb, _, _, _, by omega, by omega, rfl, rfl, HI.out, (HPUT.out.sub (by
                intro t ht
                simp only [List.mem_cons, List.not_mem_nil, or_false] at ht ⊢
                rcases ht with rfl | rfl | rfl <;> simp) (List.Sublist.refl _) (fun t ht => by cases ht))⟩
              case measure => simp [intOf]
        · skip
          have hbt : va / 2 ^ i % 2 = 0 := by omega
          have HBT := Lib.hid (show (va / 2 ^ i % 2 == 1) = false by rw [hbt]; rfl)
          have HI := Lib.hid (hI.no hb hbt (by omega) (by omega))
          rw [Int.add_zero] at HI
          obtain ⟨cc, hcc, hc0⟩ : ∃ cc : Int, cmpI (r + r) vb = cc ∧ cc < 0 := ⟨-1, cmpI_lt (by omega), by omega⟩
          have HC := Lib.hid hcc
          clear hcc hbt hI hbit
          go_wp2_with (first
            | (go_at_call 92; (with_reducible refine (radd_k (K := K + 1) (r := r + r) hS.out (by repeat (first | exact ms | apply mo)) (by omega) (by repeat (first | exact ms | apply mo)) (by omega) rfl HQ1.out).mono ?_); rintro e w' ⟨A3, n3, c3, rfl, h1⟩; clear hS; have hS := Lib.hid h1; clear h1)
            | (go_at_call 85; (with_reducible refine (rbit_i hS.out (by repeat (first | exact ms | apply mo)) (by omega) (by omega) HBT.out).mono ?_); rintro e w' ⟨rfl, h1⟩; clear hS; have hS := Lib.hid h1; clear h1)
            | (go_at_call 92; (with_reducible refine (radd_k (K := K + 1) (r := r + r + 1) (v := r + r) (u := 1) (hS.out.lit1 1 (by decide)) (by repeat (first | exact ms | apply mo)) (by omega) (by repeat (first | exact ms | apply mo)) (by omega) rfl HQ2.out).mono ?_); rintro e w' ⟨A4, n4, c4, rfl, h1⟩; clear hS; have hS := Lib.hid h1; clear h1)
            | (go_at_call 89; (with_reducible refine (rcmp_k hS.out (by repeat (first | exact ms | apply mo)) (by omega) (by repeat (first | exact ms | apply mo)) (by omega) HC.out).mono ?_); rintro e w' ⟨rfl, h1⟩; clear hS; have hS := Lib.hid h1; clear h1))
          go_roundw
          case rel => exact ⟨i, _, q + q, r + r, _, _, _, by omega, by omega, rfl, rfl, HI.out, by rw [← quo_no q0]; exact (hS.out.sub (by
            intro t ht
            simp only [List.mem_cons, List.not_mem_nil, or_false] at ht ⊢
            rcases ht with rfl | rfl | rfl <;> simp) (List.Sublist.refl _) (fun t ht => by cases ht))⟩
          case measure => simp [intOf]
    · obtain rfl : j = 0 := by omega
      obtain rfl : t = -1 := by omega
      obtain ⟨i1, i2, i3, i4⟩ := hI
      rw [Int.pow_zero, Int.ediv_one] at i4
      have e1 : q = va / vb := by rw [← i4, Int.add_comm, Int.add_mul_ediv_right _ _ (by omega), Int.ediv_eq_zero_of_lt i2 i3]; omega
      have hqa : q ≤ va := by rw [e1]; exact Int.ediv_le_self vb pa
      have HE1 := Lib.hid e1
      clear e1 i4 ht h0t
      have hN : q.toNat * 2 ^ 0 < 65536 ^ (L + 1) := by
        have h6 := HV16.out
        have h7 : ((65536 ^ L : Nat) : Int) = 65536 ^ L := Int.natCast_pow 65536 L
        have h8 : (65536 : Nat) ^ L ≤ 65536 ^ (L + 1) := Nat.pow_le_pow_right (by decide) (by omega)
        simp only [Nat.pow_zero, Nat.mul_one]
        omega
      have HN := Lib.hid hN
      clear hN
      go_wp2_with fail
      go_at_call 83
      refine (rjoin_k (K := K) (r := q) hS.out 0 rfl (by omega) HN.out (by simp only [Nat.pow_zero, Nat.mul_one]; omega) (by omega)).mono ?_
      rintro e wz ⟨A9, n9, c9, rfl, h1⟩
      clear hS; have hS := Lib.hid h1; clear h1
      go_wp2
      go_ret2
      rw [← HE1.out]
      have ho := hS.out.own _ (show (⟨A9, n9, c9, K, limbs q, q⟩ : Ent) ∈ _ from List.mem_cons_self)
      exact ⟨A9, n9, c9, _, rfl, own_len ho rfl (by omega) (by omega), ho, hS.out.bl⟩
set_option maxRecDepth 100000 in
set_option maxHeartbeats 4000000 in
theorem rdiv_b3 {w : World} {A A' : Option Addr} {n c m d K : Nat} {xs ys : List Int} (h : Sl w A n c xs) (h' : Sl w A' m d ys) (hn : n ≤ K) (hm : m ≤ K) (hK1 : 1 ≤ K) (hK : K ≤ 1000) (hb : 0 < val B ys) (hsa : val B xs < 18446744073709551616) (hsb : 18446744073709551616 ≤ val B ys) : Calls Tryz.prog 63 #[.slice A n c, .slice A' m d] w fun e w' => ∃ A1 n1 c1 x, e = .returned (.tuple #[.slice A1 n1 c1, x]) ∧ n1 ≤ K ∧ N.Own w' w.heap.size A1 n1 c1 (limbs (val B xs / val B ys)) ∧ Below w.heap.size w w' := by
  have pa := h.nn0
  have hvK : val B xs < Q B K := Int.lt_of_lt_of_le h.lt (QB_le hn)
  have huK : val B ys < Q B K := Int.lt_of_lt_of_le h'.lt (QB_le hm)
  obtain ⟨va, hva⟩ : ∃ x, val B xs = x := ⟨_, rfl⟩
  obtain ⟨vb, hvb⟩ : ∃ x, val B ys = x := ⟨_, rfl⟩
  have hS := Lib.hid (((SC.start w).old (k := K) h' hm hvb).old (k := K) h hn hva)
  rw [hva] at hvK pa hsa ⊢
  rw [hvb] at huK hb hsb ⊢
  clear h h' hva hvb
  go_enter Tryz.func63, Tryz.ntmps63
  go_wp2_with fail
  go_at_call 87
  with_reducible refine (rsmall_y hS.out (by repeat (first | exact ms | apply mo)) (by omega) (q := va) rfl hsa).mono ?_
  rintro e v1 ⟨rfl, h1⟩
  clear hS; have hS := Lib.hid h1; clear h1
  go_wp2_with fail
  go_at_call 87
  with_reducible refine (rsmall_n hS.out (by repeat (first | exact ms | apply mo)) (by omega) hsb).mono ?_
  rintro e v2 ⟨rfl, h1⟩
  clear hS; have hS := Lib.hid h1; clear h1
  go_wp2_with fail
  go_at_call 84
  with_reducible refine (rdigits_k hS.out (by repeat (first | exact ms | apply mo)) (by omega)).mono ?_
  rintro e v3 ⟨Ad, L, cd, rfl, hL, hva16, h1⟩
  clear hS; have hS := Lib.hid h1; clear h1
  obtain ⟨J, hJ, hJl, hJ16⟩ := len_16 pa hva16
  have hw1 : IntKind.i64.wrap ((L : Int) + 1) = (L : Int) + 1 := by rw [IntKind.wrap_i64]; omega
  have hmk : ∀ W : World, (Instr.makeSlice 57 (.int .i64 ((L : Int) + 1)) (.int .i64 ((L : Int) + 1))).run Tryz.prog W = .ok (.slice (some ⟨W.heap.size, 0, none⟩) (L + 1) (L + 1)) (W.alloc (.cells (madeCells #[.int .u64 0] (L + 1)) 72)) := fun W => make_run _ slU (L + 1) (by omega) W
  have HI0 := Lib.hid (show RdInv va vb J 0 0 from ⟨by omega, by omega, hb, by rw [Int.ediv_eq_zero_of_lt pa hJl]; simp⟩)
  have HV16 := Lib.hid hva16
  have HJ := Lib.hid hJ
  have hj1 : IntKind.i64.wrap ((J : Int) - 1) = (J : Int) - 1 := by rw [IntKind.wrap_i64]; omega
  clear hva16 hJ hJl
  go_wp2_with fail
  clear hmk hw1
  generalize hwa : World.alloc v3 _ = v4
  obtain ⟨g, hg⟩ : ∃ g, v3.heap.size = g := ⟨_, rfl⟩
  have h1 := hS.out.boxed (vs := uv (qd (L + 1) 0)) (cs := madeCells #[Value.int .u64 0] (L + 1)) (by rw [zeros_row, qd_zero]) hwa
  rw [hg] at h1 ⊢
  clear hwa hg
  clear hS; have hS := Lib.hid h1; clear h1
  go_at_call 93
  with_reducible refine (rlen_k hS.out (by repeat (first | exact ms | apply mo)) (by omega) HJ.out).mono ?_
  rintro e v5 ⟨rfl, h1⟩
  clear hS; have hS := Lib.hid h1; clear h1
  go_wp2_with fail
  clear hj1
  go_loopw [11, 12] (fun rs is wr => ∃ (j : Nat) (t q r : Int) (A2 : Option Addr) (n2 c2 : Nat), t + 1 = (j : Int) ∧ j ≤ 16 * L ∧ rs = .slice A2 n2 c2 ∧ is = .int .i64 t ∧ RdInv va vb j q r ∧
    SC w w wr [⟨A2, n2, c2, K + 1, limbs r, r⟩, ⟨A, n, c, K, xs, va⟩, ⟨A', m, d, K, ys, vb⟩] [⟨g, uv (qd (L + 1) (q.toNat * 2 ^ j)), 72⟩] []) (fun _ is _ => (intOf is + 1).toNat)
  case atStart => exact ⟨J, _, 0, 0, _, _, _, by omega, hJ16, rfl, rfl, HI0.out, by rw [limbs_zero, show (0 : Int).toNat * 2 ^ J = 0 by simp]; exact (hS.out.none_.re0 (k := K + 1))⟩
  case round =>
    obtain ⟨j, t, q, r, A2, n2, c2, ht, hj, rfl, rfl, hI, hst⟩ := hrel
    clear hS HI0
    have hS := Lib.hid hst
    clear hst
    by_cases h0t : 0 ≤ t
    · obtain ⟨i, rfl⟩ := Int.eq_ofNat_of_zero_le h0t
      obtain rfl : j = i + 1 := by omega
      have q0 := hI.1
      have r0 := hI.2.1
      have rb := hI.2.2.1
      have hqd := QB_dbl K
      have HQ1 := Lib.hid (show r + r < Q B (K + 1) by omega)
      have HQ2 := Lib.hid (show r + r + 1 < Q B (K + 1) by omega)
      have hti : IntKind.i64.wrap ((i : Int) - 1) = (i : Int) - 1 := by rw [IntKind.wrap_i64]; omega
      clear ht h0t
      by_cases hbit : va / 2 ^ i % 2 = 1
      · by_cases hge : vb ≤ r + r + 1
        · skip
          have hbt : va / 2 ^ i % 2 = 1 := hbit
          have HBT := Lib.hid (show (va / 2 ^ i % 2 == 1) = true by rw [hbt]; rfl)
          have HI := Lib.hid (hI.yes hb hbt (by omega) (by omega))
          obtain ⟨cc, hcc, hc0⟩ : ∃ cc : Int, cmpI (r + r + 1) vb = cc ∧ 0 ≤ cc := by
            rcases Int.lt_or_eq_of_le (show vb ≤ r + r + 1 by omega) with h | h
            · exact ⟨1, cmpI_gt h, by omega⟩
            · exact ⟨0, cmpI_eq h.symm, by omega⟩
          have HC := Lib.hid hcc
          clear hcc hbt hI hbit
          obtain ⟨p, s, his, hs16⟩ : ∃ p s : Nat, i = 16 * p + s ∧ s < 16 := ⟨i / 16, i % 16, by omega, by omega⟩
          have hm16 : (i : Int) % 16 = (s : Int) := by omega
          have hd16 : (i : Int) / 16 = (p : Int) := by omega
          have hm16' : Int.tmod (i : Int) 16 = (s : Int) := by rw [Int.tmod_eq_emod_of_nonneg (by omega)]; exact hm16
          have hd16' : Int.tdiv (i : Int) 16 = (p : Int) := by rw [Int.tdiv_eq_ediv_of_nonneg (by omega)]; exact hd16
          have hpL : p < L + 1 := by omega
          have HIS := Lib.hid his
          clear his
          go_wp2_with (first
            | (go_at_call 92; (with_reducible refine (radd_k (K := K + 1) (r := r + r) hS.out (by repeat (first | exact ms | apply mo)) (by omega) (by repeat (first | exact ms | apply mo)) (by omega) rfl HQ1.out).mono ?_); rintro e w' ⟨A3, n3, c3, rfl, h1⟩; clear hS; have hS := Lib.hid h1; clear h1)
            | (go_at_call 85; (with_reducible refine (rbit_i hS.out (by repeat (first | exact ms | apply mo)) (by omega) (by omega) HBT.out).mono ?_); rintro e w' ⟨rfl, h1⟩; clear hS; have hS := Lib.hid h1; clear h1)
            | (go_at_call 92; (with_reducible refine (radd_k (K := K + 1) (r := r + r + 1) (v := r + r) (u := 1) (hS.out.lit1 1 (by decide)) (by repeat (first | exact ms | apply mo)) (by omega) (by repeat (first | exact ms | apply mo)) (by omega) rfl HQ2.out).mono ?_); rintro e w' ⟨A4, n4, c4, rfl, h1⟩; clear hS; have hS := Lib.hid h1; clear h1)
            | (go_at_call 89; (with_reducible refine (rcmp_k hS.out (by repeat (first | exact ms | apply mo)) (by omega) (by repeat (first | exact ms | apply mo)) (by omega) HC.out).mono ?_); rintro e w' ⟨rfl, h1⟩; clear hS; have hS := Lib.hid h1; clear h1)
            | (go_at_call 90; (with_reducible refine (rsub_k (K := K + 1) (r := r + r + 1 - vb) hS.out (by repeat (first | exact ms | apply mo)) (by omega) (by repeat (first | exact ms | apply mo)) (by omega) (by omega) rfl (by omega)).mono ?_); rintro e w' ⟨A5, n5, c5, rfl, h1⟩; clear hS; have hS := Lib.hid h1; clear h1))
          go_loop [13, 14] (fun bt kk => ∃ t : Nat, t ≤ s ∧ kk = .int .i64 t ∧ bt = .int .u64 ((2 ^ t : Nat) : Int)) (fun _ kk => s - (intOf kk).toNat)
          case atStart => exact ⟨0, by omega, rfl, rfl⟩
          case round =>
            obtain ⟨t, htl, rfl, rfl⟩ := hrel
            have hp64 : 2 ^ t ≤ 2 ^ 16 := Nat.pow_le_pow_right (by decide) (by omega)
            obtain ⟨pt, hpt⟩ : ∃ x : Nat, 2 ^ t = x := ⟨_, rfl⟩
            have HPT := Lib.hid hpt
            rw [hpt] at hp64 ⊢
            clear hpt
            by_cases hlt : t < s
            · have hw2 : IntKind.u64.wrap (2 * (pt : Int)) = 2 * (pt : Int) := by rw [IntKind.wrap_u64]; omega
              go_wp2
              go_round
              case rel => exact ⟨t + 1, by omega, by go_num, by rw [Nat.pow_succ, HPT.out]; congr 1; omega⟩
              case measure => simp [intOf]; omega
            · obtain rfl : t = s := by omega
              obtain ⟨hds, hdr⟩ := digit_set (M := q.toNat) HIS.out hs16
              have hqs := qd_set (M := q.toNat) HIS.out hs16 hpL
              obtain ⟨dg, hdg⟩ : ∃ x : Nat, q.toNat * 2 ^ (i + 1) / 65536 ^ p % 65536 = x := ⟨_, rfl⟩
              have hcell := hS.out.cell 0 p rfl (show (uv (qd (L + 1) (q.toNat * 2 ^ (i + 1))))[p]? = some (.int .u64 (dg : Int)) by
                rw [uv_get _ _ (by rw [qd_len]; exact hpL)]; unfold lim; rw [List.getD_eq_getElem?_getD, qd_get hpL, hdg]; rfl)
              have hfz := hS.out.frs 0 rfl p
              rw [hdg, HPT.out] at hdr hqs
              rw [quo_yes q0] at hqs
              have hw3 : IntKind.u64.wrap ((dg : Int) + (pt : Int)) = (dg : Int) + (pt : Int) := by rw [IntKind.wrap_u64]; omega
              have hput := hS.out.put 0 p rfl (hS.out.ge_ 0 rfl) (.int .u64 ((dg : Int) + (pt : Int)))
              rw [List.set_cons_zero, uv_set, show (dg : Int) + (pt : Int) = ((dg + pt : Nat) : Int) by omega, hqs] at hput
              have HPUT := Lib.hid hput
              clear hput hqs hds hdr hdg
              go_wp2
              go_roundw
              case rel => exact ⟨i, _, q + q + 1, r + r + 1 - vb, _, _, _, by omega, by omega, rfl, rfl, HI.out, (HPUT.out.sub (by
                intro t ht
                simp only [List.mem_cons, List.not_mem_nil, or_false] at ht ⊢
                rcases ht with rfl | rfl | rfl <;> simp) (List.Sublist.refl _) (fun t ht => by cases ht))⟩
              case measure => simp [intOf]
        · skip
          have hbt : va / 2 ^ i % 2 = 1 := hbit
          have HBT := Lib.hid (show (va / 2 ^ i % 2 == 1) = true by rw [hbt]; rfl)
          have HI := Lib.hid (hI.no hb hbt (by omega) (by omega))
          obtain ⟨cc, hcc, hc0⟩ : ∃ cc : Int, cmpI (r + r + 1) vb = cc ∧ cc < 0 := ⟨-1, cmpI_lt (by omega), by omega⟩
          have HC := Lib.hid hcc
          clear hcc hbt hI hbit
          go_wp2_with (first
            | (go_at_call 92; (with_reducible refine (radd_k (K := K + 1) (r := r + r) hS.out (by repeat (first | exact ms | apply mo)) (by omega) (by repeat (first | exact ms | apply mo)) (by omega) rfl HQ1.out).mono ?_); rintro e w' ⟨A3, n3, c3, rfl, h1⟩; clear hS; have hS := Lib.hid h1; clear h1)
            | (go_at_call 85; (with_reducible refine (rbit_i hS.out (by repeat (first | exact ms | apply mo)) (by omega) (by omega) HBT.out).mono ?_); rintro e w' ⟨rfl, h1⟩; clear hS; have hS := Lib.hid h1; clear h1)
            | (go_at_call 92; (with_reducible refine (radd_k (K := K + 1) (r := r + r + 1) (v := r + r) (u := 1) (hS.out.lit1 1 (by decide)) (by repeat (first | exact ms | apply mo)) (by omega) (by repeat (first | exact ms | apply mo)) (by omega) rfl HQ2.out).mono ?_); rintro e w' ⟨A4, n4, c4, rfl, h1⟩; clear hS; have hS := Lib.hid h1; clear h1)
            | (go_at_call 89; (with_reducible refine (rcmp_k hS.out (by repeat (first | exact ms | apply mo)) (by omega) (by repeat (first | exact ms | apply mo)) (by omega) HC.out).mono ?_); rintro e w' ⟨rfl, h1⟩; clear hS; have hS := Lib.hid h1; clear h1))
          go_roundw
          case rel => exact ⟨i, _, q + q, r + r + 1, _, _, _, by omega, by omega, rfl, rfl, HI.out, by rw [← quo_no q0]; exact (hS.out.sub (by
            intro t ht
            simp only [List.mem_cons, List.not_mem_nil, or_false] at ht ⊢
            rcases ht with rfl | rfl | rfl <;> simp) (List.Sublist.refl _) (fun t ht => by cases ht))⟩
          case measure => simp [intOf]
      · by_cases hge : vb ≤ r + r
        · skip
          have hbt : va / 2 ^ i % 2 = 0 := by omega
          have HBT := Lib.hid (show (va / 2 ^ i % 2 == 1) = false by rw [hbt]; rfl)
          have HI := Lib.hid (hI.yes hb hbt (by omega) (by omega))
          rw [Int.add_zero] at HI
          obtain ⟨cc, hcc, hc0⟩ : ∃ cc : Int, cmpI (r + r) vb = cc ∧ 0 ≤ cc := by
            rcases Int.lt_or_eq_of_le (show vb ≤ r + r by omega) with h | h
            · exact ⟨1, cmpI_gt h, by omega⟩
            · exact ⟨0, cmpI_eq h.symm, by omega⟩
          have HC := Lib.hid hcc
          clear hcc hbt hI hbit
          obtain ⟨p, s, his, hs16⟩ : ∃ p s : Nat, i = 16 * p + s ∧ s < 16 := ⟨i / 16, i % 16, by omega, by omega⟩
          have hm16 : (i : Int) % 16 = (s : Int) := by omega
          have hd16 : (i : Int) / 16 = (p : Int) := by omega
          have hm16' : Int.tmod (i : Int) 16 = (s : Int) := by rw [Int.tmod_eq_emod_of_nonneg (by omega)]; exact hm16
          have hd16' : Int.tdiv (i : Int) 16 = (p : Int) := by rw [Int.tdiv_eq_ediv_of_nonneg (by omega)]; exact hd16
          have hpL : p < L + 1 := by omega
          have HIS := Lib.hid his
          clear his
          go_wp2_with (first
            | (go_at_call 92; (with_reducible refine (radd_k (K := K + 1) (r := r + r) hS.out (by repeat (first | exact ms | apply mo)) (by omega) (by repeat (first | exact ms | apply mo)) (by omega) rfl HQ1.out).mono ?_); rintro e w' ⟨A3, n3, c3, rfl, h1⟩; clear hS; have hS := Lib.hid h1; clear h1)
            | (go_at_call 85; (with_reducible refine (rbit_i hS.out (by repeat (first | exact ms | apply mo)) (by omega) (by omega) HBT.out).mono ?_); rintro e w' ⟨rfl, h1⟩; clear hS; have hS := Lib.hid h1; clear h1)
            | (go_at_call 92; (with_reducible refine (radd_k (K := K + 1) (r := r + r + 1) (v := r + r) (u := 1) (hS.out.lit1 1 (by decide)) (by repeat (first | exact ms | apply mo)) (by omega) (by repeat (first | exact ms | apply mo)) (by omega) rfl HQ2.out).mono ?_); rintro e w' ⟨A4, n4, c4, rfl, h1⟩; clear hS; have hS := Lib.hid h1; clear h1)
            | (go_at_call 89; (with_reducible refine (rcmp_k hS.out (by repeat (first | exact ms | apply mo)) (by omega) (by repeat (first | exact ms | apply mo)) (by omega) HC.out).mono ?_); rintro e w' ⟨rfl, h1⟩; clear hS; have hS := Lib.hid h1; clear h1)
            | (go_at_call 90; (with_reducible refine (rsub_k (K := K + 1) (r := r + r - vb) hS.out (by repeat (first | exact ms | apply mo)) (by omega) (by repeat (first | exact ms | apply mo)) (by omega) (by omega) rfl (by omega)).mono ?_); rintro e w' ⟨A5, n5, c5, rfl, h1⟩; clear hS; have hS := Lib.hid h1; clear h1))
          go_loop [13, 14] (fun bt kk => ∃ t : Nat, t ≤ s ∧ kk = .int .i64 t ∧ bt = .int .u64 ((2 ^ t : Nat) : Int)) (fun _ kk => s - (intOf kk).toNat)
          case atStart => exact ⟨0, by omega, rfl, rfl⟩
          case round =>
            obtain ⟨t, htl, rfl, rfl⟩ := hrel
            have hp64 : 2 ^ t ≤ 2 ^ 16 := Nat.pow_le_pow_right (by decide) (by omega)
            obtain ⟨pt, hpt⟩ : ∃ x : Nat, 2 ^ t = x := ⟨_, rfl⟩
            have HPT := Lib.hid hpt
            rw [hpt] at hp64 ⊢
            clear hpt
            by_cases hlt : t < s
            · have hw2 : IntKind.u64.wrap (2 * (pt : Int)) = 2 * (pt : Int) := by rw [IntKind.wrap_u64]; omega
              go_wp2
              go_round
              case rel => exact ⟨t + 1, by omega, by go_num, by rw [Nat.pow_succ, HPT.out]; congr 1; omega⟩
              case measure => simp [intOf]; omega
            · obtain rfl : t = s := by omega
              obtain ⟨hds, hdr⟩ := digit_set (M := q.toNat) HIS.out hs16
              have hqs := qd_set (M := q.toNat) HIS.out hs16 hpL
              obtain ⟨dg, hdg⟩ : ∃ x : Nat, q.toNat * 2 ^ (i + 1) / 65536 ^ p % 65536 = x := ⟨_, rfl⟩
              have hcell := hS.out.cell 0 p rfl (show (uv (qd (L + 1) (q.toNat * 2 ^ (i + 1))))[p]? = some (.int .u64 (dg : Int)) by
                rw [uv_get _ _ (by rw [qd_len]; exact hpL)]; unfold lim; rw [List.getD_eq_getElem?_getD, qd_get hpL, hdg]; rfl)
              have hfz := hS.out.frs 0 rfl p
              rw [hdg, HPT.out] at hdr hqs
              rw [quo_yes q0] at hqs
              have hw3 : IntKind.u64.wrap ((dg : Int) + (pt : Int)) = (dg : Int) + (pt : Int) := by rw [IntKind.wrap_u64]; omega
              have hput := hS.out.put 0 p rfl (hS.out.ge_ 0 rfl) (.int .u64 ((dg : Int) + (pt : Int)))
              rw [List.set_cons_zero, uv_set, show (dg : Int) + (pt : Int) = ((dg + pt : Nat) : Int) by omega, hqs] at hput
              have HPUT := Lib.hid hput
              clear hput hqs hds hdr hdg
              go_wp2
              go_roundw
              case rel => exact ⟨i, _, q + q + 1, r + r - vb, _, _, _, by omega, by omega, rfl, rfl, HI.out, (HPUT.out.sub (by
                intro t ht
                simp only [List.mem_cons, List.not_mem_nil, or_false] at ht ⊢
                rcases ht with rfl | rfl | rfl <;> simp) (List.Sublist.refl _) (fun t ht => by cases ht))⟩
              case measure => simp [intOf]
        · skip
          have hbt : va / 2 ^ i % 2 = 0 := by omega
          have HBT := Lib.hid (show (va / 2 ^ i % 2 == 1) = false by rw [hbt]; rfl)
          have HI := Lib.hid (hI.no hb hbt (by omega) (by omega))
          rw [Int.add_zero] at HI
          obtain ⟨cc, hcc, hc0⟩ : ∃ cc : Int, cmpI (r + r) vb = cc ∧ cc < 0 := ⟨-1, cmpI_lt (by omega), by omega⟩
          have HC := Lib.hid hcc
          clear hcc hbt hI hbit
          go_wp2_with (first
            | (go_at_call 92; (with_reducible refine (radd_k (K := K + 1) (r := r + r) hS.out (by repeat (first | exact ms | apply mo)) (by omega) (by repeat (first | exact ms | apply mo)) (by omega) rfl HQ1.out).mono ?_); rintro e w' ⟨A3, n3, c3, rfl, h1⟩; clear hS; have hS := Lib.hid h1; clear h1)
            | (go_at_call 85; (with_reducible refine (rbit_i hS.out (by repeat (first | exact ms | apply mo)) (by omega) (by omega) HBT.out).mono ?_); rintro e w' ⟨rfl, h1⟩; clear hS; have hS := Lib.hid h1; clear h1)
            | (go_at_call 92; (with_reducible refine (radd_k (K := K + 1) (r := r + r + 1) (v := r + r) (u := 1) (hS.out.lit1 1 (by decide)) (by repeat (first | exact ms | apply mo)) (by omega) (by repeat (first | exact ms | apply mo)) (by omega) rfl HQ2.out).mono ?_); rintro e w' ⟨A4, n4, c4, rfl, h1⟩; clear hS; have hS := Lib.hid h1; clear h1)
            | (go_at_call 89; (with_reducible refine (rcmp_k hS.out (by repeat (first | exact ms | apply mo)) (by omega) (by repeat (first | exact ms | apply mo)) (by omega) HC.out).mono ?_); rintro e w' ⟨rfl, h1⟩; clear hS; have hS := Lib.hid h1; clear h1))
          go_roundw
          case rel => exact ⟨i, _, q + q, r + r, _, _, _, by omega, by omega, rfl, rfl, HI.out, by rw [← quo_no q0]; exact (hS.out.sub (by
            intro t ht
            simp only [List.mem_cons, List.not_mem_nil, or_false] at ht ⊢
            rcases ht with rfl | rfl | rfl <;> simp) (List.Sublist.refl _) (fun t ht => by cases ht))⟩
          case measure => simp [intOf]
    · obtain rfl : j = 0 := by omega
      obtain rfl : t = -1 := by omega
      obtain ⟨i1, i2, i3, i4⟩ := hI
      rw [Int.pow_zero, Int.ediv_one] at i4
      have e1 : q = va / vb := by rw [← i4, Int.add_comm, Int.add_mul_ediv_right _ _ (by omega), Int.ediv_eq_zero_of_lt i2 i3]; omega
      have hqa : q ≤ va := by rw [e1]; exact Int.ediv_le_self vb pa
      have HE1 := Lib.hid e1
      clear e1 i4 ht h0t
      have hN : q.toNat * 2 ^ 0 < 65536 ^ (L + 1) := by
        have h6 := HV16.out
        have h7 : ((65536 ^ L : Nat) : Int) = 65536 ^ L := Int.natCast_pow 65536 L
        have h8 : (65536 : Nat) ^ L ≤ 65536 ^ (L + 1) := Nat.pow_le_pow_right (by decide) (by omega)
        simp only [Nat.pow_zero, Nat.mul_one]
        omega
      have HN := Lib.hid hN
      clear hN
      go_wp2_with fail
      go_at_call 83
      refine (rjoin_k (K := K) (r := q) hS.out 0 rfl (by omega) HN.out (by simp only [Nat.pow_zero, Nat.mul_one]; omega) (by omega)).mono ?_
      rintro e wz ⟨A9, n9, c9, rfl, h1⟩
      clear hS; have hS := Lib.hid h1; clear h1
      go_wp2
      go_ret2
      rw [← HE1.out]
      have ho := hS.out.own _ (show (⟨A9, n9, c9, K, limbs q, q⟩ : Ent) ∈ _ from List.mem_cons_self)
      exact ⟨A9, n9, c9, _, rfl, own_len ho rfl (by omega) (by omega), ho, hS.out.bl⟩
theorem rdiv_all {w : World} {A A' : Option Addr} {n c m d K : Nat} {xs ys : List Int} (h : Sl w A n c xs) (h' : Sl w A' m d ys) (hn : n ≤ K) (hm : m ≤ K) (hK1 : 1 ≤ K) (hK : K ≤ 1000) (hb : 0 < val B ys) : Calls Tryz.prog 63 #[.slice A n c, .slice A' m d] w fun e w' => ∃ A1 n1 c1 x, e = .returned (.tuple #[.slice A1 n1 c1, x]) ∧ n1 ≤ K ∧ N.Own w' w.heap.size A1 n1 c1 (limbs (val B xs / val B ys)) ∧ Below w.heap.size w w' := by
  by_cases h1 : val B xs < 18446744073709551616
  · by_cases h2 : val B ys < 18446744073709551616
    · exact rdiv_small h h' hn hm hK1 hK hb h1 h2
    · exact rdiv_b3 h h' hn hm hK1 hK hb h1 (by omega)
  · by_cases h2 : val B ys < 18446744073709551616
    · exact rdiv_b1 h h' hn hm hK1 hK hb (by omega) h2
    · exact rdiv_b2 h h' hn hm hK1 hK hb (by omega) (by omega)
end Go.Proofs.YtfdpddlefobcpaaGreatDoor
