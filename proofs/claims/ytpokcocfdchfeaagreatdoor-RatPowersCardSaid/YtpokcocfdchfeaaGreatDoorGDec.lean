/- Gathered: DecLib, DecRd, DecBy, DecProg, DecState. -/
import Derived.Test.YtpokcocfdchfeaaGreatDoorGRef
import Derived.Test.YtpokcocfdchfeaaGreatDoorGNatB
import Derived.Test.YtpokcocfdchfeaaGreatDoorGMath
import Derived.Test.YtpokcocfdchfeaaGreatDoorGQuo
import Derived.Lib.ConvBytes
import Derived.BigRegion
import Derived.Deep.WholeRow
/- What layer 4's statements call beside the program: rows of one byte, powers of ten, the document's answers, over naturals at hand. -/
namespace Go.Proofs.YtpokcocfdchfeaaGreatDoor
open Go.RowKit
set_option linter.unusedVariables false
set_option maxRecDepth 20000
open N
open Go.Lib (decDigits nDigits decDigits_length nDigits_pos)
section
variable {w0 w w' : World} {S : List Ent}
variable {A A' : Option Addr} {n c m d k k' : Nat} {xs ys : List Int} {v u : Int}
theorem St.v_nat (h : St w0 w S) (h1 : (⟨A, n, c, k, xs, v⟩ : Ent) ∈ S) : val B xs = (v.toNat : Int) := by
  have h2 := (h.2 _ h1).nonneg
  rw [(h.get h1).2.2]
  exact (Int.toNat_of_nonneg h2).symm
end
end Go.Proofs.YtpokcocfdchfeaaGreatDoor
/- What the program's Read and its helpers (value, allDigits, fault) answer, over this translation. -/
namespace Go.Proofs.YtpokcocfdchfeaaGreatDoor
open Go.RowKit
set_option linter.unusedVariables false
set_option maxRecDepth 20000
open N
open Go.Lib (decDigits nDigits decDigits_length nDigits_pos)
/-- '[]byte(s)': a row of the call's own with the text's bytes -/
theorem bytes_of (w : World) (bs : List UInt8) : ∃ (c : Nat) (w1 : World), (convert 9 93 (.string ⟨bs.toArray⟩)).run Tryz.prog w = .ok (.slice (some ⟨w.heap.size, 0, none⟩) bs.length c) w1 ∧
    (∀ k, k < bs.length → w1.cell? ⟨w.heap.size, k, none⟩ = some (.int .u8 (bat bs k))) ∧ Below w.heap.size w w1 := by
  refine ⟨_, _, Lib.run_convert_string_bytes w 9 93 5 ⟨bs.toArray⟩ strU slB u8U, fun k hk => ?_, ⟨rfl, rfl, rfl, by rw [Lib.bytesWorld_size]; omega, fun k hk => Lib.bytesWorld_at_old w _ _ k hk⟩⟩
  rw [Lib.bytesWorld_cell w _ ⟨bs.toArray⟩ k hk]
  rfl
namespace N
theorem dv_take_lt {bs : List UInt8} (hd : ∀ j, j < bs.length → IsD (bs.getD j 0)) {k : Nat} (hk : k ≤ 18) : dv (bs.take k) < 1000000000000000000 := by
  have h1 := dv_lt (bs.take k) fun b hb => by
    obtain ⟨j, hj, rfl⟩ := List.mem_iff_getElem.1 hb
    have hj' : j < bs.length := by rw [List.length_take] at hj; omega
    have := hd j hj'
    rw [List.getD_eq_getElem?_getD, List.getElem?_eq_getElem hj'] at this
    simpa using this
  have h2 : 10 ^ (bs.take k).length ≤ 10 ^ 18 := Nat.pow_le_pow_right (by omega) (by rw [List.length_take]; omega)
  omega
end N
theorem value_any (w : World) (bs : List UInt8) (hl : bs.length ≤ 19) (hd : ∀ j, j < bs.length → IsD (bs.getD j 0)) :
    Calls Tryz.prog 64 #[.string ⟨bs.toArray⟩] w fun e w' => e = .returned (.int .u64 (dv bs : Int)) ∧ Below w.heap.size w w' := by
  obtain ⟨c, w1, hcv, hcell, hb1⟩ := bytes_of w bs
  have HD := Lib.hid hd
  have HC := Lib.hid hcell
  have HB := Lib.hid hb1
  clear hd hcell hb1
  go_enter Tryz.func64, Tryz.ntmps64
  go_wp2
  go_loop [3, 9] (fun v i => ∃ k : Nat, i = .int .i64 k ∧ k ≤ bs.length ∧ v = .int .u64 (dv (bs.take k) : Int)) (fun _ i => bs.length - (intOf i).toNat)
  case atStart => exact ⟨0, rfl, Nat.zero_le _, rfl⟩
  case round =>
    obtain ⟨k, rfl, hk, rfl⟩ := hrel
    by_cases hlt : k < bs.length
    · have hc := HC.out k hlt
      have hD := HD.out k hlt
      obtain ⟨x, hxe⟩ : ∃ x, bat bs k = x := ⟨_, rfl⟩
      have hb1 : 48 ≤ x ∧ x ≤ 57 := by
        rw [← hxe]; unfold bat; unfold IsD at hD; omega
      have hxv : (((bs.getD k 0).toNat - 48 : Nat) : Int) = x - 48 := by
        rw [← hxe]; unfold bat; unfold IsD at hD; omega
      obtain ⟨b1, b2⟩ := hb1
      rw [hxe] at hc
      have hdv := dv_take bs k hlt
      rw [hxv] at hdv
      have hlt2 := dv_take_lt HD.out (k := k) (by omega)
      obtain ⟨v, hv⟩ : ∃ v : Int, (dv (bs.take k) : Int) = v := ⟨_, rfl⟩
      have hv0 : 0 ≤ v := by omega
      have hv1 : v < 1000000000000000000 := by omega
      rw [hv] at hdv ⊢
      have HDV := Lib.hid hdv
      have w1 : IntKind.u8.wrap (x - 48) = x - 48 := by rw [IntKind.wrap_u8]; omega
      have w2 : IntKind.u64.wrap (v * 10) = v * 10 := by rw [IntKind.wrap_u64]; omega
      have w3 : IntKind.u64.wrap (v * 10 + (x - 48)) = v * 10 + (x - 48) := by rw [IntKind.wrap_u64]; omega
      clear hD hxe hxv hdv hlt2 hv
      go_wp2
      go_round
      case rel => exact ⟨k + 1, by go_num, by omega, by rw [HDV.out]⟩
      case measure => simp [intOf]; omega
    · obtain rfl : k = bs.length := by omega
      go_wp2
      go_ret
      exact ⟨rfl, HB.out⟩
theorem allDigits_any (w : World) (bs : List UInt8) (hl : bs.length ≤ maxLen) :
    Calls Tryz.prog 95 #[.string ⟨bs.toArray⟩] w fun e w' => e = .returned (.bool (bs.all isDb)) ∧ Below w.heap.size w w' := by
  unfold maxLen at hl
  obtain ⟨c, w1, hcv, hcell, hb1⟩ := bytes_of w bs
  have HC := Lib.hid hcell
  have HB := Lib.hid hb1
  clear hcell hb1
  go_enter Tryz.func95, Tryz.ntmps95
  go_wp2
  go_loop [8] (fun i => ∃ k : Nat, i = .int .i64 k ∧ k ≤ bs.length ∧ ∀ j, j < k → IsD (bs.getD j 0)) (fun i => bs.length - (intOf i).toNat)
  case atStart => exact ⟨0, rfl, Nat.zero_le _, fun j hj => by omega⟩
  case round =>
    obtain ⟨k, rfl, hk, hj⟩ := hrel
    by_cases hlt : k < bs.length
    · have hc := HC.out k hlt
      by_cases hD : IsD (bs.getD k 0)
      · have HJ := Lib.hid hj
        have HD := Lib.hid hD
        obtain ⟨x, hxe⟩ : ∃ x, bat bs k = x := ⟨_, rfl⟩
        have hb1 : 48 ≤ x ∧ x ≤ 57 := by
          rw [← hxe]; unfold bat; unfold IsD at hD; omega
        obtain ⟨b1, b2⟩ := hb1
        rw [hxe] at hc
        clear hD hj hxe
        go_wp2
        go_round
        case rel =>
          refine ⟨k + 1, by go_num, by omega, fun j h => ?_⟩
          by_cases e : j = k
          · rw [e]; exact HD.out
          · exact HJ.out j (by omega)
        case measure => simp [intOf]; omega
      · have hall : bs.all isDb = false := by
          cases e : bs.all isDb
          · rfl
          · exact absurd ((all_iff bs).1 e k hlt) hD
        have HA := Lib.hid hall
        obtain ⟨x, hxe⟩ : ∃ x, bat bs k = x := ⟨_, rfl⟩
        have hb1 : x < 48 ∨ 57 < x := by
          rw [← hxe]; unfold bat; unfold IsD at hD; omega
        rw [hxe] at hc
        clear hD hj hxe hall
        by_cases b1 : x < 48
        · clear hb1
          go_wp2
          go_ret
          exact ⟨by rw [HA.out]; rfl, HB.out⟩
        · have b2 : 57 < x := by omega
          clear hb1
          go_wp2
          go_ret
          exact ⟨by rw [HA.out]; rfl, HB.out⟩
    · obtain rfl : k = bs.length := by omega
      have HA := Lib.hid ((all_iff bs).2 hj)
      clear hj
      go_wp2
      go_ret
      exact ⟨by rw [HA.out]; rfl, HB.out⟩
theorem fault_any (w : World) (bs : List UInt8) (hl : bs.length ≤ maxLen) :
    Calls Tryz.prog 62 #[.string ⟨bs.toArray⟩] w fun e w' => e = .returned (.int .i64 (rdE bs)) ∧ Below w.heap.size w w' := by
  have HCALL := Lib.hid (fun W => allDigits_any W bs hl)
  unfold maxLen at hl
  by_cases h0 : bs.length = 0
  · obtain rfl : bs = [] := List.eq_nil_of_length_eq_zero h0
    go_enter Tryz.func62, Tryz.ntmps62
    go_wp2
    go_ret
    exact ⟨rfl, Below.refl _ _⟩
  · have hE : bs.isEmpty = false := by
      cases bs with
      | nil => exact absurd rfl h0
      | cons b t => rfl
    have H0 := Lib.hid h0
    have hpos : 0 < bs.length := by omega
    clear h0
    have hx : ∀ W : World, (Instr.index 9 (.string ⟨bs.toArray⟩) (.int .i64 0)).run Tryz.prog W = .ok (.int .u8 (bat bs 0)) W := fun W => str_at bs 9 strU .i64 0 hpos W
    cases ha : bs.all isDb with
    | false =>
      have HA := Lib.hid ha
      clear ha
      go_enter Tryz.func62, Tryz.ntmps62
      go_wp2_with (go_at_call 95; refine (HCALL.out _).mono ?_; rw [HA.out]; rintro e w1 ⟨rfl, hb⟩)
      go_ret
      exact ⟨by unfold rdE; rw [if_neg H0.out, if_pos HA.out]; rfl, hb⟩
    | true =>
      have HA := Lib.hid ha
      clear ha
      by_cases hz : (bs.getD 0 0).toNat = 48 ∧ 1 < bs.length
      · obtain ⟨z1, z2⟩ := hz
        have HE := Lib.hid (rdE_zero HA.out z1 z2)
        have hb0 : bat bs 0 = 48 := by unfold bat; rw [z1]; rfl
        rw [hb0] at hx
        clear z1 hb0
        go_enter Tryz.func62, Tryz.ntmps62
        go_wp2_with (go_at_call 95; refine (HCALL.out _).mono ?_; rw [HA.out]; rintro e w1 ⟨rfl, hb⟩)
        go_ret
        exact ⟨by rw [HE.out]; rfl, hb⟩
      · have HZ := Lib.hid hz
        have hz' : (bat bs 0 == 48) = false ∨ ((bat bs 0 == 48) = true ∧ ¬ (1 < bs.length)) := by
          unfold bat
          by_cases e : (bs.getD 0 0).toNat = 48
          · right
            exact ⟨by rw [e]; rfl, fun e' => hz ⟨e, e'⟩⟩
          · left
            rw [beq_eq_false_iff_ne]; omega
        obtain ⟨y, hy⟩ : ∃ y, bat bs 0 = y := ⟨_, rfl⟩
        rw [hy] at hx hz'
        clear hz hy
        have HK : ∃ k, rdE bs = k ∧ (20000 < bs.length → k = 5) ∧ (¬ 20000 < bs.length → k = 0) := ⟨_, rfl, fun h => rdE_long HA.out HZ.out h, fun h => rdE_ok H0.out HA.out HZ.out h⟩
        obtain ⟨k, hk, hk1, hk2⟩ := HK
        rw [hk]
        have HK1 := Lib.hid hk1
        have HK2 := Lib.hid hk2
        clear hk hk1 hk2
        rcases hz' with z1 | ⟨z1, z2⟩
        all_goals
          by_cases hlong : 20000 < bs.length
          · first
            | (exfalso; omega)
            | (obtain rfl := HK1.out hlong
               go_enter Tryz.func62, Tryz.ntmps62
               go_wp2_with (go_at_call 95; refine (HCALL.out _).mono ?_; rw [HA.out]; rintro e w1 ⟨rfl, hb⟩)
               go_ret
               exact ⟨rfl, hb⟩)
          · obtain rfl := HK2.out hlong
            go_enter Tryz.func62, Tryz.ntmps62
            go_wp2_with (go_at_call 95; refine (HCALL.out _).mono ?_; rw [HA.out]; rintro e w1 ⟨rfl, hb⟩)
            go_ret
            exact ⟨rfl, hb⟩
namespace N
def strLen : Value → Nat
  | .string s => s.size
  | _ => 0
end N
namespace N
theorem ext_take (t : List UInt8) (q : Nat) : (⟨t.toArray⟩ : ByteArray).extract 0 q = ⟨(t.take q).toArray⟩ := by
  apply ByteArray.ext
  simp
theorem ext_drop (t : List UInt8) (q : Nat) : (⟨t.toArray⟩ : ByteArray).extract q t.length = ⟨(t.drop q).toArray⟩ := by
  apply ByteArray.ext
  simp
  exact List.take_of_length_le (by simp)
theorem dv_take_19 {t : List UInt8} {q : Nat} (hd : ∀ j, j < (t.take q).length → IsD ((t.take q).getD j 0)) (hq : q ≤ 19) : dv (t.take q) < 10000000000000000000 := by
  have h1 := dv_lt (t.take q) fun b hb => by
    obtain ⟨j, hj, rfl⟩ := List.mem_iff_getElem.1 hb
    have := hd j hj
    rwa [List.getD_eq_getElem?_getD, List.getElem?_eq_getElem hj] at this
  have h2 : 10 ^ (t.take q).length ≤ 10 ^ 19 := Nat.pow_le_pow_right (by omega) (by rw [List.length_take]; omega)
  omega
theorem getD_of_mem {bs : List UInt8} (hd : ∀ b ∈ bs, IsD b) : ∀ j, j < bs.length → IsD (bs.getD j 0) := fun j hj => by
  rw [List.getD_eq_getElem?_getD, List.getElem?_eq_getElem hj]
  exact hd _ (List.getElem_mem hj)
theorem limbs_dv_len {bs : List UInt8} (hd : ∀ b ∈ bs, IsD b) {k v : Nat} (hv : dv (bs.take k) = v) : (limbs (v : Int)).length ≤ k := by
  rw [limbs_len_le (by omega), ← hv]
  have h1 := dv_lt (bs.take k) fun b hb => hd b (List.mem_of_mem_take hb)
  have h2 : 10 ^ (bs.take k).length ≤ 10 ^ k := Nat.pow_le_pow_right (by omega) (by rw [List.length_take]; omega)
  have h3 : 10 ^ k ≤ 18446744073709551616 ^ k := Nat.pow_le_pow_left (by omega) k
  have h4 : Q B k = ((18446744073709551616 ^ k : Nat) : Int) := by unfold Q; rw [Int.natCast_pow]; rfl
  rw [h4]
  exact_mod_cast Nat.lt_of_lt_of_le h1 (Nat.le_trans h2 h3)
end N
theorem value_ext (w : World) (t : List UInt8) (q : Nat) (hq : q ≤ 19) (hd : ∀ j, j < (t.take q).length → IsD ((t.take q).getD j 0)) :
    Calls Tryz.prog 64 #[.string ((⟨t.toArray⟩ : ByteArray).extract 0 q)] w fun e w' => e = .returned (.int .u64 (dv (t.take q) : Int)) ∧ Below w.heap.size w w' := by
  rw [ext_take]
  exact value_any w (t.take q) (by rw [List.length_take]; omega) hd
theorem add_out {w0 w : World} {S : List Ent} {A A' : Option Addr} {n c m d k k' : Nat} {xs ys : List Int} {v u : Int} (h : St w0 w S) (h1 : (⟨A, n, c, k, xs, v⟩ : Ent) ∈ S) (h2 : (⟨A', m, d, k', ys, u⟩ : Ent) ∈ S) (hk : k ≤ 1099511627776) (hk' : k' ≤ 1099511627776) :
    Calls Tryz.prog 63 #[.slice A n c, .slice A' m d] w fun e w' => ∃ A n c, e = .returned (.slice A n c) ∧ N.Own w' w0.heap.size A n c (limbs (v + u)) ∧ Below w.heap.size w w' := by
  obtain ⟨a1, a2, rfl⟩ := h.get h1
  obtain ⟨b1, b2, rfl⟩ := h.get h2
  refine (nadd_any w A A' n c m d xs ys a1 b1 (by omega) (by omega)).mono fun e w' ho => ?_
  obtain ⟨A, n, c, he, hn, hown, hb⟩ := ho
  exact ⟨A, n, c, he, hown.mono h.1.size, hb⟩
def PRel (w : World) (bs : List UInt8) (U : Ent) (t a : Value) (wr : World) : Prop :=
  ∃ (k : Nat) (A : Option Addr) (n c : Nat), t = .string ⟨(bs.drop k).toArray⟩ ∧ a = .slice A n c ∧ k ≤ bs.length ∧ (k = 0 ∨ (bs.length - k) % 19 = 0) ∧ N.Own wr w.heap.size A n c (limbs (dv (bs.take k))) ∧ St w wr [U]
theorem pread_any (w : World) (bs : List UInt8) (hl : bs.length ≤ maxLen) :
    Calls Tryz.prog 37 #[.string ⟨bs.toArray⟩] w (Out2 w 20001 (rdV bs) (rdE bs)) := by
  have HF := Lib.hid (fault_any w bs hl)
  unfold maxLen at hl
  by_cases h0 : rdE bs = 0
  · have hg := (rdE_iff bs).1 h0
    have H0 := Lib.hid h0
    have HG := Lib.hid hg
    clear h0 hg
    refine calls_of_wp_q 6 Tryz.func37 rfl ?_
    simp only [Tryz.ntmps37, List.size_toArray, List.length_cons, List.length_nil, Nat.reduceAdd, Nat.reduceSub, Array.replicate_succ, Array.replicate_zero, List.push_toArray, List.append_toArray, List.nil_append, List.cons_append]
    go_wp2_with (first
      | (go_at_call 62; refine HF.out.mono ?_; rw [H0.out]; rintro e w1 ⟨rfl, hb⟩; have hS := Lib.hid ((St.nil_ w).below hb); clear hb)
      | (go_at_call 34; refine (of_s hS.out (x := 10000000000000000000) (by unfold W.Wd; omega)).mono ?_; rintro e w2 ⟨Au, nu, cu, rfl, h1⟩; clear hS; have hS := Lib.hid h1; clear h1))
    go_loopw [0, 5] (fun t a wr => PRel w bs ⟨Au, nu, cu, 1, limbs 10000000000000000000, 10000000000000000000⟩ t a wr) (fun t _ _ => strLen t)
    case atStart => exact ⟨0, none, 0, 0, rfl, rfl, Nat.zero_le _, .inl rfl, by rw [List.take_zero, dv_nil, show ((0 : Nat) : Int) = 0 from rfl, limbs_zero]; exact N.Own.nil_ _ _, hS.out⟩
    case round =>
      obtain ⟨k, A, n, c, rfl, rfl, hk, h19, ho, hS⟩ := hrel
      obtain ⟨wi, rfl⟩ : ∃ wi : World, wi = wr := ⟨_, rfl⟩
      by_cases hlt : k < bs.length
      · have hne : (bs.drop k).isEmpty = false := by
          cases e : bs.drop k with
          | nil => have := congrArg List.length e; simp at this; omega
          | cons b t => rfl
        have htl : (bs.drop k).length = bs.length - k := by simp
        obtain ⟨t, ht⟩ : ∃ t, bs.drop k = t := ⟨_, rfl⟩
        rw [ht] at hne htl ⊢
        obtain ⟨v, hv⟩ : ∃ v : Nat, dv (bs.take k) = v := ⟨_, rfl⟩
        rw [hv] at ho
        have hn : n ≤ k := by
          rw [← ho.len]
          exact limbs_dv_len HG.out.1.2.1 hv
        have hS2 := hS.cons ho.sl hn (limbs_val (by omega))
        obtain ⟨q, hq⟩ : ∃ q : Nat, ((t.length : Int) - 1) % 19 + 1 = (q : Int) := ⟨(t.length - 1) % 19 + 1, by omega⟩
        have hq1 : 1 ≤ q ∧ q ≤ 19 ∧ q ≤ t.length := by omega
        obtain ⟨q1, q2, q3⟩ := hq1
        have htb : t.length ≤ 20000 := by have := HG.out.2; omega
        have hkb : k ≤ 20000 := by have := HG.out.2; omega
        have HM := Lib.hid (mul_s hS2.drew (A := A) List.mem_cons_self (List.mem_cons_of_mem _ List.mem_cons_self) (by omega) (by omega))
        have HT := Lib.hid ht
        have HV := Lib.hid hv
        have HTL := Lib.hid htl
        clear hS hS2 ho ht hv htl
        go_wp2
        try rw [hq]
        have HQ := Lib.hid hq
        clear hq
        have hdt : ∀ j, j < (t.take q).length → IsD ((t.take q).getD j 0) := getD_of_mem fun b hb => HG.out.1.2.1 b (List.mem_of_mem_drop (i := k) (by rw [HT.out]; exact List.mem_of_mem_take hb))
        have HVAL := Lib.hid (fun W : World => value_ext W t q (by omega) hdt)
        obtain ⟨x, hx⟩ : ∃ x : Nat, dv (t.take q) = x := ⟨_, rfl⟩
        rw [hx] at HVAL
        have hxw : x < 10000000000000000000 := by rw [← hx]; exact dv_take_19 hdt (by omega)
        have HX := Lib.hid hx
        have HXW := Lib.hid hxw
        clear hx hxw hdt
        go_region_with (first
          | (go_at_call 31; refine HM.out.mono ?_; rintro e w3 ⟨A3, n3, c3, rfl, h1⟩; have hS := Lib.hid h1; clear h1)
          | (go_at_call 64; refine (HVAL.out _).mono ?_; rintro e w4 ⟨rfl, hb4⟩; have hS4 := Lib.hid (hS.out.below hb4); clear hb4 hS)
          | (go_at_call 34; refine (of_s hS4.out (x := (x : Int)) (by have := HXW.out; unfold W.Wd; omega)).mono ?_; rintro e w5 ⟨A5, n5, c5, rfl, h1⟩; have hS := Lib.hid h1; clear h1 hS4)
          | (go_at_call 63; refine (add_out hS.out (A := A3) (A' := A5) (v := (v : Int) * 10000000000000000000) (u := (x : Int)) (List.mem_cons_of_mem _ List.mem_cons_self) List.mem_cons_self (by omega) (by omega)).mono ?_; rintro e w6 ⟨A6, n6, c6, rfl, ho6, hb6⟩; have HO := Lib.hid ho6; have hS6 := Lib.hid (hS.out.below hb6); clear ho6 hb6 hS))
        go_wp2
        rw [ext_drop]
        go_roundw
        case rel =>
          have e1 := HTL.out
          have e2 := HQ.out
          refine ⟨k + q, A6, n6, c6, by rw [← HT.out, List.drop_drop], rfl, by omega, .inr (by omega), ?_, hS6.out.1, fun u hu => hS6.out.2 u ?_⟩
          · have e3 := dv_take_more bs k q
            rw [HT.out, HX.out, HV.out, List.length_take, Nat.min_eq_left q3] at e3
            have e4 : ((dv (bs.take (k + q)) : Nat) : Int) = (v : Int) * 10000000000000000000 + (x : Int) := by
              rcases h19 with e | e
              · obtain rfl : v = 0 := by rw [← HV.out, e]; rfl
                rw [Nat.zero_mul] at e3
                omega
              · obtain rfl : q = 19 := by omega
                omega
            rw [e4]
            exact HO.out
          · rw [List.mem_singleton.1 hu]
            exact List.mem_cons_of_mem _ (List.mem_cons_of_mem _ (List.mem_cons_of_mem _ List.mem_cons_self))
        case measure =>
          show (t.drop q).length < t.length
          rw [List.length_drop]; omega
      · obtain rfl : k = bs.length := by omega
        have HO := Lib.hid ho
        have HS := Lib.hid hS
        clear ho hS
        rw [List.drop_length]
        go_wp2
        refine leave_q rfl (.tuple #[.slice A n c, .int .i64 0]) (by simp [results, Tryz.f37, go_sem]) ?_
        have ho := HO.out
        rw [List.take_of_length_le (Nat.le_refl _)] at ho
        refine ⟨A, n, c, by rw [H0.out], ?_, by rw [show rdV bs = (dv bs : Int) by unfold rdV; rw [if_pos H0.out]]; exact ho, HS.out.1⟩
        rw [← ho.len]
        have := limbs_dv_len (k := bs.length) (v := dv bs) HG.out.1.2.1 (by rw [List.take_of_length_le (Nat.le_refl _)])
        have := HG.out.2
        omega
  · have hE : (rdE bs != 0) = true := by simpa using h0
    have H0 := Lib.hid h0
    obtain ⟨k, hk⟩ : ∃ k, rdE bs = k := ⟨_, rfl⟩
    rw [hk] at hE
    have HK := Lib.hid hk
    clear h0 hk
    go_enter Tryz.func37, Tryz.ntmps37
    go_wp2_with (go_at_call 62; refine HF.out.mono ?_; rw [HK.out]; rintro e w1 ⟨rfl, hb⟩)
    go_ret2
    refine ⟨none, 0, 0, by rw [HK.out]; rfl, Nat.zero_le _, ?_, hb⟩
    rw [show rdV bs = 0 by unfold rdV; rw [if_neg H0.out], limbs_zero]
    exact N.Own.nil_ _ _
end Go.Proofs.YtpokcocfdchfeaaGreatDoor
/- What bytes.TrimRight (a cutset of the one byte 0x30), slices.Reverse over bytes and the program's appendDigits answer, over this translation. -/
namespace Go.Proofs.YtpokcocfdchfeaaGreatDoor
open Go.RowKit
set_option linter.unusedVariables false
set_option maxRecDepth 20000
open N
open Go.Lib (decDigits nDigits decDigits_length nDigits_pos)
namespace N
theorem trim_take (bs : List UInt8) (c : UInt8) (k : Nat) (hk : k < bs.length) : Lib.trimRightS (bs.take (k + 1)) [c] = if bs.getD k 0 = c then Lib.trimRightS (bs.take k) [c] else bs.take (k + 1) := by
  have e : bs.getD k 0 = bs[k] := by rw [List.getD_eq_getElem?_getD, List.getElem?_eq_getElem hk]; rfl
  rw [e, List.take_succ_eq_append_getElem hk]
  unfold Lib.trimRightS
  rw [List.reverse_append, List.reverse_singleton, List.singleton_append, List.dropWhile_cons]
  by_cases h : bs[k] = c
  · rw [if_pos (by simp [h]), if_pos h]
  · rw [if_neg (by simpa using h), if_neg h, List.reverse_cons, List.reverse_reverse]
theorem trim_nil (c : UInt8) : Lib.trimRightS [] [c] = [] := rfl
end N
theorem trimByte_any (w : World) (A : Option Addr) (n cap : Nat) (bs : List UInt8) (c : UInt8) (cc : Int) (h : SlB w A n cap bs) (hcc : cc = (c.toNat : Int)) :
    Calls Tryz.prog 102 #[.slice A n cap, .int .u8 cc] w fun e w' => ∃ k : Nat, k ≤ n ∧ e = .returned (.slice A k cap) ∧ Lib.trimRightS bs [c] = bs.take k ∧ w' = w := by
  have hl := h.len
  have hc := h.cap
  have hm := h.max
  unfold maxLen at hm
  have HL := Lib.hid hl
  have HC := Lib.hid hcc
  clear hl hcc
  go_enter Tryz.func102, Tryz.ntmps102
  go_wp2
  go_loop [0] (fun s => ∃ k : Nat, k ≤ n ∧ s = .slice A k cap ∧ Lib.trimRightS bs [c] = Lib.trimRightS (bs.take k) [c]) (fun s => lenOf s)
  case atStart => exact ⟨n, Nat.le_refl _, rfl, by rw [List.take_of_length_le (by rw [HL.out]; exact Nat.le_refl _)]⟩
  case round =>
    obtain ⟨k, hk, rfl, hT⟩ := hrel
    by_cases h0 : 0 < k
    · obtain ⟨j, rfl⟩ : ∃ j, k = j + 1 := ⟨k - 1, by omega⟩
      obtain ⟨ad, rfl, _, hcell⟩ := h.cell (k := j) (by omega)
      have ht := trim_take bs c j (by rw [HL.out]; omega)
      have e1 : ((j : Int) + 1 - 1).toNat = j := by omega
      have e0 : (((j + 1 : Nat) : Int) - 1) = (j : Int) := by omega
      by_cases hz : bs.getD j 0 = c
      · rw [if_pos hz] at ht
        have hbe : bat bs j = cc := by rw [HC.out]; unfold bat; rw [hz]
        rw [hbe] at hcell
        have HT := Lib.hid (hT.trans ht)
        clear hz ht hT hbe
        go_wp2
        go_round
        case rel => exact ⟨j, by omega, by congr 1, HT.out⟩
        case measure => simp [lenOf]
      · rw [if_neg hz] at ht
        have hbe : (bat bs j == cc) = false := by
          rw [HC.out, beq_eq_false_iff_ne]; unfold bat
          intro e
          exact hz (UInt8.toNat_inj.1 (by omega))
        have HT := Lib.hid (hT.trans ht)
        clear hz ht hT
        go_wp2
        go_ret
        exact ⟨j + 1, hk, rfl, HT.out, rfl⟩
    · obtain rfl : k = 0 := by omega
      have HT := Lib.hid hT
      clear hT
      go_wp2
      go_ret
      exact ⟨0, hk, rfl, by rw [HT.out]; rfl, rfl⟩
theorem trimRight_any (w : World) (A : Option Addr) (n cap : Nat) (bs : List UInt8) (h : SlB w A n cap bs) :
    Calls Tryz.prog 74 #[.slice A n cap, .string ⟨#[48]⟩] w fun e w' => ∃ k : Nat, k ≤ n ∧ e = .returned (.slice A k cap) ∧ Lib.trimRightS bs [48] = bs.take k ∧ Below w.heap.size w w' := by
  have hc := h.cap
  have hm := h.max
  unfold maxLen at hm
  have hx : ∀ W : World, (Instr.index 9 (.string ⟨#[48]⟩) (.int .i64 0)).run Tryz.prog W = .ok (.int .u8 48) W := fun W => str_at [48] 9 strU .i64 0 (by decide) W
  by_cases h0 : n = 0
  · subst h0
    have hb : bs = [] := List.eq_nil_of_length_eq_zero h.len
    have HB := Lib.hid hb
    clear hb
    go_enter Tryz.func74, Tryz.ntmps74
    go_wp2
    go_ret
    exact ⟨0, Nat.le_refl _, rfl, by rw [HB.out]; rfl, Below.refl _ _⟩
  · have hn0 : ((n : Int) == 0) = false := by simpa using h0
    have HT := Lib.hid (trimByte_any w A n cap bs 48 48 h rfl)
    clear h0
    go_enter Tryz.func74, Tryz.ntmps74
    go_wp2_with (go_at_call 102; refine HT.out.mono ?_; rintro e w1 ⟨k, hk, rfl, ht, rfl⟩)
    go_ret
    exact ⟨k, hk, rfl, ht, Below.refl _ _⟩
namespace N
/-- the block g begins with the row of bytes bs; behind it are e places more -/
def ArPB (w : World) (g e : Nat) (bs : List UInt8) : Prop := ∃ ext : List Value, ext.length = e ∧ w.heap[g]? = some (.cells (bv bs ++ ext).toArray 5 (0, 0))
section
variable {w w' : World} {g e : Nat} {bs : List UInt8}
theorem ArPB.cell (h : ArPB w g e bs) {k : Nat} (hk : k < bs.length) : w.cell? ⟨g, k, none⟩ = some (.int .u8 (bat bs k)) := by
  obtain ⟨ext, _, h⟩ := h
  rw [cell_of_row w g k _ _ _ h]
  have := bv_get bs k hk
  rw [List.getElem?_toArray, List.getElem?_append_left (by rw [bv_length]; exact hk)]
  exact this
theorem ArPB.frozen (h : ArPB w g e bs) (k : Nat) : w.frozen? ⟨g, k, none⟩ = false := by
  obtain ⟨ext, _, h⟩ := h
  simp [World.frozen?, h]
theorem ArPB.drew (h : ArPB w g e bs) : ArPB w.drew g e bs := h
theorem ArPB.set (h : ArPB w g e bs) (k : Nat) (v : UInt8) (hk : k < bs.length) : ArPB (w.setCell ⟨g, k, none⟩ (.int .u8 (v.toNat : Int))) g e (bs.set k v) := by
  obtain ⟨ext, h1, h2⟩ := h
  refine ⟨ext, h1, ?_⟩
  simp only [World.setCell, Array.getElem?_modify, h2]
  simp [bv, List.map_set, hk]
theorem ArPB.own (h : ArPB w g e bs) {base n c : Nat} (hb : base ≤ g) (hl : bs.length = n) (hc : n + e = c) (hm : c ≤ maxLen) : OwnB w base (some ⟨g, 0, none⟩) n c bs := by
  obtain ⟨ext, h1, h2⟩ := h
  refine ⟨by rw [bv_length, hl, Nat.mul_one], .inr ⟨g, c, _, rfl, hb, h2, by omega, hm, ?_, ?_⟩⟩
  · simp [bv_length, hl, h1, hc]
  · rw [Nat.mul_one]
    simp [bv_length, hl]
theorem OwnB.arp {base n c : Nat} {A : Option Addr} (h : OwnB w base A n c bs) (hn : 0 < n) : ∃ g, A = some ⟨g, 0, none⟩ ∧ base ≤ g ∧ n ≤ c ∧ c ≤ maxLen ∧ ArPB w g (c - n) bs := by
  rcases h.2 with ⟨e, e0⟩ | ⟨g, cap, cur, e, hb, hh, hnc, hm, hsz, ht⟩
  · omega
  · cases e
    refine ⟨g, rfl, hb, hnc, hm, cur.toList.drop n, by simp [hsz], ?_⟩
    rw [hh, ← ht, Nat.mul_one, List.take_append_drop]
theorem OwnB.mono {base base' n c : Nat} {A : Option Addr} (h : OwnB w base A n c bs) (hb : base' ≤ base) : OwnB w base' A n c bs :=
  ⟨h.1, by
    rcases h.2 with e | ⟨g, cap, cur, e, hg, r⟩
    · exact .inl e
    · exact .inr ⟨g, cap, cur, e, Nat.le_trans hb hg, r⟩⟩
theorem OwnB.take {base n c : Nat} {A : Option Addr} (h : OwnB w base A n c bs) {k : Nat} (hk : k ≤ n) : OwnB w base A k c (bs.take k) := by
  refine ⟨by rw [bv_length, List.length_take, h.len, Nat.min_eq_left hk, Nat.mul_one], ?_⟩
  rcases h.2 with ⟨e, h0⟩ | ⟨g, cap, cur, e, hg, hh, hnc, hm, hs, ht⟩
  · left; cases e; exact ⟨by rw [show k = 0 by omega], by omega⟩
  · cases e
    refine .inr ⟨g, _, cur, rfl, hg, hh, by omega, hm, hs, ?_⟩
    rw [← bv_take, ← ht, List.take_take, Nat.mul_one, Nat.mul_one, Nat.min_eq_left hk]
end
/-- i bytes from each end have changed places -/
structure RvSt (bs : List UInt8) (i : Nat) (L : List UInt8) : Prop where
  len : L.length = bs.length
  at' : ∀ p, p < bs.length → L.getD p 0 = if p < i ∨ bs.length ≤ p + i then bs.getD (bs.length - 1 - p) 0 else bs.getD p 0
theorem getD_set (l : List UInt8) (k j : Nat) (v : UInt8) (hk : k < l.length) : (l.set k v).getD j 0 = if j = k then v else l.getD j 0 := by
  rw [List.getD_eq_getElem?_getD, List.getElem?_set, List.getD_eq_getElem?_getD]
  by_cases h : j = k
  · subst h; rw [if_pos rfl, if_pos rfl, if_pos hk]; rfl
  · rw [if_neg (fun e => h e.symm), if_neg h]
theorem RvSt.start (bs : List UInt8) : RvSt bs 0 bs := ⟨rfl, fun p hp => by rw [if_neg (by omega)]⟩
theorem RvSt.step {bs : List UInt8} {i : Nat} {L : List UInt8} (h : RvSt bs i L) (hi : i + 1 + i < bs.length) :
    RvSt bs (i + 1) ((L.set i (L.getD (bs.length - 1 - i) 0)).set (bs.length - 1 - i) (L.getD i 0)) := by
  have h1 := h.at' i (by omega)
  have h2 := h.at' (bs.length - 1 - i) (by omega)
  rw [if_neg (by omega)] at h1 h2
  refine ⟨by rw [List.length_set, List.length_set, h.len], fun p hp => ?_⟩
  rw [getD_set _ _ _ _ (by rw [List.length_set, h.len]; omega), getD_set _ _ _ _ (by rw [h.len]; omega), h.at' p hp, h1, h2]
  by_cases e1 : p = bs.length - 1 - i
  · rw [if_pos e1, if_pos (by omega), e1]; congr 1; omega
  · rw [if_neg e1]
    by_cases e2 : p = i
    · rw [if_pos e2, if_pos (by omega), e2]
    · rw [if_neg e2]
      by_cases e3 : p < i ∨ bs.length ≤ p + i
      · rw [if_pos e3, if_pos (by omega)]
      · rw [if_neg e3, if_neg (by omega)]
theorem RvSt.done {bs : List UInt8} {i : Nat} {L : List UInt8} (h : RvSt bs i L) (hi : bs.length ≤ i + 1 + i) : L = bs.reverse := by
  apply List.ext_getElem
  · rw [h.len, List.length_reverse]
  · intro p hp hq
    have hp' : p < bs.length := by rw [← h.len]; exact hp
    have e := h.at' p hp'
    rw [List.getD_eq_getElem?_getD, List.getElem?_eq_getElem hp] at e
    rw [List.getElem_reverse]
    have e2 : bs.getD (bs.length - 1 - p) 0 = bs[bs.length - 1 - p] := by rw [List.getD_eq_getElem?_getD, List.getElem?_eq_getElem (by omega)]; rfl
    rw [← e2]
    split at e
    · exact e
    · refine e.trans ?_
      congr 1; omega
end N
theorem reverse_any (w : World) (base : Nat) (A : Option Addr) (n c : Nat) (bs : List UInt8) (h : OwnB w base A n c bs) (hbase : base ≤ w.heap.size) :
    Calls Tryz.prog 76 #[.slice A n c] w fun e w' => e = .returned (.tuple #[]) ∧ OwnB w' base A n c bs.reverse ∧ Below base w w' := by
  have hl := h.len
  have hm := h.sl.max
  have hc := h.sl.cap
  unfold maxLen at hm
  by_cases hn : 0 < n
  · obtain ⟨g, rfl, hg, hnc, hcm, hA⟩ := h.arp hn
    have HL := Lib.hid hl
    have HA := Lib.hid hA
    clear h hl hA
    go_enter Tryz.func76, Tryz.ntmps76
    go_wp2
    go_loopw [2, 3] (fun s2 s3 wr => ∃ (i j : Nat) (L : List UInt8), s2 = .int .i64 i ∧ s3 = .int .i64 j ∧ i + j + 1 = n ∧ RvSt bs i L ∧ ArPB wr g (c - n) L ∧ Below base w wr) (fun _ s3 _ => (intOf s3).toNat)
    case atStart => exact ⟨0, n - 1, bs, rfl, by congr 1; omega, by omega, RvSt.start bs, HA.out, Below.refl _ _⟩
    case round =>
      obtain ⟨i, j, L, rfl, rfl, hij, hR, hA, hb⟩ := hrel
      obtain ⟨wi, rfl⟩ : ∃ wi : World, wi = wr := ⟨_, rfl⟩
      have hLl : L.length = n := by rw [hR.len, HL.out]
      by_cases hlt : i < j
      · have ci := hA.cell (k := i) (by omega)
        have cj := hA.cell (k := j) (by omega)
        have fi := hA.frozen i
        have fj := hA.frozen j
        have e1 : n - 1 - i = j := by omega
        have hst := hR.step (by rw [HL.out]; omega)
        rw [HL.out, e1] at hst
        have hset := (hA.drew.set i (L.getD j 0) (by omega)).set j (L.getD i 0) (by rw [List.length_set]; omega)
        have HST := Lib.hid hst
        have HSET := Lib.hid hset
        have HB := Lib.hid hb
        clear hR hA hb hLl e1 hst hset
        go_wp2
        go_region
        go_wp2
        go_roundw
        case rel => exact ⟨i + 1, j - 1, _, by go_num, by congr 1; omega, by omega, HST.out, ArPB.drew HSET.out, (((HB.out.setCell hg _).setCell hg _).drew)⟩
        case measure => simp [intOf]; omega
      · have HO := Lib.hid (hA.own hg (n := n) (c := c) (by rw [hLl]) (by omega) hcm)
        have hd := hR.done (by rw [HL.out]; omega)
        have HD := Lib.hid hd
        have HB := Lib.hid hb
        clear hR hA hb hd hLl
        go_wp2
        go_end0
        exact ⟨rfl, by rw [← HD.out]; exact HO.out, HB.out⟩
  · obtain rfl : n = 0 := by omega
    have hb : bs = [] := List.eq_nil_of_length_eq_zero hl
    have HB := Lib.hid hb
    have HO := Lib.hid h
    clear h hb hl
    go_enter Tryz.func76, Tryz.ntmps76
    go_wp2
    go_loop [2, 3] (fun s2 s3 => s2 = .int .i64 0 ∧ s3 = .int .i64 (-1)) (fun _ _ => 0)
    case atStart => exact ⟨rfl, rfl⟩
    case round =>
      obtain ⟨rfl, rfl⟩ := hrel
      go_wp2
      go_end0
      exact ⟨rfl, by rw [HB.out]; have := HO.out; rw [HB.out] at this; exact this, Below.refl _ _⟩
/-- the row lies where it did, or in a block that is new since w -/
def RowFrom (w : World) (A A' : Option Addr) : Prop := rowOf A' = rowOf A ∨ ∀ k, rowOf A' = some k → w.heap.size ≤ k
theorem grow_on {w w1 w2 : World} {A A1 : Option Addr} (h : w.grownBy w1 (rowOf A)) (hr : RowFrom w A A1) (h2 : w1.grownBy w2 (rowOf A1)) : w.grownBy w2 (rowOf A) :=
  ⟨h2.os.trans h.os, h2.tape.trans h.tape, h2.output.trans h.output, Nat.le_trans h.size h2.size, fun k hk hne => (h2.block k (Nat.lt_of_lt_of_le hk h.size) (fun e => by
    rcases hr with e' | e'
    · exact hne (e.trans e')
    · have := e' k e.symm; omega)).trans (h.block k hk hne)⟩
theorem row_on {w w1 : World} {A A1 A2 : Option Addr} (hs : w.heap.size ≤ w1.heap.size) (h : RowFrom w A A1) (h2 : RowFrom w1 A1 A2) : RowFrom w A A2 := by
  rcases h2 with e | e
  · rcases h with e' | e'
    · exact .inl (e.trans e')
    · exact .inr fun k hk => e' k (by rw [← e]; exact hk)
  · exact .inr fun k hk => Nat.le_trans hs (e k hk)
theorem N.Sl.grows {w w' : World} {A : Option Addr} {n c : Nat} {xs : List Int} {r : Option Nat} (h : Sl w A n c xs) (hg : w.grownBy w' r) (ha : ∀ g, r = some g → Aw A g) : Sl w' A n c xs :=
  ⟨h.len, h.cap, h.max, h.dg, h.nil, fun k hk => by
    obtain ⟨ad, e, hlt, hc⟩ := h.at' k hk
    exact ⟨ad, e, Nat.lt_of_lt_of_le hlt hg.size, fun j hj => (hg.cell (hc j hj) (by rw [add_block]; intro e'; exact ha _ e'.symm ad e rfl))⟩⟩
theorem wp_appB' {w : World} {ops : Array Oper} {rest : List Oper} {o : Oper} {a : Act} {Q : Exit → Act → World → Prop} (hgd : o.guard = none) (s x : Operand)
    (ho : o.op = .call { callee := .builtin .append, args := #[s, x], argTypes := #[93, 93] })
    (base : Nat) {A : Option Addr} {n c : Nat} {xs : List UInt8} (hs : a.eval s = .slice A n c) (hown : OwnB w base A n c xs)
    {A' : Option Addr} {m d : Nat} {ys : List UInt8} (hx : a.eval x = .slice A' m d) (hr : SlB w A' m d ys) (hn : n ≤ 8796093022208) (hm : m ≤ 4398046511104) (hbase : base ≤ w.heap.size)
    (h : ∀ A'' c'' w', OwnB w' base A'' (n + m) c'' (xs ++ ys) → w.grownBy w' (rowOf A) → RowFrom w A A'' → Below base w w' →
      wpList Tryz.prog ops Q rest (a.put o.dst (.slice A'' (n + m) c'')) w') : wpList Tryz.prog ops Q (o :: rest) a w := by
  obtain ⟨i0, hi, hz0, hz1, hz2⟩ := info_parts infoU8
  have hlt : ∀ k, rowOf A = some k → base ≤ k := fun k hk => (World.ownsRow.lt hown k (by rw [ownBlock_eq]; exact hk)).1
  have fin : ∀ (v' : Value) (w' : World), w'.ownsRow base 5 1 v' (n + m) (bv xs ++ bv ys) → w.grownBy w' (Value.slice A n c).ownBlock →
      (v'.ownBlock = (Value.slice A n c).ownBlock ∨ v'.ownBlock = some w.heap.size) → wpList Tryz.prog ops Q rest (a.put o.dst v') w' := by
    intro v' w' hown' hg hat
    rw [ownBlock_eq] at hg hat
    have hb : Below base w w' := ⟨hg.os, hg.tape, hg.output, hg.size, fun k hk => hg.block k (Nat.lt_of_lt_of_le hk hbase) (fun e => by have := hlt k e.symm; omega)⟩
    rw [← bv_append] at hown'
    rcases hown'.2 with ⟨rfl, h0⟩ | ⟨g, cap, cur, rfl, rest'⟩
    · have := h none 0 w'
      rw [h0] at this hown'
      exact this hown' hg (.inr fun k hk => by cases hk) hb
    · refine h _ cap w' hown' hg ?_ hb
      rw [ownBlock_eq] at hat
      rcases hat with e | e
      · exact .inl e
      · exact .inr fun k hk => by rw [e] at hk; injection hk with hk; omega
  cases A' with
  | none =>
    have hd := hr.nil rfl
    have hc := hr.cap
    obtain rfl : d = 0 := hd
    obtain rfl : m = 0 := by omega
    have hy : ys = [] := List.eq_nil_of_length_eq_zero hr.len
    subst hy
    refine wpList_append_own_none hgd s x 93 ho base 5 i0 1 slB hi _ n (bv xs) hs hown hx ?_
    exact fin _ w (by simpa [bv, OwnB] using hown) (World.grownBy.refl w _) (.inl rfl)
  | some ad =>
    refine wpList_append_own_at (w := w) hgd s x 93 ho base 5 i0 (.int .u8 0) 1 1 slB hi hz0 hz1 hz2 rfl (by omega) _ n (bv xs) hs hown ad m d (bv ys) hx (by rw [bv_length, hr.len, Nat.mul_one]) ?_ (bv_one ys) (by unfold maxLen; omega) (by omega) hbase ?_
    · intro j u hu
      have hj : j < ys.length := by have := (List.getElem?_eq_some_iff.1 hu).1; rwa [bv_length] at this
      rw [bv_get ys j hj] at hu
      injection hu with hu
      subst hu
      rw [hr.len] at hj
      obtain ⟨ad', e, _, hc⟩ := hr.cell hj
      injection e with e
      subst e
      exact hc
    · intro v' w' h2 h3 _ h5
      exact fin v' w' h2 h3 h5
theorem appendDigits_any (w : World) (base : Nat) (A A' : Option Addr) (n c m d : Nat) (bs : List UInt8) (xs : List Int) (h : OwnB w base A n c bs) (hy : Sl w A' m d xs) (ha : ∀ g, rowOf A = some g → Aw A' g) (hbase : base ≤ w.heap.size)
    (hm : m ≤ 64) (hn : n ≤ 1000000000) :
    Calls Tryz.prog 75 #[.slice A n c, .slice A' m d] w fun e w' => ∃ A1 c1, e = .returned (.slice A1 (n + 19 * m) c1) ∧ OwnB w' base A1 (n + 19 * m) c1 (bs ++ gdI xs) ∧ w.grownBy w' (rowOf A) ∧ RowFrom w A A1 ∧ Below base w w' := by
  have hyc := hy.cap
  have hym := hy.max
  unfold maxLen at hym
  have HY := Lib.hid hy
  have HO := Lib.hid h
  have HA := Lib.hid ha
  clear hy h ha
  go_enter Tryz.func75, Tryz.ntmps75
  go_wp2
  go_loopw [0, 9] (fun s i wr => ∃ (k : Nat) (A1 : Option Addr) (c1 : Nat), i = .int .i64 k ∧ s = .slice A1 (n + 19 * k) c1 ∧ k ≤ m ∧ OwnB wr base A1 (n + 19 * k) c1 (bs ++ gdI (xs.take k)) ∧ w.grownBy wr (rowOf A) ∧ RowFrom w A A1 ∧ Below base w wr) (fun _ i _ => m - (intOf i).toNat)
  case atStart => exact ⟨0, A, c, rfl, rfl, Nat.zero_le _, by rw [List.take_zero]; exact (by simpa [gdI] using HO.out), World.grownBy.refl _ _, .inl rfl, Below.refl _ _⟩
  case round =>
    obtain ⟨k, A1, c1, rfl, rfl, hk, ho, hg, hr, hb⟩ := hrel
    obtain ⟨wi, rfl⟩ : ∃ wi : World, wi = wr := ⟨_, rfl⟩
    by_cases hlt : k < m
    · obtain ⟨ad, rfl, _, hcell⟩ := (HY.out.grows hg HA.out).cell hlt
      have hlb := HY.out.dg.lim (b := B) (by decide) k
      obtain ⟨x, hx⟩ : ∃ x : Nat, lim xs k = (x : Int) := ⟨(lim xs k).toNat, (Int.toNat_of_nonneg hlb.1).symm⟩
      have hxb : x < 18446744073709551616 := by have h2 : lim xs k < 18446744073709551616 := hlb.2; omega
      rw [hx] at hcell
      have HX := Lib.hid hx
      have HB1 := Lib.hid ho
      have HG1 := Lib.hid hg
      have HR1 := Lib.hid hr
      have HBL := Lib.hid hb
      clear hx ho hg hr hb hlb
      go_wp2
      clear hcell
      go_loopw [0, 6, 13] (fun s v i wr => ∃ (j : Nat) (A2 : Option Addr) (c2 : Nat), i = .int .i64 j ∧ v = .int .u64 ((x / 10 ^ j : Nat) : Int) ∧ s = .slice A2 (n + 19 * k + j) c2 ∧ j ≤ 19 ∧ OwnB wr base A2 (n + 19 * k + j) c2 (bs ++ gdI (xs.take k) ++ lowD j x) ∧ w.grownBy wr (rowOf A) ∧ RowFrom w A A2 ∧ Below base w wr) (fun _ _ i _ => 19 - (intOf i).toNat)
      case atStart => exact ⟨0, A1, c1, rfl, by rw [Nat.pow_zero, Nat.div_one], rfl, by omega, by rw [lowD_zero, List.append_nil]; exact HB1.out, HG1.out, HR1.out, HBL.out⟩
      case round =>
        obtain ⟨j, A2, c2, rfl, rfl, rfl, hj, ho, hg, hr, hb⟩ := hrel
        obtain ⟨wj, rfl⟩ : ∃ wj : World, wj = wr := ⟨_, rfl⟩
        by_cases hj19 : j < 19
        · obtain ⟨u, hu⟩ : ∃ u, x / 10 ^ j = u := ⟨_, rfl⟩
          have hub : u < 18446744073709551616 := by rw [← hu]; exact Nat.lt_of_le_of_lt (Nat.div_le_self _ _) hxb
          have hu2 : x / 10 ^ (j + 1) = u / 10 := by rw [Nat.pow_succ, ← Nat.div_div_eq_div_mul, hu]
          have hls := lowD_succ j x
          rw [hu] at hls ⊢
          have e3 : IntKind.u8.wrap (48 + (u : Int) % 10) = 48 + (u : Int) % 10 := by rw [IntKind.wrap_u8]; omega
          have ho5 := ho.below ((Below.refl wj.heap.size wj).alloc (Nat.le_refl _) (.cells #[.int .u8 (48 + (u : Int) % 10)] 5))
          have hs5 := (ArrB.lit wj [UInt8.ofNat (48 + u % 10)] #[.int .u8 (48 + (u : Int) % 10)] (bv_dig u)).sl (n := 1) rfl (by unfold maxLen; omega)
          have hb5 := hb.alloc (Nat.le_trans hbase hb.size) (.cells #[.int .u8 (48 + (u : Int) % 10)] 5)
          have hg5 := grow_on hg hr (grow_below ((Below.refl wj.heap.size wj).alloc (Nat.le_refl _) (.cells #[.int .u8 (48 + (u : Int) % 10)] 5)) (rowOf A2))
          have HLS := Lib.hid hls
          have HU2 := Lib.hid hu2
          have HR2 := Lib.hid hr
          have HG5 := Lib.hid hg5
          clear hls hu2 hu ho hg hr hb hg5
          go_wp2_with (first
            | (at_builtin; refine wp_appB' rfl _ _ rfl base rfl ho5 rfl hs5 (by omega) (by omega) (Nat.le_trans hbase hb5.size) ?_; intro A6 c6 w6 hown6 hg6 hr6 hb6))
          go_roundw
          case rel =>
            refine ⟨j + 1, A6, c6, by go_num, by rw [HU2.out]; congr 1, rfl, by omega, ?_, grow_on HG5.out HR2.out hg6, row_on HG5.out.size HR2.out hr6, hb5.trans hb6⟩
            rw [HLS.out, ← List.append_assoc]
            exact hown6
          case measure => simp [intOf]; omega
        · obtain rfl : j = 19 := by omega
          have HB2 := Lib.hid ho
          have HG2 := Lib.hid hg
          have HR2 := Lib.hid hr
          have HBL2 := Lib.hid hb
          clear ho hg hr hb
          go_wp2
          go_roundw
          case rel =>
            refine ⟨k + 1, A2, c2, by go_num, by congr 1, by omega, ?_, HG2.out, HR2.out, HBL2.out⟩
            have e := HB2.out
            have hkl : k < xs.length := by rw [HY.out.len]; exact hlt
            rw [List.take_succ_eq_append_getElem hkl, gdI_snoc, ← lim_lt xs k hkl, HX.out, Int.toNat_natCast, ← List.append_assoc]
            exact e
          case measure => simp [intOf]; omega
    · obtain rfl : k = m := by omega
      have HB1 := Lib.hid ho
      have HG1 := Lib.hid hg
      have HR1 := Lib.hid hr
      have HBL := Lib.hid hb
      clear ho hg hr hb
      go_wp2
      go_ret
      refine ⟨A1, c1, rfl, ?_, HG1.out, HR1.out, HBL.out⟩
      have e := HB1.out
      rw [List.take_of_length_le (by rw [HY.out.len]; exact Nat.le_refl _)] at e
      exact e
end Go.Proofs.YtpokcocfdchfeaaGreatDoor
/- What the program's Show and Many (and split, splitLow, fits) answer, over this translation: the decimal digits. -/
namespace Go.Proofs.YtpokcocfdchfeaaGreatDoor
open Go.RowKit
set_option linter.unusedVariables false
set_option maxRecDepth 20000
open N
open Go.Lib (decDigits nDigits decDigits_length nDigits_pos lt_pow_nDigits)
theorem fits_any (w : World) (A : Option Addr) (n c : Nat) (xs : List Int) (h : Sl w A n c xs) (hn : n ≤ 1099511627775) (v : Nat) (hv : val B xs = (v : Int)) :
    Calls Tryz.prog 100 #[.slice A n c] w fun e w' => e = .returned (.bool (decide (W.len (v : Int) ≤ 4032))) ∧ w' = w := by
  have HL := Lib.hid (nlen_any w A n c xs h (by omega))
  have HV := Lib.hid hv
  clear hv h
  go_enter Tryz.func100, Tryz.ntmps100
  go_wp2_with (go_at_call 48; refine HL.out.mono ?_; rw [HV.out]; rintro e w1 ⟨rfl, rfl⟩)
  go_ret
  exact ⟨rfl, rfl⟩
namespace N
/-- the block g holds an array of groups -/
def Arr64 (w : World) (g : Nat) (xs : List Int) : Prop := w.heap[g]? = some (.cells (uv xs).toArray 97 (0, 0))
section
variable {w w' : World} {g : Nat} {xs : List Int}
theorem Arr64.lt (h : Arr64 w g xs) : g < w.heap.size := by
  rcases Nat.lt_or_ge g w.heap.size with hlt | hge
  · exact hlt
  · unfold Arr64 at h; rw [Array.getElem?_eq_none hge] at h; cases h
theorem Arr64.cell (h : Arr64 w g xs) {k : Nat} (hk : k < xs.length) : w.cell? ⟨g, k, none⟩ = some (.int .u64 (lim xs k)) := by
  rw [cell_of_row w g k _ _ _ h]
  simpa using uv_get xs k hk
theorem Arr64.frozen (h : Arr64 w g xs) (k : Nat) : w.frozen? ⟨g, k, none⟩ = false := by
  unfold Arr64 at h; simp [World.frozen?, h]
theorem Arr64.below {b : Nat} (h : Arr64 w g xs) (hb : Below b w w') (hg : g < b) : Arr64 w' g xs := (hb.block g hg).trans h
theorem Arr64.drew (h : Arr64 w g xs) : Arr64 w.drew g xs := h
theorem Arr64.set (h : Arr64 w g xs) (k : Nat) (v : Int) : Arr64 (w.setCell ⟨g, k, none⟩ (.int .u64 v)) g (xs.set k v) := by
  unfold Arr64 at h ⊢
  simp [World.setCell, Array.getElem?_modify, h, uv, List.map_set]
theorem Arr64.made {cs : Array Value} (h : w.alloc (.cells cs 97) = w') (hc : cs = (uv xs).toArray) : Arr64 w' w.heap.size xs ∧ Below w.heap.size w w' := by
  subst h hc
  exact ⟨heap_alloc_new w _, (Below.refl _ w).alloc (Nat.le_refl _) _⟩
end
theorem zeros64 : #[Value.int .u64 0, .int .u64 0, .int .u64 0, .int .u64 0, .int .u64 0, .int .u64 0, .int .u64 0, .int .u64 0] = (uv (List.replicate 8 0)).toArray := rfl
end N
theorem N.Own.aw {w : World} {base : Nat} {A : Option Addr} {n c : Nat} {xs : List Int} (h : N.Own w base A n c xs) {g : Nat} (hg : g < base) : Aw A g := fun ad e => by
  subst e
  have := (h.row.lt ad.block (by rw [ownBlock_eq]; rfl)).1
  omega
theorem N.Sl.aw {w : World} {A : Option Addr} {n c : Nat} {xs : List Int} (h : Sl w A n c xs) (hn : 0 < n) {g : Nat} (hg : w.heap.size ≤ g) : Aw A g := fun ad e => by
  obtain ⟨ad', e', hlt, _⟩ := h.at' 0 hn
  rw [e] at e'
  injection e' with e'
  subst e'
  omega
theorem uv_all (xs : List Int) : (uv xs).toArray.all (·.oneCell') = true := by
  rw [Array.all_eq_true_iff_forall_mem]
  intro u hu
  exact uv_one xs u (by simpa using hu)
theorem groupsI {xs : List Int} (h : xs.length = RM) : (Tryz.prog.info? 97).map (·.size) = some (uv xs).toArray.size := by
  rw [show (uv xs).toArray.size = 64 by rw [List.size_toArray, uv_length, h]; rfl]
  kernel_rfl
theorem store64 (w : World) (c : Array Value) (xs : List Int) (hc : c.size = 64) (h : xs.length = RM) :
    (storeCells ⟨w.heap.size, 0, none⟩ (uv xs)).run Tryz.prog (w.alloc (.cells c 97)) = .ok () (w.alloc (.cells (uv xs).toArray 97)) := by
  have h2 : c.size = (uv xs).toArray.size := by rw [hc, List.size_toArray, uv_length, h]; rfl
  exact run_storeCells_new w _ c (uv xs).toArray (groupsI h) h2 (uv_all xs)
theorem slice64 (w : World) (a : Addr) (k : Nat) (hk : k ≤ 64) :
    (Instr.sliceAt 97 (.pointer (some a)) none (some (.int .i64 (k : Int))) none).run Tryz.prog w = .ok (.slice (some a) k 64) w := by
  have hl : Tryz.prog.arrayLen 97 = 64 := by kernel_rfl
  have hs : (sizeOf (Tryz.prog.elem 97)).run Tryz.prog w = .ok 1 w := by
    have h : (Tryz.prog.info? (Tryz.prog.elem 97)).map (·.size) = some 1 := by kernel_rfl
    cases hq : Tryz.prog.info? (Tryz.prog.elem 97) with
    | none => simp [hq] at h
    | some i => simp [hq] at h; simp [sizeOf, typeInfo, hq, h]
  rw [run_sliceAt_array_h w _ a (by kernel_rfl) .i64 (k : Int) (by omega) (by rw [hl]; omega), hs, hl]
  simp only [Result.andThen, slicedAt]
  rw [if_neg (by decide), Nat.zero_mul, show a.add 0 = a by unfold Addr.add; split <;> simp_all]
  simp
theorem split_results {tmps : Array Value} {w : World} {g : Nat} {xs : List Int} {x : Value} (hp : tmps.getD 2 undef = .pointer (some ⟨g, 0, none⟩)) (hq : tmps.getD 3 undef = x) (hA : Arr64 w g xs) (h : xs.length = RM) :
    (results Tryz.f73 tmps).run Tryz.prog w = .ok (.tuple #[.agg (uv xs).toArray, x]) w := by
  have hr := run_loadVar_row w g _ 97 _ _ _ hA Tryz.underlying97 rfl (groupsI h)
  have hp' : tmps[2]?.getD undef = .pointer (some ⟨g, 0, none⟩) := by simpa using hp
  have hq' : tmps[3]?.getD undef = x := by simpa using hq
  simp [results, Tryz.f73, hp', hq', asAddr, hr]
/-- what split knows when j groups are split off -/
def SpRel (w : World) (v n0 : Nat) (Au : Option Addr) (nu cu : Nat) (s i : Value) (wr : World) : Prop :=
  ∃ (j : Nat) (A : Option Addr) (n c : Nat) (xs : List Int), i = .int .i64 j ∧ s = .slice A n c ∧ j ≤ RM ∧ n ≤ n0 ∧ Sl wr A n c xs ∧ val B xs = ((v / 10 ^ (19 * j) : Nat) : Int) ∧ (0 < n → Aw A w.heap.size) ∧
    Sl wr Au nu cu (limbs 10000000000000000000) ∧ Arr64 wr w.heap.size (grI j v ++ List.replicate (RM - j) 0) ∧ Below w.heap.size w wr
theorem N.Sl.growz {w w' : World} {A : Option Addr} {n c g : Nat} {xs : List Int} (h : Sl w A n c xs) (hg : w.grownBy w' (some g)) (ha : 0 < n → Aw A g) : Sl w' A n c xs :=
  ⟨h.len, h.cap, h.max, h.dg, h.nil, fun k hk => by
    obtain ⟨ad, e, hlt, hc⟩ := h.at' k hk
    exact ⟨ad, e, Nat.lt_of_lt_of_le hlt hg.size, fun j hj => (hg.cell (hc j hj) (by rw [add_block]; intro e'; injection e' with e'; exact ha (by omega) ad e e'))⟩⟩
theorem split_any (w : World) (A : Option Addr) (n c : Nat) (xs : List Int) (h : Sl w A n c xs) (hn : n ≤ 1000000) (v : Nat) (hv : val B xs = (v : Int)) (hlt : v < 10 ^ KD) :
    Calls Tryz.prog 73 #[.slice A n c] w fun e w' => ∃ m : Nat, m ≤ RM ∧ e = .returned (.tuple #[.agg (uv (grI RM v)).toArray, .int .i64 m]) ∧ v / 10 ^ (19 * m) = 0 ∧ Below w.heap.size w w' := by
  have HS := Lib.hid h
  have HV := Lib.hid hv
  have HLT := Lib.hid hlt
  clear h hv hlt
  go_enter Tryz.func73, Tryz.ntmps73
  go_wp2_with fail
  go_at_call 34
  generalize hw1 : World.alloc w _ = w1
  obtain ⟨hz, hb⟩ := Arr64.made (xs := List.replicate RM 0) hw1 rfl
  clear hw1
  refine (of_any w1 10000000000000000000 (by unfold W.Wd; omega)).mono ?_
  rintro e w2 ⟨Au, nu, cu, rfl, hnu, hou, hb2⟩
  have hAu : Aw Au w.heap.size := hou.aw hz.lt
  have HAU := Lib.hid hAu
  have hr0 : SpRel w v n Au nu cu (.slice A n c) (.int .i64 ((0 : Nat) : Int)) w2 :=
    ⟨0, A, n, c, xs, rfl, rfl, Nat.zero_le _, Nat.le_refl _, HS.out.below (hb.trans (hb2.mono hb.size)), by rw [HV.out, Nat.mul_zero, Nat.pow_zero, Nat.div_one], fun h0 => HS.out.aw h0 (Nat.le_refl _), hou.sl, hz.below hb2 hz.lt, hb.trans (hb2.mono hb.size)⟩
  have HR := Lib.hid hr0
  clear hz hb hb2 hou hAu hr0
  go_wp2_with fail
  go_loopw [0, 3] (fun s i wr => SpRel w v n Au nu cu s i wr) (fun _ i _ => RM - (intOf i).toNat)
  case atStart => exact HR.out
  case round =>
    obtain ⟨j, A, n1, c, xs, rfl, rfl, hj, hn1, hS, hv, haw, hU, hA, hb⟩ := hrel
    obtain ⟨wi, rfl⟩ : ∃ wi : World, wi = wr := ⟨_, rfl⟩
    by_cases hu : v / 10 ^ (19 * j) = 0
    · rw [hu] at hv
      have HU := Lib.hid hu
      have hg64 := grI_pad v j hu (RM - j)
      rw [show j + (RM - j) = RM by omega] at hg64
      rw [← hg64] at hA
      have HA := Lib.hid hA
      have HB := Lib.hid hb
      have HZ := Lib.hid (zero_yes wi A n1 c xs hS hv)
      clear hS hA hu hU hv hb haw hg64
      go_wp2_with (first
        | (go_at_call 26; refine HZ.out.mono ?_; rintro e w3 ⟨rfl, rfl⟩)
        | (refine wpList_load_row rfl 97 (.tmp 2) rfl w.heap.size rfl _ _ (0, 0) _ HA.out Tryz.underlying97 rfl (groupsI (grI_length _ _)) ?_)
        | (refine wpList_store_row rfl 97 (.tmp 2) _ rfl w.heap.size _ rfl rfl _ _ HA.out (groupsI (grI_length _ _)) rfl (uv_all _) ?_; rw [setRow_self _ _ _ _ _ HA.out]))
      exact bodyPost_ret (split_results rfl rfl HA.out (grI_length _ _)) rfl ⟨j, hj, rfl, HU.out, HB.out⟩
    · obtain ⟨u, hu'⟩ : ∃ u, v / 10 ^ (19 * j) = u := ⟨_, rfl⟩
      rw [hu'] at hv hu
      have hu0 : 0 < u := by omega
      have hjR : j < RM := by
        rcases Nat.lt_or_ge j RM with e | e
        · exact e
        · obtain rfl : j = RM := by omega
          have e2 : v / 10 ^ KD = 0 := Nat.div_eq_of_lt HLT.out
          unfold KD at e2
          rw [e2] at hu'
          omega
      have hj64 : j < 64 := hjR
      have hz := zero_no wi A n1 c xs hS (by omega)
      have hd := qdiv_any wi A Au n1 c nu cu xs _ hS hU (by omega) (by omega) (by rw [limbs_val (by omega)]; omega)
      rw [hv, limbs_val (by omega), show (u : Int) / 10000000000000000000 = ((u / 10000000000000000000 : Nat) : Int) by omega, show (u : Int) % 10000000000000000000 = ((u % 10000000000000000000 : Nat) : Int) by omega] at hd
      have HZ := Lib.hid hz
      have HD := Lib.hid hd
      have HA := Lib.hid hA
      have HU := Lib.hid hU
      have HU' := Lib.hid hu'
      have HB := Lib.hid hb
      clear hS hA hu' hu hU hv hb haw hz hd
      go_wp2_with (first
        | (go_at_call 26; refine HZ.out.mono ?_; rintro e w3 ⟨rfl, rfl⟩)
        | (go_at_call 53; refine HD.out.mono ?_; rintro e w4 ⟨A4, n4, c4, A5, n5, c5, rfl, h4, h5, hq, hr, _, hb4⟩; have hA4 := HA.out.below hb4 HA.out.lt; have hcell := hA4.cell (k := j) (by rw [List.length_append, grI_length, List.length_replicate]; omega); have hfz := hA4.frozen j; have HQ := Lib.hid hq; have HB4 := Lib.hid hb4; have HA4 := Lib.hid hA4; have hsm := small_yes w4 A5 n5 c5 _ hr.sl (by rw [limbs_val (by omega)]; omega); rw [limbs_val (by omega)] at hsm; have HSM := Lib.hid hsm; clear hq hr hb4 hA4 hsm)
        | (go_at_call 101; refine HSM.out.mono ?_; rintro e w5 ⟨rfl, rfl⟩))
      go_roundw
      case rel =>
        refine ⟨j + 1, A4, n4, c4, limbs ((u / 10000000000000000000 : Nat) : Int), by go_num, rfl, by omega, by omega, HQ.out.sl.growz (grow_set _ _ _ _) (fun _ => HQ.out.aw HA.out.lt), ?_, fun _ => HQ.out.aw HA.out.lt, (HU.out.below HB4.out).growz (grow_set _ _ _ _) (fun _ => HAU.out), ?_, ((HB.out.trans (HB4.out.mono HB.out.size)).setCell (Nat.le_refl _) _)⟩
        · rw [limbs_val (by omega), show 19 * (j + 1) = 19 * j + 19 from rfl, Nat.pow_add, ← Nat.div_div_eq_div_mul, HU'.out]
        · obtain ⟨d, hd⟩ : ∃ d, RM - j = d + 1 := ⟨RM - j - 1, by omega⟩
          have h1 := HA4.out.set j ((u % 10000000000000000000 : Nat) : Int)
          have h2 := grI_set j v d
          rw [HU'.out] at h2
          rw [hd] at h1
          rw [show RM - (j + 1) = d by omega, ← h2]
          exact h1
      case measure => simp [intOf]; omega
theorem N.Arr64.sl {w : World} {g : Nat} {xs : List Int} (h : Arr64 w g xs) {n c : Nat} (hl : xs.length = c) (hn : n ≤ c) (hm : c ≤ maxLen) (hd : Dg B xs) : Sl w (some ⟨g, 0, none⟩) n c (xs.take n) :=
  ⟨by rw [List.length_take, hl, Nat.min_eq_left hn], hn, hm, hd.take n, (fun e => by cases e), fun k hk => ⟨_, rfl, h.lt, fun j hj => by
    rw [add_plain, Nat.zero_add, lim_take, if_pos hj]; exact h.cell (by omega)⟩⟩
theorem pow_ten (w : World) : Calls Tryz.prog 34 #[.int .u64 10] w fun e w1 => ∃ A n c, e = .returned (.slice A n c) ∧ Below w.heap.size w w1 ∧
    Calls Tryz.prog 24 #[.slice A n c, .int .i64 1216] w1 (Out2 w1 16385 ((10 ^ KD : Nat) : Int) 0) := by
  refine (of_any w 10 (by unfold W.Wd; omega)).mono ?_
  rintro e w1 ⟨A, n, c, rfl, hn, ho, hb⟩
  have h := qpow_any w1 A n c _ ho.sl (by omega) KD (by unfold KD RM; omega) (by rw [limbs_val (by omega)]; right; rw [ten_ok]; unfold KD RM; omega)
  rw [limbs_val (by omega), show (10 : Int) ^ KD = ((10 ^ KD : Nat) : Int) by rw [Int.natCast_pow]; rfl] at h
  exact ⟨A, n, c, rfl, hb, h⟩
/-- what splitLow knows when j arrays of groups are split off -/
def LoRel (w : World) (v n0 : Nat) (Ap : Option Addr) (np cp P : Nat) (s t : Value) (wr : World) : Prop :=
  ∃ (j : Nat) (A1 : Option Addr) (n1 c1 : Nat) (ys : List Int) (Ad : Option Addr) (m d : Nat), s = .slice A1 n1 c1 ∧ t = .slice Ad m d ∧ n1 ≤ n0 ∧ Sl wr A1 n1 c1 ys ∧ val B ys = ((v / 10 ^ (KD * j) : Nat) : Int) ∧ Sl wr Ap np cp (limbs ((10 ^ KD : Nat) : Int)) ∧
    OwnB wr w.heap.size Ad m d (lowD (KD * j) v) ∧ (∀ g, rowOf Ad = some g → Aw Ap g) ∧ Below w.heap.size w wr ∧ P ≤ wr.heap.size ∧ KD * j ≤ nDigits v + KD
theorem splitLow_any (w : World) (A : Option Addr) (n c : Nat) (xs : List Int) (h : Sl w A n c xs) (hn : n ≤ 1000000) (v : Nat) (hv : val B xs = (v : Int)) :
    Calls Tryz.prog 72 #[.slice A n c] w fun e w' => ∃ (j : Nat) (A1 : Option Addr) (n1 c1 : Nat) (ys : List Int) (Ad : Option Addr) (m d : Nat), e = .returned (.tuple #[.slice A1 n1 c1, .slice Ad m d]) ∧ n1 ≤ n ∧ Sl w' A1 n1 c1 ys ∧ val B ys = ((v / 10 ^ (KD * j) : Nat) : Int) ∧
      v / 10 ^ (KD * j) < 10 ^ KD ∧ OwnB w' w.heap.size Ad m d (lowD (KD * j) v) ∧ m ≤ 30000000 ∧ Below w.heap.size w w' := by
  have HF := Lib.hid (fits_any w A n c xs h (by omega) v hv)
  by_cases hfit : W.len (v : Int) ≤ 4032
  · have HV := Lib.hid hv
    have HS := Lib.hid h
    have HY := Lib.hid (fits_yes hfit)
    rw [decide_eq_true hfit] at HF
    clear hv h hfit
    go_enter Tryz.func72, Tryz.ntmps72
    go_wp2_with (first
      | (go_at_call 100; refine HF.out.mono ?_; rintro e w1 ⟨rfl, rfl⟩))
    go_ret2
    exact ⟨0, A, n, c, xs, none, 0, 0, rfl, Nat.le_refl _, HS.out, by rw [HV.out, Nat.mul_zero, Nat.pow_zero, Nat.div_one], by rw [Nat.mul_zero, Nat.pow_zero, Nat.div_one]; exact HY.out, by rw [Nat.mul_zero, lowD_zero]; exact OwnB.nil_ _ _, by omega, Below.refl _ _⟩
  · rw [decide_eq_false hfit] at HF
    have HV := Lib.hid hv
    have HS := Lib.hid h
    clear hv h hfit
    go_enter Tryz.func72, Tryz.ntmps72
    go_wp2_with (first
      | (go_at_call 100; refine HF.out.mono ?_; rintro e w1 ⟨rfl, hw⟩; rw [hw]; clear hw)
      | (go_at_call 34; refine (pow_ten _).mono ?_; rintro e w2 ⟨At, nt, ct, rfl, hb2, hp⟩; have HP := Lib.hid hp; have HB2 := Lib.hid hb2; clear hp hb2)
      | (go_at_call 24; refine HP.out.mono ?_; rintro e w3 ⟨Ap, np, cp, rfl, hnp, hop, hb3⟩; have HOP := Lib.hid hop; have HB3 := Lib.hid (HB2.out.trans (hb3.mono HB2.out.size)); clear hop hb3))
    have hap : ∀ ad, Ap = some ad → ad.block < w3.heap.size := fun ad e => by
      subst e
      exact (HOP.out.row.lt ad.block (by rw [ownBlock_eq]; rfl)).2
    have HAP := Lib.hid hap
    clear hap
    go_loopw [0, 3] (fun s t wr => LoRel w v n Ap np cp w3.heap.size s t wr) (fun _ t _ => nDigits v + KD + 1 - lenOf t)
    case atStart => exact ⟨0, A, n, c, xs, none, 0, 0, rfl, rfl, Nat.le_refl _, HS.out.below HB3.out, by rw [HV.out, Nat.mul_zero, Nat.pow_zero, Nat.div_one], HOP.out.sl, by rw [Nat.mul_zero, lowD_zero]; exact OwnB.nil_ _ _, fun g hg => by simp [rowOf] at hg, HB3.out, Nat.le_refl _, by omega⟩
    case round =>
      obtain ⟨j, A1, n1, c1, ys, Ad, m, d, rfl, rfl, hn1, hS, hv, hP, hD, hap, hb, hsz, hjb⟩ := hrel
      obtain ⟨wi, rfl⟩ : ∃ wi : World, wi = wr := ⟨_, rfl⟩
      obtain ⟨u, hu⟩ : ∃ u, v / 10 ^ (KD * j) = u := ⟨_, rfl⟩
      rw [hu] at hv
      have hm : m = KD * j := by rw [← hD.len, lowD_length]
      have hmb : m ≤ 30000000 := by
        have h1 := nDigits_val HS.out.dg HS.out.len HV.out
        unfold KD RM at hjb hm
        omega
      have HF2 := Lib.hid (fits_any wi A1 n1 c1 ys hS (by omega) u hv)
      by_cases hfit : W.len (u : Int) ≤ 4032
      · rw [decide_eq_true hfit] at HF2
        have HY := Lib.hid (fits_yes hfit)
        have HS2 := Lib.hid hS
        have HV2 := Lib.hid hv
        have HD2 := Lib.hid hD
        have HB := Lib.hid hb
        have HU := Lib.hid hu
        clear hfit hS hv hP hD hap hb hsz hjb hm hu
        go_wp2_with (first
          | (go_at_call 100; refine HF2.out.mono ?_; rintro e w4 ⟨rfl, rfl⟩))
        go_ret2
        exact ⟨j, A1, n1, c1, ys, Ad, m, d, rfl, hn1, HS2.out, by rw [HU.out]; exact HV2.out, by rw [HU.out]; exact HY.out, HD2.out, hmb, HB.out⟩
      · rw [decide_eq_false hfit] at HF2
        have hu0 := fits_no hfit
        have hd := qdiv_any wi A1 Ap n1 c1 np cp ys _ hS hP (by omega) (by omega) (by rw [limbs_val (Int.natCast_nonneg _)]; exact_mod_cast Nat.pow_pos (n := KD) (show 0 < 10 by omega))
        rw [hv, limbs_val (Int.natCast_nonneg _), ← Int.natCast_ediv, ← Int.natCast_emod] at hd
        have HDV := Lib.hid hd
        have HP2 := Lib.hid hP
        have HD2 := Lib.hid hD
        have HB := Lib.hid hb
        have HU := Lib.hid hu
        have HM := Lib.hid hm
        have HJB := Lib.hid hjb
        have HA1 := Lib.hid hap
        have HU0 := Lib.hid hu0
        have HSZ := Lib.hid hsz
        have hnj : KD * j ≤ nDigits v := by
          refine Nat.le_of_lt ((Nat.pow_lt_pow_iff_right (a := 10) (by omega)).1 (Nat.lt_of_le_of_lt ?_ (lt_pow_nDigits v)))
          rcases Nat.lt_or_ge v (10 ^ (KD * j)) with e | e
          · rw [Nat.div_eq_of_lt e] at hu; omega
          · exact e
        have HNJ := Lib.hid hnj
        clear hfit hS hv hP hD hap hb hsz hjb hm hu hd hu0 hnj
        go_wp2_with (first
          | (go_at_call 100; refine HF2.out.mono ?_; rintro e w4 ⟨rfl, hw⟩; rw [hw]; clear hw)
          | (go_at_call 53; refine HDV.out.mono ?_; rintro e w5 ⟨A4, n4, c4, A5, n5, c5, rfl, h4, h5, hq, hr, _, hb5⟩; have HQ := Lib.hid hq; have HR := Lib.hid hr; have HB5 := Lib.hid hb5; clear hq hr hb5)
          | (go_at_call 73; refine (split_any _ A5 n5 c5 _ HR.out.sl (by omega) _ (limbs_val (Int.natCast_nonneg _)) (Nat.mod_lt _ (Nat.pow_pos (by omega)))).mono ?_; rintro e w6 ⟨k, hk, rfl, _, hb6⟩; have HB6 := Lib.hid (HB5.out.trans (hb6.mono HB5.out.size)); have HB56 := Lib.hid hb6; clear hb6))
        rw [store64 w6 _ _ rfl (grI_length _ _)]
        generalize hw7 : World.alloc w6 _ = w7
        obtain ⟨hA7, hb7⟩ := Arr64.made hw7 rfl
        clear hw7
        have hsl := hA7.sl (n := 64) (c := 64) (grI_length _ _) (Nat.le_refl 64) (by unfold maxLen; omega) (grI_dg _ _)
        rw [List.take_of_length_le (by rw [grI_length]; exact Nat.le_refl _)] at hsl
        have HSL := Lib.hid hsl
        have HB57 := Lib.hid (HB56.out.trans (hb7.mono HB56.out.size))
        have HB7 := Lib.hid (HB6.out.trans (hb7.mono HB6.out.size))
        clear hA7 hb7 hsl
        go_wp2_with (first
          | (go_at_call 75
             refine (appendDigits_any _ w.heap.size Ad _ m d 64 64 (lowD (KD * j) v) _ (HD2.out.below HB7.out) HSL.out (fun g hg ad e => by
               injection e with e; subst e
               have := HD2.out.row_lt g hg
               have := HB6.out.size
               show w6.heap.size ≠ g
               omega) (Nat.le_trans HB.out.size HB7.out.size) (by omega) (by omega)).mono ?_
             rintro e w8 ⟨A8, c8, rfl, ho8, hg8, hr8, hb8⟩; have HO8 := Lib.hid ho8; have HG8 := Lib.hid hg8; have HR8 := Lib.hid hr8; have HB8 := Lib.hid hb8; clear ho8 hg8 hr8 hb8))
        go_roundw
        case rel =>
          refine ⟨j + 1, A4, n4, c4, limbs ((u / 10 ^ KD : Nat) : Int), A8, m + 19 * 64, c8, rfl, rfl, by omega, (HQ.out.sl.below HB57.out).grows HG8.out (fun g hg => HQ.out.aw (HD2.out.row_lt g hg)), ?_, (HP2.out.below HB7.out).grows HG8.out HA1.out, ?_, ?_, (HB.out.trans (HB7.out.mono HB.out.size)).trans HB8.out, ?_, ?_⟩
          · rw [limbs_val (Int.natCast_nonneg _), show KD * (j + 1) = KD * j + KD from rfl, Nat.pow_add, ← Nat.div_div_eq_div_mul, HU.out]
          · have h1 := HO8.out
            rw [gdI_grI, show 19 * RM = KD from rfl, lowD_mod] at h1
            rw [show KD * (j + 1) = KD + KD * j by rw [Nat.mul_succ, Nat.add_comm], lowD_split, HU.out]
            exact h1
          · intro g hg
            rcases HR8.out with e | e
            · exact HA1.out g (e.symm.trans hg)
            · intro ad ea
              have h1 := HAP.out ad ea
              have h2 := e g hg
              have h3 := HSZ.out
              have h4 := HB7.out.size
              omega
          · have h3 := HSZ.out
            have h4 := HB7.out.size
            have h5 := HB8.out.size
            omega
          · have h1 := HNJ.out
            rw [Nat.mul_succ]
            omega
        case measure =>
          have h1 := HNJ.out
          have h2 := HM.out
          show nDigits v + KD + 1 - (m + 19 * 64) < nDigits v + KD + 1 - m
          omega
theorem sum_groups {v j k : Nat} (h : v / 10 ^ (KD * j) / 10 ^ (19 * k) = 0) : v < 10 ^ (19 * k + KD * j) := by
  rw [Nat.div_div_eq_div_mul, ← Nat.pow_add, Nat.div_eq_zero_iff] at h
  rcases h with e | e
  · exact absurd e (Nat.ne_of_gt (Nat.pow_pos (by omega)))
  · rwa [Nat.add_comm]
theorem trim_none {K v k : Nat} (h : v < 10 ^ K) (hk : k ≤ K) (h0 : v = 0) (ht : Go.Lib.trimRightS (lowD K v) [48] = (lowD K v).take k) : k = 0 := by
  have h1 := trim_lowD K v h
  rw [ht, if_pos h0] at h1
  have h2 := congrArg List.length h1
  rw [List.length_reverse, List.length_take, lowD_length, Nat.min_eq_left hk] at h2
  exact h2
theorem trim_some {K v k : Nat} (h : v < 10 ^ K) (hk : k ≤ K) (h0 : v ≠ 0) (ht : Go.Lib.trimRightS (lowD K v) [48] = (lowD K v).take k) : ((lowD K v).take k).reverse = decDigits v ∧ k ≠ 0 := by
  have h1 := trim_lowD K v h
  rw [ht, if_neg h0] at h1
  refine ⟨h1, fun e => ?_⟩
  subst e
  exact dd_ne v h1.symm
theorem pshow_any (w : World) (A : Option Addr) (n c : Nat) (xs : List Int) (h : Sl w A n c xs) (hn : n ≤ 1000000) (v : Nat) (hv : val B xs = (v : Int)) :
    Calls Tryz.prog 42 #[.slice A n c] w fun e w' => e = .returned (.string ⟨(decDigits v).toArray⟩) ∧ Below w.heap.size w w' := by
  have HSP := Lib.hid (splitLow_any w A n c xs h hn v hv)
  clear h hv
  go_enter Tryz.func42, Tryz.ntmps42
  go_wp2_with (first
    | (go_at_call 72; refine HSP.out.mono ?_; rintro e w1 ⟨j, A1, n1, c1, ys, Ad, m, d, rfl, hn1, hs1, hv1, hlt1, hd1, hm1, hb1⟩; have HS1 := Lib.hid hs1; have HV1 := Lib.hid hv1; have HLT := Lib.hid hlt1; have HD1 := Lib.hid hd1; have HB1 := Lib.hid hb1; clear hs1 hv1 hlt1 hd1 hb1)
    | (go_at_call 73; refine (split_any _ A1 n1 c1 _ HS1.out (by omega) _ HV1.out HLT.out).mono ?_; rintro e w2 ⟨k, hk, rfl, hkz, hb2⟩; have HKZ := Lib.hid (sum_groups hkz); have HB2 := Lib.hid hb2; clear hkz hb2))
  rw [store64 w2 _ _ rfl (grI_length _ _)]
  generalize hw3 : World.alloc w2 _ = w3
  obtain ⟨hA3, hb3⟩ := Arr64.made hw3 rfl
  clear hw3
  have hsl := hA3.sl (n := k) (c := 64) (grI_length _ _) hk (by unfold maxLen; omega) (grI_dg _ _)
  rw [grI_take _ _ _ hk] at hsl
  have hk64 : k ≤ 64 := hk
  have hsa := slice64 w3 ⟨w2.heap.size, 0, none⟩ k hk64
  have HSL := Lib.hid hsl
  have HB3 := Lib.hid (HB2.out.trans (hb3.mono HB2.out.size))
  clear hA3 hb3 hsl
  go_wp2_with (first
    | (go_at_call 75
       refine (appendDigits_any _ w.heap.size Ad _ m d k 64 (lowD (KD * j) v) _ (HD1.out.below HB3.out) HSL.out (fun g hg ad e => by
         injection e with e; subst e
         have := HD1.out.row_lt g hg
         have := HB2.out.size
         show w2.heap.size ≠ g
         omega) (Nat.le_trans HB1.out.size HB3.out.size) hk64 (by omega)).mono ?_
       rintro e w4 ⟨A4, c4, rfl, ho4, _, _, hb4⟩
       rw [gdI_grI, ← lowD_split] at ho4
       have HO4 := Lib.hid ho4; have HB4 := Lib.hid ((HB1.out.trans (HB3.out.mono HB1.out.size)).trans hb4); clear ho4 hb4))
  obtain ⟨K, hK⟩ : ∃ K, 19 * k + KD * j = K := ⟨_, rfl⟩
  rw [hK] at HKZ HO4
  have hKm : K = m + 19 * k := by rw [← HO4.out.len, lowD_length]
  go_at_call 74
  refine (trimRight_any w4 A4 (m + 19 * k) c4 _ HO4.out.sl).mono ?_
  rintro e w5 ⟨k', hk', rfl, ht, hb5⟩
  have HO5 := Lib.hid ((HO4.out.below hb5).take hk')
  have HB5 := Lib.hid (HB4.out.trans (hb5.mono HB4.out.size))
  by_cases h0 : v = 0
  · obtain rfl := trim_none HKZ.out (by omega) h0 ht
    have hdd : decDigits v = [48] := by rw [h0, dd_zero]
    have HDD := Lib.hid hdd
    clear hdd ht h0 hK hKm hb5
    go_wp2
    go_ret
    rw [HDD.out]
    exact ⟨rfl, HB5.out⟩
  · obtain ⟨h1, h2⟩ := trim_some HKZ.out (by omega) h0 ht
    have hk0 : ((k' : Int) == 0) = false := by simpa using h2
    have HT := Lib.hid h1
    clear h1 h2 ht h0 hK hKm hb5
    go_wp2_with (first
      | (go_at_call 76
         refine (reverse_any w5 w.heap.size A4 k' c4 _ HO5.out HB5.out.size).mono ?_
         rintro e w6 ⟨rfl, ho6, hb6⟩
         rw [HT.out] at ho6
         have hcv := str_back _ _ _ _ _ ho6.sl
         unfold str at hcv
         have HB6 := Lib.hid (HB5.out.trans hb6)
         clear ho6 hb6))
    go_ret
    exact ⟨rfl, HB6.out⟩
end Go.Proofs.YtpokcocfdchfeaaGreatDoor
/- Layer 4's calls over naturals at hand (the contracts of the program themselves: DecProg). -/
namespace Go.Proofs.YtpokcocfdchfeaaGreatDoor
open Go.RowKit
set_option linter.unusedVariables false
set_option maxRecDepth 20000
open N
open Go.Lib (decDigits nDigits decDigits_length nDigits_pos)
section
variable {w0 w w' : World} {S : List Ent} {A A' : Option Addr} {n c m d k k' : Nat} {xs ys : List Int} {v u : Int}
theorem show_s (h : St w0 w S) (h1 : (⟨A, n, c, k, xs, v⟩ : Ent) ∈ S) (hk : k ≤ 1000000) :
    Calls Tryz.prog 42 #[.slice A n c] w fun e w' => e = .returned (.string ⟨(decDigits v.toNat).toArray⟩) ∧ St w0 w' S := by
  obtain ⟨a1, a2, _⟩ := h.get h1
  exact (pshow_any w A n c xs a1 (by omega) _ (h.v_nat h1)).mono fun e w' ⟨he, hb⟩ => ⟨he, h.below hb⟩
/-- the same, its text told -/
theorem show_t (h : St w0 w S) (h1 : (⟨A, n, c, k, xs, v⟩ : Ent) ∈ S) (hk : k ≤ 1000000) (bs : List UInt8) (he : decDigits v.toNat = bs) :
    Calls Tryz.prog 42 #[.slice A n c] w fun e w' => e = .returned (.string ⟨bs.toArray⟩) ∧ St w0 w' S := by
  rw [← he]; exact show_s h h1 hk
theorem read_s (h : St w0 w S) (bs : List UInt8) (hl : bs.length ≤ maxLen) :
    Calls Tryz.prog 37 #[.string ⟨bs.toArray⟩] w fun e w' => ∃ A n c, e = .returned (.tuple #[.slice A n c, .int .i64 (rdE bs)]) ∧ St w0 w' (⟨A, n, c, 20001, limbs (rdV bs), rdV bs⟩ :: S) :=
  (pread_any w bs hl).mono fun e w' ho => h.out2 (rdV_nonneg bs) ho
theorem read_t (h : St w0 w S) (bs : List UInt8) (q r : Int) (hl : bs.length ≤ maxLen) (hq : rdE bs = q) (hr : rdV bs = r) :
    Calls Tryz.prog 37 #[.string ⟨bs.toArray⟩] w fun e w' => ∃ A n c, e = .returned (.tuple #[.slice A n c, .int .i64 q]) ∧ St w0 w' (⟨A, n, c, 20001, limbs r, r⟩ :: S) := by
  rw [← hq, ← hr]; exact read_s h bs hl
end
end Go.Proofs.YtpokcocfdchfeaaGreatDoor
