/- What the program's Read and its helpers (value, allDigits, fault) answer, over this translation. -/
import Derived.Test.YtbadbjmhmadbmaaDoorDecLib
import Derived.Test.YtbadbjmhmadbmaaDoorDecGroup
import Derived.Lib.ConvBytes
namespace Go.Proofs.YtbadbjmhmadbmaaDoor
open Go.RowKit
set_option linter.unusedVariables false
set_option maxRecDepth 20000
open N
open Go.Lib (decDigits nDigits decDigits_length nDigits_pos)
/-- '[]byte(s)': a row of the call's own with the text's bytes -/
theorem bytes_of (w : World) (bs : List UInt8) : ∃ (c : Nat) (w1 : World), (convert 9 35 (.string ⟨bs.toArray⟩)).run Tryd.prog w = .ok (.slice (some ⟨w.heap.size, 0, none⟩) bs.length c) w1 ∧
    (∀ k, k < bs.length → w1.cell? ⟨w.heap.size, k, none⟩ = some (.int .u8 (bat bs k))) ∧ Below w.heap.size w w1 := by
  refine ⟨_, _, Lib.run_convert_string_bytes w 9 35 5 ⟨bs.toArray⟩ strU slB u8U, fun k hk => ?_, ⟨rfl, rfl, rfl, by rw [Lib.bytesWorld_size]; omega, fun k hk => Lib.bytesWorld_at_old w _ _ k hk⟩⟩
  rw [Lib.bytesWorld_cell w _ ⟨bs.toArray⟩ k hk]
  rfl
namespace N
theorem dv_take_lt {bs : List UInt8} (hd : ∀ j, j < bs.length → IsD (bs.getD j 0)) {k : Nat} (hk : k ≤ 18) : dv (bs.take k) < 1000000000000000000 := by
  have h1 := dv_lt (bs.take k) fun b hb => by
    obtain ⟨j, hj, rfl⟩ := List.mem_iff_getElem.1 hb
    have hj' : j < bs.length := by rw [List.length_take] at hj; omega
    have := hd j hj'
    rw [List.getD_eq_getElem?_getD, List.getElem?_eq_getElem hj'] at this
    simpa using this
  have h2 : 10 ^ (bs.take k).length ≤ 10 ^ 18 := Nat.pow_le_pow_right (by omega) (by rw [List.length_take]; omega)
  omega
end N
theorem value_any (w : World) (bs : List UInt8) (hl : bs.length ≤ 19) (hd : ∀ j, j < bs.length → IsD (bs.getD j 0)) :
    Calls Tryd.prog 39 #[.string ⟨bs.toArray⟩] w fun e w' => e = .returned (.int .u64 (dv bs : Int)) ∧ Below w.heap.size w w' := by
  obtain ⟨c, w1, hcv, hcell, hb1⟩ := bytes_of w bs
  have HD := Lib.hid hd
  have HC := Lib.hid hcell
  have HB := Lib.hid hb1
  clear hd hcell hb1
  go_enter Tryd.func39, Tryd.ntmps39
  go_wp2
  go_loop [3, 9] (fun v i => ∃ k : Nat, i = .int .i64 k ∧ k ≤ bs.length ∧ v = .int .u64 (dv (bs.take k) : Int)) (fun _ i => bs.length - (intOf i).toNat)
  case atStart => exact ⟨0, rfl, Nat.zero_le _, rfl⟩
  case round =>
    obtain ⟨k, rfl, hk, rfl⟩ := hrel
    by_cases hlt : k < bs.length
    · have hc := HC.out k hlt
      have hD := HD.out k hlt
      obtain ⟨x, hxe⟩ : ∃ x, bat bs k = x := ⟨_, rfl⟩
      have hb1 : 48 ≤ x ∧ x ≤ 57 := by
        rw [← hxe]; unfold bat; unfold IsD at hD; omega
      have hxv : (((bs.getD k 0).toNat - 48 : Nat) : Int) = x - 48 := by
        rw [← hxe]; unfold bat; unfold IsD at hD; omega
      obtain ⟨b1, b2⟩ := hb1
      rw [hxe] at hc
      have hdv := dv_take bs k hlt
      rw [hxv] at hdv
      have hlt2 := dv_take_lt HD.out (k := k) (by omega)
      obtain ⟨v, hv⟩ : ∃ v : Int, (dv (bs.take k) : Int) = v := ⟨_, rfl⟩
      have hv0 : 0 ≤ v := by omega
      have hv1 : v < 1000000000000000000 := by omega
      rw [hv] at hdv ⊢
      have HDV := Lib.hid hdv
      have w1 : IntKind.u8.wrap (x - 48) = x - 48 := by rw [IntKind.wrap_u8]; omega
      have w2 : IntKind.u64.wrap (v * 10) = v * 10 := by rw [IntKind.wrap_u64]; omega
      have w3 : IntKind.u64.wrap (v * 10 + (x - 48)) = v * 10 + (x - 48) := by rw [IntKind.wrap_u64]; omega
      clear hD hxe hxv hdv hlt2 hv
      go_wp2
      go_round
      case rel => exact ⟨k + 1, by go_num, by omega, by rw [HDV.out]⟩
      case measure => simp [intOf]; omega
    · obtain rfl : k = bs.length := by omega
      go_wp2
      go_ret
      exact ⟨rfl, HB.out⟩
theorem allDigits_any (w : World) (bs : List UInt8) (hl : bs.length ≤ maxLen) :
    Calls Tryd.prog 56 #[.string ⟨bs.toArray⟩] w fun e w' => e = .returned (.bool (bs.all isDb)) ∧ Below w.heap.size w w' := by
  unfold maxLen at hl
  obtain ⟨c, w1, hcv, hcell, hb1⟩ := bytes_of w bs
  have HC := Lib.hid hcell
  have HB := Lib.hid hb1
  clear hcell hb1
  go_enter Tryd.func56, Tryd.ntmps56
  go_wp2
  go_loop [8] (fun i => ∃ k : Nat, i = .int .i64 k ∧ k ≤ bs.length ∧ ∀ j, j < k → IsD (bs.getD j 0)) (fun i => bs.length - (intOf i).toNat)
  case atStart => exact ⟨0, rfl, Nat.zero_le _, fun j hj => by omega⟩
  case round =>
    obtain ⟨k, rfl, hk, hj⟩ := hrel
    by_cases hlt : k < bs.length
    · have hc := HC.out k hlt
      by_cases hD : IsD (bs.getD k 0)
      · have HJ := Lib.hid hj
        have HD := Lib.hid hD
        obtain ⟨x, hxe⟩ : ∃ x, bat bs k = x := ⟨_, rfl⟩
        have hb1 : 48 ≤ x ∧ x ≤ 57 := by
          rw [← hxe]; unfold bat; unfold IsD at hD; omega
        obtain ⟨b1, b2⟩ := hb1
        rw [hxe] at hc
        clear hD hj hxe
        go_wp2
        go_round
        case rel =>
          refine ⟨k + 1, by go_num, by omega, fun j h => ?_⟩
          by_cases e : j = k
          · rw [e]; exact HD.out
          · exact HJ.out j (by omega)
        case measure => simp [intOf]; omega
      · have hall : bs.all isDb = false := by
          cases e : bs.all isDb
          · rfl
          · exact absurd ((all_iff bs).1 e k hlt) hD
        have HA := Lib.hid hall
        obtain ⟨x, hxe⟩ : ∃ x, bat bs k = x := ⟨_, rfl⟩
        have hb1 : x < 48 ∨ 57 < x := by
          rw [← hxe]; unfold bat; unfold IsD at hD; omega
        rw [hxe] at hc
        clear hD hj hxe hall
        by_cases b1 : x < 48
        · clear hb1
          go_wp2
          go_ret
          exact ⟨by rw [HA.out]; rfl, HB.out⟩
        · have b2 : 57 < x := by omega
          clear hb1
          go_wp2
          go_ret
          exact ⟨by rw [HA.out]; rfl, HB.out⟩
    · obtain rfl : k = bs.length := by omega
      have HA := Lib.hid ((all_iff bs).2 hj)
      clear hj
      go_wp2
      go_ret
      exact ⟨by rw [HA.out]; rfl, HB.out⟩
theorem fault_any (w : World) (bs : List UInt8) (hl : bs.length ≤ maxLen) :
    Calls Tryd.prog 38 #[.string ⟨bs.toArray⟩] w fun e w' => e = .returned (.int .i64 (rdE bs)) ∧ Below w.heap.size w w' := by
  have HCALL := Lib.hid (fun W => allDigits_any W bs hl)
  unfold maxLen at hl
  by_cases h0 : bs.length = 0
  · obtain rfl : bs = [] := List.eq_nil_of_length_eq_zero h0
    go_enter Tryd.func38, Tryd.ntmps38
    go_wp2
    go_ret
    exact ⟨rfl, Below.refl _ _⟩
  · have hE : bs.isEmpty = false := by
      cases bs with
      | nil => exact absurd rfl h0
      | cons b t => rfl
    have H0 := Lib.hid h0
    have hpos : 0 < bs.length := by omega
    clear h0
    have hx : ∀ W : World, (Instr.index 9 (.string ⟨bs.toArray⟩) (.int .i64 0)).run Tryd.prog W = .ok (.int .u8 (bat bs 0)) W := fun W => str_at bs 9 strU .i64 0 hpos W
    cases ha : bs.all isDb with
    | false =>
      have HA := Lib.hid ha
      clear ha
      go_enter Tryd.func38, Tryd.ntmps38
      go_wp2_with (go_at_call 56; refine (HCALL.out _).mono ?_; rw [HA.out]; rintro e w1 ⟨rfl, hb⟩)
      go_ret
      exact ⟨by unfold rdE; rw [if_neg H0.out, if_pos HA.out]; rfl, hb⟩
    | true =>
      have HA := Lib.hid ha
      clear ha
      by_cases hz : (bs.getD 0 0).toNat = 48 ∧ 1 < bs.length
      · obtain ⟨z1, z2⟩ := hz
        have HE := Lib.hid (rdE_zero HA.out z1 z2)
        have hb0 : bat bs 0 = 48 := by unfold bat; rw [z1]; rfl
        rw [hb0] at hx
        clear z1 hb0
        go_enter Tryd.func38, Tryd.ntmps38
        go_wp2_with (go_at_call 56; refine (HCALL.out _).mono ?_; rw [HA.out]; rintro e w1 ⟨rfl, hb⟩)
        go_ret
        exact ⟨by rw [HE.out]; rfl, hb⟩
      · have HZ := Lib.hid hz
        have hz' : (bat bs 0 == 48) = false ∨ ((bat bs 0 == 48) = true ∧ ¬ (1 < bs.length)) := by
          unfold bat
          by_cases e : (bs.getD 0 0).toNat = 48
          · right
            exact ⟨by rw [e]; rfl, fun e' => hz ⟨e, e'⟩⟩
          · left
            rw [beq_eq_false_iff_ne]; omega
        obtain ⟨y, hy⟩ : ∃ y, bat bs 0 = y := ⟨_, rfl⟩
        rw [hy] at hx hz'
        clear hz hy
        have HK : ∃ k, rdE bs = k ∧ (20000 < bs.length → k = 5) ∧ (¬ 20000 < bs.length → k = 0) := ⟨_, rfl, fun h => rdE_long HA.out HZ.out h, fun h => rdE_ok H0.out HA.out HZ.out h⟩
        obtain ⟨k, hk, hk1, hk2⟩ := HK
        rw [hk]
        have HK1 := Lib.hid hk1
        have HK2 := Lib.hid hk2
        clear hk hk1 hk2
        rcases hz' with z1 | ⟨z1, z2⟩
        all_goals
          by_cases hlong : 20000 < bs.length
          · first
            | (exfalso; omega)
            | (obtain rfl := HK1.out hlong
               go_enter Tryd.func38, Tryd.ntmps38
               go_wp2_with (go_at_call 56; refine (HCALL.out _).mono ?_; rw [HA.out]; rintro e w1 ⟨rfl, hb⟩)
               go_ret
               exact ⟨rfl, hb⟩)
          · obtain rfl := HK2.out hlong
            go_enter Tryd.func38, Tryd.ntmps38
            go_wp2_with (go_at_call 56; refine (HCALL.out _).mono ?_; rw [HA.out]; rintro e w1 ⟨rfl, hb⟩)
            go_ret
            exact ⟨rfl, hb⟩
namespace N
def strLen : Value → Nat
  | .string s => s.size
  | _ => 0
end N
namespace N
theorem ext_take (t : List UInt8) (q : Nat) : (⟨t.toArray⟩ : ByteArray).extract 0 q = ⟨(t.take q).toArray⟩ := by
  apply ByteArray.ext
  simp
theorem ext_drop (t : List UInt8) (q : Nat) : (⟨t.toArray⟩ : ByteArray).extract q t.length = ⟨(t.drop q).toArray⟩ := by
  apply ByteArray.ext
  simp
  exact List.take_of_length_le (by simp)
theorem dv_take_19 {t : List UInt8} {q : Nat} (hd : ∀ j, j < (t.take q).length → IsD ((t.take q).getD j 0)) (hq : q ≤ 19) : dv (t.take q) < 10000000000000000000 := by
  have h1 := dv_lt (t.take q) fun b hb => by
    obtain ⟨j, hj, rfl⟩ := List.mem_iff_getElem.1 hb
    have := hd j hj
    rwa [List.getD_eq_getElem?_getD, List.getElem?_eq_getElem hj] at this
  have h2 : 10 ^ (t.take q).length ≤ 10 ^ 19 := Nat.pow_le_pow_right (by omega) (by rw [List.length_take]; omega)
  omega
theorem getD_of_mem {bs : List UInt8} (hd : ∀ b ∈ bs, IsD b) : ∀ j, j < bs.length → IsD (bs.getD j 0) := fun j hj => by
  rw [List.getD_eq_getElem?_getD, List.getElem?_eq_getElem hj]
  exact hd _ (List.getElem_mem hj)
theorem limbs_dv_len {bs : List UInt8} (hd : ∀ b ∈ bs, IsD b) {k v : Nat} (hv : dv (bs.take k) = v) : (limbs (v : Int)).length ≤ k := by
  rw [limbs_len_le (by omega), ← hv]
  have h1 := dv_lt (bs.take k) fun b hb => hd b (List.mem_of_mem_take hb)
  have h2 : 10 ^ (bs.take k).length ≤ 10 ^ k := Nat.pow_le_pow_right (by omega) (by rw [List.length_take]; omega)
  have h3 : 10 ^ k ≤ 18446744073709551616 ^ k := Nat.pow_le_pow_left (by omega) k
  have h4 : Q B k = ((18446744073709551616 ^ k : Nat) : Int) := by unfold Q; rw [Int.natCast_pow]; rfl
  rw [h4]
  exact_mod_cast Nat.lt_of_lt_of_le h1 (Nat.le_trans h2 h3)
end N
theorem value_ext (w : World) (t : List UInt8) (q : Nat) (hq : q ≤ 19) (hd : ∀ j, j < (t.take q).length → IsD ((t.take q).getD j 0)) :
    Calls Tryd.prog 39 #[.string ((⟨t.toArray⟩ : ByteArray).extract 0 q)] w fun e w' => e = .returned (.int .u64 (dv (t.take q) : Int)) ∧ Below w.heap.size w w' := by
  rw [ext_take]
  exact value_any w (t.take q) (by rw [List.length_take]; omega) hd
theorem add_out {w0 w : World} {S : List Ent} {A A' : Option Addr} {n c m d k k' : Nat} {xs ys : List Int} {v u : Int} (h : St w0 w S) (h1 : (⟨A, n, c, k, xs, v⟩ : Ent) ∈ S) (h2 : (⟨A', m, d, k', ys, u⟩ : Ent) ∈ S) (hk : k ≤ 1099511627776) (hk' : k' ≤ 1099511627776) :
    Calls Tryd.prog 26 #[.slice A n c, .slice A' m d] w fun e w' => ∃ A n c, e = .returned (.slice A n c) ∧ N.Own w' w0.heap.size A n c (limbs (v + u)) ∧ Below w.heap.size w w' := by
  obtain ⟨a1, a2, rfl⟩ := h.get h1
  obtain ⟨b1, b2, rfl⟩ := h.get h2
  refine (nadd_any w A A' n c m d xs ys a1 b1 (by omega) (by omega)).mono fun e w' ho => ?_
  obtain ⟨A, n, c, he, hn, hown, hb⟩ := ho
  exact ⟨A, n, c, he, hown.mono h.1.size, hb⟩
def PRel (w : World) (bs : List UInt8) (U : Ent) (t a : Value) (wr : World) : Prop :=
  ∃ (k : Nat) (A : Option Addr) (n c : Nat), t = .string ⟨(bs.drop k).toArray⟩ ∧ a = .slice A n c ∧ k ≤ bs.length ∧ (k = 0 ∨ (bs.length - k) % 19 = 0) ∧ N.Own wr w.heap.size A n c (limbs (dv (bs.take k))) ∧ St w wr [U]
theorem pread_any (w : World) (bs : List UInt8) (hl : bs.length ≤ maxLen) :
    Calls Tryd.prog 19 #[.string ⟨bs.toArray⟩] w (Out2 w 20001 (rdV bs) (rdE bs)) := by
  have HF := Lib.hid (fault_any w bs hl)
  unfold maxLen at hl
  by_cases h0 : rdE bs = 0
  · have hg := (rdE_iff bs).1 h0
    have H0 := Lib.hid h0
    have HG := Lib.hid hg
    clear h0 hg
    refine calls_of_wp_q 6 Tryd.func19 rfl ?_
    simp only [Tryd.ntmps19, List.size_toArray, List.length_cons, List.length_nil, Nat.reduceAdd, Nat.reduceSub, Array.replicate_succ, Array.replicate_zero, List.push_toArray, List.append_toArray, List.nil_append, List.cons_append]
    go_wp2_with (first
      | (go_at_call 38; refine HF.out.mono ?_; rw [H0.out]; rintro e w1 ⟨rfl, hb⟩; have hS := Lib.hid ((St.nil_ w).below hb); clear hb)
      | (go_at_call 29; refine (of_s hS.out (x := 10000000000000000000) (by unfold W.Wd; omega)).mono ?_; rintro e w2 ⟨Au, nu, cu, rfl, h1⟩; clear hS; have hS := Lib.hid h1; clear h1))
    go_loopw [0, 5] (fun t a wr => PRel w bs ⟨Au, nu, cu, 1, limbs 10000000000000000000, 10000000000000000000⟩ t a wr) (fun t _ _ => strLen t)
    case atStart => exact ⟨0, none, 0, 0, rfl, rfl, Nat.zero_le _, .inl rfl, by rw [List.take_zero, dv_nil, show ((0 : Nat) : Int) = 0 from rfl, limbs_zero]; exact N.Own.nil_ _ _, hS.out⟩
    case round =>
      obtain ⟨k, A, n, c, rfl, rfl, hk, h19, ho, hS⟩ := hrel
      obtain ⟨wi, rfl⟩ : ∃ wi : World, wi = wr := ⟨_, rfl⟩
      by_cases hlt : k < bs.length
      · have hne : (bs.drop k).isEmpty = false := by
          cases e : bs.drop k with
          | nil => have := congrArg List.length e; simp at this; omega
          | cons b t => rfl
        have htl : (bs.drop k).length = bs.length - k := by simp
        obtain ⟨t, ht⟩ : ∃ t, bs.drop k = t := ⟨_, rfl⟩
        rw [ht] at hne htl ⊢
        obtain ⟨v, hv⟩ : ∃ v : Nat, dv (bs.take k) = v := ⟨_, rfl⟩
        rw [hv] at ho
        have hn : n ≤ k := by
          rw [← ho.len]
          exact limbs_dv_len HG.out.1.2.1 hv
        have hS2 := hS.cons ho.sl hn (limbs_val (by omega))
        obtain ⟨q, hq⟩ : ∃ q : Nat, ((t.length : Int) - 1) % 19 + 1 = (q : Int) := ⟨(t.length - 1) % 19 + 1, by omega⟩
        have hq1 : 1 ≤ q ∧ q ≤ 19 ∧ q ≤ t.length := by omega
        obtain ⟨q1, q2, q3⟩ := hq1
        have htb : t.length ≤ 20000 := by have := HG.out.2; omega
        have hkb : k ≤ 20000 := by have := HG.out.2; omega
        have HM := Lib.hid (mul_s hS2.drew (A := A) List.mem_cons_self (List.mem_cons_of_mem _ List.mem_cons_self) (by omega) (by omega))
        have HT := Lib.hid ht
        have HV := Lib.hid hv
        have HTL := Lib.hid htl
        clear hS hS2 ho ht hv htl
        go_wp2
        try rw [hq]
        have HQ := Lib.hid hq
        clear hq
        have hdt : ∀ j, j < (t.take q).length → IsD ((t.take q).getD j 0) := getD_of_mem fun b hb => HG.out.1.2.1 b (List.mem_of_mem_drop (i := k) (by rw [HT.out]; exact List.mem_of_mem_take hb))
        have HVAL := Lib.hid (fun W : World => value_ext W t q (by omega) hdt)
        obtain ⟨x, hx⟩ : ∃ x : Nat, dv (t.take q) = x := ⟨_, rfl⟩
        rw [hx] at HVAL
        have hxw : x < 10000000000000000000 := by rw [← hx]; exact dv_take_19 hdt (by omega)
        have HX := Lib.hid hx
        have HXW := Lib.hid hxw
        clear hx hxw hdt
        go_region_with (first
          | (go_at_call 27; refine HM.out.mono ?_; rintro e w3 ⟨A3, n3, c3, rfl, h1⟩; have hS := Lib.hid h1; clear h1)
          | (go_at_call 39; refine (HVAL.out _).mono ?_; rintro e w4 ⟨rfl, hb4⟩; have hS4 := Lib.hid (hS.out.below hb4); clear hb4 hS)
          | (go_at_call 29; refine (of_s hS4.out (x := (x : Int)) (by have := HXW.out; unfold W.Wd; omega)).mono ?_; rintro e w5 ⟨A5, n5, c5, rfl, h1⟩; have hS := Lib.hid h1; clear h1 hS4)
          | (go_at_call 26; refine (add_out hS.out (A := A3) (A' := A5) (v := (v : Int) * 10000000000000000000) (u := (x : Int)) (List.mem_cons_of_mem _ List.mem_cons_self) List.mem_cons_self (by omega) (by omega)).mono ?_; rintro e w6 ⟨A6, n6, c6, rfl, ho6, hb6⟩; have HO := Lib.hid ho6; have hS6 := Lib.hid (hS.out.below hb6); clear ho6 hb6 hS))
        go_wp2
        rw [ext_drop]
        go_roundw
        case rel =>
          have e1 := HTL.out
          have e2 := HQ.out
          refine ⟨k + q, A6, n6, c6, by rw [← HT.out, List.drop_drop], rfl, by omega, .inr (by omega), ?_, hS6.out.1, fun u hu => hS6.out.2 u ?_⟩
          · have e3 := dv_take_more bs k q
            rw [HT.out, HX.out, HV.out, List.length_take, Nat.min_eq_left q3] at e3
            have e4 : ((dv (bs.take (k + q)) : Nat) : Int) = (v : Int) * 10000000000000000000 + (x : Int) := by
              rcases h19 with e | e
              · obtain rfl : v = 0 := by rw [← HV.out, e]; rfl
                rw [Nat.zero_mul] at e3
                omega
              · obtain rfl : q = 19 := by omega
                omega
            rw [e4]
            exact HO.out
          · rw [List.mem_singleton.1 hu]
            exact List.mem_cons_of_mem _ (List.mem_cons_of_mem _ (List.mem_cons_of_mem _ List.mem_cons_self))
        case measure =>
          show (t.drop q).length < t.length
          rw [List.length_drop]; omega
      · obtain rfl : k = bs.length := by omega
        have HO := Lib.hid ho
        have HS := Lib.hid hS
        clear ho hS
        rw [List.drop_length]
        go_wp2
        refine leave_q rfl (.tuple #[.slice A n c, .int .i64 0]) (by simp [results, Tryd.f19, go_sem]) ?_
        have ho := HO.out
        rw [List.take_of_length_le (Nat.le_refl _)] at ho
        refine ⟨A, n, c, by rw [H0.out], ?_, by rw [show rdV bs = (dv bs : Int) by unfold rdV; rw [if_pos H0.out]]; exact ho, HS.out.1⟩
        rw [← ho.len]
        have := limbs_dv_len (k := bs.length) (v := dv bs) HG.out.1.2.1 (by rw [List.take_of_length_le (Nat.le_refl _)])
        have := HG.out.2
        omega
  · have hE : (rdE bs != 0) = true := by simpa using h0
    have H0 := Lib.hid h0
    obtain ⟨k, hk⟩ : ∃ k, rdE bs = k := ⟨_, rfl⟩
    rw [hk] at hE
    have HK := Lib.hid hk
    clear h0 hk
    go_enter Tryd.func19, Tryd.ntmps19
    go_wp2_with (go_at_call 38; refine HF.out.mono ?_; rw [HK.out]; rintro e w1 ⟨rfl, hb⟩)
    go_ret2
    refine ⟨none, 0, 0, by rw [HK.out]; rfl, Nat.zero_le _, ?_, hb⟩
    rw [show rdV bs = 0 by unfold rdV; rw [if_neg H0.out], limbs_zero]
    exact N.Own.nil_ _ _
end Go.Proofs.YtbadbjmhmadbmaaDoor
