/- What the document's own Show and Many answer, over this translation: the decimal digits. -/
import Derived.Test.YtbadbjmhmadbmaaDoorRefTen
import Derived.Test.YtbadbjmhmadbmaaDoorBytMem
import Derived.Test.YtbadbjmhmadbmaaDoorQuoMem
namespace Go.Proofs.YtbadbjmhmadbmaaDoor
open Go.RowKit
set_option linter.unusedVariables false
set_option maxRecDepth 20000
open N
open Go.Lib (decDigits nDigits decDigits_length nDigits_pos)
namespace N
/-- the digits of what is left, none of 0 -/
def topD (u : Nat) : List UInt8 := if u = 0 then [] else decDigits u
theorem topD_zero : topD 0 = [] := by simp [topD]
theorem topD_pos {u : Nat} (h : 0 < u) : topD u = decDigits u := by unfold topD; rw [if_neg (by omega)]
theorem topD_step {u : Nat} (h : 0 < u) : topD u = topD (u / 10) ++ [UInt8.ofNat (48 + u % 10)] := by
  rw [topD_pos h]
  by_cases h' : u < 10
  · rw [dd_small h', show u / 10 = 0 by omega, topD_zero, show u % 10 = u by omega]; rfl
  · rw [dd_big h', topD_pos (by omega)]
theorem nDigits_le {u k : Nat} (h : u < 10 ^ k) (hk : 1 ≤ k) : nDigits u ≤ k := (padD_dd k u h hk).1
theorem nDigits_val {xs : List Int} {n v : Nat} (hd : Dg B xs) (hl : xs.length = n) (hv : val B xs = (v : Int)) : nDigits v ≤ 20 * n + 1 := by
  refine nDigits_le ?_ (by omega)
  have h1 := val_lt (b := B) (by decide) hd
  rw [hl, hv] at h1
  have h2 : (Q B n) = ((18446744073709551616 ^ n : Nat) : Int) := by unfold Q; rw [Int.natCast_pow]; rfl
  rw [h2] at h1
  have h3 : v < 18446744073709551616 ^ n := by exact_mod_cast h1
  have h4 : 18446744073709551616 ^ n ≤ (10 ^ 20) ^ n := Nat.pow_le_pow_left (by decide) n
  rw [← Nat.pow_mul] at h4
  have h5 : 10 ^ (20 * n) ≤ 10 ^ (20 * n + 1) := Nat.pow_le_pow_right (by omega) (by omega)
  omega
theorem digs_nil_iff {u : Nat} : (digs (u : Int)).length = 0 ↔ u = 0 := by
  have h := digs_len_le (n := (u : Int)) (by omega) 0
  rw [Q_zero] at h
  omega
theorem rev_step (bs : List UInt8) (k : Nat) (h : k < bs.length) :
    (List.replicate (bs.length - k) 0 ++ (bs.take k).reverse).set (bs.length - 1 - k) bs[k] = List.replicate (bs.length - (k + 1)) 0 ++ (bs.take (k + 1)).reverse := by
  rw [show bs.length - k = (bs.length - (k + 1)) + 1 by omega, List.replicate_succ', List.append_assoc, List.set_append_right _ _ (by simp; omega), List.length_replicate,
    show bs.length - 1 - k - (bs.length - (k + 1)) = 0 by omega, List.take_succ_eq_append_getElem h, List.reverse_append]
  rfl
def lenOf : Value → Nat
  | .slice _ n _ => n
  | _ => 0
end N
def ShRel (w : World) (v N : Nat) (l t : Value) (wr : World) : Prop :=
  ∃ (u : Nat) (bs : List UInt8) (A : Option Addr) (n c : Nat) (A' : Option Addr) (m d : Nat), l = .slice A n c ∧ t = .slice A' m d ∧ n ≤ N ∧ Own wr w.heap.size A n c (digs (u : Int)) ∧ OwnB wr w.heap.size A' m d bs ∧ decDigits v = topD u ++ bs.reverse ∧ Below w.heap.size w wr
set_option maxHeartbeats 1000000 in
theorem rshow_any (w : World) (A : Option Addr) (n c : Nat) (xs : List Int) (h : Sl w A n c xs) (hn : n ≤ 1000000) (v : Nat) (hv : val B xs = (v : Int)) :
    Calls Tryd.prog 15 #[.slice A n c] w fun e w' => e = .returned (.string ⟨(decDigits v).toArray⟩) ∧ Below w.heap.size w w' := by
  have hN := nDigits_val h.dg h.len hv
  have HV := Lib.hid hv
  have HN := Lib.hid hN
  clear hN hv
  by_cases h0 : v = 0
  · subst h0
    go_enter Tryd.func15, Tryd.ntmps15
    go_wp2_with (go_at_call 35; refine (digits_any _ _ _ _ xs h (by omega)).mono ?_; rw [HV.out]; rintro e w1 ⟨A1, n1, c1, rfl, hn1, ho1, hb1⟩; obtain rfl : n1 = 0 := ho1.len.symm.trans (digs_nil_iff.2 rfl))
    go_ret
    rw [dd_zero]
    exact ⟨rfl, hb1⟩
  · have H0 := Lib.hid h0
    clear h0
    go_enter Tryd.func15, Tryd.ntmps15
    go_wp2_with (go_at_call 35; refine (digits_any _ _ _ _ xs h (by omega)).mono ?_; rw [HV.out]; rintro e w1 ⟨A1, n1, c1, rfl, hn1, ho1, hb1⟩; have h1 : ((n1 : Int) == 0) = false := (by have : n1 ≠ 0 := (fun e => H0.out (digs_nil_iff.1 (ho1.len.trans e))); simpa using this); have HO := Lib.hid ho1; have HB := Lib.hid hb1; clear ho1 hb1)
    go_loopw [3, 4] (fun l t wr => ShRel w v (4 * n) l t wr) (fun _ t _ => nDigits v + 1 - lenOf t)
    case atStart => exact ⟨v, [], A1, n1, c1, none, 0, 0, rfl, rfl, hn1, HO.out, OwnB.nil_ _ _, by rw [topD_pos (by have := H0.out; omega)]; simp, HB.out⟩
    case round =>
      obtain ⟨u, bs, A2, n2, c2, A3, m, d, rfl, rfl, hn2, ho, hob, hdd, hb⟩ := hrel
      obtain ⟨wi, rfl⟩ : ∃ wi : World, wi = wr := ⟨_, rfl⟩
      have hl2 := ho.len
      have hm := hob.len
      have hmN : (topD u).length + m = nDigits v := by
        rw [← decDigits_length, hdd, List.length_append, List.length_reverse, hm]
      by_cases hu : u = 0
      · subst hu
        have h2 : n2 = 0 := by rw [← hl2]; exact digs_nil_iff.2 rfl
        subst h2
        have hm2 : m ≤ 20000001 := by have := HN.out; omega
        have hmk := makeB_run m (by omega)
        have hR : decDigits v = bs.reverse := by rw [hdd, topD_zero]; rfl
        have HR := Lib.hid hR
        have HS := Lib.hid hob.sl
        have HM := Lib.hid hm
        have HBi := Lib.hid hb
        clear ho hob hl2 hmN hR hm hb hdd
        go_wp2
        clear hmk
        go_loopw [8] (fun i wr => ∃ k : Nat, i = .int .i64 k ∧ k ≤ m ∧ ArrB wr wi.heap.size (List.replicate (bs.length - k) 0 ++ (bs.take k).reverse) ∧ Below wi.heap.size wi wr) (fun i _ => m - (intOf i).toNat)
        case atStart =>
          refine ⟨0, rfl, Nat.zero_le _, ?_, (Below.refl _ wi).alloc (Nat.le_refl _) _⟩
          have := ArrB.made wi m
          rw [HM.out]
          simpa using this
        case round =>
          obtain ⟨k, rfl, hk, hA, hb⟩ := hrel
          obtain ⟨wj, rfl⟩ : ∃ wj : World, wj = wr := ⟨_, rfl⟩
          have hlen : (List.replicate (bs.length - k) (0 : UInt8) ++ (bs.take k).reverse).length = m := by
            have := HM.out
            simp; omega
          by_cases hlt : k < m
          · obtain ⟨ad, rfl, _, hcell⟩ := (HS.out.below hb).cell hlt
            have hkb : k < bs.length := by rw [HM.out]; exact hlt
            have hset := hA.set (bs.length - 1 - k) bs[k]
            rw [rev_step bs k hkb, ← bat_get bs k hkb, HM.out] at hset
            have hcz := hA.cell (k := m - 1 - k) (by omega)
            have hfz := hA.frozen (m - 1 - k)
            have e1 : ((m : Int) - 1 - (k : Int)).toNat = m - 1 - k := by omega
            have HA := Lib.hid hset
            have HBj := Lib.hid hb
            obtain ⟨x0, x1⟩ := bat_lt bs k
            clear hA hset hb hlen
            go_wp2
            go_roundw
            case rel => exact ⟨k + 1, by go_num, by omega, by rw [HM.out]; exact HA.out, HBj.out.setCell (Nat.le_refl _) _⟩
            case measure => simp [intOf]; omega
          · obtain rfl : k = m := by omega
            have hz : List.replicate (bs.length - k) (0 : UInt8) ++ (bs.take k).reverse = decDigits v := by
              rw [HM.out, Nat.sub_self, HR.out, List.take_of_length_le (by rw [HM.out]; exact Nat.le_refl _)]; rfl
            rw [hz] at hA hlen
            have hcv := str_back _ _ _ _ _ (hA.sl hlen (by unfold maxLen; omega))
            unfold str at hcv
            have HBj := Lib.hid hb
            clear hz hA hlen hb
            go_wp2
            go_ret
            exact ⟨rfl, HBi.out.trans (HBj.out.mono HBi.out.size)⟩
      · have hup : 0 < u := by omega
        have h2 : n2 ≠ 0 := by rw [← hl2]; exact fun e => hu (digs_nil_iff.1 e)
        have hm2 : m < nDigits v := by
          have h3 := topD_pos hup
          have h4 := nDigits_pos u
          rw [h3, decDigits_length] at hmN; omega
        have hd9 : u % 10 < 10 := Nat.mod_lt _ (by omega)
        have hten := rten_any wi A2 n2 c2 (digs (u : Int)) ho.sl (digs_dg _) (by omega)
        rw [digs_val (by omega)] at hten
        have HT := Lib.hid hten
        have HOB := Lib.hid hob
        have HBi := Lib.hid hb
        have HDD := Lib.hid hdd
        have HM2 := Lib.hid hm2
        have hm3 : m ≤ 20000001 := by have := HN.out; omega
        clear hten ho hob hl2 hmN hm hb hdd hu hm2
        go_wp2_with (first
          | (go_at_call 36; refine HT.out.mono ?_; rintro e w3 ⟨A4, n4, c4, rfl, hn4, ho4, hb4⟩
             have hb5 := HBi.out.trans (hb4.mono HBi.out.size)
             have e2 : (u : Int) / 10 = ((u / 10 : Nat) : Int) := by omega
             rw [e2] at ho4
             have e3 : IntKind.u8.wrap (48 + (u : Int) % 10) = 48 + (u : Int) % 10 := by rw [IntKind.wrap_u8]; omega
             have ho5 := (HOB.out.below hb4).below ((Below.refl w3.heap.size w3).alloc (Nat.le_refl _) (.cells #[.int .u8 (48 + (u : Int) % 10)] 5))
             have hs5 := (ArrB.lit w3 [UInt8.ofNat (48 + u % 10)] #[.int .u8 (48 + (u : Int) % 10)] (bv_dig u)).sl (n := 1) rfl (by unfold maxLen; omega)
             have hb6 := hb5.alloc hb5.size (.cells #[.int .u8 (48 + (u : Int) % 10)] 5)
             have ho6 := ho4.below ((Below.refl w3.heap.size w3).alloc (Nat.le_refl _) (.cells #[.int .u8 (48 + (u : Int) % 10)] 5))
             clear ho4 hb4 hb5 e2)
          | (at_builtin; refine wp_appB rfl _ _ rfl w.heap.size rfl ho5 rfl hs5 (by omega) (by omega) hb6.size ?_; intro A6 c6 w6 hown6 hg7 hb7))
        go_roundw
        case rel =>
          refine ⟨u / 10, bs ++ [UInt8.ofNat (48 + u % 10)], A4, n4, c4, A6, m + 1, c6, rfl, rfl, by omega, (ho6.keep hg7 HOB.out.row_lt).mono HBi.out.size, hown6, ?_, hb6.trans hb7⟩
          rw [HDD.out, topD_step hup, List.reverse_append, List.append_assoc]; rfl
        case measure =>
          have := HM2.out
          show nDigits v + 1 - (m + 1) < nDigits v + 1 - m
          omega
theorem rmany_any (w : World) (A : Option Addr) (n c : Nat) (xs : List Int) (h : Sl w A n c xs) (hn : n ≤ 1000000) (v : Nat) (hv : val B xs = (v : Int)) :
    Calls Tryd.prog 17 #[.slice A n c] w fun e w' => e = .returned (.int .i64 (nDigits v : Int)) ∧ Below w.heap.size w w' := by
  have hs : (ByteArray.mk (decDigits v).toArray).size = nDigits v := decDigits_length v
  go_enter Tryd.func17, Tryd.ntmps17
  go_wp2_with (go_at_call 15; refine (rshow_any _ _ _ _ xs h hn v hv).mono ?_; rintro e w1 ⟨rfl, hb⟩)
  go_ret
  exact ⟨rfl, hb⟩
end Go.Proofs.YtbadbjmhmadbmaaDoor
