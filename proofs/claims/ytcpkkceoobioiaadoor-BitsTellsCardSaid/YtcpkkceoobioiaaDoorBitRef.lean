/- What the document's own calls of layer 7 answer, over this translation. -/
import Derived.Test.YtcpkkceoobioiaaDoorBitPart
namespace Go.Proofs.YtcpkkceoobioiaaDoor
open Go.RowKit Go.Shelf
set_option linter.unusedVariables false
set_option linter.unusedSimpArgs false
set_option maxRecDepth 20000
open N
namespace N
theorem bitsL_succ (l : List UInt8) (k : Nat) (h : k < l.length) : bitsL (l.take (k + 1)) = (bitsL (l.take k) && isbit (l.getD k 0)) := by
  rw [List.take_succ_eq_append_getElem h, bitsL_append, List.getD_eq_getElem?_getD, List.getElem?_eq_getElem h]
  simp [bitsL]
theorem bitsL_bad {l : List UInt8} {k : Nat} (h : k < l.length) (hb : isbit (l.getD k 0) = false) : bitsL l = false := by
  have h1 := bitsL_succ l k h
  rw [hb, Bool.and_false] at h1
  cases e : bitsL l with
  | false => rfl
  | true => rw [bitsL_take e] at h1; cases h1
theorem bat_ne (l : List UInt8) (k : Nat) (c : UInt8) : (bat l k != (c.toNat : Int)) = (l.getD k 0 != c) := by
  unfold bat
  generalize l.getD k 0 = d
  rw [Bool.eq_iff_iff]
  simp only [bne_iff_ne, ne_eq]
  exact ⟨fun h e => h (by rw [e]), fun h e => h (UInt8.toNat_inj.1 (by omega))⟩
theorem cb_at {a b : List UInt8} {k : Nat} (ha : k < a.length) (hb : k < b.length) (ht : a.take k = b.take k) (hne : a.getD k 0 ≠ b.getD k 0) :
    Lib.compareBytes a b = if bat a k < bat b k then -1 else 1 := by
  have e1 : a = a.take k ++ a[k] :: a.drop (k + 1) := by rw [← List.drop_eq_getElem_cons ha, List.take_append_drop]
  have e2 : b = a.take k ++ b[k] :: b.drop (k + 1) := by rw [ht, ← List.drop_eq_getElem_cons hb, List.take_append_drop]
  have g1 : a.getD k 0 = a[k] := by rw [List.getD_eq_getElem?_getD, List.getElem?_eq_getElem ha]; rfl
  have g2 : b.getD k 0 = b[k] := by rw [List.getD_eq_getElem?_getD, List.getElem?_eq_getElem hb]; rfl
  have h1 : Lib.compareBytes a b = Lib.compareBytes (a.take k ++ a[k] :: a.drop (k + 1)) (a.take k ++ b[k] :: b.drop (k + 1)) := by rw [← e1, ← e2]
  rw [h1, cb_left, Lib.compareBytes]
  rw [g1, g2] at hne
  unfold bat
  rw [g1, g2]
  by_cases h : a[k] < b[k]
  · rw [if_pos h, if_pos (by rw [UInt8.lt_iff_toNat_lt] at h; omega)]
  · have h' : b[k] < a[k] := by
      rw [UInt8.lt_iff_toNat_lt] at h ⊢
      have : a[k].toNat ≠ b[k].toNat := fun e => hne (UInt8.toNat_inj.1 e)
      omega
    rw [if_neg h, if_pos h', if_neg (by rw [UInt8.lt_iff_toNat_lt] at h; omega)]
theorem take_succ_eq {a b : List UInt8} {k : Nat} (ha : k < a.length) (hb : k < b.length) (ht : a.take k = b.take k) (he : a.getD k 0 = b.getD k 0) : a.take (k + 1) = b.take (k + 1) := by
  rw [List.take_succ_eq_append_getElem ha, List.take_succ_eq_append_getElem hb, ht]
  rw [List.getD_eq_getElem?_getD, List.getElem?_eq_getElem ha, List.getD_eq_getElem?_getD, List.getElem?_eq_getElem hb] at he
  have he : a[k] = b[k] := he
  rw [he]
end N
theorem idx_run (l : List UInt8) (k : Nat) (hk : k < l.length) (W : World) : (Instr.index 9 (.string ⟨l.toArray⟩) (.int .i64 (k : Int))).run Tryd.prog W = .ok (.int .u8 (bat l k)) W := str_at l 9 strU .i64 k hk W
theorem ris_any (w : World) (l : List UInt8) (hl : l.length ≤ maxLen) :
    Calls Tryd.prog 19 #[.string ⟨l.toArray⟩] w fun e w' => e = .returned (.bool (isB l)) ∧ w' = w := by
  have hm : l.length ≤ 9223372036854775807 := by unfold maxLen at hl; omega
  by_cases h : l.length ≤ 1024
  · have HI : isB l = bitsL l := by unfold isB; simp [h]
    rw [HI]
    clear HI
    go_enter Tryd.func19, Tryd.ntmps19
    go_wp2
    go_loop [3] (fun i => ∃ k : Nat, k ≤ l.length ∧ i = .int .i64 k ∧ bitsL (l.take k) = true) (fun i => l.length - (intOf i).toNat)
    case atStart => exact ⟨0, by omega, rfl, rfl⟩
    case round =>
      obtain ⟨k, hk, rfl, hb⟩ := hrel
      by_cases hlt : k < l.length
      · have hx := idx_run l k hlt
        have h1 := bat_ne l k 48
        have h2 := bat_ne l k 49
        have hs := bitsL_succ l k hlt
        rw [hb, Bool.true_and] at hs
        obtain ⟨c, hc⟩ : ∃ c, l.getD k 0 = c := ⟨_, rfl⟩
        rw [hc] at h1 h2 hs
        have HBD := Lib.hid (fun e : isbit c = false => bitsL_bad (l := l) hlt (by rw [hc]; exact e))
        obtain ⟨v, hv⟩ : ∃ v, bat l k = v := ⟨_, rfl⟩
        rw [hv] at hx h1 h2
        have h1 : (v != 48) = (c != 48) := h1
        have h2 : (v != 49) = (c != 49) := h2
        have HS := Lib.hid hs
        clear hs hc hv hb
        by_cases c48 : c = 48
        · subst c48
          have g1 : (v != 48) = false := by rw [h1]; rfl
          clear h1 h2
          go_wp2
          go_round
          case rel => exact ⟨k + 1, by omega, by go_num, by rw [HS.out]; rfl⟩
          case measure => simp [intOf]; omega
        · by_cases c49 : c = 49
          · subst c49
            have g1 : (v != 48) = true := by rw [h1]; rfl
            have g2 : (v != 49) = false := by rw [h2]; rfl
            clear h1 h2
            go_wp2
            go_round
            case rel => exact ⟨k + 1, by omega, by go_num, by rw [HS.out]; rfl⟩
            case measure => simp [intOf]; omega
          · have g1 : (v != 48) = true := by rw [h1]; simpa using c48
            have g2 : (v != 49) = true := by rw [h2]; simpa using c49
            have hbad := HBD.out (by
              cases e : isbit c with
              | false => rfl
              | true => exact absurd (isbit_iff.1 e) (fun e => e.elim c48 c49))
            have HBA := Lib.hid hbad
            clear h1 h2 hbad
            go_wp2
            go_ret
            exact ⟨retb HBA.out.symm, rfl⟩
      · obtain rfl : k = l.length := by omega
        rw [List.take_length] at hb
        have HBB := Lib.hid hb
        clear hb
        go_wp2
        go_ret
        exact ⟨retb HBB.out.symm, rfl⟩
  · have HI : isB l = false := by unfold isB; simp [h]
    rw [HI]
    clear HI
    go_enter Tryd.func19, Tryd.ntmps19
    go_wp2
    go_ret
    exact ⟨rfl, rfl⟩
set_option maxHeartbeats 1000000 in
theorem rcmp_any (w : World) (a b : List UInt8) (ha : a.length ≤ maxLen) (hb : b.length ≤ maxLen) :
    Calls Tryd.prog 21 #[.string ⟨a.toArray⟩, .string ⟨b.toArray⟩] w fun e w' => e = .returned (.int .i64 (cmpB a b)) ∧ Below w.heap.size w w' := by
  have hm : a.length ≤ 9223372036854775807 := by unfold maxLen at ha; omega
  by_cases h : a.length = b.length
  · have HE : cmpB a b = Lib.compareBytes a b := by unfold cmpB; rw [if_pos h]
    obtain ⟨r, hr⟩ : ∃ r, Lib.compareBytes a b = r := ⟨_, rfl⟩
    rw [HE, hr]
    have HR := Lib.hid hr
    clear HE hr
    have h1 : (((a.length : Nat) : Int) != ((b.length : Nat) : Int)) = false := by simp [h]
    have H := Lib.hid h
    clear h
    go_enter Tryd.func21, Tryd.ntmps21
    go_wp2
    go_loopw [5] (fun i wr => ∃ k : Nat, k ≤ a.length ∧ i = .int .i64 k ∧ a.take k = b.take k ∧ Below w.heap.size w wr) (fun i _ => a.length - (intOf i).toNat)
    case atStart => exact ⟨0, by omega, rfl, rfl, Below.refl _ _⟩
    case round =>
      obtain ⟨k, hk, rfl, ht, hbw⟩ := hrel
      have HB := Lib.hid hbw
      have HT := Lib.hid ht
      clear ht hbw h1
      by_cases hlt : k < a.length
      · have hltb : k < b.length := by have := H.out; omega
        have hxa := idx_run a k hlt
        have hxb := idx_run b k hltb
        obtain ⟨x, hx⟩ : ∃ x, bat a k = x := ⟨_, rfl⟩
        obtain ⟨y, hy⟩ : ∃ y, bat b k = y := ⟨_, rfl⟩
        rw [hx] at hxa
        rw [hy] at hxb
        have hxy : x = y ↔ a.getD k 0 = b.getD k 0 := by
          rw [← hx, ← hy]; unfold bat
          exact ⟨fun e => UInt8.toNat_inj.1 (by omega), fun e => by rw [e]⟩
        have HC := Lib.hid (fun e => cb_at (a := a) (b := b) hlt hltb HT.out e)
        rw [hx, hy] at HC
        have HTS := Lib.hid (fun e => take_succ_eq (a := a) (b := b) hlt hltb HT.out e)
        have HXY := Lib.hid hxy
        clear hxy hx hy
        by_cases he : x = y
        · have hq : (x != y) = false := by simp [he]
          have hts := HTS.out (HXY.out.1 he)
          have HTT := Lib.hid hts
          clear hts he
          go_wp2
          go_quiet (fail)
          go_wp2
          go_roundw
          case rel => exact ⟨k + 1, by omega, by go_num, HTT.out, (HB.out.trans ⟨rfl, rfl, rfl, Nat.le_refl _, fun _ _ => rfl⟩)⟩
          case measure => simp [intOf]; omega
        · have hq : (x != y) = true := by simpa using he
          have hc := HC.out (fun e => he (HXY.out.2 e))
          rw [HR.out] at hc
          by_cases hl : x < y
          · rw [if_pos hl] at hc
            have HCC := Lib.hid hc
            clear hc he
            go_wp2
            go_quiet (fail)
            go_wp2
            go_quiet (fail)
            go_wp2
            go_ret
            exact ⟨reti HCC.out.symm, (HB.out.trans ⟨rfl, rfl, rfl, Nat.le_refl _, fun _ _ => rfl⟩)⟩
          · rw [if_neg hl] at hc
            have HCC := Lib.hid hc
            clear hc he
            go_wp2
            go_quiet (fail)
            go_wp2
            go_quiet (fail)
            go_wp2
            go_ret
            exact ⟨reti HCC.out.symm, (HB.out.trans ⟨rfl, rfl, rfl, Nat.le_refl _, fun _ _ => rfl⟩)⟩
      · obtain rfl : k = a.length := by omega
        have e : Lib.compareBytes a b = 0 := by
          have := HT.out
          rw [List.take_length, H.out, List.take_length] at this
          exact cb_eq.2 this
        rw [HR.out] at e
        have HE := Lib.hid e
        clear e
        go_wp2
        go_ret
        exact ⟨reti HE.out.symm, HB.out⟩
  · have HE : cmpB a b = cmpN a.length b.length := by unfold cmpB; rw [if_neg h]
    rw [HE]
    clear HE
    have h1 : (((a.length : Nat) : Int) != ((b.length : Nat) : Int)) = true := by simp; omega
    unfold cmpN
    by_cases hlt : a.length < b.length
    · rw [if_pos hlt]
      have h2 : ((a.length : Nat) : Int) < ((b.length : Nat) : Int) := by omega
      clear h
      go_enter Tryd.func21, Tryd.ntmps21
      go_wp2
      go_ret
      exact ⟨rfl, Below.refl _ _⟩
    · rw [if_neg hlt, if_pos (by omega)]
      have h2 : ¬ ((a.length : Nat) : Int) < ((b.length : Nat) : Int) := by omega
      clear h
      go_enter Tryd.func21, Tryd.ntmps21
      go_wp2
      go_ret
      exact ⟨rfl, Below.refl _ _⟩
end Go.Proofs.YtcpkkceoobioiaaDoor
