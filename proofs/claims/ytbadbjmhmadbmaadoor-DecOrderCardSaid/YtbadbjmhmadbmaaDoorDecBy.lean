/- What bytes.TrimRight (a cutset of the one byte 0x30), slices.Reverse over bytes and the program's appendDigits answer, over this translation. -/
import Derived.Test.YtbadbjmhmadbmaaDoorDecLib
import Derived.Test.YtbadbjmhmadbmaaDoorDecGroup
import Derived.BigRegion
namespace Go.Proofs.YtbadbjmhmadbmaaDoor
open Go.RowKit
set_option linter.unusedVariables false
set_option maxRecDepth 20000
open N
open Go.Lib (decDigits nDigits decDigits_length nDigits_pos)
namespace N
theorem trim_take (bs : List UInt8) (c : UInt8) (k : Nat) (hk : k < bs.length) : Lib.trimRightS (bs.take (k + 1)) [c] = if bs.getD k 0 = c then Lib.trimRightS (bs.take k) [c] else bs.take (k + 1) := by
  have e : bs.getD k 0 = bs[k] := by rw [List.getD_eq_getElem?_getD, List.getElem?_eq_getElem hk]; rfl
  rw [e, List.take_succ_eq_append_getElem hk]
  unfold Lib.trimRightS
  rw [List.reverse_append, List.reverse_singleton, List.singleton_append, List.dropWhile_cons]
  by_cases h : bs[k] = c
  · rw [if_pos (by simp [h]), if_pos h]
  · rw [if_neg (by simpa using h), if_neg h, List.reverse_cons, List.reverse_reverse]
theorem trim_nil (c : UInt8) : Lib.trimRightS [] [c] = [] := rfl
end N
theorem trimByte_any (w : World) (A : Option Addr) (n cap : Nat) (bs : List UInt8) (c : UInt8) (cc : Int) (h : SlB w A n cap bs) (hcc : cc = (c.toNat : Int)) :
    Calls Tryd.prog 51 #[.slice A n cap, .int .u8 cc] w fun e w' => ∃ k : Nat, k ≤ n ∧ e = .returned (.slice A k cap) ∧ Lib.trimRightS bs [c] = bs.take k ∧ w' = w := by
  have hl := h.len
  have hc := h.cap
  have hm := h.max
  unfold maxLen at hm
  have HL := Lib.hid hl
  have HC := Lib.hid hcc
  clear hl hcc
  go_enter Tryd.func51, Tryd.ntmps51
  go_wp2
  go_loop [0] (fun s => ∃ k : Nat, k ≤ n ∧ s = .slice A k cap ∧ Lib.trimRightS bs [c] = Lib.trimRightS (bs.take k) [c]) (fun s => lenOf s)
  case atStart => exact ⟨n, Nat.le_refl _, rfl, by rw [List.take_of_length_le (by rw [HL.out]; exact Nat.le_refl _)]⟩
  case round =>
    obtain ⟨k, hk, rfl, hT⟩ := hrel
    by_cases h0 : 0 < k
    · obtain ⟨j, rfl⟩ : ∃ j, k = j + 1 := ⟨k - 1, by omega⟩
      obtain ⟨ad, rfl, _, hcell⟩ := h.cell (k := j) (by omega)
      have ht := trim_take bs c j (by rw [HL.out]; omega)
      have e1 : ((j : Int) + 1 - 1).toNat = j := by omega
      have e0 : (((j + 1 : Nat) : Int) - 1) = (j : Int) := by omega
      by_cases hz : bs.getD j 0 = c
      · rw [if_pos hz] at ht
        have hbe : bat bs j = cc := by rw [HC.out]; unfold bat; rw [hz]
        rw [hbe] at hcell
        have HT := Lib.hid (hT.trans ht)
        clear hz ht hT hbe
        go_wp2
        go_round
        case rel => exact ⟨j, by omega, by congr 1, HT.out⟩
        case measure => simp [lenOf]
      · rw [if_neg hz] at ht
        have hbe : (bat bs j == cc) = false := by
          rw [HC.out, beq_eq_false_iff_ne]; unfold bat
          intro e
          exact hz (UInt8.toNat_inj.1 (by omega))
        have HT := Lib.hid (hT.trans ht)
        clear hz ht hT
        go_wp2
        go_ret
        exact ⟨j + 1, hk, rfl, HT.out, rfl⟩
    · obtain rfl : k = 0 := by omega
      have HT := Lib.hid hT
      clear hT
      go_wp2
      go_ret
      exact ⟨0, hk, rfl, by rw [HT.out]; rfl, rfl⟩
theorem trimRight_any (w : World) (A : Option Addr) (n cap : Nat) (bs : List UInt8) (h : SlB w A n cap bs) :
    Calls Tryd.prog 32 #[.slice A n cap, .string ⟨#[48]⟩] w fun e w' => ∃ k : Nat, k ≤ n ∧ e = .returned (.slice A k cap) ∧ Lib.trimRightS bs [48] = bs.take k ∧ Below w.heap.size w w' := by
  have hc := h.cap
  have hm := h.max
  unfold maxLen at hm
  have hx : ∀ W : World, (Instr.index 9 (.string ⟨#[48]⟩) (.int .i64 0)).run Tryd.prog W = .ok (.int .u8 48) W := fun W => str_at [48] 9 strU .i64 0 (by decide) W
  by_cases h0 : n = 0
  · subst h0
    have hb : bs = [] := List.eq_nil_of_length_eq_zero h.len
    have HB := Lib.hid hb
    clear hb
    go_enter Tryd.func32, Tryd.ntmps32
    go_wp2
    go_ret
    exact ⟨0, Nat.le_refl _, rfl, by rw [HB.out]; rfl, Below.refl _ _⟩
  · have hn0 : ((n : Int) == 0) = false := by simpa using h0
    have HT := Lib.hid (trimByte_any w A n cap bs 48 48 h rfl)
    clear h0
    go_enter Tryd.func32, Tryd.ntmps32
    go_wp2_with (go_at_call 51; refine HT.out.mono ?_; rintro e w1 ⟨k, hk, rfl, ht, rfl⟩)
    go_ret
    exact ⟨k, hk, rfl, ht, Below.refl _ _⟩
namespace N
/-- the block g begins with the row of bytes bs; behind it are e places more -/
def ArPB (w : World) (g e : Nat) (bs : List UInt8) : Prop := ∃ ext : List Value, ext.length = e ∧ w.heap[g]? = some (.cells (bv bs ++ ext).toArray 5 (0, 0))
section
variable {w w' : World} {g e : Nat} {bs : List UInt8}
theorem ArPB.cell (h : ArPB w g e bs) {k : Nat} (hk : k < bs.length) : w.cell? ⟨g, k, none⟩ = some (.int .u8 (bat bs k)) := by
  obtain ⟨ext, _, h⟩ := h
  rw [cell_of_row w g k _ _ _ h]
  have := bv_get bs k hk
  rw [List.getElem?_toArray, List.getElem?_append_left (by rw [bv_length]; exact hk)]
  exact this
theorem ArPB.frozen (h : ArPB w g e bs) (k : Nat) : w.frozen? ⟨g, k, none⟩ = false := by
  obtain ⟨ext, _, h⟩ := h
  simp [World.frozen?, h]
theorem ArPB.drew (h : ArPB w g e bs) : ArPB w.drew g e bs := h
theorem ArPB.set (h : ArPB w g e bs) (k : Nat) (v : UInt8) (hk : k < bs.length) : ArPB (w.setCell ⟨g, k, none⟩ (.int .u8 (v.toNat : Int))) g e (bs.set k v) := by
  obtain ⟨ext, h1, h2⟩ := h
  refine ⟨ext, h1, ?_⟩
  simp only [World.setCell, Array.getElem?_modify, h2]
  simp [bv, List.map_set, hk]
theorem ArPB.own (h : ArPB w g e bs) {base n c : Nat} (hb : base ≤ g) (hl : bs.length = n) (hc : n + e = c) (hm : c ≤ maxLen) : OwnB w base (some ⟨g, 0, none⟩) n c bs := by
  obtain ⟨ext, h1, h2⟩ := h
  refine ⟨by rw [bv_length, hl, Nat.mul_one], .inr ⟨g, c, _, rfl, hb, h2, by omega, hm, ?_, ?_⟩⟩
  · simp [bv_length, hl, h1, hc]
  · rw [Nat.mul_one]
    simp [bv_length, hl]
theorem OwnB.arp {base n c : Nat} {A : Option Addr} (h : OwnB w base A n c bs) (hn : 0 < n) : ∃ g, A = some ⟨g, 0, none⟩ ∧ base ≤ g ∧ n ≤ c ∧ c ≤ maxLen ∧ ArPB w g (c - n) bs := by
  rcases h.2 with ⟨e, e0⟩ | ⟨g, cap, cur, e, hb, hh, hnc, hm, hsz, ht⟩
  · omega
  · cases e
    refine ⟨g, rfl, hb, hnc, hm, cur.toList.drop n, by simp [hsz], ?_⟩
    rw [hh, ← ht, Nat.mul_one, List.take_append_drop]
theorem OwnB.mono {base base' n c : Nat} {A : Option Addr} (h : OwnB w base A n c bs) (hb : base' ≤ base) : OwnB w base' A n c bs :=
  ⟨h.1, by
    rcases h.2 with e | ⟨g, cap, cur, e, hg, r⟩
    · exact .inl e
    · exact .inr ⟨g, cap, cur, e, Nat.le_trans hb hg, r⟩⟩
theorem OwnB.take {base n c : Nat} {A : Option Addr} (h : OwnB w base A n c bs) {k : Nat} (hk : k ≤ n) : OwnB w base A k c (bs.take k) := by
  refine ⟨by rw [bv_length, List.length_take, h.len, Nat.min_eq_left hk, Nat.mul_one], ?_⟩
  rcases h.2 with ⟨e, h0⟩ | ⟨g, cap, cur, e, hg, hh, hnc, hm, hs, ht⟩
  · left; cases e; exact ⟨by rw [show k = 0 by omega], by omega⟩
  · cases e
    refine .inr ⟨g, _, cur, rfl, hg, hh, by omega, hm, hs, ?_⟩
    rw [← bv_take, ← ht, List.take_take, Nat.mul_one, Nat.mul_one, Nat.min_eq_left hk]
end
/-- i bytes from each end have changed places -/
structure RvSt (bs : List UInt8) (i : Nat) (L : List UInt8) : Prop where
  len : L.length = bs.length
  at' : ∀ p, p < bs.length → L.getD p 0 = if p < i ∨ bs.length ≤ p + i then bs.getD (bs.length - 1 - p) 0 else bs.getD p 0
theorem getD_set (l : List UInt8) (k j : Nat) (v : UInt8) (hk : k < l.length) : (l.set k v).getD j 0 = if j = k then v else l.getD j 0 := by
  rw [List.getD_eq_getElem?_getD, List.getElem?_set, List.getD_eq_getElem?_getD]
  by_cases h : j = k
  · subst h; rw [if_pos rfl, if_pos rfl, if_pos hk]; rfl
  · rw [if_neg (fun e => h e.symm), if_neg h]
theorem RvSt.start (bs : List UInt8) : RvSt bs 0 bs := ⟨rfl, fun p hp => by rw [if_neg (by omega)]⟩
theorem RvSt.step {bs : List UInt8} {i : Nat} {L : List UInt8} (h : RvSt bs i L) (hi : i + 1 + i < bs.length) :
    RvSt bs (i + 1) ((L.set i (L.getD (bs.length - 1 - i) 0)).set (bs.length - 1 - i) (L.getD i 0)) := by
  have h1 := h.at' i (by omega)
  have h2 := h.at' (bs.length - 1 - i) (by omega)
  rw [if_neg (by omega)] at h1 h2
  refine ⟨by rw [List.length_set, List.length_set, h.len], fun p hp => ?_⟩
  rw [getD_set _ _ _ _ (by rw [List.length_set, h.len]; omega), getD_set _ _ _ _ (by rw [h.len]; omega), h.at' p hp, h1, h2]
  by_cases e1 : p = bs.length - 1 - i
  · rw [if_pos e1, if_pos (by omega), e1]; congr 1; omega
  · rw [if_neg e1]
    by_cases e2 : p = i
    · rw [if_pos e2, if_pos (by omega), e2]
    · rw [if_neg e2]
      by_cases e3 : p < i ∨ bs.length ≤ p + i
      · rw [if_pos e3, if_pos (by omega)]
      · rw [if_neg e3, if_neg (by omega)]
theorem RvSt.done {bs : List UInt8} {i : Nat} {L : List UInt8} (h : RvSt bs i L) (hi : bs.length ≤ i + 1 + i) : L = bs.reverse := by
  apply List.ext_getElem
  · rw [h.len, List.length_reverse]
  · intro p hp hq
    have hp' : p < bs.length := by rw [← h.len]; exact hp
    have e := h.at' p hp'
    rw [List.getD_eq_getElem?_getD, List.getElem?_eq_getElem hp] at e
    rw [List.getElem_reverse]
    have e2 : bs.getD (bs.length - 1 - p) 0 = bs[bs.length - 1 - p] := by rw [List.getD_eq_getElem?_getD, List.getElem?_eq_getElem (by omega)]; rfl
    rw [← e2]
    split at e
    · exact e
    · refine e.trans ?_
      congr 1; omega
end N
theorem reverse_any (w : World) (base : Nat) (A : Option Addr) (n c : Nat) (bs : List UInt8) (h : OwnB w base A n c bs) (hbase : base ≤ w.heap.size) :
    Calls Tryd.prog 34 #[.slice A n c] w fun e w' => e = .returned (.tuple #[]) ∧ OwnB w' base A n c bs.reverse ∧ Below base w w' := by
  have hl := h.len
  have hm := h.sl.max
  have hc := h.sl.cap
  unfold maxLen at hm
  by_cases hn : 0 < n
  · obtain ⟨g, rfl, hg, hnc, hcm, hA⟩ := h.arp hn
    have HL := Lib.hid hl
    have HA := Lib.hid hA
    clear h hl hA
    go_enter Tryd.func34, Tryd.ntmps34
    go_wp2
    go_loopw [2, 3] (fun s2 s3 wr => ∃ (i j : Nat) (L : List UInt8), s2 = .int .i64 i ∧ s3 = .int .i64 j ∧ i + j + 1 = n ∧ RvSt bs i L ∧ ArPB wr g (c - n) L ∧ Below base w wr) (fun _ s3 _ => (intOf s3).toNat)
    case atStart => exact ⟨0, n - 1, bs, rfl, by congr 1; omega, by omega, RvSt.start bs, HA.out, Below.refl _ _⟩
    case round =>
      obtain ⟨i, j, L, rfl, rfl, hij, hR, hA, hb⟩ := hrel
      obtain ⟨wi, rfl⟩ : ∃ wi : World, wi = wr := ⟨_, rfl⟩
      have hLl : L.length = n := by rw [hR.len, HL.out]
      by_cases hlt : i < j
      · have ci := hA.cell (k := i) (by omega)
        have cj := hA.cell (k := j) (by omega)
        have fi := hA.frozen i
        have fj := hA.frozen j
        have e1 : n - 1 - i = j := by omega
        have hst := hR.step (by rw [HL.out]; omega)
        rw [HL.out, e1] at hst
        have hset := (hA.drew.set i (L.getD j 0) (by omega)).set j (L.getD i 0) (by rw [List.length_set]; omega)
        have HST := Lib.hid hst
        have HSET := Lib.hid hset
        have HB := Lib.hid hb
        clear hR hA hb hLl e1 hst hset
        go_wp2
        go_region
        go_wp2
        go_roundw
        case rel => exact ⟨i + 1, j - 1, _, by go_num, by congr 1; omega, by omega, HST.out, ArPB.drew HSET.out, (((HB.out.setCell hg _).setCell hg _).drew)⟩
        case measure => simp [intOf]; omega
      · have HO := Lib.hid (hA.own hg (n := n) (c := c) (by rw [hLl]) (by omega) hcm)
        have hd := hR.done (by rw [HL.out]; omega)
        have HD := Lib.hid hd
        have HB := Lib.hid hb
        clear hR hA hb hd hLl
        go_wp2
        go_end0
        exact ⟨rfl, by rw [← HD.out]; exact HO.out, HB.out⟩
  · obtain rfl : n = 0 := by omega
    have hb : bs = [] := List.eq_nil_of_length_eq_zero hl
    have HB := Lib.hid hb
    have HO := Lib.hid h
    clear h hb hl
    go_enter Tryd.func34, Tryd.ntmps34
    go_wp2
    go_loop [2, 3] (fun s2 s3 => s2 = .int .i64 0 ∧ s3 = .int .i64 (-1)) (fun _ _ => 0)
    case atStart => exact ⟨rfl, rfl⟩
    case round =>
      obtain ⟨rfl, rfl⟩ := hrel
      go_wp2
      go_end0
      exact ⟨rfl, by rw [HB.out]; have := HO.out; rw [HB.out] at this; exact this, Below.refl _ _⟩
/-- the row lies where it did, or in a block that is new since w -/
def RowFrom (w : World) (A A' : Option Addr) : Prop := rowOf A' = rowOf A ∨ ∀ k, rowOf A' = some k → w.heap.size ≤ k
theorem grow_on {w w1 w2 : World} {A A1 : Option Addr} (h : w.grownBy w1 (rowOf A)) (hr : RowFrom w A A1) (h2 : w1.grownBy w2 (rowOf A1)) : w.grownBy w2 (rowOf A) :=
  ⟨h2.os.trans h.os, h2.tape.trans h.tape, h2.output.trans h.output, Nat.le_trans h.size h2.size, fun k hk hne => (h2.block k (Nat.lt_of_lt_of_le hk h.size) (fun e => by
    rcases hr with e' | e'
    · exact hne (e.trans e')
    · have := e' k e.symm; omega)).trans (h.block k hk hne)⟩
theorem row_on {w w1 : World} {A A1 A2 : Option Addr} (hs : w.heap.size ≤ w1.heap.size) (h : RowFrom w A A1) (h2 : RowFrom w1 A1 A2) : RowFrom w A A2 := by
  rcases h2 with e | e
  · rcases h with e' | e'
    · exact .inl (e.trans e')
    · exact .inr fun k hk => e' k (by rw [← e]; exact hk)
  · exact .inr fun k hk => Nat.le_trans hs (e k hk)
theorem N.Sl.grows {w w' : World} {A : Option Addr} {n c : Nat} {xs : List Int} {r : Option Nat} (h : Sl w A n c xs) (hg : w.grownBy w' r) (ha : ∀ g, r = some g → Aw A g) : Sl w' A n c xs :=
  ⟨h.len, h.cap, h.max, h.dg, h.nil, fun k hk => by
    obtain ⟨ad, e, hlt, hc⟩ := h.at' k hk
    exact ⟨ad, e, Nat.lt_of_lt_of_le hlt hg.size, fun j hj => (hg.cell (hc j hj) (by rw [add_block]; intro e'; exact ha _ e'.symm ad e rfl))⟩⟩
theorem wp_appB' {w : World} {ops : Array Oper} {rest : List Oper} {o : Oper} {a : Act} {Q : Exit → Act → World → Prop} (hgd : o.guard = none) (s x : Operand)
    (ho : o.op = .call { callee := .builtin .append, args := #[s, x], argTypes := #[35, 35] })
    (base : Nat) {A : Option Addr} {n c : Nat} {xs : List UInt8} (hs : a.eval s = .slice A n c) (hown : OwnB w base A n c xs)
    {A' : Option Addr} {m d : Nat} {ys : List UInt8} (hx : a.eval x = .slice A' m d) (hr : SlB w A' m d ys) (hn : n ≤ 8796093022208) (hm : m ≤ 4398046511104) (hbase : base ≤ w.heap.size)
    (h : ∀ A'' c'' w', OwnB w' base A'' (n + m) c'' (xs ++ ys) → w.grownBy w' (rowOf A) → RowFrom w A A'' → Below base w w' →
      wpList Tryd.prog ops Q rest (a.put o.dst (.slice A'' (n + m) c'')) w') : wpList Tryd.prog ops Q (o :: rest) a w := by
  obtain ⟨i0, hi, hz0, hz1, hz2⟩ := info_parts infoU8
  have hlt : ∀ k, rowOf A = some k → base ≤ k := fun k hk => (World.ownsRow.lt hown k (by rw [ownBlock_eq]; exact hk)).1
  have fin : ∀ (v' : Value) (w' : World), w'.ownsRow base 5 1 v' (n + m) (bv xs ++ bv ys) → w.grownBy w' (Value.slice A n c).ownBlock →
      (v'.ownBlock = (Value.slice A n c).ownBlock ∨ v'.ownBlock = some w.heap.size) → wpList Tryd.prog ops Q rest (a.put o.dst v') w' := by
    intro v' w' hown' hg hat
    rw [ownBlock_eq] at hg hat
    have hb : Below base w w' := ⟨hg.os, hg.tape, hg.output, hg.size, fun k hk => hg.block k (Nat.lt_of_lt_of_le hk hbase) (fun e => by have := hlt k e.symm; omega)⟩
    rw [← bv_append] at hown'
    rcases hown'.2 with ⟨rfl, h0⟩ | ⟨g, cap, cur, rfl, rest'⟩
    · have := h none 0 w'
      rw [h0] at this hown'
      exact this hown' hg (.inr fun k hk => by cases hk) hb
    · refine h _ cap w' hown' hg ?_ hb
      rw [ownBlock_eq] at hat
      rcases hat with e | e
      · exact .inl e
      · exact .inr fun k hk => by rw [e] at hk; injection hk with hk; omega
  cases A' with
  | none =>
    have hd := hr.nil rfl
    have hc := hr.cap
    obtain rfl : d = 0 := hd
    obtain rfl : m = 0 := by omega
    have hy : ys = [] := List.eq_nil_of_length_eq_zero hr.len
    subst hy
    refine wpList_append_own_none hgd s x 35 ho base 5 i0 1 slB hi _ n (bv xs) hs hown hx ?_
    exact fin _ w (by simpa [bv, OwnB] using hown) (World.grownBy.refl w _) (.inl rfl)
  | some ad =>
    refine wpList_append_own_at (w := w) hgd s x 35 ho base 5 i0 (.int .u8 0) 1 1 slB hi hz0 hz1 hz2 rfl (by omega) _ n (bv xs) hs hown ad m d (bv ys) hx (by rw [bv_length, hr.len, Nat.mul_one]) ?_ (bv_one ys) (by unfold maxLen; omega) (by omega) hbase ?_
    · intro j u hu
      have hj : j < ys.length := by have := (List.getElem?_eq_some_iff.1 hu).1; rwa [bv_length] at this
      rw [bv_get ys j hj] at hu
      injection hu with hu
      subst hu
      rw [hr.len] at hj
      obtain ⟨ad', e, _, hc⟩ := hr.cell hj
      injection e with e
      subst e
      exact hc
    · intro v' w' h2 h3 _ h5
      exact fin v' w' h2 h3 h5
theorem appendDigits_any (w : World) (base : Nat) (A A' : Option Addr) (n c m d : Nat) (bs : List UInt8) (xs : List Int) (h : OwnB w base A n c bs) (hy : Sl w A' m d xs) (ha : ∀ g, rowOf A = some g → Aw A' g) (hbase : base ≤ w.heap.size)
    (hm : m ≤ 64) (hn : n ≤ 1000000000) :
    Calls Tryd.prog 33 #[.slice A n c, .slice A' m d] w fun e w' => ∃ A1 c1, e = .returned (.slice A1 (n + 19 * m) c1) ∧ OwnB w' base A1 (n + 19 * m) c1 (bs ++ gdI xs) ∧ w.grownBy w' (rowOf A) ∧ RowFrom w A A1 ∧ Below base w w' := by
  have hyc := hy.cap
  have hym := hy.max
  unfold maxLen at hym
  have HY := Lib.hid hy
  have HO := Lib.hid h
  have HA := Lib.hid ha
  clear hy h ha
  go_enter Tryd.func33, Tryd.ntmps33
  go_wp2
  go_loopw [0, 9] (fun s i wr => ∃ (k : Nat) (A1 : Option Addr) (c1 : Nat), i = .int .i64 k ∧ s = .slice A1 (n + 19 * k) c1 ∧ k ≤ m ∧ OwnB wr base A1 (n + 19 * k) c1 (bs ++ gdI (xs.take k)) ∧ w.grownBy wr (rowOf A) ∧ RowFrom w A A1 ∧ Below base w wr) (fun _ i _ => m - (intOf i).toNat)
  case atStart => exact ⟨0, A, c, rfl, rfl, Nat.zero_le _, by rw [List.take_zero]; exact (by simpa [gdI] using HO.out), World.grownBy.refl _ _, .inl rfl, Below.refl _ _⟩
  case round =>
    obtain ⟨k, A1, c1, rfl, rfl, hk, ho, hg, hr, hb⟩ := hrel
    obtain ⟨wi, rfl⟩ : ∃ wi : World, wi = wr := ⟨_, rfl⟩
    by_cases hlt : k < m
    · obtain ⟨ad, rfl, _, hcell⟩ := (HY.out.grows hg HA.out).cell hlt
      have hlb := HY.out.dg.lim (b := B) (by decide) k
      obtain ⟨x, hx⟩ : ∃ x : Nat, lim xs k = (x : Int) := ⟨(lim xs k).toNat, (Int.toNat_of_nonneg hlb.1).symm⟩
      have hxb : x < 18446744073709551616 := by have h2 : lim xs k < 18446744073709551616 := hlb.2; omega
      rw [hx] at hcell
      have HX := Lib.hid hx
      have HB1 := Lib.hid ho
      have HG1 := Lib.hid hg
      have HR1 := Lib.hid hr
      have HBL := Lib.hid hb
      clear hx ho hg hr hb hlb
      go_wp2
      clear hcell
      go_loopw [0, 6, 13] (fun s v i wr => ∃ (j : Nat) (A2 : Option Addr) (c2 : Nat), i = .int .i64 j ∧ v = .int .u64 ((x / 10 ^ j : Nat) : Int) ∧ s = .slice A2 (n + 19 * k + j) c2 ∧ j ≤ 19 ∧ OwnB wr base A2 (n + 19 * k + j) c2 (bs ++ gdI (xs.take k) ++ lowD j x) ∧ w.grownBy wr (rowOf A) ∧ RowFrom w A A2 ∧ Below base w wr) (fun _ _ i _ => 19 - (intOf i).toNat)
      case atStart => exact ⟨0, A1, c1, rfl, by rw [Nat.pow_zero, Nat.div_one], rfl, by omega, by rw [lowD_zero, List.append_nil]; exact HB1.out, HG1.out, HR1.out, HBL.out⟩
      case round =>
        obtain ⟨j, A2, c2, rfl, rfl, rfl, hj, ho, hg, hr, hb⟩ := hrel
        obtain ⟨wj, rfl⟩ : ∃ wj : World, wj = wr := ⟨_, rfl⟩
        by_cases hj19 : j < 19
        · obtain ⟨u, hu⟩ : ∃ u, x / 10 ^ j = u := ⟨_, rfl⟩
          have hub : u < 18446744073709551616 := by rw [← hu]; exact Nat.lt_of_le_of_lt (Nat.div_le_self _ _) hxb
          have hu2 : x / 10 ^ (j + 1) = u / 10 := by rw [Nat.pow_succ, ← Nat.div_div_eq_div_mul, hu]
          have hls := lowD_succ j x
          rw [hu] at hls ⊢
          have e3 : IntKind.u8.wrap (48 + (u : Int) % 10) = 48 + (u : Int) % 10 := by rw [IntKind.wrap_u8]; omega
          have ho5 := ho.below ((Below.refl wj.heap.size wj).alloc (Nat.le_refl _) (.cells #[.int .u8 (48 + (u : Int) % 10)] 5))
          have hs5 := (ArrB.lit wj [UInt8.ofNat (48 + u % 10)] #[.int .u8 (48 + (u : Int) % 10)] (bv_dig u)).sl (n := 1) rfl (by unfold maxLen; omega)
          have hb5 := hb.alloc (Nat.le_trans hbase hb.size) (.cells #[.int .u8 (48 + (u : Int) % 10)] 5)
          have hg5 := grow_on hg hr (grow_below ((Below.refl wj.heap.size wj).alloc (Nat.le_refl _) (.cells #[.int .u8 (48 + (u : Int) % 10)] 5)) (rowOf A2))
          have HLS := Lib.hid hls
          have HU2 := Lib.hid hu2
          have HR2 := Lib.hid hr
          have HG5 := Lib.hid hg5
          clear hls hu2 hu ho hg hr hb hg5
          go_wp2_with (first
            | (at_builtin; refine wp_appB' rfl _ _ rfl base rfl ho5 rfl hs5 (by omega) (by omega) (Nat.le_trans hbase hb5.size) ?_; intro A6 c6 w6 hown6 hg6 hr6 hb6))
          go_roundw
          case rel =>
            refine ⟨j + 1, A6, c6, by go_num, by rw [HU2.out]; congr 1, rfl, by omega, ?_, grow_on HG5.out HR2.out hg6, row_on HG5.out.size HR2.out hr6, hb5.trans hb6⟩
            rw [HLS.out, ← List.append_assoc]
            exact hown6
          case measure => simp [intOf]; omega
        · obtain rfl : j = 19 := by omega
          have HB2 := Lib.hid ho
          have HG2 := Lib.hid hg
          have HR2 := Lib.hid hr
          have HBL2 := Lib.hid hb
          clear ho hg hr hb
          go_wp2
          go_roundw
          case rel =>
            refine ⟨k + 1, A2, c2, by go_num, by congr 1, by omega, ?_, HG2.out, HR2.out, HBL2.out⟩
            have e := HB2.out
            have hkl : k < xs.length := by rw [HY.out.len]; exact hlt
            rw [List.take_succ_eq_append_getElem hkl, gdI_snoc, ← lim_lt xs k hkl, HX.out, Int.toNat_natCast, ← List.append_assoc]
            exact e
          case measure => simp [intOf]; omega
    · obtain rfl : k = m := by omega
      have HB1 := Lib.hid ho
      have HG1 := Lib.hid hg
      have HR1 := Lib.hid hr
      have HBL := Lib.hid hb
      clear ho hg hr hb
      go_wp2
      go_ret
      refine ⟨A1, c1, rfl, ?_, HG1.out, HR1.out, HBL.out⟩
      have e := HB1.out
      rw [List.take_of_length_le (by rw [HY.out.len]; exact Nat.le_refl _)] at e
      exact e
end Go.Proofs.YtbadbjmhmadbmaaDoor
