/- Gathered: DecLib, DecRd, DecBy, DecProg, DecState. -/
import Derived.Test.YtfdpddlefobcpaaGreatDoorGRef
import Derived.Test.YtfdpddlefobcpaaGreatDoorGNatB
import Derived.Test.YtfdpddlefobcpaaGreatDoorGMath
import Derived.Test.YtfdpddlefobcpaaGreatDoorGQuo
import Derived.Lib.ConvBytes
import Derived.BigRegion
import Derived.Deep.WholeRow
/- What layer 4's statements call beside the program: rows of one byte, powers of ten, the document's answers, over naturals at hand. -/
namespace Go.Proofs.YtfdpddlefobcpaaGreatDoor
open Go.RowKit
set_option linter.unusedVariables false
set_option maxRecDepth 20000
open N
open Go.Lib (decDigits nDigits decDigits_length nDigits_pos)
section
variable {w0 w w' : World} {S : List Ent}
variable {A A' : Option Addr} {n c m d k k' : Nat} {xs ys : List Int} {v u : Int}
theorem St.v_nat (h : St w0 w S) (h1 : (⟨A, n, c, k, xs, v⟩ : Ent) ∈ S) : val B xs = (v.toNat : Int) := by
  have h2 := (h.2 _ h1).nonneg
  rw [(h.get h1).2.2]
  exact (Int.toNat_of_nonneg h2).symm
end
end Go.Proofs.YtfdpddlefobcpaaGreatDoor
/- What the program's Read and its helpers (value, allDigits, fault) answer, over this translation. -/
namespace Go.Proofs.YtfdpddlefobcpaaGreatDoor
open Go.RowKit
set_option linter.unusedVariables false
set_option maxRecDepth 20000
open N
open Go.Lib (decDigits nDigits decDigits_length nDigits_pos)
/-- '[]byte(s)': a row of the call's own with the text's bytes -/
theorem bytes_of (w : World) (bs : List UInt8) : ∃ (c : Nat) (w1 : World), (convert 9 125 (.string ⟨bs.toArray⟩)).run Tryz.prog w = .ok (.slice (some ⟨w.heap.size, 0, none⟩) bs.length c) w1 ∧
    (∀ k, k < bs.length → w1.cell? ⟨w.heap.size, k, none⟩ = some (.int .u8 (bat bs k))) ∧ Below w.heap.size w w1 := by
  refine ⟨_, _, Lib.run_convert_string_bytes w 9 125 5 ⟨bs.toArray⟩ strU slB u8U, fun k hk => ?_, ⟨rfl, rfl, rfl, by rw [Lib.bytesWorld_size]; omega, fun k hk => Lib.bytesWorld_at_old w _ _ k hk⟩⟩
  rw [Lib.bytesWorld_cell w _ ⟨bs.toArray⟩ k hk]
  rfl
namespace N
theorem dv_take_lt {bs : List UInt8} (hd : ∀ j, j < bs.length → IsD (bs.getD j 0)) {k : Nat} (hk : k ≤ 18) : dv (bs.take k) < 1000000000000000000 := by
  have h1 := dv_lt (bs.take k) fun b hb => by
    obtain ⟨j, hj, rfl⟩ := List.mem_iff_getElem.1 hb
    have hj' : j < bs.length := by rw [List.length_take] at hj; omega
    have := hd j hj'
    rw [List.getD_eq_getElem?_getD, List.getElem?_eq_getElem hj'] at this
    simpa using this
  have h2 : 10 ^ (bs.take k).length ≤ 10 ^ 18 := Nat.pow_le_pow_right (by omega) (by rw [List.length_take]; omega)
  omega
end N
namespace N
def strLen : Value → Nat
  | .string s => s.size
  | _ => 0
end N
namespace N
theorem ext_take (t : List UInt8) (q : Nat) : (⟨t.toArray⟩ : ByteArray).extract 0 q = ⟨(t.take q).toArray⟩ := by
  apply ByteArray.ext
  simp
theorem ext_drop (t : List UInt8) (q : Nat) : (⟨t.toArray⟩ : ByteArray).extract q t.length = ⟨(t.drop q).toArray⟩ := by
  apply ByteArray.ext
  simp
  exact List.take_of_length_le (by simp)
theorem dv_take_19 {t : List UInt8} {q : Nat} (hd : ∀ j, j < (t.take q).length → IsD ((t.take q).getD j 0)) (hq : q ≤ 19) : dv (t.take q) < 10000000000000000000 := by
  have h1 := dv_lt (t.take q) fun b hb => by
    obtain ⟨j, hj, rfl⟩ := List.mem_iff_getElem.1 hb
    have := hd j hj
    rwa [List.getD_eq_getElem?_getD, List.getElem?_eq_getElem hj] at this
  have h2 : 10 ^ (t.take q).length ≤ 10 ^ 19 := Nat.pow_le_pow_right (by omega) (by rw [List.length_take]; omega)
  omega
theorem getD_of_mem {bs : List UInt8} (hd : ∀ b ∈ bs, IsD b) : ∀ j, j < bs.length → IsD (bs.getD j 0) := fun j hj => by
  rw [List.getD_eq_getElem?_getD, List.getElem?_eq_getElem hj]
  exact hd _ (List.getElem_mem hj)
theorem limbs_dv_len {bs : List UInt8} (hd : ∀ b ∈ bs, IsD b) {k v : Nat} (hv : dv (bs.take k) = v) : (limbs (v : Int)).length ≤ k := by
  rw [limbs_len_le (by omega), ← hv]
  have h1 := dv_lt (bs.take k) fun b hb => hd b (List.mem_of_mem_take hb)
  have h2 : 10 ^ (bs.take k).length ≤ 10 ^ k := Nat.pow_le_pow_right (by omega) (by rw [List.length_take]; omega)
  have h3 : 10 ^ k ≤ 18446744073709551616 ^ k := Nat.pow_le_pow_left (by omega) k
  have h4 : Q B k = ((18446744073709551616 ^ k : Nat) : Int) := by unfold Q; rw [Int.natCast_pow]; rfl
  rw [h4]
  exact_mod_cast Nat.lt_of_lt_of_le h1 (Nat.le_trans h2 h3)
end N
theorem add_out {w0 w : World} {S : List Ent} {A A' : Option Addr} {n c m d k k' : Nat} {xs ys : List Int} {v u : Int} (h : St w0 w S) (h1 : (⟨A, n, c, k, xs, v⟩ : Ent) ∈ S) (h2 : (⟨A', m, d, k', ys, u⟩ : Ent) ∈ S) (hk : k ≤ 1099511627776) (hk' : k' ≤ 1099511627776) :
    Calls Tryz.prog 118 #[.slice A n c, .slice A' m d] w fun e w' => ∃ A n c, e = .returned (.slice A n c) ∧ N.Own w' w0.heap.size A n c (limbs (v + u)) ∧ Below w.heap.size w w' := by
  obtain ⟨a1, a2, rfl⟩ := h.get h1
  obtain ⟨b1, b2, rfl⟩ := h.get h2
  refine (nadd_any w A A' n c m d xs ys a1 b1 (by omega) (by omega)).mono fun e w' ho => ?_
  obtain ⟨A, n, c, he, hn, hown, hb⟩ := ho
  exact ⟨A, n, c, he, hown.mono h.1.size, hb⟩
def PRel (w : World) (bs : List UInt8) (U : Ent) (t a : Value) (wr : World) : Prop :=
  ∃ (k : Nat) (A : Option Addr) (n c : Nat), t = .string ⟨(bs.drop k).toArray⟩ ∧ a = .slice A n c ∧ k ≤ bs.length ∧ (k = 0 ∨ (bs.length - k) % 19 = 0) ∧ N.Own wr w.heap.size A n c (limbs (dv (bs.take k))) ∧ St w wr [U]
end Go.Proofs.YtfdpddlefobcpaaGreatDoor
/- What bytes.TrimRight (a cutset of the one byte 0x30), slices.Reverse over bytes and the program's appendDigits answer, over this translation. -/
namespace Go.Proofs.YtfdpddlefobcpaaGreatDoor
open Go.RowKit
set_option linter.unusedVariables false
set_option maxRecDepth 20000
open N
open Go.Lib (decDigits nDigits decDigits_length nDigits_pos)
namespace N
theorem trim_take (bs : List UInt8) (c : UInt8) (k : Nat) (hk : k < bs.length) : Lib.trimRightS (bs.take (k + 1)) [c] = if bs.getD k 0 = c then Lib.trimRightS (bs.take k) [c] else bs.take (k + 1) := by
  have e : bs.getD k 0 = bs[k] := by rw [List.getD_eq_getElem?_getD, List.getElem?_eq_getElem hk]; rfl
  rw [e, List.take_succ_eq_append_getElem hk]
  unfold Lib.trimRightS
  rw [List.reverse_append, List.reverse_singleton, List.singleton_append, List.dropWhile_cons]
  by_cases h : bs[k] = c
  · rw [if_pos (by simp [h]), if_pos h]
  · rw [if_neg (by simpa using h), if_neg h, List.reverse_cons, List.reverse_reverse]
theorem trim_nil (c : UInt8) : Lib.trimRightS [] [c] = [] := rfl
end N
namespace N
/-- the block g begins with the row of bytes bs; behind it are e places more -/
def ArPB (w : World) (g e : Nat) (bs : List UInt8) : Prop := ∃ ext : List Value, ext.length = e ∧ w.heap[g]? = some (.cells (bv bs ++ ext).toArray 5 (0, 0))
section
variable {w w' : World} {g e : Nat} {bs : List UInt8}
theorem ArPB.cell (h : ArPB w g e bs) {k : Nat} (hk : k < bs.length) : w.cell? ⟨g, k, none⟩ = some (.int .u8 (bat bs k)) := by
  obtain ⟨ext, _, h⟩ := h
  rw [cell_of_row w g k _ _ _ h]
  have := bv_get bs k hk
  rw [List.getElem?_toArray, List.getElem?_append_left (by rw [bv_length]; exact hk)]
  exact this
theorem ArPB.frozen (h : ArPB w g e bs) (k : Nat) : w.frozen? ⟨g, k, none⟩ = false := by
  obtain ⟨ext, _, h⟩ := h
  simp [World.frozen?, h]
theorem ArPB.drew (h : ArPB w g e bs) : ArPB w.drew g e bs := h
theorem ArPB.set (h : ArPB w g e bs) (k : Nat) (v : UInt8) (hk : k < bs.length) : ArPB (w.setCell ⟨g, k, none⟩ (.int .u8 (v.toNat : Int))) g e (bs.set k v) := by
  obtain ⟨ext, h1, h2⟩ := h
  refine ⟨ext, h1, ?_⟩
  simp only [World.setCell, Array.getElem?_modify, h2]
  simp [bv, List.map_set, hk]
theorem ArPB.own (h : ArPB w g e bs) {base n c : Nat} (hb : base ≤ g) (hl : bs.length = n) (hc : n + e = c) (hm : c ≤ maxLen) : OwnB w base (some ⟨g, 0, none⟩) n c bs := by
  obtain ⟨ext, h1, h2⟩ := h
  refine ⟨by rw [bv_length, hl, Nat.mul_one], .inr ⟨g, c, _, rfl, hb, h2, by omega, hm, ?_, ?_⟩⟩
  · simp [bv_length, hl, h1, hc]
  · rw [Nat.mul_one]
    simp [bv_length, hl]
theorem OwnB.arp {base n c : Nat} {A : Option Addr} (h : OwnB w base A n c bs) (hn : 0 < n) : ∃ g, A = some ⟨g, 0, none⟩ ∧ base ≤ g ∧ n ≤ c ∧ c ≤ maxLen ∧ ArPB w g (c - n) bs := by
  rcases h.2 with ⟨e, e0⟩ | ⟨g, cap, cur, e, hb, hh, hnc, hm, hsz, ht⟩
  · omega
  · cases e
    refine ⟨g, rfl, hb, hnc, hm, cur.toList.drop n, by simp [hsz], ?_⟩
    rw [hh, ← ht, Nat.mul_one, List.take_append_drop]
theorem OwnB.mono {base base' n c : Nat} {A : Option Addr} (h : OwnB w base A n c bs) (hb : base' ≤ base) : OwnB w base' A n c bs :=
  ⟨h.1, by
    rcases h.2 with e | ⟨g, cap, cur, e, hg, r⟩
    · exact .inl e
    · exact .inr ⟨g, cap, cur, e, Nat.le_trans hb hg, r⟩⟩
theorem OwnB.take {base n c : Nat} {A : Option Addr} (h : OwnB w base A n c bs) {k : Nat} (hk : k ≤ n) : OwnB w base A k c (bs.take k) := by
  refine ⟨by rw [bv_length, List.length_take, h.len, Nat.min_eq_left hk, Nat.mul_one], ?_⟩
  rcases h.2 with ⟨e, h0⟩ | ⟨g, cap, cur, e, hg, hh, hnc, hm, hs, ht⟩
  · left; cases e; exact ⟨by rw [show k = 0 by omega], by omega⟩
  · cases e
    refine .inr ⟨g, _, cur, rfl, hg, hh, by omega, hm, hs, ?_⟩
    rw [← bv_take, ← ht, List.take_take, Nat.mul_one, Nat.mul_one, Nat.min_eq_left hk]
end
/-- i bytes from each end have changed places -/
structure RvSt (bs : List UInt8) (i : Nat) (L : List UInt8) : Prop where
  len : L.length = bs.length
  at' : ∀ p, p < bs.length → L.getD p 0 = if p < i ∨ bs.length ≤ p + i then bs.getD (bs.length - 1 - p) 0 else bs.getD p 0
theorem getD_set (l : List UInt8) (k j : Nat) (v : UInt8) (hk : k < l.length) : (l.set k v).getD j 0 = if j = k then v else l.getD j 0 := by
  rw [List.getD_eq_getElem?_getD, List.getElem?_set, List.getD_eq_getElem?_getD]
  by_cases h : j = k
  · subst h; rw [if_pos rfl, if_pos rfl, if_pos hk]; rfl
  · rw [if_neg (fun e => h e.symm), if_neg h]
theorem RvSt.start (bs : List UInt8) : RvSt bs 0 bs := ⟨rfl, fun p hp => by rw [if_neg (by omega)]⟩
theorem RvSt.step {bs : List UInt8} {i : Nat} {L : List UInt8} (h : RvSt bs i L) (hi : i + 1 + i < bs.length) :
    RvSt bs (i + 1) ((L.set i (L.getD (bs.length - 1 - i) 0)).set (bs.length - 1 - i) (L.getD i 0)) := by
  have h1 := h.at' i (by omega)
  have h2 := h.at' (bs.length - 1 - i) (by omega)
  rw [if_neg (by omega)] at h1 h2
  refine ⟨by rw [List.length_set, List.length_set, h.len], fun p hp => ?_⟩
  rw [getD_set _ _ _ _ (by rw [List.length_set, h.len]; omega), getD_set _ _ _ _ (by rw [h.len]; omega), h.at' p hp, h1, h2]
  by_cases e1 : p = bs.length - 1 - i
  · rw [if_pos e1, if_pos (by omega), e1]; congr 1; omega
  · rw [if_neg e1]
    by_cases e2 : p = i
    · rw [if_pos e2, if_pos (by omega), e2]
    · rw [if_neg e2]
      by_cases e3 : p < i ∨ bs.length ≤ p + i
      · rw [if_pos e3, if_pos (by omega)]
      · rw [if_neg e3, if_neg (by omega)]
theorem RvSt.done {bs : List UInt8} {i : Nat} {L : List UInt8} (h : RvSt bs i L) (hi : bs.length ≤ i + 1 + i) : L = bs.reverse := by
  apply List.ext_getElem
  · rw [h.len, List.length_reverse]
  · intro p hp hq
    have hp' : p < bs.length := by rw [← h.len]; exact hp
    have e := h.at' p hp'
    rw [List.getD_eq_getElem?_getD, List.getElem?_eq_getElem hp] at e
    rw [List.getElem_reverse]
    have e2 : bs.getD (bs.length - 1 - p) 0 = bs[bs.length - 1 - p] := by rw [List.getD_eq_getElem?_getD, List.getElem?_eq_getElem (by omega)]; rfl
    rw [← e2]
    split at e
    · exact e
    · refine e.trans ?_
      congr 1; omega
end N
/-- the row lies where it did, or in a block that is new since w -/
def RowFrom (w : World) (A A' : Option Addr) : Prop := rowOf A' = rowOf A ∨ ∀ k, rowOf A' = some k → w.heap.size ≤ k
theorem grow_on {w w1 w2 : World} {A A1 : Option Addr} (h : w.grownBy w1 (rowOf A)) (hr : RowFrom w A A1) (h2 : w1.grownBy w2 (rowOf A1)) : w.grownBy w2 (rowOf A) :=
  ⟨h2.os.trans h.os, h2.tape.trans h.tape, h2.output.trans h.output, Nat.le_trans h.size h2.size, fun k hk hne => (h2.block k (Nat.lt_of_lt_of_le hk h.size) (fun e => by
    rcases hr with e' | e'
    · exact hne (e.trans e')
    · have := e' k e.symm; omega)).trans (h.block k hk hne)⟩
theorem row_on {w w1 : World} {A A1 A2 : Option Addr} (hs : w.heap.size ≤ w1.heap.size) (h : RowFrom w A A1) (h2 : RowFrom w1 A1 A2) : RowFrom w A A2 := by
  rcases h2 with e | e
  · rcases h with e' | e'
    · exact .inl (e.trans e')
    · exact .inr fun k hk => e' k (by rw [← e]; exact hk)
  · exact .inr fun k hk => Nat.le_trans hs (e k hk)
theorem N.Sl.grows {w w' : World} {A : Option Addr} {n c : Nat} {xs : List Int} {r : Option Nat} (h : Sl w A n c xs) (hg : w.grownBy w' r) (ha : ∀ g, r = some g → Aw A g) : Sl w' A n c xs :=
  ⟨h.len, h.cap, h.max, h.dg, h.nil, fun k hk => by
    obtain ⟨ad, e, hlt, hc⟩ := h.at' k hk
    exact ⟨ad, e, Nat.lt_of_lt_of_le hlt hg.size, fun j hj => (hg.cell (hc j hj) (by rw [add_block]; intro e'; exact ha _ e'.symm ad e rfl))⟩⟩
theorem wp_appB' {w : World} {ops : Array Oper} {rest : List Oper} {o : Oper} {a : Act} {Q : Exit → Act → World → Prop} (hgd : o.guard = none) (s x : Operand)
    (ho : o.op = .call { callee := .builtin .append, args := #[s, x], argTypes := #[125, 125] })
    (base : Nat) {A : Option Addr} {n c : Nat} {xs : List UInt8} (hs : a.eval s = .slice A n c) (hown : OwnB w base A n c xs)
    {A' : Option Addr} {m d : Nat} {ys : List UInt8} (hx : a.eval x = .slice A' m d) (hr : SlB w A' m d ys) (hn : n ≤ 8796093022208) (hm : m ≤ 4398046511104) (hbase : base ≤ w.heap.size)
    (h : ∀ A'' c'' w', OwnB w' base A'' (n + m) c'' (xs ++ ys) → w.grownBy w' (rowOf A) → RowFrom w A A'' → Below base w w' →
      wpList Tryz.prog ops Q rest (a.put o.dst (.slice A'' (n + m) c'')) w') : wpList Tryz.prog ops Q (o :: rest) a w := by
  obtain ⟨i0, hi, hz0, hz1, hz2⟩ := info_parts infoU8
  have hlt : ∀ k, rowOf A = some k → base ≤ k := fun k hk => (World.ownsRow.lt hown k (by rw [ownBlock_eq]; exact hk)).1
  have fin : ∀ (v' : Value) (w' : World), w'.ownsRow base 5 1 v' (n + m) (bv xs ++ bv ys) → w.grownBy w' (Value.slice A n c).ownBlock →
      (v'.ownBlock = (Value.slice A n c).ownBlock ∨ v'.ownBlock = some w.heap.size) → wpList Tryz.prog ops Q rest (a.put o.dst v') w' := by
    intro v' w' hown' hg hat
    rw [ownBlock_eq] at hg hat
    have hb : Below base w w' := ⟨hg.os, hg.tape, hg.output, hg.size, fun k hk => hg.block k (Nat.lt_of_lt_of_le hk hbase) (fun e => by have := hlt k e.symm; omega)⟩
    rw [← bv_append] at hown'
    rcases hown'.2 with ⟨rfl, h0⟩ | ⟨g, cap, cur, rfl, rest'⟩
    · have := h none 0 w'
      rw [h0] at this hown'
      exact this hown' hg (.inr fun k hk => by cases hk) hb
    · refine h _ cap w' hown' hg ?_ hb
      rw [ownBlock_eq] at hat
      rcases hat with e | e
      · exact .inl e
      · exact .inr fun k hk => by rw [e] at hk; injection hk with hk; omega
  cases A' with
  | none =>
    have hd := hr.nil rfl
    have hc := hr.cap
    obtain rfl : d = 0 := hd
    obtain rfl : m = 0 := by omega
    have hy : ys = [] := List.eq_nil_of_length_eq_zero hr.len
    subst hy
    refine wpList_append_own_none hgd s x 125 ho base 5 i0 1 slB hi _ n (bv xs) hs hown hx ?_
    exact fin _ w (by simpa [bv, OwnB] using hown) (World.grownBy.refl w _) (.inl rfl)
  | some ad =>
    refine wpList_append_own_at (w := w) hgd s x 125 ho base 5 i0 (.int .u8 0) 1 1 slB hi hz0 hz1 hz2 rfl (by omega) _ n (bv xs) hs hown ad m d (bv ys) hx (by rw [bv_length, hr.len, Nat.mul_one]) ?_ (bv_one ys) (by unfold maxLen; omega) (by omega) hbase ?_
    · intro j u hu
      have hj : j < ys.length := by have := (List.getElem?_eq_some_iff.1 hu).1; rwa [bv_length] at this
      rw [bv_get ys j hj] at hu
      injection hu with hu
      subst hu
      rw [hr.len] at hj
      obtain ⟨ad', e, _, hc⟩ := hr.cell hj
      injection e with e
      subst e
      exact hc
    · intro v' w' h2 h3 _ h5
      exact fin v' w' h2 h3 h5
end Go.Proofs.YtfdpddlefobcpaaGreatDoor
/- What the program's Show and Many (and split, splitLow, fits) answer, over this translation: the decimal digits. -/
namespace Go.Proofs.YtfdpddlefobcpaaGreatDoor
open Go.RowKit
set_option linter.unusedVariables false
set_option maxRecDepth 20000
open N
open Go.Lib (decDigits nDigits decDigits_length nDigits_pos lt_pow_nDigits)
namespace N
section
variable {w w' : World} {g : Nat} {xs : List Int}
end
theorem zeros64 : #[Value.int .u64 0, .int .u64 0, .int .u64 0, .int .u64 0, .int .u64 0, .int .u64 0, .int .u64 0, .int .u64 0] = (uv (List.replicate 8 0)).toArray := rfl
end N
theorem N.Own.aw {w : World} {base : Nat} {A : Option Addr} {n c : Nat} {xs : List Int} (h : N.Own w base A n c xs) {g : Nat} (hg : g < base) : Aw A g := fun ad e => by
  subst e
  have := (h.row.lt ad.block (by rw [ownBlock_eq]; rfl)).1
  omega
theorem N.Sl.aw {w : World} {A : Option Addr} {n c : Nat} {xs : List Int} (h : Sl w A n c xs) (hn : 0 < n) {g : Nat} (hg : w.heap.size ≤ g) : Aw A g := fun ad e => by
  obtain ⟨ad', e', hlt, _⟩ := h.at' 0 hn
  rw [e] at e'
  injection e' with e'
  subst e'
  omega
theorem uv_all (xs : List Int) : (uv xs).toArray.all (·.oneCell') = true := by
  rw [Array.all_eq_true_iff_forall_mem]
  intro u hu
  exact uv_one xs u (by simpa using hu)
theorem N.Sl.growz {w w' : World} {A : Option Addr} {n c g : Nat} {xs : List Int} (h : Sl w A n c xs) (hg : w.grownBy w' (some g)) (ha : 0 < n → Aw A g) : Sl w' A n c xs :=
  ⟨h.len, h.cap, h.max, h.dg, h.nil, fun k hk => by
    obtain ⟨ad, e, hlt, hc⟩ := h.at' k hk
    exact ⟨ad, e, Nat.lt_of_lt_of_le hlt hg.size, fun j hj => (hg.cell (hc j hj) (by rw [add_block]; intro e'; injection e' with e'; exact ha (by omega) ad e e'))⟩⟩
/-- what splitLow knows when j arrays of groups are split off -/
def LoRel (w : World) (v n0 : Nat) (Ap : Option Addr) (np cp P : Nat) (s t : Value) (wr : World) : Prop :=
  ∃ (j : Nat) (A1 : Option Addr) (n1 c1 : Nat) (ys : List Int) (Ad : Option Addr) (m d : Nat), s = .slice A1 n1 c1 ∧ t = .slice Ad m d ∧ n1 ≤ n0 ∧ Sl wr A1 n1 c1 ys ∧ val B ys = ((v / 10 ^ (KD * j) : Nat) : Int) ∧ Sl wr Ap np cp (limbs ((10 ^ KD : Nat) : Int)) ∧
    OwnB wr w.heap.size Ad m d (lowD (KD * j) v) ∧ (∀ g, rowOf Ad = some g → Aw Ap g) ∧ Below w.heap.size w wr ∧ P ≤ wr.heap.size ∧ KD * j ≤ nDigits v + KD
theorem sum_groups {v j k : Nat} (h : v / 10 ^ (KD * j) / 10 ^ (19 * k) = 0) : v < 10 ^ (19 * k + KD * j) := by
  rw [Nat.div_div_eq_div_mul, ← Nat.pow_add, Nat.div_eq_zero_iff] at h
  rcases h with e | e
  · exact absurd e (Nat.ne_of_gt (Nat.pow_pos (by omega)))
  · rwa [Nat.add_comm]
theorem trim_none {K v k : Nat} (h : v < 10 ^ K) (hk : k ≤ K) (h0 : v = 0) (ht : Go.Lib.trimRightS (lowD K v) [48] = (lowD K v).take k) : k = 0 := by
  have h1 := trim_lowD K v h
  rw [ht, if_pos h0] at h1
  have h2 := congrArg List.length h1
  rw [List.length_reverse, List.length_take, lowD_length, Nat.min_eq_left hk] at h2
  exact h2
theorem trim_some {K v k : Nat} (h : v < 10 ^ K) (hk : k ≤ K) (h0 : v ≠ 0) (ht : Go.Lib.trimRightS (lowD K v) [48] = (lowD K v).take k) : ((lowD K v).take k).reverse = decDigits v ∧ k ≠ 0 := by
  have h1 := trim_lowD K v h
  rw [ht, if_neg h0] at h1
  refine ⟨h1, fun e => ?_⟩
  subst e
  exact dd_ne v h1.symm
end Go.Proofs.YtfdpddlefobcpaaGreatDoor
/- Layer 4's calls over naturals at hand (the contracts of the program themselves: DecProg). -/
namespace Go.Proofs.YtfdpddlefobcpaaGreatDoor
open Go.RowKit
set_option linter.unusedVariables false
set_option maxRecDepth 20000
open N
open Go.Lib (decDigits nDigits decDigits_length nDigits_pos)
section
variable {w0 w w' : World} {S : List Ent} {A A' : Option Addr} {n c m d k k' : Nat} {xs ys : List Int} {v u : Int}
end
end Go.Proofs.YtfdpddlefobcpaaGreatDoor
