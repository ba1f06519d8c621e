/- Words for memory of bytes: slices that read as rows of bytes, rows of the call's own, append, make, a string's bytes. No function of the program. -/
import Derived.Test.YtbadbjmhmadbmaaDoorNatApp
import Derived.Test.YtbadbjmhmadbmaaDoorDecMath
import Derived.Laws.IdiomStrings
import Derived.Laws.BytesString
import Derived.Laws.Concat
namespace Go.Proofs.YtbadbjmhmadbmaaDoor
open Go.RowKit
set_option linter.unusedVariables false
set_option maxRecDepth 20000
namespace N
/-- a row of bytes as values -/
def bv (bs : List UInt8) : List Value := bs.map fun b => Value.int .u8 (b.toNat : Int)
/-- the byte at a place, as a number -/
def bat (bs : List UInt8) (j : Nat) : Int := ((bs.getD j 0).toNat : Int)
theorem bat_lt (bs : List UInt8) (j : Nat) : 0 ≤ bat bs j ∧ bat bs j < 256 := by
  unfold bat; have := UInt8.toNat_lt (bs.getD j 0); omega
theorem bat_get (bs : List UInt8) (j : Nat) (h : j < bs.length) : bat bs j = (bs[j].toNat : Int) := by
  unfold bat; rw [List.getD_eq_getElem?_getD, List.getElem?_eq_getElem h]; rfl
theorem bv_length (bs : List UInt8) : (bv bs).length = bs.length := by simp [bv]
theorem bv_get (bs : List UInt8) (j : Nat) (h : j < bs.length) : (bv bs)[j]? = some (.int .u8 (bat bs j)) := by
  unfold bv; rw [List.getElem?_map, List.getElem?_eq_getElem h, bat_get bs j h]; rfl
theorem bv_append (xs ys : List UInt8) : bv (xs ++ ys) = bv xs ++ bv ys := by simp [bv]
theorem bv_take (xs : List UInt8) (k : Nat) : (bv xs).take k = bv (xs.take k) := by simp [bv, List.map_take]
theorem bv_one (bs : List UInt8) : ∀ u ∈ bv bs, u.oneCell' = true := by
  intro u hu; unfold bv at hu
  obtain ⟨x, _, rfl⟩ := List.mem_map.1 hu; rfl
/-- the slice value '.slice A n c' reads as the row bs of bytes -/
structure SlB (w : World) (A : Option Addr) (n c : Nat) (bs : List UInt8) : Prop where
  len : bs.length = n
  cap : n ≤ c
  max : c ≤ maxLen
  nil : A = none → c = 0
  at' : ∀ k, k < n → ∃ ad, A = some ad ∧ ad.block < w.heap.size ∧ ∀ j, j < n → w.cell? (ad.add j) = some (.int .u8 (bat bs j))
theorem SlB.below {w w' : World} {A : Option Addr} {n c : Nat} {bs : List UInt8} (h : SlB w A n c bs) (hb : Below w.heap.size w w') : SlB w' A n c bs :=
  ⟨h.len, h.cap, h.max, h.nil, fun k hk => by
    obtain ⟨ad, e, hlt, hc⟩ := h.at' k hk
    exact ⟨ad, e, Nat.lt_of_lt_of_le hlt hb.size, fun j hj => by rw [hb.cell (by rw [add_block]; exact hlt)]; exact hc j hj⟩⟩
theorem SlB.none {w : World} : SlB w none 0 0 [] := ⟨rfl, Nat.le_refl _, Nat.zero_le _, fun _ => rfl, fun k hk => by omega⟩
theorem SlB.cell {w : World} {A : Option Addr} {n c : Nat} {bs : List UInt8} (h : SlB w A n c bs) {k : Nat} (hk : k < n) : ∃ ad, A = some ad ∧ ad.block < w.heap.size ∧ w.cell? (ad.add k) = some (.int .u8 (bat bs k)) := by
  obtain ⟨ad, e, hlt, hc⟩ := h.at' k hk
  exact ⟨ad, e, hlt, hc k hk⟩
/-- the block g holds just the row bs -/
def ArrB (w : World) (g : Nat) (bs : List UInt8) : Prop := w.heap[g]? = some (.cells (bv bs).toArray 5 (0, 0))
section
variable {w w' : World} {g : Nat} {bs : List UInt8}
theorem ArrB.lt (h : ArrB w g bs) : g < w.heap.size := by
  rcases Nat.lt_or_ge g w.heap.size with hlt | hge
  · exact hlt
  · unfold ArrB at h; rw [Array.getElem?_eq_none hge] at h; cases h
theorem ArrB.cell (h : ArrB w g bs) {k : Nat} (hk : k < bs.length) : w.cell? ⟨g, k, none⟩ = some (.int .u8 (bat bs k)) := by
  rw [cell_of_row w g k _ _ _ h]
  simpa using bv_get bs k hk
theorem ArrB.frozen (h : ArrB w g bs) (k : Nat) : w.frozen? ⟨g, k, none⟩ = false := by
  unfold ArrB at h; simp [World.frozen?, h]
theorem ArrB.drewN (h : ArrB w g bs) (k : Nat) : ArrB (w.drewN k) g bs := h
theorem ArrB.alloc (h : ArrB w g bs) (o : Obj) : ArrB (w.alloc o) g bs := (Below.heap_alloc w o g h.lt).trans h
theorem ArrB.below {b : Nat} (h : ArrB w g bs) (hb : Below b w w') (hg : g < b) : ArrB w' g bs := (hb.block g hg).trans h
theorem ArrB.far (h : ArrB w g bs) {p : Addr} (hp : g ≠ p.block) (u : Value) : ArrB (w.setCell p u) g bs := (Below.heap_setCell w p u g hp).trans h
theorem ArrB.set (h : ArrB w g bs) (k : Nat) (v : UInt8) : ArrB (w.setCell ⟨g, k, none⟩ (.int .u8 (v.toNat : Int))) g (bs.set k v) := by
  unfold ArrB at h ⊢
  simp [World.setCell, Array.getElem?_modify, h, bv, List.map_set]
theorem ArrB.sl (h : ArrB w g bs) {n : Nat} (hl : bs.length = n) (hm : n ≤ maxLen) : SlB w (some ⟨g, 0, none⟩) n n bs :=
  ⟨hl, Nat.le_refl _, hm, (fun e => by cases e), fun k hk => ⟨_, rfl, h.lt, fun j hj => by rw [add_plain, Nat.zero_add]; exact h.cell (by omega)⟩⟩
end
theorem zeros_rowB (n : Nat) : madeCells #[Value.int .u8 0] n = (bv (List.replicate n 0)).toArray := by
  unfold madeCells bv
  apply Array.ext_getElem?
  intro i
  by_cases hi : i < n
  · simp [hi, show i % 1 = 0 by omega]
  · simp [hi]
theorem ArrB.made (w : World) (n : Nat) : ArrB (w.alloc (.cells (madeCells #[Value.int .u8 0] n) 5)) w.heap.size (List.replicate n 0) := by
  unfold ArrB; rw [← zeros_rowB]; exact heap_alloc_new w _
theorem ArrB.lit (w : World) (bs : List UInt8) (cs : Array Value) (h : cs = (bv bs).toArray) : ArrB (w.alloc (.cells cs 5)) w.heap.size bs := by
  unfold ArrB; rw [← h]; exact heap_alloc_new w _
/-- a slice of the call's own, from block base on, that reads as bs -/
def OwnB (w : World) (base : Nat) (A : Option Addr) (n c : Nat) (bs : List UInt8) : Prop := w.ownsRow base 5 1 (.slice A n c) n (bv bs)
section
variable {w w' : World} {base : Nat} {A : Option Addr} {n c : Nat} {bs : List UInt8}
theorem OwnB.len (h : OwnB w base A n c bs) : bs.length = n := by have := h.1; rwa [bv_length, Nat.mul_one] at this
theorem OwnB.sl (h : OwnB w base A n c bs) : SlB w A n c bs := by
  refine ⟨h.len, ?_, ?_, ?_, ?_⟩
  · rcases h.2 with ⟨e, h0⟩ | ⟨g, cap, cur, e, _, _, hnc, _⟩ <;> cases e <;> omega
  · rcases h.2 with ⟨e, h0⟩ | ⟨g, cap, cur, e, _, _, hnc, hm, _⟩ <;> cases e
    · exact Nat.zero_le _
    · exact hm
  · intro hA; subst hA
    rcases h.2 with ⟨e, h0⟩ | ⟨g, cap, cur, e, _⟩ <;> cases e; rfl
  · intro k hk
    rcases h.2 with ⟨e, h0⟩ | ⟨g, cap, cur, e, _, hg, hnc, hm, hs, ht⟩
    · omega
    · cases e
      refine ⟨_, rfl, (Array.getElem?_eq_some_iff.1 hg).1, fun j hj => ?_⟩
      exact World.ownsRow.cells h (g := g) rfl j _ (bv_get bs j (by rw [h.len]; exact hj))
theorem OwnB.below (h : OwnB w base A n c bs) (hb : Below w.heap.size w w') : OwnB w' base A n c bs := by
  refine World.ownsRow.kept (row := Option.none) h ⟨hb.os, hb.tape, hb.output, hb.size, fun k hk _ => hb.block k hk⟩ ?_
  cases (Value.slice A n c).ownBlock with
  | none => exact .inl rfl
  | some k => exact .inr (by simp)
theorem OwnB.row_lt (h : OwnB w base A n c bs) : ∀ k, rowOf A = some k → k < w.heap.size := fun k hk => (World.ownsRow.lt h k (by rw [ownBlock_eq]; exact hk)).2
theorem OwnB.nil_ (w : World) (base : Nat) : OwnB w base none 0 0 [] := w.ownsRow_nil base _ 1
end
theorem infoU8 : (Tryd.prog.info? 5).map (fun i => (i.zero, i.size, i.bytes)) = some (some (.int .u8 0), 1, 1) := by kernel_rfl
theorem u8U : Tryd.prog.underlying 5 = some (.int .u8) := Tryd.underlying5
theorem slB : Tryd.prog.underlying 35 = some (.slice 5) := Tryd.underlying35
theorem strU : Tryd.prog.underlying 9 = some .string := Tryd.underlying9
theorem makeB_run (n : Nat) (h : n ≤ 4398046511104) (w : World) :
    (Instr.makeSlice 35 (.int .i64 (n : Int)) (.int .i64 (n : Int))).run Tryd.prog w = .ok (.slice (some ⟨w.heap.size, 0, none⟩) n n) (w.alloc (.cells (madeCells #[.int .u8 0] n) 5)) :=
  run_make_row' 35 5 (.int .u8 0) 1 slB infoU8 rfl .i64 .i64 n (by omega) (by omega) w
/-- append onto a row of the call's own -/
theorem wp_appB {w : World} {ops : Array Oper} {rest : List Oper} {o : Oper} {a : Act} {Q : Exit → Act → World → Prop} (hgd : o.guard = none) (s x : Operand)
    (ho : o.op = .call { callee := .builtin .append, args := #[s, x], argTypes := #[35, 35] })
    (base : Nat) {A : Option Addr} {n c : Nat} {xs : List UInt8} (hs : a.eval s = .slice A n c) (hown : OwnB w base A n c xs)
    {A' : Option Addr} {m d : Nat} {ys : List UInt8} (hx : a.eval x = .slice A' m d) (hr : SlB w A' m d ys) (hn : n ≤ 8796093022208) (hm : m ≤ 4398046511104) (hbase : base ≤ w.heap.size)
    (h : ∀ A'' c'' w', OwnB w' base A'' (n + m) c'' (xs ++ ys) → w.grownBy w' (rowOf A) → Below base w w' →
      wpList Tryd.prog ops Q rest (a.put o.dst (.slice A'' (n + m) c'')) w') : wpList Tryd.prog ops Q (o :: rest) a w := by
  obtain ⟨i0, hi, hz0, hz1, hz2⟩ := info_parts infoU8
  have hlt : ∀ k, rowOf A = some k → base ≤ k := fun k hk => (World.ownsRow.lt hown k (by rw [ownBlock_eq]; exact hk)).1
  have fin : ∀ (v' : Value) (w' : World), w'.ownsRow base 5 1 v' (n + m) (bv xs ++ bv ys) → w.grownBy w' (Value.slice A n c).ownBlock →
      wpList Tryd.prog ops Q rest (a.put o.dst v') w' := by
    intro v' w' hown' hg
    rw [ownBlock_eq] at hg
    have hb : Below base w w' := ⟨hg.os, hg.tape, hg.output, hg.size, fun k hk => hg.block k (Nat.lt_of_lt_of_le hk hbase) (fun e => by have := hlt k e.symm; omega)⟩
    rw [← bv_append] at hown'
    rcases hown'.2 with ⟨rfl, h0⟩ | ⟨g, cap, cur, rfl, rest'⟩
    · have := h none 0 w'
      rw [h0] at this hown'
      exact this hown' hg hb
    · exact h _ cap w' hown' hg hb
  cases A' with
  | none =>
    have hd := hr.nil rfl
    have hc := hr.cap
    obtain rfl : d = 0 := hd
    obtain rfl : m = 0 := by omega
    have hy : ys = [] := List.eq_nil_of_length_eq_zero hr.len
    subst hy
    refine wpList_append_own_none hgd s x 35 ho base 5 i0 1 slB hi _ n (bv xs) hs hown hx ?_
    exact fin _ w (by simpa [bv, OwnB] using hown) (World.grownBy.refl w _)
  | some ad =>
    refine wpList_append_own_at (w := w) hgd s x 35 ho base 5 i0 (.int .u8 0) 1 1 slB hi hz0 hz1 hz2 rfl (by omega) _ n (bv xs) hs hown ad m d (bv ys) hx (by rw [bv_length, hr.len, Nat.mul_one]) ?_ (bv_one ys) (by unfold maxLen; omega) (by omega) hbase ?_
    · intro j u hu
      have hj : j < ys.length := by have := (List.getElem?_eq_some_iff.1 hu).1; rwa [bv_length] at this
      rw [bv_get ys j hj] at hu
      injection hu with hu
      subst hu
      rw [hr.len] at hj
      obtain ⟨ad', e, _, hc⟩ := hr.cell hj
      injection e with e
      subst e
      exact hc
    · intro v' w' h2 h3 _ _
      exact fin v' w' h2 h3
theorem bv_dig (u : Nat) : #[Value.int .u8 (48 + (u : Int) % 10)] = (bv [UInt8.ofNat (48 + u % 10)]).toArray := by
  show _ = #[Value.int .u8 ((UInt8.ofNat (48 + u % 10)).toNat : Int)]
  rw [dig_nat (Nat.mod_lt _ (by omega)), show ((48 + u % 10 : Nat) : Int) = 48 + (u : Int) % 10 by omega]
/-- a string, byte by byte -/
def str (bs : List UInt8) : Value := .string ⟨bs.toArray⟩
theorem str_of (s : ByteArray) : Value.string s = str s.data.toList := by unfold str; cases s; simp
theorem str_len (bs : List UInt8) (t ty : TypeId) (ht : Tryd.prog.underlying t = some .string) (w : World) : (Builtin.len_ #[t] ty #[str bs]).run Tryd.prog w = .ok (.int .i64 (bs.length : Int)) w := by
  unfold str; rw [run_len_string w t ty _ ht]; rfl
theorem str_at (bs : List UInt8) (t : TypeId) (ht : Tryd.prog.underlying t = some .string) (k : IntKind) (i : Nat) (h : i < bs.length) (w : World) : (Instr.index t (str bs) (.int k (i : Int))).run Tryd.prog w = .ok (.int .u8 (bat bs i)) w := by
  unfold str
  have hs : (ByteArray.mk bs.toArray).size = bs.length := rfl
  rw [run_index_string w t _ k _ ht, dif_pos ⟨by omega, by rw [hs]; omega⟩, bat_get bs i h]
  rfl
theorem str_back (bs : List UInt8) (A : Option Addr) (n c : Nat) (w : World) (h : SlB w A n c bs) : (convert 35 9 (.slice A n c)).run Tryd.prog w = .ok (str bs) w := by
  cases A with
  | none =>
    have hc := h.nil rfl
    have hn := h.cap
    obtain rfl : n = 0 := by omega
    have hb : bs = [] := List.eq_nil_of_length_eq_zero h.len
    subst hb
    rw [run_convert_bytes_string w _ _ _ _ _ _ slB u8U strU]
    unfold str Conv.bytesToString
    simp
    rfl
  | some ad =>
    obtain rfl : n = bs.length := h.len.symm
    refine run_convert_bytes_back w _ _ _ ad c bs slB u8U strU fun j hj => ?_
    obtain ⟨ad', e, _, hc⟩ := h.cell hj
    injection e with e
    subst e
    rw [hc, bat_get bs j hj]
theorem str_eql (t : TypeId) (x y : List UInt8) (w : World) : (binOp .eql t (str x) (str y)).run Tryd.prog w = .ok (.bool (x == y)) w := by
  unfold str; rw [binOp_string_eql, ByteArray.toList_mk, ByteArray.toList_mk]; rfl
theorem str_neq (t : TypeId) (x y : List UInt8) (w : World) : (binOp .neq t (str x) (str y)).run Tryd.prog w = .ok (.bool (x != y)) w := by
  unfold str; rw [binOp_string_neq, ByteArray.toList_mk, ByteArray.toList_mk]; rfl
theorem str_lss (t : TypeId) (x y : List UInt8) (w : World) : (binOp .lss t (str x) (str y)).run Tryd.prog w = .ok (.bool (Go.Op.bytesLess x y)) w := by
  unfold str; rw [binOp_string_lss, ByteArray.toList_mk, ByteArray.toList_mk]; rfl
theorem str_add (t : TypeId) (x y : List UInt8) (w : World) (h : x.length + y.length ≤ 9223372036854775807) : (binOp .add t (str x) (str y)).run Tryd.prog w = .ok (str (x ++ y)) w := by
  unfold str; rw [binOp_string_add, run_string_add_sum w _ _ (by exact h), ByteArray.mk_append_mk]
end N
end Go.Proofs.YtbadbjmhmadbmaaDoor
