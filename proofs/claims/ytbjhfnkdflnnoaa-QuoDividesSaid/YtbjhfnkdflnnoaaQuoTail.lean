/- append of made 0s, how many being a number of 8 bits, and of a natural onto a fresh literal, over this translation. -/
import Derived.Test.YtbjhfnkdflnnoaaNatTail
import Derived.Test.YtbjhfnkdflnnoaaQuoState
namespace Go.Proofs.Ytbjhfnkdflnnoaa
open Go.RowKit
set_option linter.unusedVariables false
open N
theorem u8K : Try.prog.underlying 5 = some (.int .u8) := Try.underlying5
/-- append of m made 0s onto a row of the call's own -/
theorem run_zeros8 {w : World} (base : Nat) (ty : TypeId) {A : Option Addr} {n c : Nat} {xs : List Int} (hown : N.Own w base A n c xs) (m : Nat) (hn : n ≤ 1099511627776) (hm : m ≤ 200) (hbase : base ≤ w.heap.size) :
    ∃ A'' c'' w', (Builtin.append_ #[23, 5] ty #[.slice A n c, .int .u8 (m : Int)]).run Try.prog w = .ok (.slice A'' (n + m) c'') w' ∧ N.Own w' base A'' (n + m) c'' (xs ++ List.replicate m 0) ∧ Below base w w' := by
  obtain ⟨i0, hi, hz0, hz1, hz2⟩ := info_parts infoU
  have hw : IntKind.i64.wrap (m : Int) = m := IntWalk.i64_in _ (by omega)
  have hneg : ¬ ((m : Int) < 0) := by omega
  have hbig : ¬ ((281474976710656 : Int) < (m : Int) * 8) := by omega
  have hsmall : n + m ≤ 9223372036854775807 := by omega
  have hl : (uv (xs ++ List.replicate m 0)).length = (n + m) * 1 := by rw [uv_length, List.length_append, List.length_replicate, hown.len, Nat.mul_one]
  have hdg := hown.dg.append (Dg.zeros (b := B) (by decide) m)
  have grown : ∀ (old : Nat), old < n + m →
      Own' (w.drew.alloc (.cells ((uv xs).toArray ++ (uv (List.replicate m 0)).toArray ++ Builtin.zeroCells #[Value.int .u64 0] (grownCap w (n + m) old 40 - (n + m))) 40)) base (some ⟨w.heap.size, 0, none⟩) (n + m) (grownCap w (n + m) old 40) (xs ++ List.replicate m 0) ∧
      Below base w (w.drew.alloc (.cells ((uv xs).toArray ++ (uv (List.replicate m 0)).toArray ++ Builtin.zeroCells #[Value.int .u64 0] (grownCap w (n + m) old 40 - (n + m))) 40)) := by
    intro old ho
    have hge := grownCap_ge w (n + m) old 40
    have hcm := grownCap_le_maxLen w (n + m) old 40 (by unfold maxLen; omega)
    refine ⟨⟨⟨hl, .inr ⟨w.heap.size, _, _, rfl, hbase, heap_alloc_new w.drew _, hge, hcm, ?_, ?_⟩⟩, hdg⟩, (Below.refl base w).drew.alloc hbase _⟩
    · simp only [Array.size_append, List.size_toArray, size_zeroCells, uv_length, List.length_replicate, hown.len]
      simp
      omega
    · simp only [Array.toList_append, List.append_assoc]
      rw [← hl, ← List.append_assoc, ← uv_append]
      exact List.take_left
  have hz0' : i0.zero = some (.int .u64 0) := hz0
  have hcell : (Value.int .u64 0).cells = #[Value.int .u64 0] := rfl
  by_cases hm0 : m = 0
  · subst hm0
    have hw0 : IntKind.i64.wrap 0 = 0 := by decide
    refine ⟨A, c, w, ?_, by simpa using hown, Below.refl _ _⟩
    have hnc := hown.sl.cap
    cases A with
    | none => simp [Builtin.append_, run_underlying slNat, run_underlying u8K, sizeOf, typeInfo, hi, asInt, asIntOf, hw0, hnc]
    | some ad => simp [Builtin.append_, run_underlying slNat, run_underlying u8K, sizeOf, typeInfo, hi, asInt, asIntOf, hw0, hnc, storeCells]
  rcases hown.row.2 with ⟨e, e0⟩ | ⟨g, cap, cur, e, hbg, hg, hnc, hcm, hcs, htake⟩
  · cases e
    have hx : xs = [] := List.eq_nil_of_length_eq_zero hown.len
    subst hx
    have hgr := grown 0 (by omega)
    have hne : ¬ (0 + m ≤ 0) := by omega
    have h63' : ¬ ((9223372036854775807 : Int) < (m : Int)) := by omega
    have h48' : ¬ (281474976710656 < Builtin.nextslicecap m 0 * 8) := by rw [nextslicecap_zero (by omega)]; omega
    refine ⟨_, _, _, ?_, hgr.1, hgr.2⟩
    simp [Builtin.append_, run_underlying slNat, run_underlying u8K, sizeOf, typeInfo, zeroValue, hi, hz0', hz1, hz2, asInt, asIntOf, hw, hneg, hbig, hm0, h63', h48', Question.forced, Builtin.firstCells, newRow, grownCap]
    rw [hcell, zeroCells_uv, zeroCells_uv]
    simp [uv]
  · cases e
    have hcu : cur.size = c := by omega
    have htk : cur.toList.take n = uv xs := by rw [← htake, Nat.mul_one]
    by_cases hroom : n + m ≤ c
    · have hst := run_storeCells_at Try.prog g n 40 (uv (List.replicate m 0)) 0 cur w hg (by rw [uv_length, List.length_replicate]; omega) (uv_one _)
      simp only [Nat.add_zero] at hst
      refine ⟨some ⟨g, 0, none⟩, c, w.setRow g (cur.toList.take n ++ uv (List.replicate m 0) ++ cur.toList.drop (n + (uv (List.replicate m 0)).length)).toArray, ?_,
        ⟨⟨hl, .inr ⟨g, c, _, rfl, hbg, setRow_heap w g cur _ _ _ hg, hroom, hcm, ?_, ?_⟩⟩, hdg⟩, ⟨rfl, rfl, rfl, by simp, fun k hk => setRow_other w g k _ (by omega)⟩⟩
      · simp [Builtin.append_, run_underlying slNat, run_underlying u8K, sizeOf, typeInfo, zeroValue, hi, hz0', hz1, hz2, asInt, asIntOf, hw, hneg, hbig, hm0, hroom, Addr.add_lit]
        rw [hcell, zeroCells_uv]
        simp [hst]
      · simp only [List.size_toArray, List.length_append, List.length_take, List.length_drop, Array.length_toList, uv_length, List.length_replicate]
        omega
      · rw [htk, ← hl, ← uv_append]
        exact List.take_left
    · have hgr := grown c (by omega)
      have holds : ∀ j u, (uv xs)[j]? = some u → w.cell? ((⟨g, 0, none⟩ : Addr).add j) = some u := hown.row.cells (g := g) rfl
      have hfo := run_firstCells_some (P := Try.prog) w.drew 1 n ⟨g, 0, none⟩ n c (uv xs) (by rw [uv_length, hown.len, Nat.mul_one]) (by simpa using holds)
      have h63' : ¬ ((9223372036854775807 : Int) < (n : Int) + (m : Int)) := by omega
      have h48' : ¬ (281474976710656 < Builtin.nextslicecap (n + m) c * 8) := by
        have := growslice_fits (need := n + m) (old := c) (bytes := 8) (by omega) (by omega)
        omega
      refine ⟨_, _, _, ?_, hgr.1, hgr.2⟩
      simp [Builtin.append_, run_underlying slNat, run_underlying u8K, sizeOf, typeInfo, zeroValue, hi, hz0', hz1, hz2, asInt, asIntOf, hw, hneg, hbig, hm0, hroom, h63', h48', Question.forced, hfo, newRow, grownCap]
      rw [hcell, zeroCells_uv, zeroCells_uv]
      congr 2
      apply Array.ext'
      simp [List.append_assoc]
theorem wp_zeros8 {w : World} {ops : Array Oper} {rest : List Oper} {o : Oper} {a : Act} {Q : Exit → Act → World → Prop} (hgd : o.guard = none) (s x : Operand)
    (ho : o.op = .call { callee := .builtin .append, args := #[s, x], argTypes := #[23, 5] })
    (base : Nat) {A : Option Addr} {n c : Nat} {xs : List Int} (hs : a.eval s = .slice A n c) (hown : N.Own w base A n c xs) (m : Nat) (hx : a.eval x = .int .u8 (m : Int)) (hn : n ≤ 1099511627776) (hm : m ≤ 200) (hbase : base ≤ w.heap.size)
    (h : ∀ A'' c'' w', N.Own w' base A'' (n + m) c'' (xs ++ List.replicate m 0) → Below base w w' → wpList Try.prog ops Q rest (a.put o.dst (.slice A'' (n + m) c'')) w') : wpList Try.prog ops Q (o :: rest) a w := by
  obtain ⟨A'', c'', w', hr, h1, h2⟩ := run_zeros8 base o.type hown m hn hm hbase
  refine wpList_plain hgd fun K hK => ?_
  unfold Oper.wp execOp
  simp only [ho, resolve, invoke, builtin, Sem.run_bind, Sem.run_pure, Result.andThen_ok, List.map_toArray, List.map_cons, List.map_nil, hs, hx, hr]
  exact hK _ _ (h A'' c'' w' h1 h2)
section
variable {w0 w1 w2 : World} {S : List Ent} {A A' : Option Addr} {n c m d k k' : Nat} {xs ys : List Int} {v u : Int}
/-- append onto a fresh literal of no limbs -/
theorem wp_copy (h : St w0 w1 S) (h1 : (⟨A, n, c, k, xs, v⟩ : Ent) ∈ S) (hk : k ≤ 1000) {ops : Array Oper} {rest : List Oper} {o : Oper} {a : Act} {Q : Exit → Act → World → Prop} (hgd : o.guard = none) (s x : Operand)
    (ho : o.op = .call { callee := .builtin .append, args := #[s, x], argTypes := #[23, 23] }) (hs : a.eval s = .slice (some ⟨w1.heap.size, 0, none⟩) 0 0) (hx : a.eval x = .slice A n c)
    (K : ∀ A'' c'' w2, N.Own w2 w1.heap.size A'' n c'' xs → Below w1.heap.size w1 w2 → wpList Try.prog ops Q rest (a.put o.dst (.slice A'' n c'')) w2) : wpList Try.prog ops Q (o :: rest) a (w1.alloc (.cells #[] 40)) := by
  obtain ⟨a1, a2, rfl⟩ := h.get h1
  have h0 : N.Own (w1.alloc (.cells #[] 40)) w1.heap.size (some ⟨w1.heap.size, 0, none⟩) 0 0 [] := ⟨(Arr.lit w1 [] #[] rfl).own (Nat.le_refl _) rfl (Nat.zero_le _) (Nat.le_refl _), Dg.nil⟩
  have hb0 : Below w1.heap.size w1 (w1.alloc (.cells #[] 40)) := (Below.refl _ w1).alloc (Nat.le_refl _) _
  refine wp_app hgd s x _ ho slNat w1.heap.size hs h0 hx (a1.below hb0) (by omega) (by omega) hb0.size ?_
  intro A2 c2 w2 hown2 _ _ hb2
  simp only [Nat.zero_add, List.nil_append] at hown2 ⊢
  exact K A2 c2 w2 hown2 (hb0.trans hb2)
/-- .. and made 0s onto that -/
theorem wp_tail (h : St w0 w1 S) (hown : N.Own w2 w1.heap.size A n c xs) (hb : Below w1.heap.size w1 w2) (hn : n ≤ 1000) (hv : val B xs = v) (m : Nat) (hm : m ≤ 200)
    {ops : Array Oper} {rest : List Oper} {o : Oper} {a : Act} {Q : Exit → Act → World → Prop} (hgd : o.guard = none) (s x : Operand)
    (ho : o.op = .call { callee := .builtin .append, args := #[s, x], argTypes := #[23, 5] }) (hs : a.eval s = .slice A n c) (hx : a.eval x = .int .u8 (m : Int))
    (K : ∀ A'' c'' w3, St w0 w3 (⟨A'', n + m, c'', n + m, xs ++ List.replicate m 0, v⟩ :: S) → wpList Try.prog ops Q rest (a.put o.dst (.slice A'' (n + m) c'')) w3) : wpList Try.prog ops Q (o :: rest) a w2 := by
  refine wp_zeros8 hgd s x ho w1.heap.size hs hown m hx (by omega) hm hb.size ?_
  intro A3 c3 w3 hown3 hb3
  exact K A3 c3 w3 ((h.below (hb.trans hb3)).cons hown3.sl (Nat.le_refl _) (by rw [val_zeros_behind]; exact hv))
end
end Go.Proofs.Ytbjhfnkdflnnoaa
