/- append and make over naturals (rows of words) at this translation. -/
import Derived.Test.YtbadbjmhmadbmaaDoorNatMem
import Derived.Test.YtbadbjmhmadbmaaDoorNatWord
import Derived.Maps.AppendAt
import Derived.Laws.AppendOwnNone
namespace Go.Proofs.YtbadbjmhmadbmaaDoor
open Go.RowKit
set_option linter.unusedVariables false
set_option maxRecDepth 20000
open N
theorem infoU : (Tryd.prog.info? 33).map (fun i => (i.zero, i.size, i.bytes)) = some (some (.int .u64 0), 1, 8) := by kernel_rfl
theorem slNat : Tryd.prog.underlying 23 = some (.slice 33) := Tryd.underlying23
theorem slU : Tryd.prog.underlying 22 = some (.slice 33) := Tryd.underlying22
theorem make_run (t : TypeId) (ht : Tryd.prog.underlying t = some (.slice 33)) (n : Nat) (h : n ≤ 4398046511104) (w : World) :
    (Instr.makeSlice t (.int .i64 (n : Int)) (.int .i64 (n : Int))).run Tryd.prog w = .ok (.slice (some ⟨w.heap.size, 0, none⟩) n n) (w.alloc (.cells (madeCells #[.int .u64 0] n) 33)) :=
  run_make_row' t 33 (.int .u64 0) 8 ht infoU rfl .i64 .i64 n (by omega) (by omega) w
def rowOf (A : Option Addr) : Option Nat := A.map (·.block)
theorem ownBlock_eq (A : Option Addr) (n c : Nat) : (Value.slice A n c).ownBlock = rowOf A := by cases A <;> rfl
/-- append onto a row of the call's own -/
theorem wp_app {w : World} {ops : Array Oper} {rest : List Oper} {o : Oper} {a : Act} {Q : Exit → Act → World → Prop} (hgd : o.guard = none) (s x : Operand) (t : TypeId)
    (ho : o.op = .call { callee := .builtin .append, args := #[s, x], argTypes := #[t, t] }) (ht : Tryd.prog.underlying t = some (.slice 33))
    (base : Nat) {A : Option Addr} {n c : Nat} {xs : List Int} (hs : a.eval s = .slice A n c) (hown : Own w base A n c xs)
    {A' : Option Addr} {m d : Nat} {ys : List Int} (hx : a.eval x = .slice A' m d) (hr : Sl w A' m d ys) (hn : n ≤ 8796093022208) (hm : m ≤ 4398046511104) (hbase : base ≤ w.heap.size)
    (h : ∀ A'' c'' w', Own w' base A'' (n + m) c'' (xs ++ ys) → w.grownBy w' (rowOf A) → (rowOf A'' = rowOf A ∨ rowOf A'' = some w.heap.size) → Below base w w' →
      wpList Tryd.prog ops Q rest (a.put o.dst (.slice A'' (n + m) c'')) w') : wpList Tryd.prog ops Q (o :: rest) a w := by
  obtain ⟨i0, hi, hz0, hz1, hz2⟩ := info_parts infoU
  have hlt : ∀ k, rowOf A = some k → base ≤ k := fun k hk => (hown.row.lt k (by rw [ownBlock_eq]; exact hk)).1
  have fin : ∀ (v' : Value) (w' : World), w'.ownsRow base 33 1 v' (n + m) (uv xs ++ uv ys) → w.grownBy w' (Value.slice A n c).ownBlock →
      (v'.ownBlock = (Value.slice A n c).ownBlock ∨ v'.ownBlock = some w.heap.size) → wpList Tryd.prog ops Q rest (a.put o.dst v') w' := by
    intro v' w' hown' hg hat
    rw [ownBlock_eq] at hg hat
    have hb : Below base w w' := ⟨hg.os, hg.tape, hg.output, hg.size, fun k hk => hg.block k (Nat.lt_of_lt_of_le hk hbase) (fun e => by have := hlt k e.symm; omega)⟩
    have hdg := hown.dg.append hr.dg
    rw [← uv_append] at hown'
    rcases hown'.2 with ⟨rfl, h0⟩ | ⟨g, cap, cur, rfl, rest'⟩
    · have := h none 0 w'
      rw [h0] at this hown'
      exact this ⟨hown', hdg⟩ hg hat hb
    · exact h _ cap w' ⟨hown', hdg⟩ hg hat hb
  cases A' with
  | none =>
    have hd := hr.nil rfl
    have hc := hr.cap
    obtain rfl : d = 0 := hd
    obtain rfl : m = 0 := by omega
    have hy : ys = [] := List.eq_nil_of_length_eq_zero hr.len
    subst hy
    refine wpList_append_own_none hgd s x t ho base 33 i0 1 ht hi _ n (uv xs) hs hown.row hx ?_
    exact fin _ w (by simpa [uv] using hown.row) (World.grownBy.refl w _) (.inl rfl)
  | some ad =>
    refine wpList_append_own_at (w := w) hgd s x t ho base 33 i0 (.int .u64 0) 1 8 ht hi hz0 hz1 hz2 rfl (by omega) _ n (uv xs) hs hown.row ad m d (uv ys) hx (by rw [uv_length, hr.len, Nat.mul_one]) ?_ (uv_one ys) (by unfold maxLen; omega) (by omega) hbase ?_
    · intro j u hu
      have hj : j < ys.length := by have := (List.getElem?_eq_some_iff.1 hu).1; rwa [uv_length] at this
      rw [uv_get ys j hj] at hu
      injection hu with hu
      subst hu
      rw [hr.len] at hj
      obtain ⟨ad', e, _, hc⟩ := hr.cell hj
      injection e with e
      subst e
      exact hc
    · intro v' w' h2 h3 _ h5
      exact fin v' w' h2 h3 h5
end Go.Proofs.YtbadbjmhmadbmaaDoor
