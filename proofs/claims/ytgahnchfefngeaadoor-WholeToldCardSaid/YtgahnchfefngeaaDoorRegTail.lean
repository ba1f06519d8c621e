/- The regions of WholeTold that lay a whole number out anew, with 0s behind: a drawn region with a literal, two appends and a block, by what holds of whatever has come up. -/
import Derived.Test.YtgahnchfefngeaaDoorWholeState
import Derived.Test.YtgahnchfefngeaaDoorRegSym
namespace Go.Proofs.YtgahnchfefngeaaDoor
open Go.RowKit
set_option linter.unusedVariables false
set_option linter.unusedSectionVars false
set_option maxRecDepth 20000
open N
theorem u8Kg : Tryd.prog.underlying 5 = some (.int .u8) := Tryd.underlying5
/-- append onto a row of the call's own, run -/
theorem run_app {w : World} (base : Nat) (ty t : TypeId) (ht : Tryd.prog.underlying t = some (.slice 28)) {A : Option Addr} {n c : Nat} {xs : List Int} (hown : N.Own w base A n c xs)
    {A' : Option Addr} {m d : Nat} {ys : List Int} (hr : Sl w A' m d ys) (hn : n ≤ 8796093022208) (hm : m ≤ 4398046511104) (hbase : base ≤ w.heap.size) :
    ∃ A'' c'' w', (Builtin.append_ #[t, t] ty #[.slice A n c, .slice A' m d]).run Tryd.prog w = .ok (.slice A'' (n + m) c'') w' ∧ N.Own w' base A'' (n + m) c'' (xs ++ ys) ∧ w.grownBy w' (rowOf A) ∧ (rowOf A'' = rowOf A ∨ rowOf A'' = some w.heap.size) := by
  obtain ⟨i0, hi, hz0, hz1, hz2⟩ := info_parts infoU
  cases A' with
  | none =>
    have hd := hr.nil rfl
    have hc := hr.cap
    obtain rfl : d = 0 := hd
    obtain rfl : m = 0 := by omega
    have hy : ys = [] := List.eq_nil_of_length_eq_zero hr.len
    subst hy
    refine ⟨A, c, w, ?_, by simpa using hown, World.grownBy.refl w _, .inl rfl⟩
    have hnc := hown.sl.cap
    cases A with
    | none => simp [Builtin.append_, run_underlying ht, sizeOf, typeInfo, hi, Builtin.lenOf, Builtin.firstCells, hnc]
    | some ad => simp [Builtin.append_, run_underlying ht, sizeOf, typeInfo, hi, Builtin.lenOf, Builtin.firstCells, loadCells, hnc, storeCells]
  | some ad =>
    obtain ⟨v', w', hrun, h2, h3, _, h5⟩ := run_append_own_at (P := Tryd.prog) w base t ty 28 i0 (.int .u64 0) 1 8 ht hi hz0 hz1 hz2 rfl (by omega) (.slice A n c) n (uv xs) hown.row ad m d (uv ys) (by rw [uv_length, hr.len, Nat.mul_one]) (by
        intro j u hu
        have hj : j < ys.length := by have := (List.getElem?_eq_some_iff.1 hu).1; rwa [uv_length] at this
        rw [uv_get ys j hj] at hu
        injection hu with hu
        subst hu
        rw [hr.len] at hj
        obtain ⟨ad', e, _, hc⟩ := hr.cell hj
        injection e with e
        subst e
        exact hc) (uv_one ys) (by unfold maxLen; omega) (by omega) hbase
    have hdg := hown.dg.append hr.dg
    rw [ownBlock_eq] at h3 h5
    rw [← uv_append] at h2
    rcases h2.2 with ⟨rfl, h0⟩ | ⟨g, cap, cur, rfl, rest'⟩
    · rw [h0] at h2
      refine ⟨none, 0, w', by rw [hrun, h0], ?_, h3, h5⟩
      rw [h0]
      exact ⟨h2, hdg⟩
    · exact ⟨_, cap, w', hrun, ⟨h2, hdg⟩, h3, h5⟩
/-- append of m made 0s onto a row of the call's own, m of 8 bits -/
theorem run_zeros8g {w : World} (base : Nat) (ty : TypeId) {A : Option Addr} {n c : Nat} {xs : List Int} (hown : N.Own w base A n c xs) (m : Nat) (hn : n ≤ 1099511627776) (hm : m ≤ 200) (hbase : base ≤ w.heap.size) :
    ∃ A'' c'' w', (Builtin.append_ #[24, 5] ty #[.slice A n c, .int .u8 (m : Int)]).run Tryd.prog w = .ok (.slice A'' (n + m) c'') w' ∧ N.Own w' base A'' (n + m) c'' (xs ++ List.replicate m 0) ∧ w.grownBy w' (rowOf A) ∧ (rowOf A'' = rowOf A ∨ rowOf A'' = some w.heap.size) := by
  obtain ⟨i0, hi, hz0, hz1, hz2⟩ := info_parts infoU
  have hw : IntKind.i64.wrap (m : Int) = m := IntWalk.i64_in _ (by omega)
  have hneg : ¬ ((m : Int) < 0) := by omega
  have hbig : ¬ ((281474976710656 : Int) < (m : Int) * 8) := by omega
  have hsmall : n + m ≤ 9223372036854775807 := by omega
  have hl : (uv (xs ++ List.replicate m 0)).length = (n + m) * 1 := by rw [uv_length, List.length_append, List.length_replicate, hown.len, Nat.mul_one]
  have hdg := hown.dg.append (Dg.zeros (b := B) (by decide) m)
  have grown : ∀ (old : Nat), old < n + m →
      Own' (w.drew.alloc (.cells ((uv xs).toArray ++ (uv (List.replicate m 0)).toArray ++ Builtin.zeroCells #[Value.int .u64 0] (grownCap w (n + m) old 28 - (n + m))) 28)) base (some ⟨w.heap.size, 0, none⟩) (n + m) (grownCap w (n + m) old 28) (xs ++ List.replicate m 0) ∧
      w.grownBy (w.drew.alloc (.cells ((uv xs).toArray ++ (uv (List.replicate m 0)).toArray ++ Builtin.zeroCells #[Value.int .u64 0] (grownCap w (n + m) old 28 - (n + m))) 28)) (rowOf A) := by
    intro old ho
    have hge := grownCap_ge w (n + m) old 28
    have hcm := grownCap_le_maxLen w (n + m) old 28 (by unfold maxLen; omega)
    refine ⟨⟨⟨hl, .inr ⟨w.heap.size, _, _, rfl, hbase, heap_alloc_new w.drew _, hge, hcm, ?_, ?_⟩⟩, hdg⟩, ⟨rfl, rfl, rfl, by simp, fun k hk _ => Below.heap_alloc w.drew _ k hk⟩⟩
    · simp only [Array.size_append, List.size_toArray, size_zeroCells, uv_length, List.length_replicate, hown.len]
      simp
      omega
    · simp only [Array.toList_append, List.append_assoc]
      rw [← hl, ← List.append_assoc, ← uv_append]
      exact List.take_left
  have hz0' : i0.zero = some (.int .u64 0) := hz0
  have hcell : (Value.int .u64 0).cells = #[Value.int .u64 0] := rfl
  by_cases hm0 : m = 0
  · subst hm0
    have hw0 : IntKind.i64.wrap 0 = 0 := by decide
    refine ⟨A, c, w, ?_, by simpa using hown, World.grownBy.refl w _, .inl rfl⟩
    have hnc := hown.sl.cap
    cases A with
    | none => simp [Builtin.append_, run_underlying slNat, run_underlying u8Kg, sizeOf, typeInfo, hi, asInt, asIntOf, hw0, hnc]
    | some ad => simp [Builtin.append_, run_underlying slNat, run_underlying u8Kg, sizeOf, typeInfo, hi, asInt, asIntOf, hw0, hnc, storeCells]
  rcases hown.row.2 with ⟨e, e0⟩ | ⟨g, cap, cur, e, hbg, hg, hnc, hcm, hcs, htake⟩
  · cases e
    have hx : xs = [] := List.eq_nil_of_length_eq_zero hown.len
    subst hx
    have hgr := grown 0 (by omega)
    have hne : ¬ (0 + m ≤ 0) := by omega
    have h63' : ¬ ((9223372036854775807 : Int) < (m : Int)) := by omega
    have h48' : ¬ (281474976710656 < Builtin.nextslicecap m 0 * 8) := by rw [nextslicecap_zero (by omega)]; omega
    refine ⟨_, _, _, ?_, hgr.1, hgr.2, .inr rfl⟩
    simp [Builtin.append_, run_underlying slNat, run_underlying u8Kg, sizeOf, typeInfo, zeroValue, hi, hz0', hz1, hz2, asInt, asIntOf, hw, hneg, hbig, hm0, h63', h48', Question.forced, Builtin.firstCells, newRow, grownCap]
    rw [hcell, zeroCells_uv, zeroCells_uv]
    simp [uv]
  · cases e
    have hcu : cur.size = c := by omega
    have htk : cur.toList.take n = uv xs := by rw [← htake, Nat.mul_one]
    by_cases hroom : n + m ≤ c
    · have hst := run_storeCells_at Tryd.prog g n 28 (uv (List.replicate m 0)) 0 cur w hg (by rw [uv_length, List.length_replicate]; omega) (uv_one _)
      simp only [Nat.add_zero] at hst
      refine ⟨some ⟨g, 0, none⟩, c, w.setRow g (cur.toList.take n ++ uv (List.replicate m 0) ++ cur.toList.drop (n + (uv (List.replicate m 0)).length)).toArray, ?_,
        ⟨⟨hl, .inr ⟨g, c, _, rfl, hbg, setRow_heap w g cur _ _ _ hg, hroom, hcm, ?_, ?_⟩⟩, hdg⟩, ⟨rfl, rfl, rfl, by simp, fun k _ hk => setRow_other w g k _ (fun e => hk (by rw [e]; rfl))⟩, .inl rfl⟩
      · simp [Builtin.append_, run_underlying slNat, run_underlying u8Kg, sizeOf, typeInfo, zeroValue, hi, hz0', hz1, hz2, asInt, asIntOf, hw, hneg, hbig, hm0, hroom, Addr.add_lit]
        rw [hcell, zeroCells_uv]
        simp [hst]
      · simp only [List.size_toArray, List.length_append, List.length_take, List.length_drop, Array.length_toList, uv_length, List.length_replicate]
        omega
      · rw [htk, ← hl, ← uv_append]
        exact List.take_left
    · have hgr := grown c (by omega)
      have holds : ∀ j u, (uv xs)[j]? = some u → w.cell? ((⟨g, 0, none⟩ : Addr).add j) = some u := hown.row.cells (g := g) rfl
      have hfo := run_firstCells_some (P := Tryd.prog) w.drew 1 n ⟨g, 0, none⟩ n c (uv xs) (by rw [uv_length, hown.len, Nat.mul_one]) (by simpa using holds)
      have h63' : ¬ ((9223372036854775807 : Int) < (n : Int) + (m : Int)) := by omega
      have h48' : ¬ (281474976710656 < Builtin.nextslicecap (n + m) c * 8) := by
        have := growslice_fits (need := n + m) (old := c) (bytes := 8) (by omega) (by omega)
        omega
      refine ⟨_, _, _, ?_, hgr.1, hgr.2, .inr rfl⟩
      simp [Builtin.append_, run_underlying slNat, run_underlying u8Kg, sizeOf, typeInfo, zeroValue, hi, hz0', hz1, hz2, asInt, asIntOf, hw, hneg, hbig, hm0, hroom, h63', h48', Question.forced, hfo, newRow, grownCap]
      rw [hcell, zeroCells_uv, zeroCells_uv]
      congr 2
      apply Array.ext'
      simp [List.append_assoc]
namespace N
theorem on_ne {L : Array Bool} {i j : Nat} (h : i ≠ j) (hj : (L.setIfInBounds i true).getD j false = true) : L.getD j false = true := by rwa [getD_set_ne false h] at hj
theorem off_ne {L : Array Bool} {i j : Nat} (h : i ≠ j) (hj : (L.setIfInBounds i true).getD j false = false) : L.getD j false = false := by rwa [getD_set_ne false h] at hj
theorem on_self {L : Array Bool} {i : Nat} {n : Nat} (h : L.size = n) (hi : i < n) : (L.setIfInBounds i true).getD i false = true := by simp [h, hi]
theorem grown_below {w w' : World} {base : Nat} {A : Option Addr} (hg : w.grownBy w' (rowOf A)) (hb : base ≤ w.heap.size) (hlt : ∀ k, rowOf A = some k → base ≤ k) : Below base w w' :=
  ⟨hg.os, hg.tape, hg.output, hg.size, fun k hk => hg.block k (Nat.lt_of_lt_of_le hk hb) (fun e => by have := hlt k e.symm; omega)⟩
theorem Own.rowlt {w : World} {base : Nat} {A : Option Addr} {n c : Nat} {xs : List Int} (h : N.Own w base A n c xs) : ∀ k, rowOf A = some k → base ≤ k ∧ k < w.heap.size := fun k hk => h.row.lt k (by rw [ownBlock_eq]; exact hk)
theorem Own.far {w : World} {base : Nat} {A : Option Addr} {n c : Nat} {xs : List Int} (h : N.Own w base A n c xs) {g : Nat} (hne : rowOf A ≠ some g) (k : Nat) (u : Value) : N.Own (w.setCell ⟨g, k, none⟩ u) base A n c xs := by
  refine ⟨⟨h.row.1, ?_⟩, h.dg⟩
  rcases h.row.2 with h1 | ⟨g', cap, cur, e, hb, hh, r⟩
  · exact .inl h1
  · refine .inr ⟨g', cap, cur, e, hb, ?_, r⟩
    have hg : g' ≠ g := fun e' => hne (by cases e; rw [← e']; rfl)
    exact (Below.heap_setCell w ⟨g, k, none⟩ u g' hg).trans hh
theorem BoxI.grown {w w' : World} {g : Nat} {b : Bool} {A A' : Option Addr} {n c : Nat} (h : BoxI w g b A n c) (hg : w.grownBy w' (rowOf A')) (hne : rowOf A' ≠ some g) : BoxI w' g b A n c := (hg.block g h.lt (fun e => hne e.symm)).trans h
end N
def T3ops : Array Oper := #[{ dst := some 32, op := Op.fieldAddr 26 (Operand.tmp 5) 0, type := 0, pos := "outright.go:98", after := #[], guard := none },
  { dst := some 33, op := Op.load 4 (Operand.tmp 32), type := 4, pos := "outright.go:98", after := #[{ on := 0, ground := Ground.data }], guard := none },
  { dst := some 34, op := Op.buildSlice 24 0 #[], type := 24, pos := "outright.go:98", after := #[], guard := none },
  { dst := some 35, op := Op.fieldAddr 26 (Operand.tmp 5) 1, type := 0, pos := "outright.go:98", after := #[], guard := none },
  { dst := some 36, op := Op.load 24 (Operand.tmp 35), type := 24, pos := "outright.go:98", after := #[{ on := 3, ground := Ground.data }], guard := none },
  { dst := some 37, op := Op.call { callee := Callee.builtin Builtin.append, args := #[Operand.tmp 34, Operand.tmp 36], argTypes := #[24, 24] }, type := 24, pos := "outright.go:98", after := #[{ on := 2, ground := Ground.data }, { on := 4, ground := Ground.data }], guard := none },
  { dst := some 38, op := Op.move (Operand.tmp 2), type := 5, pos := "outright.go:98", after := #[], guard := none },
  { dst := some 39, op := Op.binOp BinOp.rem 5 (Operand.tmp 38) (Operand.const (Value.int IntKind.u8 5)) 5, type := 5, pos := "outright.go:98", after := #[{ on := 6, ground := Ground.data }], guard := none },
  { dst := some 40, op := Op.call { callee := Callee.builtin Builtin.append, args := #[Operand.tmp 37, Operand.tmp 39], argTypes := #[24, 5] }, type := 24, pos := "outright.go:98", after := #[{ on := 5, ground := Ground.data }, { on := 7, ground := Ground.data }, { on := 5, ground := Ground.chain }], guard := none },
  { dst := some 41, op := Op.build 26 #[(0, Operand.tmp 33), (1, Operand.tmp 40)], type := 26, pos := "outright.go:98", after := #[{ on := 1, ground := Ground.data }, { on := 8, ground := Ground.data }], guard := none },
  { dst := some 11, op := Op.alloc 26, type := 0, pos := "outright.go:98", after := #[], guard := none },
  { dst := none, op := Op.store 26 (Operand.tmp 11) (Operand.tmp 41), type := 0, pos := "outright.go:98", after := #[{ on := 10, ground := Ground.data }, { on := 9, ground := Ground.data }, { on := 8, ground := Ground.chain }, { on := 0, ground := Ground.phase }, { on := 1, ground := Ground.phase }, { on := 2, ground := Ground.phase }, { on := 3, ground := Ground.phase }, { on := 4, ground := Ground.phase }, { on := 5, ground := Ground.phase }, { on := 6, ground := Ground.phase }, { on := 7, ground := Ground.phase }, { on := 8, ground := Ground.phase }, { on := 9, ground := Ground.phase }, { on := 10, ground := Ground.phase }], guard := none }]
/-- in the midst of the region -/
structure T3 (v0 : World) (a0 : Act) (g5 : Nat) (b : Bool) (A0 : Option Addr) (n c : Nat) (xs : List Int) (u : Int) (m : Nat) (L : Array Bool) (a : Act) (w : World) : Prop where
  size : L.size = 12
  fr : Fr a0 [11, 32, 33, 34, 35, 36, 37, 38, 39, 40, 41] a
  bl : Below v0.heap.size v0 w
  f0 : L.getD 0 false = true → a.eval (.tmp 32) = .pointer (some ⟨g5, 0, none⟩)
  f1 : L.getD 1 false = true → a.eval (.tmp 33) = .bool b
  f3 : L.getD 3 false = true → a.eval (.tmp 35) = .pointer (some ⟨g5, 1, none⟩)
  f4 : L.getD 4 false = true → a.eval (.tmp 36) = .slice A0 n c
  f6 : L.getD 6 false = true → a.eval (.tmp 38) = .int .u8 u
  f7 : L.getD 7 false = true → a.eval (.tmp 39) = .int .u8 (m : Int)
  m2 : L.getD 2 false = true → L.getD 5 false = false → ∃ A c', a.eval (.tmp 34) = .slice A 0 c' ∧ N.Own w v0.heap.size A 0 c' [] ∧ ∀ g, L.getD 10 false = true → a.eval (.tmp 11) = .pointer (some ⟨g, 0, none⟩) → rowOf A ≠ some g
  m5 : L.getD 5 false = true → L.getD 8 false = false → ∃ A c', a.eval (.tmp 37) = .slice A n c' ∧ N.Own w v0.heap.size A n c' xs ∧ ∀ g, L.getD 10 false = true → a.eval (.tmp 11) = .pointer (some ⟨g, 0, none⟩) → rowOf A ≠ some g
  m8 : L.getD 8 false = true → ∃ A c', a.eval (.tmp 40) = .slice A (n + m) c' ∧ N.Own w v0.heap.size A (n + m) c' (xs ++ List.replicate m 0) ∧ ∀ g, L.getD 10 false = true → a.eval (.tmp 11) = .pointer (some ⟨g, 0, none⟩) → rowOf A ≠ some g
  f9 : L.getD 9 false = true → a.eval (.tmp 41) = .agg #[.bool b, a.eval (.tmp 40)]
  m10 : L.getD 10 false = true → ∃ g, a.eval (.tmp 11) = .pointer (some ⟨g, 0, none⟩) ∧ v0.heap.size ≤ g ∧ ∃ b' A' n' c', BoxI w g b' A' n' c' ∧ (L.getD 11 false = true → a.eval (.tmp 41) = .agg #[.bool b', .slice A' n' c'])
section
variable {w0 v0 : World} {S0 : List Ent} {T0 : List Bx} {a0 : Act} {g5 : Nat} {b : Bool} {A0 : Option Addr} {n c k : Nat} {xs : List Int} {v : Int} {u : Int} {m : Nat} (hS : SB w0 v0 S0 T0) (hq : (⟨g5, b, A0, n, c⟩ : Bx) ∈ T0) (he : (⟨A0, n, c, k, xs, v⟩ : Ent) ∈ S0) (hn : n ≤ 1000) (hm : m ≤ 200)
    (hbx : a0.eval (.tmp 5) = .pointer (some ⟨g5, 0, none⟩)) (hnu : a0.eval (.tmp 2) = .int .u8 u) (hu : u.tmod 5 = (m : Int)) (hlt : 42 < a0.tmps.size) {Q : Exit → Act → World → Prop} {L : Array Bool} {a : Act} {w : World}
include hS hq he hn hm hbx hnu hu hlt
theorem T3_s0 (D : T3 v0 a0 g5 b A0 n c xs u m L a w) (hp : ∀ j, dep T3ops 0 j = true → L.getD j false = true) (hno : ∀ j, dep T3ops j 0 = true → L.getD j false = false) :
    wpOp Tryd.prog T3ops Q 0 (fun a' w' => T3 v0 a0 g5 b A0 n c xs u m (L.setIfInBounds 0 true) a' w') a w := by
  refine op_value (o := { dst := some 32, op := Op.fieldAddr 26 (Operand.tmp 5) 0, type := 0, pos := "outright.go:98", after := #[], guard := none }) (w' := w) (v := .pointer (some ⟨g5, 0, none⟩)) rfl rfl ?_ ?_
  · have e1 : a.eval (.tmp 5) = _ := (D.fr.out 5 (by decide)).trans hbx
    simp only [execOp, e1]
    go_simp
  · exact ⟨(by rw [Array.size_setIfInBounds]; exact D.size),
        (D.fr.put (by decide) _),
        D.bl,
        fun _ => eval_put_same (by rw [D.fr.size]; omega) _,
        fun h => (eval_put_ne (by decide) _).trans (D.f1 (on_ne (show (0 : Nat) ≠ 1 by decide) h)),
        fun h => (eval_put_ne (by decide) _).trans (D.f3 (on_ne (show (0 : Nat) ≠ 3 by decide) h)),
        fun h => (eval_put_ne (by decide) _).trans (D.f4 (on_ne (show (0 : Nat) ≠ 4 by decide) h)),
        fun h => (eval_put_ne (by decide) _).trans (D.f6 (on_ne (show (0 : Nat) ≠ 6 by decide) h)),
        fun h => (eval_put_ne (by decide) _).trans (D.f7 (on_ne (show (0 : Nat) ≠ 7 by decide) h)),
        fun h h' => by
        obtain ⟨A, c', e, ho, ha⟩ := D.m2 (on_ne (show (0 : Nat) ≠ 2 by decide) h) (off_ne (show (0 : Nat) ≠ 5 by decide) h')
        exact ⟨A, c', (eval_put_ne (by decide) _).trans (e), ho, fun g hg he => ha g (on_ne (show (0 : Nat) ≠ 10 by decide) hg) ((eval_put_ne (by decide) _).symm.trans (he))⟩,
        fun h h' => by
        obtain ⟨A, c', e, ho, ha⟩ := D.m5 (on_ne (show (0 : Nat) ≠ 5 by decide) h) (off_ne (show (0 : Nat) ≠ 8 by decide) h')
        exact ⟨A, c', (eval_put_ne (by decide) _).trans (e), ho, fun g hg he => ha g (on_ne (show (0 : Nat) ≠ 10 by decide) hg) ((eval_put_ne (by decide) _).symm.trans (he))⟩,
        fun h => by
        obtain ⟨A, c', e, ho, ha⟩ := D.m8 (on_ne (show (0 : Nat) ≠ 8 by decide) h)
        exact ⟨A, c', (eval_put_ne (by decide) _).trans (e), ho, fun g hg he => ha g (on_ne (show (0 : Nat) ≠ 10 by decide) hg) ((eval_put_ne (by decide) _).symm.trans (he))⟩,
        fun h => by
        have h1 := D.f9 (on_ne (show (0 : Nat) ≠ 9 by decide) h)
        rw [eval_put_ne (by decide), eval_put_ne (by decide)]; exact h1,
        fun h => by
        obtain ⟨g, e, h1, b', A', n', c', hb, h3⟩ := D.m10 (on_ne (show (0 : Nat) ≠ 10 by decide) h)
        exact ⟨g, (eval_put_ne (by decide) _).trans (e), h1, b', A', n', c', hb, fun h' => (eval_put_ne (by decide) _).trans (h3 (on_ne (show (0 : Nat) ≠ 11 by decide) h'))⟩⟩
theorem T3_s1 (D : T3 v0 a0 g5 b A0 n c xs u m L a w) (hp : ∀ j, dep T3ops 1 j = true → L.getD j false = true) (hno : ∀ j, dep T3ops j 1 = true → L.getD j false = false) :
    wpOp Tryd.prog T3ops Q 1 (fun a' w' => T3 v0 a0 g5 b A0 n c xs u m (L.setIfInBounds 1 true) a' w') a w := by
  refine op_value (o := { dst := some 33, op := Op.load 4 (Operand.tmp 32), type := 4, pos := "outright.go:98", after := #[{ on := 0, ground := Ground.data }], guard := none }) (w' := w) (v := .bool b) rfl rfl ?_ ?_
  · have e1 := D.f0 (hp 0 (by kernel_rfl))
    have c1 := (hS.below D.bl).c0 hq
    simp only [execOp, e1]
    go_simp
  · exact ⟨(by rw [Array.size_setIfInBounds]; exact D.size),
        (D.fr.put (by decide) _),
        D.bl,
        fun h => (eval_put_ne (by decide) _).trans (D.f0 (on_ne (show (1 : Nat) ≠ 0 by decide) h)),
        fun _ => eval_put_same (by rw [D.fr.size]; omega) _,
        fun h => (eval_put_ne (by decide) _).trans (D.f3 (on_ne (show (1 : Nat) ≠ 3 by decide) h)),
        fun h => (eval_put_ne (by decide) _).trans (D.f4 (on_ne (show (1 : Nat) ≠ 4 by decide) h)),
        fun h => (eval_put_ne (by decide) _).trans (D.f6 (on_ne (show (1 : Nat) ≠ 6 by decide) h)),
        fun h => (eval_put_ne (by decide) _).trans (D.f7 (on_ne (show (1 : Nat) ≠ 7 by decide) h)),
        fun h h' => by
        obtain ⟨A, c', e, ho, ha⟩ := D.m2 (on_ne (show (1 : Nat) ≠ 2 by decide) h) (off_ne (show (1 : Nat) ≠ 5 by decide) h')
        exact ⟨A, c', (eval_put_ne (by decide) _).trans (e), ho, fun g hg he => ha g (on_ne (show (1 : Nat) ≠ 10 by decide) hg) ((eval_put_ne (by decide) _).symm.trans (he))⟩,
        fun h h' => by
        obtain ⟨A, c', e, ho, ha⟩ := D.m5 (on_ne (show (1 : Nat) ≠ 5 by decide) h) (off_ne (show (1 : Nat) ≠ 8 by decide) h')
        exact ⟨A, c', (eval_put_ne (by decide) _).trans (e), ho, fun g hg he => ha g (on_ne (show (1 : Nat) ≠ 10 by decide) hg) ((eval_put_ne (by decide) _).symm.trans (he))⟩,
        fun h => by
        obtain ⟨A, c', e, ho, ha⟩ := D.m8 (on_ne (show (1 : Nat) ≠ 8 by decide) h)
        exact ⟨A, c', (eval_put_ne (by decide) _).trans (e), ho, fun g hg he => ha g (on_ne (show (1 : Nat) ≠ 10 by decide) hg) ((eval_put_ne (by decide) _).symm.trans (he))⟩,
        fun h => by
        have h1 := D.f9 (on_ne (show (1 : Nat) ≠ 9 by decide) h)
        rw [eval_put_ne (by decide), eval_put_ne (by decide)]; exact h1,
        fun h => by
        obtain ⟨g, e, h1, b', A', n', c', hb, h3⟩ := D.m10 (on_ne (show (1 : Nat) ≠ 10 by decide) h)
        exact ⟨g, (eval_put_ne (by decide) _).trans (e), h1, b', A', n', c', hb, fun h' => (eval_put_ne (by decide) _).trans (h3 (on_ne (show (1 : Nat) ≠ 11 by decide) h'))⟩⟩
theorem T3_s3 (D : T3 v0 a0 g5 b A0 n c xs u m L a w) (hp : ∀ j, dep T3ops 3 j = true → L.getD j false = true) (hno : ∀ j, dep T3ops j 3 = true → L.getD j false = false) :
    wpOp Tryd.prog T3ops Q 3 (fun a' w' => T3 v0 a0 g5 b A0 n c xs u m (L.setIfInBounds 3 true) a' w') a w := by
  refine op_value (o := { dst := some 35, op := Op.fieldAddr 26 (Operand.tmp 5) 1, type := 0, pos := "outright.go:98", after := #[], guard := none }) (w' := w) (v := .pointer (some ⟨g5, 1, none⟩)) rfl rfl ?_ ?_
  · have e1 : a.eval (.tmp 5) = _ := (D.fr.out 5 (by decide)).trans hbx
    simp only [execOp, e1]
    go_simp
  · exact ⟨(by rw [Array.size_setIfInBounds]; exact D.size),
        (D.fr.put (by decide) _),
        D.bl,
        fun h => (eval_put_ne (by decide) _).trans (D.f0 (on_ne (show (3 : Nat) ≠ 0 by decide) h)),
        fun h => (eval_put_ne (by decide) _).trans (D.f1 (on_ne (show (3 : Nat) ≠ 1 by decide) h)),
        fun _ => eval_put_same (by rw [D.fr.size]; omega) _,
        fun h => (eval_put_ne (by decide) _).trans (D.f4 (on_ne (show (3 : Nat) ≠ 4 by decide) h)),
        fun h => (eval_put_ne (by decide) _).trans (D.f6 (on_ne (show (3 : Nat) ≠ 6 by decide) h)),
        fun h => (eval_put_ne (by decide) _).trans (D.f7 (on_ne (show (3 : Nat) ≠ 7 by decide) h)),
        fun h h' => by
        obtain ⟨A, c', e, ho, ha⟩ := D.m2 (on_ne (show (3 : Nat) ≠ 2 by decide) h) (off_ne (show (3 : Nat) ≠ 5 by decide) h')
        exact ⟨A, c', (eval_put_ne (by decide) _).trans (e), ho, fun g hg he => ha g (on_ne (show (3 : Nat) ≠ 10 by decide) hg) ((eval_put_ne (by decide) _).symm.trans (he))⟩,
        fun h h' => by
        obtain ⟨A, c', e, ho, ha⟩ := D.m5 (on_ne (show (3 : Nat) ≠ 5 by decide) h) (off_ne (show (3 : Nat) ≠ 8 by decide) h')
        exact ⟨A, c', (eval_put_ne (by decide) _).trans (e), ho, fun g hg he => ha g (on_ne (show (3 : Nat) ≠ 10 by decide) hg) ((eval_put_ne (by decide) _).symm.trans (he))⟩,
        fun h => by
        obtain ⟨A, c', e, ho, ha⟩ := D.m8 (on_ne (show (3 : Nat) ≠ 8 by decide) h)
        exact ⟨A, c', (eval_put_ne (by decide) _).trans (e), ho, fun g hg he => ha g (on_ne (show (3 : Nat) ≠ 10 by decide) hg) ((eval_put_ne (by decide) _).symm.trans (he))⟩,
        fun h => by
        have h1 := D.f9 (on_ne (show (3 : Nat) ≠ 9 by decide) h)
        rw [eval_put_ne (by decide), eval_put_ne (by decide)]; exact h1,
        fun h => by
        obtain ⟨g, e, h1, b', A', n', c', hb, h3⟩ := D.m10 (on_ne (show (3 : Nat) ≠ 10 by decide) h)
        exact ⟨g, (eval_put_ne (by decide) _).trans (e), h1, b', A', n', c', hb, fun h' => (eval_put_ne (by decide) _).trans (h3 (on_ne (show (3 : Nat) ≠ 11 by decide) h'))⟩⟩
theorem T3_s4 (D : T3 v0 a0 g5 b A0 n c xs u m L a w) (hp : ∀ j, dep T3ops 4 j = true → L.getD j false = true) (hno : ∀ j, dep T3ops j 4 = true → L.getD j false = false) :
    wpOp Tryd.prog T3ops Q 4 (fun a' w' => T3 v0 a0 g5 b A0 n c xs u m (L.setIfInBounds 4 true) a' w') a w := by
  refine op_value (o := { dst := some 36, op := Op.load 24 (Operand.tmp 35), type := 24, pos := "outright.go:98", after := #[{ on := 3, ground := Ground.data }], guard := none }) (w' := w) (v := .slice A0 n c) rfl rfl ?_ ?_
  · have e1 := D.f3 (hp 3 (by kernel_rfl))
    have c1 := (hS.below D.bl).c1 hq
    simp only [execOp, e1]
    go_simp
  · exact ⟨(by rw [Array.size_setIfInBounds]; exact D.size),
        (D.fr.put (by decide) _),
        D.bl,
        fun h => (eval_put_ne (by decide) _).trans (D.f0 (on_ne (show (4 : Nat) ≠ 0 by decide) h)),
        fun h => (eval_put_ne (by decide) _).trans (D.f1 (on_ne (show (4 : Nat) ≠ 1 by decide) h)),
        fun h => (eval_put_ne (by decide) _).trans (D.f3 (on_ne (show (4 : Nat) ≠ 3 by decide) h)),
        fun _ => eval_put_same (by rw [D.fr.size]; omega) _,
        fun h => (eval_put_ne (by decide) _).trans (D.f6 (on_ne (show (4 : Nat) ≠ 6 by decide) h)),
        fun h => (eval_put_ne (by decide) _).trans (D.f7 (on_ne (show (4 : Nat) ≠ 7 by decide) h)),
        fun h h' => by
        obtain ⟨A, c', e, ho, ha⟩ := D.m2 (on_ne (show (4 : Nat) ≠ 2 by decide) h) (off_ne (show (4 : Nat) ≠ 5 by decide) h')
        exact ⟨A, c', (eval_put_ne (by decide) _).trans (e), ho, fun g hg he => ha g (on_ne (show (4 : Nat) ≠ 10 by decide) hg) ((eval_put_ne (by decide) _).symm.trans (he))⟩,
        fun h h' => by
        obtain ⟨A, c', e, ho, ha⟩ := D.m5 (on_ne (show (4 : Nat) ≠ 5 by decide) h) (off_ne (show (4 : Nat) ≠ 8 by decide) h')
        exact ⟨A, c', (eval_put_ne (by decide) _).trans (e), ho, fun g hg he => ha g (on_ne (show (4 : Nat) ≠ 10 by decide) hg) ((eval_put_ne (by decide) _).symm.trans (he))⟩,
        fun h => by
        obtain ⟨A, c', e, ho, ha⟩ := D.m8 (on_ne (show (4 : Nat) ≠ 8 by decide) h)
        exact ⟨A, c', (eval_put_ne (by decide) _).trans (e), ho, fun g hg he => ha g (on_ne (show (4 : Nat) ≠ 10 by decide) hg) ((eval_put_ne (by decide) _).symm.trans (he))⟩,
        fun h => by
        have h1 := D.f9 (on_ne (show (4 : Nat) ≠ 9 by decide) h)
        rw [eval_put_ne (by decide), eval_put_ne (by decide)]; exact h1,
        fun h => by
        obtain ⟨g, e, h1, b', A', n', c', hb, h3⟩ := D.m10 (on_ne (show (4 : Nat) ≠ 10 by decide) h)
        exact ⟨g, (eval_put_ne (by decide) _).trans (e), h1, b', A', n', c', hb, fun h' => (eval_put_ne (by decide) _).trans (h3 (on_ne (show (4 : Nat) ≠ 11 by decide) h'))⟩⟩
theorem T3_s6 (D : T3 v0 a0 g5 b A0 n c xs u m L a w) (hp : ∀ j, dep T3ops 6 j = true → L.getD j false = true) (hno : ∀ j, dep T3ops j 6 = true → L.getD j false = false) :
    wpOp Tryd.prog T3ops Q 6 (fun a' w' => T3 v0 a0 g5 b A0 n c xs u m (L.setIfInBounds 6 true) a' w') a w := by
  refine op_value (o := { dst := some 38, op := Op.move (Operand.tmp 2), type := 5, pos := "outright.go:98", after := #[], guard := none }) (w' := w) (v := .int .u8 u) rfl rfl ?_ ?_
  · have e1 : a.eval (.tmp 2) = _ := (D.fr.out 2 (by decide)).trans hnu
    simp only [execOp, e1]
    go_simp
  · exact ⟨(by rw [Array.size_setIfInBounds]; exact D.size),
        (D.fr.put (by decide) _),
        D.bl,
        fun h => (eval_put_ne (by decide) _).trans (D.f0 (on_ne (show (6 : Nat) ≠ 0 by decide) h)),
        fun h => (eval_put_ne (by decide) _).trans (D.f1 (on_ne (show (6 : Nat) ≠ 1 by decide) h)),
        fun h => (eval_put_ne (by decide) _).trans (D.f3 (on_ne (show (6 : Nat) ≠ 3 by decide) h)),
        fun h => (eval_put_ne (by decide) _).trans (D.f4 (on_ne (show (6 : Nat) ≠ 4 by decide) h)),
        fun _ => eval_put_same (by rw [D.fr.size]; omega) _,
        fun h => (eval_put_ne (by decide) _).trans (D.f7 (on_ne (show (6 : Nat) ≠ 7 by decide) h)),
        fun h h' => by
        obtain ⟨A, c', e, ho, ha⟩ := D.m2 (on_ne (show (6 : Nat) ≠ 2 by decide) h) (off_ne (show (6 : Nat) ≠ 5 by decide) h')
        exact ⟨A, c', (eval_put_ne (by decide) _).trans (e), ho, fun g hg he => ha g (on_ne (show (6 : Nat) ≠ 10 by decide) hg) ((eval_put_ne (by decide) _).symm.trans (he))⟩,
        fun h h' => by
        obtain ⟨A, c', e, ho, ha⟩ := D.m5 (on_ne (show (6 : Nat) ≠ 5 by decide) h) (off_ne (show (6 : Nat) ≠ 8 by decide) h')
        exact ⟨A, c', (eval_put_ne (by decide) _).trans (e), ho, fun g hg he => ha g (on_ne (show (6 : Nat) ≠ 10 by decide) hg) ((eval_put_ne (by decide) _).symm.trans (he))⟩,
        fun h => by
        obtain ⟨A, c', e, ho, ha⟩ := D.m8 (on_ne (show (6 : Nat) ≠ 8 by decide) h)
        exact ⟨A, c', (eval_put_ne (by decide) _).trans (e), ho, fun g hg he => ha g (on_ne (show (6 : Nat) ≠ 10 by decide) hg) ((eval_put_ne (by decide) _).symm.trans (he))⟩,
        fun h => by
        have h1 := D.f9 (on_ne (show (6 : Nat) ≠ 9 by decide) h)
        rw [eval_put_ne (by decide), eval_put_ne (by decide)]; exact h1,
        fun h => by
        obtain ⟨g, e, h1, b', A', n', c', hb, h3⟩ := D.m10 (on_ne (show (6 : Nat) ≠ 10 by decide) h)
        exact ⟨g, (eval_put_ne (by decide) _).trans (e), h1, b', A', n', c', hb, fun h' => (eval_put_ne (by decide) _).trans (h3 (on_ne (show (6 : Nat) ≠ 11 by decide) h'))⟩⟩
theorem T3_s7 (D : T3 v0 a0 g5 b A0 n c xs u m L a w) (hp : ∀ j, dep T3ops 7 j = true → L.getD j false = true) (hno : ∀ j, dep T3ops j 7 = true → L.getD j false = false) :
    wpOp Tryd.prog T3ops Q 7 (fun a' w' => T3 v0 a0 g5 b A0 n c xs u m (L.setIfInBounds 7 true) a' w') a w := by
  refine op_value (o := { dst := some 39, op := Op.binOp BinOp.rem 5 (Operand.tmp 38) (Operand.const (Value.int IntKind.u8 5)) 5, type := 5, pos := "outright.go:98", after := #[{ on := 6, ground := Ground.data }], guard := none }) (w' := w) (v := .int .u8 (m : Int)) rfl rfl ?_ ?_
  · have e1 := D.f6 (hp 6 (by kernel_rfl))
    have e2 : a.eval (.const (.int .u8 5)) = .int .u8 5 := rfl
    simp only [execOp, e1, e2]
    go_simp
  · exact ⟨(by rw [Array.size_setIfInBounds]; exact D.size),
        (D.fr.put (by decide) _),
        D.bl,
        fun h => (eval_put_ne (by decide) _).trans (D.f0 (on_ne (show (7 : Nat) ≠ 0 by decide) h)),
        fun h => (eval_put_ne (by decide) _).trans (D.f1 (on_ne (show (7 : Nat) ≠ 1 by decide) h)),
        fun h => (eval_put_ne (by decide) _).trans (D.f3 (on_ne (show (7 : Nat) ≠ 3 by decide) h)),
        fun h => (eval_put_ne (by decide) _).trans (D.f4 (on_ne (show (7 : Nat) ≠ 4 by decide) h)),
        fun h => (eval_put_ne (by decide) _).trans (D.f6 (on_ne (show (7 : Nat) ≠ 6 by decide) h)),
        fun _ => eval_put_same (by rw [D.fr.size]; omega) _,
        fun h h' => by
        obtain ⟨A, c', e, ho, ha⟩ := D.m2 (on_ne (show (7 : Nat) ≠ 2 by decide) h) (off_ne (show (7 : Nat) ≠ 5 by decide) h')
        exact ⟨A, c', (eval_put_ne (by decide) _).trans (e), ho, fun g hg he => ha g (on_ne (show (7 : Nat) ≠ 10 by decide) hg) ((eval_put_ne (by decide) _).symm.trans (he))⟩,
        fun h h' => by
        obtain ⟨A, c', e, ho, ha⟩ := D.m5 (on_ne (show (7 : Nat) ≠ 5 by decide) h) (off_ne (show (7 : Nat) ≠ 8 by decide) h')
        exact ⟨A, c', (eval_put_ne (by decide) _).trans (e), ho, fun g hg he => ha g (on_ne (show (7 : Nat) ≠ 10 by decide) hg) ((eval_put_ne (by decide) _).symm.trans (he))⟩,
        fun h => by
        obtain ⟨A, c', e, ho, ha⟩ := D.m8 (on_ne (show (7 : Nat) ≠ 8 by decide) h)
        exact ⟨A, c', (eval_put_ne (by decide) _).trans (e), ho, fun g hg he => ha g (on_ne (show (7 : Nat) ≠ 10 by decide) hg) ((eval_put_ne (by decide) _).symm.trans (he))⟩,
        fun h => by
        have h1 := D.f9 (on_ne (show (7 : Nat) ≠ 9 by decide) h)
        rw [eval_put_ne (by decide), eval_put_ne (by decide)]; exact h1,
        fun h => by
        obtain ⟨g, e, h1, b', A', n', c', hb, h3⟩ := D.m10 (on_ne (show (7 : Nat) ≠ 10 by decide) h)
        exact ⟨g, (eval_put_ne (by decide) _).trans (e), h1, b', A', n', c', hb, fun h' => (eval_put_ne (by decide) _).trans (h3 (on_ne (show (7 : Nat) ≠ 11 by decide) h'))⟩⟩
theorem T3_s9 (D : T3 v0 a0 g5 b A0 n c xs u m L a w) (hp : ∀ j, dep T3ops 9 j = true → L.getD j false = true) (hno : ∀ j, dep T3ops j 9 = true → L.getD j false = false) :
    wpOp Tryd.prog T3ops Q 9 (fun a' w' => T3 v0 a0 g5 b A0 n c xs u m (L.setIfInBounds 9 true) a' w') a w := by
  refine op_value (o := { dst := some 41, op := Op.build 26 #[(0, Operand.tmp 33), (1, Operand.tmp 40)], type := 26, pos := "outright.go:98", after := #[{ on := 1, ground := Ground.data }, { on := 8, ground := Ground.data }], guard := none }) (w' := w) (v := .agg #[.bool b, a.eval (.tmp 40)]) rfl rfl ?_ ?_
  · have e1 := D.f1 (hp 1 (by kernel_rfl))
    obtain ⟨A, c', e2, _, _⟩ := D.m8 (hp 8 (by kernel_rfl))
    have e1b : a.tmps[33]?.getD undef = .bool b := by simpa [Act.eval] using e1
    have e2b : a.tmps[40]?.getD undef = .slice A (n + m) c' := by simpa [Act.eval] using e2
    simp only [execOp]
    go_simp
  · exact ⟨(by rw [Array.size_setIfInBounds]; exact D.size),
        (D.fr.put (by decide) _),
        D.bl,
        fun h => (eval_put_ne (by decide) _).trans (D.f0 (on_ne (show (9 : Nat) ≠ 0 by decide) h)),
        fun h => (eval_put_ne (by decide) _).trans (D.f1 (on_ne (show (9 : Nat) ≠ 1 by decide) h)),
        fun h => (eval_put_ne (by decide) _).trans (D.f3 (on_ne (show (9 : Nat) ≠ 3 by decide) h)),
        fun h => (eval_put_ne (by decide) _).trans (D.f4 (on_ne (show (9 : Nat) ≠ 4 by decide) h)),
        fun h => (eval_put_ne (by decide) _).trans (D.f6 (on_ne (show (9 : Nat) ≠ 6 by decide) h)),
        fun h => (eval_put_ne (by decide) _).trans (D.f7 (on_ne (show (9 : Nat) ≠ 7 by decide) h)),
        fun h h' => by
        obtain ⟨A, c', e, ho, ha⟩ := D.m2 (on_ne (show (9 : Nat) ≠ 2 by decide) h) (off_ne (show (9 : Nat) ≠ 5 by decide) h')
        exact ⟨A, c', (eval_put_ne (by decide) _).trans (e), ho, fun g hg he => ha g (on_ne (show (9 : Nat) ≠ 10 by decide) hg) ((eval_put_ne (by decide) _).symm.trans (he))⟩,
        fun h h' => by
        obtain ⟨A, c', e, ho, ha⟩ := D.m5 (on_ne (show (9 : Nat) ≠ 5 by decide) h) (off_ne (show (9 : Nat) ≠ 8 by decide) h')
        exact ⟨A, c', (eval_put_ne (by decide) _).trans (e), ho, fun g hg he => ha g (on_ne (show (9 : Nat) ≠ 10 by decide) hg) ((eval_put_ne (by decide) _).symm.trans (he))⟩,
        fun h => by
        obtain ⟨A, c', e, ho, ha⟩ := D.m8 (on_ne (show (9 : Nat) ≠ 8 by decide) h)
        exact ⟨A, c', (eval_put_ne (by decide) _).trans (e), ho, fun g hg he => ha g (on_ne (show (9 : Nat) ≠ 10 by decide) hg) ((eval_put_ne (by decide) _).symm.trans (he))⟩,
        fun _ => (eval_put_same (by rw [D.fr.size]; omega) _).trans (by rw [eval_put_ne (by decide)]),
        fun h => by
        obtain ⟨g, e, h1, b', A', n', c', hb, h3⟩ := D.m10 (on_ne (show (9 : Nat) ≠ 10 by decide) h)
        exact ⟨g, (eval_put_ne (by decide) _).trans (e), h1, b', A', n', c', hb, fun h' => absurd (on_ne (show (9 : Nat) ≠ 11 by decide) h') (by rw [hno 11 (by kernel_rfl)]; decide)⟩⟩
theorem T3_s2 (D : T3 v0 a0 g5 b A0 n c xs u m L a w) (hp : ∀ j, dep T3ops 2 j = true → L.getD j false = true) (hno : ∀ j, dep T3ops j 2 = true → L.getD j false = false) :
    wpOp Tryd.prog T3ops Q 2 (fun a' w' => T3 v0 a0 g5 b A0 n c xs u m (L.setIfInBounds 2 true) a' w') a w := by
  have hbl : Below v0.heap.size v0 (w.alloc (.cells #[] 28)) := D.bl.alloc D.bl.size _
  have hk : Below w.heap.size w (w.alloc (.cells #[] 28)) := (Below.refl _ w).alloc (Nat.le_refl _) _
  have ho2 : N.Own (w.alloc (.cells #[] 28)) v0.heap.size (some ⟨w.heap.size, 0, none⟩) 0 0 [] := N.Own.mono ⟨(Arr.lit w [] #[] rfl).own (Nat.le_refl _) rfl (Nat.zero_le _) (Nat.le_refl _), Dg.nil⟩ D.bl.size
  have hap : ∀ g, L.getD 10 false = true → a.eval (.tmp 11) = .pointer (some ⟨g, 0, none⟩) → rowOf (some (⟨w.heap.size, 0, none⟩ : Addr)) ≠ some g := fun g hg hg2 e => by
    obtain ⟨g', e', _, b', A', n', c', hb, _⟩ := D.m10 hg
    have e2 := e'.symm.trans hg2
    simp only [Value.pointer.injEq, Option.some.injEq, Addr.mk.injEq] at e2
    have h3 := hb.lt
    have e3 : w.heap.size = g := by simpa [rowOf] using e
    omega
  refine op_value (o := { dst := some 34, op := Op.buildSlice 24 0 #[], type := 24, pos := "outright.go:98", after := #[], guard := none }) (w' := w.alloc (.cells #[] 28)) (v := .slice (some ⟨w.heap.size, 0, none⟩) 0 0) rfl rfl ?_ ?_
  · simp only [execOp]
    go_simp
  · exact ⟨(by rw [Array.size_setIfInBounds]; exact D.size),
        (D.fr.put (by decide) _),
        hbl,
        fun h => (eval_put_ne (by decide) _).trans (D.f0 (on_ne (show (2 : Nat) ≠ 0 by decide) h)),
        fun h => (eval_put_ne (by decide) _).trans (D.f1 (on_ne (show (2 : Nat) ≠ 1 by decide) h)),
        fun h => (eval_put_ne (by decide) _).trans (D.f3 (on_ne (show (2 : Nat) ≠ 3 by decide) h)),
        fun h => (eval_put_ne (by decide) _).trans (D.f4 (on_ne (show (2 : Nat) ≠ 4 by decide) h)),
        fun h => (eval_put_ne (by decide) _).trans (D.f6 (on_ne (show (2 : Nat) ≠ 6 by decide) h)),
        fun h => (eval_put_ne (by decide) _).trans (D.f7 (on_ne (show (2 : Nat) ≠ 7 by decide) h)),
        fun _ _ => ⟨some ⟨w.heap.size, 0, none⟩, 0, eval_put_same (by rw [D.fr.size]; omega) _, ho2, fun g hg he e => hap g (on_ne (show (2 : Nat) ≠ 10 by decide) hg) ((eval_put_ne (by decide) _).symm.trans he) e⟩,
        fun h h' => by
        obtain ⟨A, c', e, ho, ha⟩ := D.m5 (on_ne (show (2 : Nat) ≠ 5 by decide) h) (off_ne (show (2 : Nat) ≠ 8 by decide) h')
        exact ⟨A, c', (eval_put_ne (by decide) _).trans (e), ho.below hk, fun g hg he => ha g (on_ne (show (2 : Nat) ≠ 10 by decide) hg) ((eval_put_ne (by decide) _).symm.trans (he))⟩,
        fun h => by
        obtain ⟨A, c', e, ho, ha⟩ := D.m8 (on_ne (show (2 : Nat) ≠ 8 by decide) h)
        exact ⟨A, c', (eval_put_ne (by decide) _).trans (e), ho.below hk, fun g hg he => ha g (on_ne (show (2 : Nat) ≠ 10 by decide) hg) ((eval_put_ne (by decide) _).symm.trans (he))⟩,
        fun h => by
        have h1 := D.f9 (on_ne (show (2 : Nat) ≠ 9 by decide) h)
        rw [eval_put_ne (by decide), eval_put_ne (by decide)]; exact h1,
        fun h => by
        obtain ⟨g, e, h1, b', A', n', c', hb, h3⟩ := D.m10 (on_ne (show (2 : Nat) ≠ 10 by decide) h)
        exact ⟨g, (eval_put_ne (by decide) _).trans (e), h1, b', A', n', c', hb.on hk, fun h' => (eval_put_ne (by decide) _).trans (h3 (on_ne (show (2 : Nat) ≠ 11 by decide) h'))⟩⟩
theorem T3_s5 (D : T3 v0 a0 g5 b A0 n c xs u m L a w) (hp : ∀ j, dep T3ops 5 j = true → L.getD j false = true) (hopen : L.getD 5 false = false) (hno : ∀ j, dep T3ops j 5 = true → L.getD j false = false) :
    wpOp Tryd.prog T3ops Q 5 (fun a' w' => T3 v0 a0 g5 b A0 n c xs u m (L.setIfInBounds 5 true) a' w') a w := by
  have h0 : L.getD 5 false = false := hopen
  obtain ⟨A1, c1, e1, ho1, ha1⟩ := D.m2 (hp 2 (by kernel_rfl)) h0
  obtain ⟨f1, f2, f3⟩ := (hS.below D.bl).get he
  have e4 := D.f4 (hp 4 (by kernel_rfl))
  obtain ⟨A2, c2, w2, hrun, ho2, hg1, hat⟩ := run_app v0.heap.size 24 24 slNat ho1 f1 (by omega) (by omega) D.bl.size
  rw [Nat.zero_add] at hrun ho2
  rw [List.nil_append] at ho2
  have hbw := grown_below hg1 D.bl.size (fun k hk => (ho1.rowlt k hk).1)
  have hbl : Below v0.heap.size v0 w2 := D.bl.trans hbw
  have hap : ∀ g, L.getD 10 false = true → a.eval (.tmp 11) = .pointer (some ⟨g, 0, none⟩) → rowOf A2 ≠ some g := fun g hg hg2 e => by
    rcases hat with h | h
    · exact ha1 g hg hg2 (h.symm.trans e)
    · obtain ⟨g', e', _, b', A', n', c', hb, _⟩ := D.m10 hg
      have e2 := e'.symm.trans hg2
      simp only [Value.pointer.injEq, Option.some.injEq, Addr.mk.injEq] at e2
      have h3 := hb.lt
      have e3 : w.heap.size = g := by have := h.symm.trans e; simpa using this
      omega
  refine op_value (o := { dst := some 37, op := Op.call { callee := Callee.builtin Builtin.append, args := #[Operand.tmp 34, Operand.tmp 36], argTypes := #[24, 24] }, type := 24, pos := "outright.go:98", after := #[{ on := 2, ground := Ground.data }, { on := 4, ground := Ground.data }], guard := none }) (w' := w2) (v := .slice A2 n c2) rfl rfl ?_ ?_
  · unfold execOp
    simp only [resolve, invoke, builtin, Sem.run_bind, Sem.run_pure, Result.andThen_ok, List.map_toArray, List.map_cons, List.map_nil, e1, e4, hrun]
  · exact ⟨(by rw [Array.size_setIfInBounds]; exact D.size),
        (D.fr.put (by decide) _),
        hbl,
        fun h => (eval_put_ne (by decide) _).trans (D.f0 (on_ne (show (5 : Nat) ≠ 0 by decide) h)),
        fun h => (eval_put_ne (by decide) _).trans (D.f1 (on_ne (show (5 : Nat) ≠ 1 by decide) h)),
        fun h => (eval_put_ne (by decide) _).trans (D.f3 (on_ne (show (5 : Nat) ≠ 3 by decide) h)),
        fun h => (eval_put_ne (by decide) _).trans (D.f4 (on_ne (show (5 : Nat) ≠ 4 by decide) h)),
        fun h => (eval_put_ne (by decide) _).trans (D.f6 (on_ne (show (5 : Nat) ≠ 6 by decide) h)),
        fun h => (eval_put_ne (by decide) _).trans (D.f7 (on_ne (show (5 : Nat) ≠ 7 by decide) h)),
        fun h h' => absurd (on_self (i := 5) D.size (by decide)) (by rw [h']; decide),
        fun _ _ => ⟨A2, c2, eval_put_same (by rw [D.fr.size]; omega) _, ho2, fun g hg he e => hap g (on_ne (show (5 : Nat) ≠ 10 by decide) hg) ((eval_put_ne (by decide) _).symm.trans he) e⟩,
        fun h => absurd (on_ne (show (5 : Nat) ≠ 8 by decide) h) (by rw [hno 8 (by kernel_rfl)]; decide),
        fun h => by
        have h1 := D.f9 (on_ne (show (5 : Nat) ≠ 9 by decide) h)
        rw [eval_put_ne (by decide), eval_put_ne (by decide)]; exact h1,
        fun h => by
        obtain ⟨g, e, h1, b', A', n', c', hb, h3⟩ := D.m10 (on_ne (show (5 : Nat) ≠ 10 by decide) h)
        exact ⟨g, (eval_put_ne (by decide) _).trans (e), h1, b', A', n', c', hb.grown hg1 (ha1 g (on_ne (show (5 : Nat) ≠ 10 by decide) h) e), fun h' => (eval_put_ne (by decide) _).trans (h3 (on_ne (show (5 : Nat) ≠ 11 by decide) h'))⟩⟩
theorem T3_s8 (D : T3 v0 a0 g5 b A0 n c xs u m L a w) (hp : ∀ j, dep T3ops 8 j = true → L.getD j false = true) (hopen : L.getD 8 false = false) (hno : ∀ j, dep T3ops j 8 = true → L.getD j false = false) :
    wpOp Tryd.prog T3ops Q 8 (fun a' w' => T3 v0 a0 g5 b A0 n c xs u m (L.setIfInBounds 8 true) a' w') a w := by
  have h0 : L.getD 8 false = false := hopen
  obtain ⟨A1, c1, e1, ho1, ha1⟩ := D.m5 (hp 5 (by kernel_rfl)) h0
  have e4 := D.f7 (hp 7 (by kernel_rfl))
  obtain ⟨A2, c2, w2, hrun, ho2, hg1, hat⟩ := run_zeros8g v0.heap.size 24 ho1 m (by omega) hm D.bl.size
  have hbw := grown_below hg1 D.bl.size (fun k hk => (ho1.rowlt k hk).1)
  have hbl : Below v0.heap.size v0 w2 := D.bl.trans hbw
  have hap : ∀ g, L.getD 10 false = true → a.eval (.tmp 11) = .pointer (some ⟨g, 0, none⟩) → rowOf A2 ≠ some g := fun g hg hg2 e => by
    rcases hat with h | h
    · exact ha1 g hg hg2 (h.symm.trans e)
    · obtain ⟨g', e', _, b', A', n', c', hb, _⟩ := D.m10 hg
      have e2 := e'.symm.trans hg2
      simp only [Value.pointer.injEq, Option.some.injEq, Addr.mk.injEq] at e2
      have h3 := hb.lt
      have e3 : w.heap.size = g := by have := h.symm.trans e; simpa using this
      omega
  refine op_value (o := { dst := some 40, op := Op.call { callee := Callee.builtin Builtin.append, args := #[Operand.tmp 37, Operand.tmp 39], argTypes := #[24, 5] }, type := 24, pos := "outright.go:98", after := #[{ on := 5, ground := Ground.data }, { on := 7, ground := Ground.data }, { on := 5, ground := Ground.chain }], guard := none }) (w' := w2) (v := .slice A2 (n + m) c2) rfl rfl ?_ ?_
  · unfold execOp
    simp only [resolve, invoke, builtin, Sem.run_bind, Sem.run_pure, Result.andThen_ok, List.map_toArray, List.map_cons, List.map_nil, e1, e4, hrun]
  · exact ⟨(by rw [Array.size_setIfInBounds]; exact D.size),
        (D.fr.put (by decide) _),
        hbl,
        fun h => (eval_put_ne (by decide) _).trans (D.f0 (on_ne (show (8 : Nat) ≠ 0 by decide) h)),
        fun h => (eval_put_ne (by decide) _).trans (D.f1 (on_ne (show (8 : Nat) ≠ 1 by decide) h)),
        fun h => (eval_put_ne (by decide) _).trans (D.f3 (on_ne (show (8 : Nat) ≠ 3 by decide) h)),
        fun h => (eval_put_ne (by decide) _).trans (D.f4 (on_ne (show (8 : Nat) ≠ 4 by decide) h)),
        fun h => (eval_put_ne (by decide) _).trans (D.f6 (on_ne (show (8 : Nat) ≠ 6 by decide) h)),
        fun h => (eval_put_ne (by decide) _).trans (D.f7 (on_ne (show (8 : Nat) ≠ 7 by decide) h)),
        fun h h' => absurd (hp 5 (by kernel_rfl)) (by rw [off_ne (show (8 : Nat) ≠ 5 by decide) h']; decide),
        fun h h' => absurd (on_self (i := 8) D.size (by decide)) (by rw [h']; decide),
        fun _ => ⟨A2, c2, eval_put_same (by rw [D.fr.size]; omega) _, ho2, fun g hg he e => hap g (on_ne (show (8 : Nat) ≠ 10 by decide) hg) ((eval_put_ne (by decide) _).symm.trans he) e⟩,
        fun h => absurd (on_ne (show (8 : Nat) ≠ 9 by decide) h) (by rw [hno 9 (by kernel_rfl)]; decide),
        fun h => by
        obtain ⟨g, e, h1, b', A', n', c', hb, h3⟩ := D.m10 (on_ne (show (8 : Nat) ≠ 10 by decide) h)
        exact ⟨g, (eval_put_ne (by decide) _).trans (e), h1, b', A', n', c', hb.grown hg1 (ha1 g (on_ne (show (8 : Nat) ≠ 10 by decide) h) e), fun h' => (eval_put_ne (by decide) _).trans (h3 (on_ne (show (8 : Nat) ≠ 11 by decide) h'))⟩⟩
theorem T3_s10 (D : T3 v0 a0 g5 b A0 n c xs u m L a w) (hp : ∀ j, dep T3ops 10 j = true → L.getD j false = true) (hno : ∀ j, dep T3ops j 10 = true → L.getD j false = false) :
    wpOp Tryd.prog T3ops Q 10 (fun a' w' => T3 v0 a0 g5 b A0 n c xs u m (L.setIfInBounds 10 true) a' w') a w := by
  obtain ⟨hbx2, hk⟩ := BoxI.made (w := w) (b := false) (A := none) (n := 0) (c := 0) rfl
  have hbl := D.bl.trans (hk.mono D.bl.size)
  refine op_value (o := { dst := some 11, op := Op.alloc 26, type := 0, pos := "outright.go:98", after := #[], guard := none }) (v := .pointer (some ⟨w.heap.size, 0, none⟩)) (w' := w.alloc (.cells #[.bool false, .slice none 0 0] 26)) rfl rfl ?_ ?_
  · simp only [execOp]
    go_simp
  · exact ⟨(by rw [Array.size_setIfInBounds]; exact D.size),
        (D.fr.put (by decide) _),
        hbl,
        fun h => (eval_put_ne (by decide) _).trans (D.f0 (on_ne (show (10 : Nat) ≠ 0 by decide) h)),
        fun h => (eval_put_ne (by decide) _).trans (D.f1 (on_ne (show (10 : Nat) ≠ 1 by decide) h)),
        fun h => (eval_put_ne (by decide) _).trans (D.f3 (on_ne (show (10 : Nat) ≠ 3 by decide) h)),
        fun h => (eval_put_ne (by decide) _).trans (D.f4 (on_ne (show (10 : Nat) ≠ 4 by decide) h)),
        fun h => (eval_put_ne (by decide) _).trans (D.f6 (on_ne (show (10 : Nat) ≠ 6 by decide) h)),
        fun h => (eval_put_ne (by decide) _).trans (D.f7 (on_ne (show (10 : Nat) ≠ 7 by decide) h)),
        fun h h' => by
        obtain ⟨A, c', e, ho, ha⟩ := D.m2 (on_ne (show (10 : Nat) ≠ 2 by decide) h) (off_ne (show (10 : Nat) ≠ 5 by decide) h')
        exact ⟨A, c', (eval_put_ne (by decide) _).trans (e), ho.below hk, fun g hg he e => by
          have e2 : Value.pointer (some ⟨w.heap.size, 0, none⟩) = .pointer (some ⟨g, 0, none⟩) := (eval_put_same (by rw [D.fr.size]; omega) _).symm.trans he
          simp only [Value.pointer.injEq, Option.some.injEq, Addr.mk.injEq] at e2
          have h3 := (ho.rowlt g e).2
          omega⟩,
        fun h h' => by
        obtain ⟨A, c', e, ho, ha⟩ := D.m5 (on_ne (show (10 : Nat) ≠ 5 by decide) h) (off_ne (show (10 : Nat) ≠ 8 by decide) h')
        exact ⟨A, c', (eval_put_ne (by decide) _).trans (e), ho.below hk, fun g hg he e => by
          have e2 : Value.pointer (some ⟨w.heap.size, 0, none⟩) = .pointer (some ⟨g, 0, none⟩) := (eval_put_same (by rw [D.fr.size]; omega) _).symm.trans he
          simp only [Value.pointer.injEq, Option.some.injEq, Addr.mk.injEq] at e2
          have h3 := (ho.rowlt g e).2
          omega⟩,
        fun h => by
        obtain ⟨A, c', e, ho, ha⟩ := D.m8 (on_ne (show (10 : Nat) ≠ 8 by decide) h)
        exact ⟨A, c', (eval_put_ne (by decide) _).trans (e), ho.below hk, fun g hg he e => by
          have e2 : Value.pointer (some ⟨w.heap.size, 0, none⟩) = .pointer (some ⟨g, 0, none⟩) := (eval_put_same (by rw [D.fr.size]; omega) _).symm.trans he
          simp only [Value.pointer.injEq, Option.some.injEq, Addr.mk.injEq] at e2
          have h3 := (ho.rowlt g e).2
          omega⟩,
        fun h => by
        have h1 := D.f9 (on_ne (show (10 : Nat) ≠ 9 by decide) h)
        rw [eval_put_ne (by decide), eval_put_ne (by decide)]; exact h1,
        fun _ => ⟨w.heap.size, eval_put_same (by rw [D.fr.size]; omega) _, D.bl.size, false, none, 0, 0, hbx2, fun h => absurd (on_ne (show (10 : Nat) ≠ 11 by decide) h) (by rw [hno 11 (by kernel_rfl)]; decide)⟩⟩
theorem T3_s11 (D : T3 v0 a0 g5 b A0 n c xs u m L a w) (hp : ∀ j, dep T3ops 11 j = true → L.getD j false = true) (hno : ∀ j, dep T3ops j 11 = true → L.getD j false = false) :
    wpOp Tryd.prog T3ops Q 11 (fun a' w' => T3 v0 a0 g5 b A0 n c xs u m (L.setIfInBounds 11 true) a' w') a w := by
  have h10 := hp 10 (by kernel_rfl)
  have h8 := hp 8 (by kernel_rfl)
  have h5 := hp 5 (by kernel_rfl)
  obtain ⟨A, c1, e8, ho, ha⟩ := D.m8 h8
  have e9 := D.f9 (hp 9 (by kernel_rfl))
  obtain ⟨g, eg, hge, b', A', n', c', hb, _⟩ := D.m10 h10
  refine op_skip (o := { dst := none, op := Op.store 26 (Operand.tmp 11) (Operand.tmp 41), type := 0, pos := "outright.go:98", after := #[{ on := 10, ground := Ground.data }, { on := 9, ground := Ground.data }, { on := 8, ground := Ground.chain }, { on := 0, ground := Ground.phase }, { on := 1, ground := Ground.phase }, { on := 2, ground := Ground.phase }, { on := 3, ground := Ground.phase }, { on := 4, ground := Ground.phase }, { on := 5, ground := Ground.phase }, { on := 6, ground := Ground.phase }, { on := 7, ground := Ground.phase }, { on := 8, ground := Ground.phase }, { on := 9, ground := Ground.phase }, { on := 10, ground := Ground.phase }], guard := none }) (w' := (w.setCell ⟨g, 0, none⟩ (.bool b)).setCell ⟨g, 1, none⟩ (.slice A (n + m) c1)) rfl rfl rfl ?_ ?_
  · have h0 := hb.c0
    have h1 := hb.c1
    have h2 := hb.fr 0
    have h3 := hb.fr 1
    simp only [execOp, eg, e9, e8]
    go_simp
  · exact ⟨(by rw [Array.size_setIfInBounds]; exact D.size),
        D.fr,
        (D.bl.setCell (p := ⟨g, 0, none⟩) hge _).setCell (p := ⟨g, 1, none⟩) hge _,
        fun h => D.f0 (on_ne (show (11 : Nat) ≠ 0 by decide) h),
        fun h => D.f1 (on_ne (show (11 : Nat) ≠ 1 by decide) h),
        fun h => D.f3 (on_ne (show (11 : Nat) ≠ 3 by decide) h),
        fun h => D.f4 (on_ne (show (11 : Nat) ≠ 4 by decide) h),
        fun h => D.f6 (on_ne (show (11 : Nat) ≠ 6 by decide) h),
        fun h => D.f7 (on_ne (show (11 : Nat) ≠ 7 by decide) h),
        fun h h' => absurd h5 (by rw [off_ne (show (11 : Nat) ≠ 5 by decide) h']; decide),
        fun h h' => absurd h8 (by rw [off_ne (show (11 : Nat) ≠ 8 by decide) h']; decide),
        fun _ => ⟨A, c1, e8, (ho.far (ha g h10 eg) 0 _).far (ha g h10 eg) 1 _, fun g' hg he => ha g' h10 he⟩,
        fun h => by
        have h1 := D.f9 (on_ne (show (11 : Nat) ≠ 9 by decide) h)
        exact h1,
        fun _ => ⟨g, eg, hge, b, A, (n + m), c1, (hb.set0 b).set1 A (n + m) c1, fun _ => by rw [e9, e8]⟩⟩
theorem T3_region {id : Nat} (fin : ∀ a w', Fr a0 [11, 32, 33, 34, 35, 36, 37, 38, 39, 40, 41] a → (∃ g A c', a.eval (.tmp 11) = .pointer (some ⟨g, 0, none⟩) ∧ v0.heap.size ≤ g ∧ SB w0 w' (⟨A, n + m, c', k + 200, xs ++ List.replicate m 0, v⟩ :: S0) (⟨g, b, A, n + m, c'⟩ :: T0)) → Q .normal a w') :
    (Code.region id T3ops true).wp Tryd.prog Q a0 v0 := by
  refine wp_region_inv (by kernel_rfl) (fun L a wx => T3 v0 a0 g5 b A0 n c xs u m L a wx ∧ Clo T3ops L) (fun L a wx hI => hI.1.size) ⟨?_, fun j h => by
      rw [Array.getD_eq_getD_getElem?, Array.getElem?_replicate] at h
      split at h <;> cases h⟩ (fun L a wx i hI hi => ?_) (fun L a wx hI hr => ?_)
  · have hf : ∀ j, ¬ (Array.replicate T3ops.size false).getD j false = true := fun j h => by
      rw [Array.getD_eq_getD_getElem?, Array.getElem?_replicate] at h
      split at h <;> cases h
    exact ⟨rfl, Fr.refl _ _, ⟨rfl, rfl, rfl, Nat.le_refl _, fun _ _ => rfl⟩, fun h => absurd h (hf _), fun h => absurd h (hf _), fun h => absurd h (hf _), fun h => absurd h (hf _), fun h => absurd h (hf _), fun h => absurd h (hf _), fun h => absurd h (hf _), fun h => absurd h (hf _), fun h => absurd h (hf _), fun h => absurd h (hf _), fun h => absurd h (hf _)⟩
  · have hlt2 : i < 12 := by
      obtain ⟨_, o, ho, _⟩ := mem_ready.1 hi
      exact (Array.getElem?_eq_some_iff.1 ho).1
    have hp := fun j hj => ready_pred (j := j) hi hj
    have hno := fun j hj => hI.2.no (j := j) hi hj
    have hopen : L.getD i false = false := by
      have h2 := ready_open hi
      have h3 : i < L.size := by rw [hI.1.size]; exact hlt2
      simp only [Array.getD_eq_getD_getElem?, Array.getElem?_eq_getElem h3, Option.getD_some] at h2 ⊢
      exact h2
    refine wpOp_mono (fun a' w' h => ⟨h, hI.2.set hi⟩) ?_
    match i, hlt2 with
    | 0, _ => exact T3_s0 hS hq he hn hm hbx hnu hu hlt hI.1 hp hno
    | 1, _ => exact T3_s1 hS hq he hn hm hbx hnu hu hlt hI.1 hp hno
    | 2, _ => exact T3_s2 hS hq he hn hm hbx hnu hu hlt hI.1 hp hno
    | 3, _ => exact T3_s3 hS hq he hn hm hbx hnu hu hlt hI.1 hp hno
    | 4, _ => exact T3_s4 hS hq he hn hm hbx hnu hu hlt hI.1 hp hno
    | 5, _ => exact T3_s5 hS hq he hn hm hbx hnu hu hlt hI.1 hp hopen hno
    | 6, _ => exact T3_s6 hS hq he hn hm hbx hnu hu hlt hI.1 hp hno
    | 7, _ => exact T3_s7 hS hq he hn hm hbx hnu hu hlt hI.1 hp hno
    | 8, _ => exact T3_s8 hS hq he hn hm hbx hnu hu hlt hI.1 hp hopen hno
    | 9, _ => exact T3_s9 hS hq he hn hm hbx hnu hu hlt hI.1 hp hno
    | 10, _ => exact T3_s10 hS hq he hn hm hbx hnu hu hlt hI.1 hp hno
    | 11, _ => exact T3_s11 hS hq he hn hm hbx hnu hu hlt hI.1 hp hno
    | i + 12, hi => exact absurd hi (by omega)
  · have hu2 := all_up hI.1.size (by kernel_rfl) hr
    have D := hI.1
    have h10 := hu2 10 (by decide)
    obtain ⟨A, c1, e8, ho, ha⟩ := D.m8 (hu2 8 (by decide))
    have e9 := D.f9 (hu2 9 (by decide))
    obtain ⟨g, eg, hge, b', A', n', c', hb, h3⟩ := D.m10 h10
    have e11 := (h3 (hu2 11 (by decide))).symm.trans (e9.trans (by rw [e8]))
    simp only [Value.agg.injEq, Array.mk.injEq, List.cons.injEq, Value.bool.injEq, Value.slice.injEq, and_true] at e11
    obtain ⟨rfl, rfl, rfl, rfl⟩ := e11
    have hS1 := hS.below D.bl
    obtain ⟨f1, f2, f3⟩ := hS.get he
    refine fin a wx D.fr ⟨g, A', c', eg, hge, hS1.st.cons ho.sl (by omega) (by rw [val_zeros_behind]; exact f3), fun q hq => ?_, fun q hq => ?_, fun t ht q hq hn => ?_⟩
    · rcases List.mem_cons.1 hq with e | e
      · rw [e]; exact hb
      · exact hS1.box q e
    · rcases List.mem_cons.1 hq with e | e
      · rw [e]; exact Nat.le_trans hS.st.1.size hge
      · exact hS1.from_ q e
    · rcases List.mem_cons.1 ht with e | e
      · subst e
        rcases List.mem_cons.1 hq with e' | e'
        · subst e'
          intro ad e2 e3
          have e2 : A' = some ad := e2
          exact ha g h10 eg (by rw [e2]; show some ad.block = some g; rw [e3])
        · exact N.Own.aw ho (BoxI.lt (hS.box q e'))
      · rcases List.mem_cons.1 hq with e' | e'
        · subst e'
          intro ad e2 e3
          obtain ⟨h1, _⟩ := hS.st.2 t e
          obtain ⟨ad', e4, hlt3, _⟩ := h1.at' 0 hn
          rw [e2] at e4
          injection e4 with e4
          subst e4
          have e3 : ad.block = g := e3
          omega
        · exact hS1.apart t e q e' hn
end
def T4ops : Array Oper := #[{ dst := some 42, op := Op.fieldAddr 26 (Operand.tmp 6) 0, type := 0, pos := "outright.go:99", after := #[], guard := none },
  { dst := some 43, op := Op.load 4 (Operand.tmp 42), type := 4, pos := "outright.go:99", after := #[{ on := 0, ground := Ground.data }], guard := none },
  { dst := some 44, op := Op.buildSlice 24 0 #[], type := 24, pos := "outright.go:99", after := #[], guard := none },
  { dst := some 45, op := Op.fieldAddr 26 (Operand.tmp 6) 1, type := 0, pos := "outright.go:99", after := #[], guard := none },
  { dst := some 46, op := Op.load 24 (Operand.tmp 45), type := 24, pos := "outright.go:99", after := #[{ on := 3, ground := Ground.data }], guard := none },
  { dst := some 47, op := Op.call { callee := Callee.builtin Builtin.append, args := #[Operand.tmp 44, Operand.tmp 46], argTypes := #[24, 24] }, type := 24, pos := "outright.go:99", after := #[{ on := 2, ground := Ground.data }, { on := 4, ground := Ground.data }], guard := none },
  { dst := some 48, op := Op.move (Operand.tmp 3), type := 5, pos := "outright.go:99", after := #[], guard := none },
  { dst := some 49, op := Op.binOp BinOp.rem 5 (Operand.tmp 48) (Operand.const (Value.int IntKind.u8 5)) 5, type := 5, pos := "outright.go:99", after := #[{ on := 6, ground := Ground.data }], guard := none },
  { dst := some 50, op := Op.call { callee := Callee.builtin Builtin.append, args := #[Operand.tmp 47, Operand.tmp 49], argTypes := #[24, 5] }, type := 24, pos := "outright.go:99", after := #[{ on := 5, ground := Ground.data }, { on := 7, ground := Ground.data }, { on := 5, ground := Ground.chain }], guard := none },
  { dst := some 51, op := Op.build 26 #[(0, Operand.tmp 43), (1, Operand.tmp 50)], type := 26, pos := "outright.go:99", after := #[{ on := 1, ground := Ground.data }, { on := 8, ground := Ground.data }], guard := none },
  { dst := some 12, op := Op.alloc 26, type := 0, pos := "outright.go:99", after := #[], guard := none },
  { dst := none, op := Op.store 26 (Operand.tmp 12) (Operand.tmp 51), type := 0, pos := "outright.go:99", after := #[{ on := 10, ground := Ground.data }, { on := 9, ground := Ground.data }, { on := 8, ground := Ground.chain }, { on := 0, ground := Ground.phase }, { on := 1, ground := Ground.phase }, { on := 2, ground := Ground.phase }, { on := 3, ground := Ground.phase }, { on := 4, ground := Ground.phase }, { on := 5, ground := Ground.phase }, { on := 6, ground := Ground.phase }, { on := 7, ground := Ground.phase }, { on := 8, ground := Ground.phase }, { on := 9, ground := Ground.phase }, { on := 10, ground := Ground.phase }], guard := none }]
/-- in the midst of the region -/
structure T4 (v0 : World) (a0 : Act) (g5 : Nat) (b : Bool) (A0 : Option Addr) (n c : Nat) (xs : List Int) (u : Int) (m : Nat) (L : Array Bool) (a : Act) (w : World) : Prop where
  size : L.size = 12
  fr : Fr a0 [12, 42, 43, 44, 45, 46, 47, 48, 49, 50, 51] a
  bl : Below v0.heap.size v0 w
  f0 : L.getD 0 false = true → a.eval (.tmp 42) = .pointer (some ⟨g5, 0, none⟩)
  f1 : L.getD 1 false = true → a.eval (.tmp 43) = .bool b
  f3 : L.getD 3 false = true → a.eval (.tmp 45) = .pointer (some ⟨g5, 1, none⟩)
  f4 : L.getD 4 false = true → a.eval (.tmp 46) = .slice A0 n c
  f6 : L.getD 6 false = true → a.eval (.tmp 48) = .int .u8 u
  f7 : L.getD 7 false = true → a.eval (.tmp 49) = .int .u8 (m : Int)
  m2 : L.getD 2 false = true → L.getD 5 false = false → ∃ A c', a.eval (.tmp 44) = .slice A 0 c' ∧ N.Own w v0.heap.size A 0 c' [] ∧ ∀ g, L.getD 10 false = true → a.eval (.tmp 12) = .pointer (some ⟨g, 0, none⟩) → rowOf A ≠ some g
  m5 : L.getD 5 false = true → L.getD 8 false = false → ∃ A c', a.eval (.tmp 47) = .slice A n c' ∧ N.Own w v0.heap.size A n c' xs ∧ ∀ g, L.getD 10 false = true → a.eval (.tmp 12) = .pointer (some ⟨g, 0, none⟩) → rowOf A ≠ some g
  m8 : L.getD 8 false = true → ∃ A c', a.eval (.tmp 50) = .slice A (n + m) c' ∧ N.Own w v0.heap.size A (n + m) c' (xs ++ List.replicate m 0) ∧ ∀ g, L.getD 10 false = true → a.eval (.tmp 12) = .pointer (some ⟨g, 0, none⟩) → rowOf A ≠ some g
  f9 : L.getD 9 false = true → a.eval (.tmp 51) = .agg #[.bool b, a.eval (.tmp 50)]
  m10 : L.getD 10 false = true → ∃ g, a.eval (.tmp 12) = .pointer (some ⟨g, 0, none⟩) ∧ v0.heap.size ≤ g ∧ ∃ b' A' n' c', BoxI w g b' A' n' c' ∧ (L.getD 11 false = true → a.eval (.tmp 51) = .agg #[.bool b', .slice A' n' c'])
section
variable {w0 v0 : World} {S0 : List Ent} {T0 : List Bx} {a0 : Act} {g5 : Nat} {b : Bool} {A0 : Option Addr} {n c k : Nat} {xs : List Int} {v : Int} {u : Int} {m : Nat} (hS : SB w0 v0 S0 T0) (hq : (⟨g5, b, A0, n, c⟩ : Bx) ∈ T0) (he : (⟨A0, n, c, k, xs, v⟩ : Ent) ∈ S0) (hn : n ≤ 1000) (hm : m ≤ 200)
    (hbx : a0.eval (.tmp 6) = .pointer (some ⟨g5, 0, none⟩)) (hnu : a0.eval (.tmp 3) = .int .u8 u) (hu : u.tmod 5 = (m : Int)) (hlt : 52 < a0.tmps.size) {Q : Exit → Act → World → Prop} {L : Array Bool} {a : Act} {w : World}
include hS hq he hn hm hbx hnu hu hlt
theorem T4_s0 (D : T4 v0 a0 g5 b A0 n c xs u m L a w) (hp : ∀ j, dep T4ops 0 j = true → L.getD j false = true) (hno : ∀ j, dep T4ops j 0 = true → L.getD j false = false) :
    wpOp Tryd.prog T4ops Q 0 (fun a' w' => T4 v0 a0 g5 b A0 n c xs u m (L.setIfInBounds 0 true) a' w') a w := by
  refine op_value (o := { dst := some 42, op := Op.fieldAddr 26 (Operand.tmp 6) 0, type := 0, pos := "outright.go:99", after := #[], guard := none }) (w' := w) (v := .pointer (some ⟨g5, 0, none⟩)) rfl rfl ?_ ?_
  · have e1 : a.eval (.tmp 6) = _ := (D.fr.out 6 (by decide)).trans hbx
    simp only [execOp, e1]
    go_simp
  · exact ⟨(by rw [Array.size_setIfInBounds]; exact D.size),
        (D.fr.put (by decide) _),
        D.bl,
        fun _ => eval_put_same (by rw [D.fr.size]; omega) _,
        fun h => (eval_put_ne (by decide) _).trans (D.f1 (on_ne (show (0 : Nat) ≠ 1 by decide) h)),
        fun h => (eval_put_ne (by decide) _).trans (D.f3 (on_ne (show (0 : Nat) ≠ 3 by decide) h)),
        fun h => (eval_put_ne (by decide) _).trans (D.f4 (on_ne (show (0 : Nat) ≠ 4 by decide) h)),
        fun h => (eval_put_ne (by decide) _).trans (D.f6 (on_ne (show (0 : Nat) ≠ 6 by decide) h)),
        fun h => (eval_put_ne (by decide) _).trans (D.f7 (on_ne (show (0 : Nat) ≠ 7 by decide) h)),
        fun h h' => by
        obtain ⟨A, c', e, ho, ha⟩ := D.m2 (on_ne (show (0 : Nat) ≠ 2 by decide) h) (off_ne (show (0 : Nat) ≠ 5 by decide) h')
        exact ⟨A, c', (eval_put_ne (by decide) _).trans (e), ho, fun g hg he => ha g (on_ne (show (0 : Nat) ≠ 10 by decide) hg) ((eval_put_ne (by decide) _).symm.trans (he))⟩,
        fun h h' => by
        obtain ⟨A, c', e, ho, ha⟩ := D.m5 (on_ne (show (0 : Nat) ≠ 5 by decide) h) (off_ne (show (0 : Nat) ≠ 8 by decide) h')
        exact ⟨A, c', (eval_put_ne (by decide) _).trans (e), ho, fun g hg he => ha g (on_ne (show (0 : Nat) ≠ 10 by decide) hg) ((eval_put_ne (by decide) _).symm.trans (he))⟩,
        fun h => by
        obtain ⟨A, c', e, ho, ha⟩ := D.m8 (on_ne (show (0 : Nat) ≠ 8 by decide) h)
        exact ⟨A, c', (eval_put_ne (by decide) _).trans (e), ho, fun g hg he => ha g (on_ne (show (0 : Nat) ≠ 10 by decide) hg) ((eval_put_ne (by decide) _).symm.trans (he))⟩,
        fun h => by
        have h1 := D.f9 (on_ne (show (0 : Nat) ≠ 9 by decide) h)
        rw [eval_put_ne (by decide), eval_put_ne (by decide)]; exact h1,
        fun h => by
        obtain ⟨g, e, h1, b', A', n', c', hb, h3⟩ := D.m10 (on_ne (show (0 : Nat) ≠ 10 by decide) h)
        exact ⟨g, (eval_put_ne (by decide) _).trans (e), h1, b', A', n', c', hb, fun h' => (eval_put_ne (by decide) _).trans (h3 (on_ne (show (0 : Nat) ≠ 11 by decide) h'))⟩⟩
theorem T4_s1 (D : T4 v0 a0 g5 b A0 n c xs u m L a w) (hp : ∀ j, dep T4ops 1 j = true → L.getD j false = true) (hno : ∀ j, dep T4ops j 1 = true → L.getD j false = false) :
    wpOp Tryd.prog T4ops Q 1 (fun a' w' => T4 v0 a0 g5 b A0 n c xs u m (L.setIfInBounds 1 true) a' w') a w := by
  refine op_value (o := { dst := some 43, op := Op.load 4 (Operand.tmp 42), type := 4, pos := "outright.go:99", after := #[{ on := 0, ground := Ground.data }], guard := none }) (w' := w) (v := .bool b) rfl rfl ?_ ?_
  · have e1 := D.f0 (hp 0 (by kernel_rfl))
    have c1 := (hS.below D.bl).c0 hq
    simp only [execOp, e1]
    go_simp
  · exact ⟨(by rw [Array.size_setIfInBounds]; exact D.size),
        (D.fr.put (by decide) _),
        D.bl,
        fun h => (eval_put_ne (by decide) _).trans (D.f0 (on_ne (show (1 : Nat) ≠ 0 by decide) h)),
        fun _ => eval_put_same (by rw [D.fr.size]; omega) _,
        fun h => (eval_put_ne (by decide) _).trans (D.f3 (on_ne (show (1 : Nat) ≠ 3 by decide) h)),
        fun h => (eval_put_ne (by decide) _).trans (D.f4 (on_ne (show (1 : Nat) ≠ 4 by decide) h)),
        fun h => (eval_put_ne (by decide) _).trans (D.f6 (on_ne (show (1 : Nat) ≠ 6 by decide) h)),
        fun h => (eval_put_ne (by decide) _).trans (D.f7 (on_ne (show (1 : Nat) ≠ 7 by decide) h)),
        fun h h' => by
        obtain ⟨A, c', e, ho, ha⟩ := D.m2 (on_ne (show (1 : Nat) ≠ 2 by decide) h) (off_ne (show (1 : Nat) ≠ 5 by decide) h')
        exact ⟨A, c', (eval_put_ne (by decide) _).trans (e), ho, fun g hg he => ha g (on_ne (show (1 : Nat) ≠ 10 by decide) hg) ((eval_put_ne (by decide) _).symm.trans (he))⟩,
        fun h h' => by
        obtain ⟨A, c', e, ho, ha⟩ := D.m5 (on_ne (show (1 : Nat) ≠ 5 by decide) h) (off_ne (show (1 : Nat) ≠ 8 by decide) h')
        exact ⟨A, c', (eval_put_ne (by decide) _).trans (e), ho, fun g hg he => ha g (on_ne (show (1 : Nat) ≠ 10 by decide) hg) ((eval_put_ne (by decide) _).symm.trans (he))⟩,
        fun h => by
        obtain ⟨A, c', e, ho, ha⟩ := D.m8 (on_ne (show (1 : Nat) ≠ 8 by decide) h)
        exact ⟨A, c', (eval_put_ne (by decide) _).trans (e), ho, fun g hg he => ha g (on_ne (show (1 : Nat) ≠ 10 by decide) hg) ((eval_put_ne (by decide) _).symm.trans (he))⟩,
        fun h => by
        have h1 := D.f9 (on_ne (show (1 : Nat) ≠ 9 by decide) h)
        rw [eval_put_ne (by decide), eval_put_ne (by decide)]; exact h1,
        fun h => by
        obtain ⟨g, e, h1, b', A', n', c', hb, h3⟩ := D.m10 (on_ne (show (1 : Nat) ≠ 10 by decide) h)
        exact ⟨g, (eval_put_ne (by decide) _).trans (e), h1, b', A', n', c', hb, fun h' => (eval_put_ne (by decide) _).trans (h3 (on_ne (show (1 : Nat) ≠ 11 by decide) h'))⟩⟩
theorem T4_s3 (D : T4 v0 a0 g5 b A0 n c xs u m L a w) (hp : ∀ j, dep T4ops 3 j = true → L.getD j false = true) (hno : ∀ j, dep T4ops j 3 = true → L.getD j false = false) :
    wpOp Tryd.prog T4ops Q 3 (fun a' w' => T4 v0 a0 g5 b A0 n c xs u m (L.setIfInBounds 3 true) a' w') a w := by
  refine op_value (o := { dst := some 45, op := Op.fieldAddr 26 (Operand.tmp 6) 1, type := 0, pos := "outright.go:99", after := #[], guard := none }) (w' := w) (v := .pointer (some ⟨g5, 1, none⟩)) rfl rfl ?_ ?_
  · have e1 : a.eval (.tmp 6) = _ := (D.fr.out 6 (by decide)).trans hbx
    simp only [execOp, e1]
    go_simp
  · exact ⟨(by rw [Array.size_setIfInBounds]; exact D.size),
        (D.fr.put (by decide) _),
        D.bl,
        fun h => (eval_put_ne (by decide) _).trans (D.f0 (on_ne (show (3 : Nat) ≠ 0 by decide) h)),
        fun h => (eval_put_ne (by decide) _).trans (D.f1 (on_ne (show (3 : Nat) ≠ 1 by decide) h)),
        fun _ => eval_put_same (by rw [D.fr.size]; omega) _,
        fun h => (eval_put_ne (by decide) _).trans (D.f4 (on_ne (show (3 : Nat) ≠ 4 by decide) h)),
        fun h => (eval_put_ne (by decide) _).trans (D.f6 (on_ne (show (3 : Nat) ≠ 6 by decide) h)),
        fun h => (eval_put_ne (by decide) _).trans (D.f7 (on_ne (show (3 : Nat) ≠ 7 by decide) h)),
        fun h h' => by
        obtain ⟨A, c', e, ho, ha⟩ := D.m2 (on_ne (show (3 : Nat) ≠ 2 by decide) h) (off_ne (show (3 : Nat) ≠ 5 by decide) h')
        exact ⟨A, c', (eval_put_ne (by decide) _).trans (e), ho, fun g hg he => ha g (on_ne (show (3 : Nat) ≠ 10 by decide) hg) ((eval_put_ne (by decide) _).symm.trans (he))⟩,
        fun h h' => by
        obtain ⟨A, c', e, ho, ha⟩ := D.m5 (on_ne (show (3 : Nat) ≠ 5 by decide) h) (off_ne (show (3 : Nat) ≠ 8 by decide) h')
        exact ⟨A, c', (eval_put_ne (by decide) _).trans (e), ho, fun g hg he => ha g (on_ne (show (3 : Nat) ≠ 10 by decide) hg) ((eval_put_ne (by decide) _).symm.trans (he))⟩,
        fun h => by
        obtain ⟨A, c', e, ho, ha⟩ := D.m8 (on_ne (show (3 : Nat) ≠ 8 by decide) h)
        exact ⟨A, c', (eval_put_ne (by decide) _).trans (e), ho, fun g hg he => ha g (on_ne (show (3 : Nat) ≠ 10 by decide) hg) ((eval_put_ne (by decide) _).symm.trans (he))⟩,
        fun h => by
        have h1 := D.f9 (on_ne (show (3 : Nat) ≠ 9 by decide) h)
        rw [eval_put_ne (by decide), eval_put_ne (by decide)]; exact h1,
        fun h => by
        obtain ⟨g, e, h1, b', A', n', c', hb, h3⟩ := D.m10 (on_ne (show (3 : Nat) ≠ 10 by decide) h)
        exact ⟨g, (eval_put_ne (by decide) _).trans (e), h1, b', A', n', c', hb, fun h' => (eval_put_ne (by decide) _).trans (h3 (on_ne (show (3 : Nat) ≠ 11 by decide) h'))⟩⟩
theorem T4_s4 (D : T4 v0 a0 g5 b A0 n c xs u m L a w) (hp : ∀ j, dep T4ops 4 j = true → L.getD j false = true) (hno : ∀ j, dep T4ops j 4 = true → L.getD j false = false) :
    wpOp Tryd.prog T4ops Q 4 (fun a' w' => T4 v0 a0 g5 b A0 n c xs u m (L.setIfInBounds 4 true) a' w') a w := by
  refine op_value (o := { dst := some 46, op := Op.load 24 (Operand.tmp 45), type := 24, pos := "outright.go:99", after := #[{ on := 3, ground := Ground.data }], guard := none }) (w' := w) (v := .slice A0 n c) rfl rfl ?_ ?_
  · have e1 := D.f3 (hp 3 (by kernel_rfl))
    have c1 := (hS.below D.bl).c1 hq
    simp only [execOp, e1]
    go_simp
  · exact ⟨(by rw [Array.size_setIfInBounds]; exact D.size),
        (D.fr.put (by decide) _),
        D.bl,
        fun h => (eval_put_ne (by decide) _).trans (D.f0 (on_ne (show (4 : Nat) ≠ 0 by decide) h)),
        fun h => (eval_put_ne (by decide) _).trans (D.f1 (on_ne (show (4 : Nat) ≠ 1 by decide) h)),
        fun h => (eval_put_ne (by decide) _).trans (D.f3 (on_ne (show (4 : Nat) ≠ 3 by decide) h)),
        fun _ => eval_put_same (by rw [D.fr.size]; omega) _,
        fun h => (eval_put_ne (by decide) _).trans (D.f6 (on_ne (show (4 : Nat) ≠ 6 by decide) h)),
        fun h => (eval_put_ne (by decide) _).trans (D.f7 (on_ne (show (4 : Nat) ≠ 7 by decide) h)),
        fun h h' => by
        obtain ⟨A, c', e, ho, ha⟩ := D.m2 (on_ne (show (4 : Nat) ≠ 2 by decide) h) (off_ne (show (4 : Nat) ≠ 5 by decide) h')
        exact ⟨A, c', (eval_put_ne (by decide) _).trans (e), ho, fun g hg he => ha g (on_ne (show (4 : Nat) ≠ 10 by decide) hg) ((eval_put_ne (by decide) _).symm.trans (he))⟩,
        fun h h' => by
        obtain ⟨A, c', e, ho, ha⟩ := D.m5 (on_ne (show (4 : Nat) ≠ 5 by decide) h) (off_ne (show (4 : Nat) ≠ 8 by decide) h')
        exact ⟨A, c', (eval_put_ne (by decide) _).trans (e), ho, fun g hg he => ha g (on_ne (show (4 : Nat) ≠ 10 by decide) hg) ((eval_put_ne (by decide) _).symm.trans (he))⟩,
        fun h => by
        obtain ⟨A, c', e, ho, ha⟩ := D.m8 (on_ne (show (4 : Nat) ≠ 8 by decide) h)
        exact ⟨A, c', (eval_put_ne (by decide) _).trans (e), ho, fun g hg he => ha g (on_ne (show (4 : Nat) ≠ 10 by decide) hg) ((eval_put_ne (by decide) _).symm.trans (he))⟩,
        fun h => by
        have h1 := D.f9 (on_ne (show (4 : Nat) ≠ 9 by decide) h)
        rw [eval_put_ne (by decide), eval_put_ne (by decide)]; exact h1,
        fun h => by
        obtain ⟨g, e, h1, b', A', n', c', hb, h3⟩ := D.m10 (on_ne (show (4 : Nat) ≠ 10 by decide) h)
        exact ⟨g, (eval_put_ne (by decide) _).trans (e), h1, b', A', n', c', hb, fun h' => (eval_put_ne (by decide) _).trans (h3 (on_ne (show (4 : Nat) ≠ 11 by decide) h'))⟩⟩
theorem T4_s6 (D : T4 v0 a0 g5 b A0 n c xs u m L a w) (hp : ∀ j, dep T4ops 6 j = true → L.getD j false = true) (hno : ∀ j, dep T4ops j 6 = true → L.getD j false = false) :
    wpOp Tryd.prog T4ops Q 6 (fun a' w' => T4 v0 a0 g5 b A0 n c xs u m (L.setIfInBounds 6 true) a' w') a w := by
  refine op_value (o := { dst := some 48, op := Op.move (Operand.tmp 3), type := 5, pos := "outright.go:99", after := #[], guard := none }) (w' := w) (v := .int .u8 u) rfl rfl ?_ ?_
  · have e1 : a.eval (.tmp 3) = _ := (D.fr.out 3 (by decide)).trans hnu
    simp only [execOp, e1]
    go_simp
  · exact ⟨(by rw [Array.size_setIfInBounds]; exact D.size),
        (D.fr.put (by decide) _),
        D.bl,
        fun h => (eval_put_ne (by decide) _).trans (D.f0 (on_ne (show (6 : Nat) ≠ 0 by decide) h)),
        fun h => (eval_put_ne (by decide) _).trans (D.f1 (on_ne (show (6 : Nat) ≠ 1 by decide) h)),
        fun h => (eval_put_ne (by decide) _).trans (D.f3 (on_ne (show (6 : Nat) ≠ 3 by decide) h)),
        fun h => (eval_put_ne (by decide) _).trans (D.f4 (on_ne (show (6 : Nat) ≠ 4 by decide) h)),
        fun _ => eval_put_same (by rw [D.fr.size]; omega) _,
        fun h => (eval_put_ne (by decide) _).trans (D.f7 (on_ne (show (6 : Nat) ≠ 7 by decide) h)),
        fun h h' => by
        obtain ⟨A, c', e, ho, ha⟩ := D.m2 (on_ne (show (6 : Nat) ≠ 2 by decide) h) (off_ne (show (6 : Nat) ≠ 5 by decide) h')
        exact ⟨A, c', (eval_put_ne (by decide) _).trans (e), ho, fun g hg he => ha g (on_ne (show (6 : Nat) ≠ 10 by decide) hg) ((eval_put_ne (by decide) _).symm.trans (he))⟩,
        fun h h' => by
        obtain ⟨A, c', e, ho, ha⟩ := D.m5 (on_ne (show (6 : Nat) ≠ 5 by decide) h) (off_ne (show (6 : Nat) ≠ 8 by decide) h')
        exact ⟨A, c', (eval_put_ne (by decide) _).trans (e), ho, fun g hg he => ha g (on_ne (show (6 : Nat) ≠ 10 by decide) hg) ((eval_put_ne (by decide) _).symm.trans (he))⟩,
        fun h => by
        obtain ⟨A, c', e, ho, ha⟩ := D.m8 (on_ne (show (6 : Nat) ≠ 8 by decide) h)
        exact ⟨A, c', (eval_put_ne (by decide) _).trans (e), ho, fun g hg he => ha g (on_ne (show (6 : Nat) ≠ 10 by decide) hg) ((eval_put_ne (by decide) _).symm.trans (he))⟩,
        fun h => by
        have h1 := D.f9 (on_ne (show (6 : Nat) ≠ 9 by decide) h)
        rw [eval_put_ne (by decide), eval_put_ne (by decide)]; exact h1,
        fun h => by
        obtain ⟨g, e, h1, b', A', n', c', hb, h3⟩ := D.m10 (on_ne (show (6 : Nat) ≠ 10 by decide) h)
        exact ⟨g, (eval_put_ne (by decide) _).trans (e), h1, b', A', n', c', hb, fun h' => (eval_put_ne (by decide) _).trans (h3 (on_ne (show (6 : Nat) ≠ 11 by decide) h'))⟩⟩
theorem T4_s7 (D : T4 v0 a0 g5 b A0 n c xs u m L a w) (hp : ∀ j, dep T4ops 7 j = true → L.getD j false = true) (hno : ∀ j, dep T4ops j 7 = true → L.getD j false = false) :
    wpOp Tryd.prog T4ops Q 7 (fun a' w' => T4 v0 a0 g5 b A0 n c xs u m (L.setIfInBounds 7 true) a' w') a w := by
  refine op_value (o := { dst := some 49, op := Op.binOp BinOp.rem 5 (Operand.tmp 48) (Operand.const (Value.int IntKind.u8 5)) 5, type := 5, pos := "outright.go:99", after := #[{ on := 6, ground := Ground.data }], guard := none }) (w' := w) (v := .int .u8 (m : Int)) rfl rfl ?_ ?_
  · have e1 := D.f6 (hp 6 (by kernel_rfl))
    have e2 : a.eval (.const (.int .u8 5)) = .int .u8 5 := rfl
    simp only [execOp, e1, e2]
    go_simp
  · exact ⟨(by rw [Array.size_setIfInBounds]; exact D.size),
        (D.fr.put (by decide) _),
        D.bl,
        fun h => (eval_put_ne (by decide) _).trans (D.f0 (on_ne (show (7 : Nat) ≠ 0 by decide) h)),
        fun h => (eval_put_ne (by decide) _).trans (D.f1 (on_ne (show (7 : Nat) ≠ 1 by decide) h)),
        fun h => (eval_put_ne (by decide) _).trans (D.f3 (on_ne (show (7 : Nat) ≠ 3 by decide) h)),
        fun h => (eval_put_ne (by decide) _).trans (D.f4 (on_ne (show (7 : Nat) ≠ 4 by decide) h)),
        fun h => (eval_put_ne (by decide) _).trans (D.f6 (on_ne (show (7 : Nat) ≠ 6 by decide) h)),
        fun _ => eval_put_same (by rw [D.fr.size]; omega) _,
        fun h h' => by
        obtain ⟨A, c', e, ho, ha⟩ := D.m2 (on_ne (show (7 : Nat) ≠ 2 by decide) h) (off_ne (show (7 : Nat) ≠ 5 by decide) h')
        exact ⟨A, c', (eval_put_ne (by decide) _).trans (e), ho, fun g hg he => ha g (on_ne (show (7 : Nat) ≠ 10 by decide) hg) ((eval_put_ne (by decide) _).symm.trans (he))⟩,
        fun h h' => by
        obtain ⟨A, c', e, ho, ha⟩ := D.m5 (on_ne (show (7 : Nat) ≠ 5 by decide) h) (off_ne (show (7 : Nat) ≠ 8 by decide) h')
        exact ⟨A, c', (eval_put_ne (by decide) _).trans (e), ho, fun g hg he => ha g (on_ne (show (7 : Nat) ≠ 10 by decide) hg) ((eval_put_ne (by decide) _).symm.trans (he))⟩,
        fun h => by
        obtain ⟨A, c', e, ho, ha⟩ := D.m8 (on_ne (show (7 : Nat) ≠ 8 by decide) h)
        exact ⟨A, c', (eval_put_ne (by decide) _).trans (e), ho, fun g hg he => ha g (on_ne (show (7 : Nat) ≠ 10 by decide) hg) ((eval_put_ne (by decide) _).symm.trans (he))⟩,
        fun h => by
        have h1 := D.f9 (on_ne (show (7 : Nat) ≠ 9 by decide) h)
        rw [eval_put_ne (by decide), eval_put_ne (by decide)]; exact h1,
        fun h => by
        obtain ⟨g, e, h1, b', A', n', c', hb, h3⟩ := D.m10 (on_ne (show (7 : Nat) ≠ 10 by decide) h)
        exact ⟨g, (eval_put_ne (by decide) _).trans (e), h1, b', A', n', c', hb, fun h' => (eval_put_ne (by decide) _).trans (h3 (on_ne (show (7 : Nat) ≠ 11 by decide) h'))⟩⟩
theorem T4_s9 (D : T4 v0 a0 g5 b A0 n c xs u m L a w) (hp : ∀ j, dep T4ops 9 j = true → L.getD j false = true) (hno : ∀ j, dep T4ops j 9 = true → L.getD j false = false) :
    wpOp Tryd.prog T4ops Q 9 (fun a' w' => T4 v0 a0 g5 b A0 n c xs u m (L.setIfInBounds 9 true) a' w') a w := by
  refine op_value (o := { dst := some 51, op := Op.build 26 #[(0, Operand.tmp 43), (1, Operand.tmp 50)], type := 26, pos := "outright.go:99", after := #[{ on := 1, ground := Ground.data }, { on := 8, ground := Ground.data }], guard := none }) (w' := w) (v := .agg #[.bool b, a.eval (.tmp 50)]) rfl rfl ?_ ?_
  · have e1 := D.f1 (hp 1 (by kernel_rfl))
    obtain ⟨A, c', e2, _, _⟩ := D.m8 (hp 8 (by kernel_rfl))
    have e1b : a.tmps[43]?.getD undef = .bool b := by simpa [Act.eval] using e1
    have e2b : a.tmps[50]?.getD undef = .slice A (n + m) c' := by simpa [Act.eval] using e2
    simp only [execOp]
    go_simp
  · exact ⟨(by rw [Array.size_setIfInBounds]; exact D.size),
        (D.fr.put (by decide) _),
        D.bl,
        fun h => (eval_put_ne (by decide) _).trans (D.f0 (on_ne (show (9 : Nat) ≠ 0 by decide) h)),
        fun h => (eval_put_ne (by decide) _).trans (D.f1 (on_ne (show (9 : Nat) ≠ 1 by decide) h)),
        fun h => (eval_put_ne (by decide) _).trans (D.f3 (on_ne (show (9 : Nat) ≠ 3 by decide) h)),
        fun h => (eval_put_ne (by decide) _).trans (D.f4 (on_ne (show (9 : Nat) ≠ 4 by decide) h)),
        fun h => (eval_put_ne (by decide) _).trans (D.f6 (on_ne (show (9 : Nat) ≠ 6 by decide) h)),
        fun h => (eval_put_ne (by decide) _).trans (D.f7 (on_ne (show (9 : Nat) ≠ 7 by decide) h)),
        fun h h' => by
        obtain ⟨A, c', e, ho, ha⟩ := D.m2 (on_ne (show (9 : Nat) ≠ 2 by decide) h) (off_ne (show (9 : Nat) ≠ 5 by decide) h')
        exact ⟨A, c', (eval_put_ne (by decide) _).trans (e), ho, fun g hg he => ha g (on_ne (show (9 : Nat) ≠ 10 by decide) hg) ((eval_put_ne (by decide) _).symm.trans (he))⟩,
        fun h h' => by
        obtain ⟨A, c', e, ho, ha⟩ := D.m5 (on_ne (show (9 : Nat) ≠ 5 by decide) h) (off_ne (show (9 : Nat) ≠ 8 by decide) h')
        exact ⟨A, c', (eval_put_ne (by decide) _).trans (e), ho, fun g hg he => ha g (on_ne (show (9 : Nat) ≠ 10 by decide) hg) ((eval_put_ne (by decide) _).symm.trans (he))⟩,
        fun h => by
        obtain ⟨A, c', e, ho, ha⟩ := D.m8 (on_ne (show (9 : Nat) ≠ 8 by decide) h)
        exact ⟨A, c', (eval_put_ne (by decide) _).trans (e), ho, fun g hg he => ha g (on_ne (show (9 : Nat) ≠ 10 by decide) hg) ((eval_put_ne (by decide) _).symm.trans (he))⟩,
        fun _ => (eval_put_same (by rw [D.fr.size]; omega) _).trans (by rw [eval_put_ne (by decide)]),
        fun h => by
        obtain ⟨g, e, h1, b', A', n', c', hb, h3⟩ := D.m10 (on_ne (show (9 : Nat) ≠ 10 by decide) h)
        exact ⟨g, (eval_put_ne (by decide) _).trans (e), h1, b', A', n', c', hb, fun h' => absurd (on_ne (show (9 : Nat) ≠ 11 by decide) h') (by rw [hno 11 (by kernel_rfl)]; decide)⟩⟩
theorem T4_s2 (D : T4 v0 a0 g5 b A0 n c xs u m L a w) (hp : ∀ j, dep T4ops 2 j = true → L.getD j false = true) (hno : ∀ j, dep T4ops j 2 = true → L.getD j false = false) :
    wpOp Tryd.prog T4ops Q 2 (fun a' w' => T4 v0 a0 g5 b A0 n c xs u m (L.setIfInBounds 2 true) a' w') a w := by
  have hbl : Below v0.heap.size v0 (w.alloc (.cells #[] 28)) := D.bl.alloc D.bl.size _
  have hk : Below w.heap.size w (w.alloc (.cells #[] 28)) := (Below.refl _ w).alloc (Nat.le_refl _) _
  have ho2 : N.Own (w.alloc (.cells #[] 28)) v0.heap.size (some ⟨w.heap.size, 0, none⟩) 0 0 [] := N.Own.mono ⟨(Arr.lit w [] #[] rfl).own (Nat.le_refl _) rfl (Nat.zero_le _) (Nat.le_refl _), Dg.nil⟩ D.bl.size
  have hap : ∀ g, L.getD 10 false = true → a.eval (.tmp 12) = .pointer (some ⟨g, 0, none⟩) → rowOf (some (⟨w.heap.size, 0, none⟩ : Addr)) ≠ some g := fun g hg hg2 e => by
    obtain ⟨g', e', _, b', A', n', c', hb, _⟩ := D.m10 hg
    have e2 := e'.symm.trans hg2
    simp only [Value.pointer.injEq, Option.some.injEq, Addr.mk.injEq] at e2
    have h3 := hb.lt
    have e3 : w.heap.size = g := by simpa [rowOf] using e
    omega
  refine op_value (o := { dst := some 44, op := Op.buildSlice 24 0 #[], type := 24, pos := "outright.go:99", after := #[], guard := none }) (w' := w.alloc (.cells #[] 28)) (v := .slice (some ⟨w.heap.size, 0, none⟩) 0 0) rfl rfl ?_ ?_
  · simp only [execOp]
    go_simp
  · exact ⟨(by rw [Array.size_setIfInBounds]; exact D.size),
        (D.fr.put (by decide) _),
        hbl,
        fun h => (eval_put_ne (by decide) _).trans (D.f0 (on_ne (show (2 : Nat) ≠ 0 by decide) h)),
        fun h => (eval_put_ne (by decide) _).trans (D.f1 (on_ne (show (2 : Nat) ≠ 1 by decide) h)),
        fun h => (eval_put_ne (by decide) _).trans (D.f3 (on_ne (show (2 : Nat) ≠ 3 by decide) h)),
        fun h => (eval_put_ne (by decide) _).trans (D.f4 (on_ne (show (2 : Nat) ≠ 4 by decide) h)),
        fun h => (eval_put_ne (by decide) _).trans (D.f6 (on_ne (show (2 : Nat) ≠ 6 by decide) h)),
        fun h => (eval_put_ne (by decide) _).trans (D.f7 (on_ne (show (2 : Nat) ≠ 7 by decide) h)),
        fun _ _ => ⟨some ⟨w.heap.size, 0, none⟩, 0, eval_put_same (by rw [D.fr.size]; omega) _, ho2, fun g hg he e => hap g (on_ne (show (2 : Nat) ≠ 10 by decide) hg) ((eval_put_ne (by decide) _).symm.trans he) e⟩,
        fun h h' => by
        obtain ⟨A, c', e, ho, ha⟩ := D.m5 (on_ne (show (2 : Nat) ≠ 5 by decide) h) (off_ne (show (2 : Nat) ≠ 8 by decide) h')
        exact ⟨A, c', (eval_put_ne (by decide) _).trans (e), ho.below hk, fun g hg he => ha g (on_ne (show (2 : Nat) ≠ 10 by decide) hg) ((eval_put_ne (by decide) _).symm.trans (he))⟩,
        fun h => by
        obtain ⟨A, c', e, ho, ha⟩ := D.m8 (on_ne (show (2 : Nat) ≠ 8 by decide) h)
        exact ⟨A, c', (eval_put_ne (by decide) _).trans (e), ho.below hk, fun g hg he => ha g (on_ne (show (2 : Nat) ≠ 10 by decide) hg) ((eval_put_ne (by decide) _).symm.trans (he))⟩,
        fun h => by
        have h1 := D.f9 (on_ne (show (2 : Nat) ≠ 9 by decide) h)
        rw [eval_put_ne (by decide), eval_put_ne (by decide)]; exact h1,
        fun h => by
        obtain ⟨g, e, h1, b', A', n', c', hb, h3⟩ := D.m10 (on_ne (show (2 : Nat) ≠ 10 by decide) h)
        exact ⟨g, (eval_put_ne (by decide) _).trans (e), h1, b', A', n', c', hb.on hk, fun h' => (eval_put_ne (by decide) _).trans (h3 (on_ne (show (2 : Nat) ≠ 11 by decide) h'))⟩⟩
theorem T4_s5 (D : T4 v0 a0 g5 b A0 n c xs u m L a w) (hp : ∀ j, dep T4ops 5 j = true → L.getD j false = true) (hopen : L.getD 5 false = false) (hno : ∀ j, dep T4ops j 5 = true → L.getD j false = false) :
    wpOp Tryd.prog T4ops Q 5 (fun a' w' => T4 v0 a0 g5 b A0 n c xs u m (L.setIfInBounds 5 true) a' w') a w := by
  have h0 : L.getD 5 false = false := hopen
  obtain ⟨A1, c1, e1, ho1, ha1⟩ := D.m2 (hp 2 (by kernel_rfl)) h0
  obtain ⟨f1, f2, f3⟩ := (hS.below D.bl).get he
  have e4 := D.f4 (hp 4 (by kernel_rfl))
  obtain ⟨A2, c2, w2, hrun, ho2, hg1, hat⟩ := run_app v0.heap.size 24 24 slNat ho1 f1 (by omega) (by omega) D.bl.size
  rw [Nat.zero_add] at hrun ho2
  rw [List.nil_append] at ho2
  have hbw := grown_below hg1 D.bl.size (fun k hk => (ho1.rowlt k hk).1)
  have hbl : Below v0.heap.size v0 w2 := D.bl.trans hbw
  have hap : ∀ g, L.getD 10 false = true → a.eval (.tmp 12) = .pointer (some ⟨g, 0, none⟩) → rowOf A2 ≠ some g := fun g hg hg2 e => by
    rcases hat with h | h
    · exact ha1 g hg hg2 (h.symm.trans e)
    · obtain ⟨g', e', _, b', A', n', c', hb, _⟩ := D.m10 hg
      have e2 := e'.symm.trans hg2
      simp only [Value.pointer.injEq, Option.some.injEq, Addr.mk.injEq] at e2
      have h3 := hb.lt
      have e3 : w.heap.size = g := by have := h.symm.trans e; simpa using this
      omega
  refine op_value (o := { dst := some 47, op := Op.call { callee := Callee.builtin Builtin.append, args := #[Operand.tmp 44, Operand.tmp 46], argTypes := #[24, 24] }, type := 24, pos := "outright.go:99", after := #[{ on := 2, ground := Ground.data }, { on := 4, ground := Ground.data }], guard := none }) (w' := w2) (v := .slice A2 n c2) rfl rfl ?_ ?_
  · unfold execOp
    simp only [resolve, invoke, builtin, Sem.run_bind, Sem.run_pure, Result.andThen_ok, List.map_toArray, List.map_cons, List.map_nil, e1, e4, hrun]
  · exact ⟨(by rw [Array.size_setIfInBounds]; exact D.size),
        (D.fr.put (by decide) _),
        hbl,
        fun h => (eval_put_ne (by decide) _).trans (D.f0 (on_ne (show (5 : Nat) ≠ 0 by decide) h)),
        fun h => (eval_put_ne (by decide) _).trans (D.f1 (on_ne (show (5 : Nat) ≠ 1 by decide) h)),
        fun h => (eval_put_ne (by decide) _).trans (D.f3 (on_ne (show (5 : Nat) ≠ 3 by decide) h)),
        fun h => (eval_put_ne (by decide) _).trans (D.f4 (on_ne (show (5 : Nat) ≠ 4 by decide) h)),
        fun h => (eval_put_ne (by decide) _).trans (D.f6 (on_ne (show (5 : Nat) ≠ 6 by decide) h)),
        fun h => (eval_put_ne (by decide) _).trans (D.f7 (on_ne (show (5 : Nat) ≠ 7 by decide) h)),
        fun h h' => absurd (on_self (i := 5) D.size (by decide)) (by rw [h']; decide),
        fun _ _ => ⟨A2, c2, eval_put_same (by rw [D.fr.size]; omega) _, ho2, fun g hg he e => hap g (on_ne (show (5 : Nat) ≠ 10 by decide) hg) ((eval_put_ne (by decide) _).symm.trans he) e⟩,
        fun h => absurd (on_ne (show (5 : Nat) ≠ 8 by decide) h) (by rw [hno 8 (by kernel_rfl)]; decide),
        fun h => by
        have h1 := D.f9 (on_ne (show (5 : Nat) ≠ 9 by decide) h)
        rw [eval_put_ne (by decide), eval_put_ne (by decide)]; exact h1,
        fun h => by
        obtain ⟨g, e, h1, b', A', n', c', hb, h3⟩ := D.m10 (on_ne (show (5 : Nat) ≠ 10 by decide) h)
        exact ⟨g, (eval_put_ne (by decide) _).trans (e), h1, b', A', n', c', hb.grown hg1 (ha1 g (on_ne (show (5 : Nat) ≠ 10 by decide) h) e), fun h' => (eval_put_ne (by decide) _).trans (h3 (on_ne (show (5 : Nat) ≠ 11 by decide) h'))⟩⟩
theorem T4_s8 (D : T4 v0 a0 g5 b A0 n c xs u m L a w) (hp : ∀ j, dep T4ops 8 j = true → L.getD j false = true) (hopen : L.getD 8 false = false) (hno : ∀ j, dep T4ops j 8 = true → L.getD j false = false) :
    wpOp Tryd.prog T4ops Q 8 (fun a' w' => T4 v0 a0 g5 b A0 n c xs u m (L.setIfInBounds 8 true) a' w') a w := by
  have h0 : L.getD 8 false = false := hopen
  obtain ⟨A1, c1, e1, ho1, ha1⟩ := D.m5 (hp 5 (by kernel_rfl)) h0
  have e4 := D.f7 (hp 7 (by kernel_rfl))
  obtain ⟨A2, c2, w2, hrun, ho2, hg1, hat⟩ := run_zeros8g v0.heap.size 24 ho1 m (by omega) hm D.bl.size
  have hbw := grown_below hg1 D.bl.size (fun k hk => (ho1.rowlt k hk).1)
  have hbl : Below v0.heap.size v0 w2 := D.bl.trans hbw
  have hap : ∀ g, L.getD 10 false = true → a.eval (.tmp 12) = .pointer (some ⟨g, 0, none⟩) → rowOf A2 ≠ some g := fun g hg hg2 e => by
    rcases hat with h | h
    · exact ha1 g hg hg2 (h.symm.trans e)
    · obtain ⟨g', e', _, b', A', n', c', hb, _⟩ := D.m10 hg
      have e2 := e'.symm.trans hg2
      simp only [Value.pointer.injEq, Option.some.injEq, Addr.mk.injEq] at e2
      have h3 := hb.lt
      have e3 : w.heap.size = g := by have := h.symm.trans e; simpa using this
      omega
  refine op_value (o := { dst := some 50, op := Op.call { callee := Callee.builtin Builtin.append, args := #[Operand.tmp 47, Operand.tmp 49], argTypes := #[24, 5] }, type := 24, pos := "outright.go:99", after := #[{ on := 5, ground := Ground.data }, { on := 7, ground := Ground.data }, { on := 5, ground := Ground.chain }], guard := none }) (w' := w2) (v := .slice A2 (n + m) c2) rfl rfl ?_ ?_
  · unfold execOp
    simp only [resolve, invoke, builtin, Sem.run_bind, Sem.run_pure, Result.andThen_ok, List.map_toArray, List.map_cons, List.map_nil, e1, e4, hrun]
  · exact ⟨(by rw [Array.size_setIfInBounds]; exact D.size),
        (D.fr.put (by decide) _),
        hbl,
        fun h => (eval_put_ne (by decide) _).trans (D.f0 (on_ne (show (8 : Nat) ≠ 0 by decide) h)),
        fun h => (eval_put_ne (by decide) _).trans (D.f1 (on_ne (show (8 : Nat) ≠ 1 by decide) h)),
        fun h => (eval_put_ne (by decide) _).trans (D.f3 (on_ne (show (8 : Nat) ≠ 3 by decide) h)),
        fun h => (eval_put_ne (by decide) _).trans (D.f4 (on_ne (show (8 : Nat) ≠ 4 by decide) h)),
        fun h => (eval_put_ne (by decide) _).trans (D.f6 (on_ne (show (8 : Nat) ≠ 6 by decide) h)),
        fun h => (eval_put_ne (by decide) _).trans (D.f7 (on_ne (show (8 : Nat) ≠ 7 by decide) h)),
        fun h h' => absurd (hp 5 (by kernel_rfl)) (by rw [off_ne (show (8 : Nat) ≠ 5 by decide) h']; decide),
        fun h h' => absurd (on_self (i := 8) D.size (by decide)) (by rw [h']; decide),
        fun _ => ⟨A2, c2, eval_put_same (by rw [D.fr.size]; omega) _, ho2, fun g hg he e => hap g (on_ne (show (8 : Nat) ≠ 10 by decide) hg) ((eval_put_ne (by decide) _).symm.trans he) e⟩,
        fun h => absurd (on_ne (show (8 : Nat) ≠ 9 by decide) h) (by rw [hno 9 (by kernel_rfl)]; decide),
        fun h => by
        obtain ⟨g, e, h1, b', A', n', c', hb, h3⟩ := D.m10 (on_ne (show (8 : Nat) ≠ 10 by decide) h)
        exact ⟨g, (eval_put_ne (by decide) _).trans (e), h1, b', A', n', c', hb.grown hg1 (ha1 g (on_ne (show (8 : Nat) ≠ 10 by decide) h) e), fun h' => (eval_put_ne (by decide) _).trans (h3 (on_ne (show (8 : Nat) ≠ 11 by decide) h'))⟩⟩
theorem T4_s10 (D : T4 v0 a0 g5 b A0 n c xs u m L a w) (hp : ∀ j, dep T4ops 10 j = true → L.getD j false = true) (hno : ∀ j, dep T4ops j 10 = true → L.getD j false = false) :
    wpOp Tryd.prog T4ops Q 10 (fun a' w' => T4 v0 a0 g5 b A0 n c xs u m (L.setIfInBounds 10 true) a' w') a w := by
  obtain ⟨hbx2, hk⟩ := BoxI.made (w := w) (b := false) (A := none) (n := 0) (c := 0) rfl
  have hbl := D.bl.trans (hk.mono D.bl.size)
  refine op_value (o := { dst := some 12, op := Op.alloc 26, type := 0, pos := "outright.go:99", after := #[], guard := none }) (v := .pointer (some ⟨w.heap.size, 0, none⟩)) (w' := w.alloc (.cells #[.bool false, .slice none 0 0] 26)) rfl rfl ?_ ?_
  · simp only [execOp]
    go_simp
  · exact ⟨(by rw [Array.size_setIfInBounds]; exact D.size),
        (D.fr.put (by decide) _),
        hbl,
        fun h => (eval_put_ne (by decide) _).trans (D.f0 (on_ne (show (10 : Nat) ≠ 0 by decide) h)),
        fun h => (eval_put_ne (by decide) _).trans (D.f1 (on_ne (show (10 : Nat) ≠ 1 by decide) h)),
        fun h => (eval_put_ne (by decide) _).trans (D.f3 (on_ne (show (10 : Nat) ≠ 3 by decide) h)),
        fun h => (eval_put_ne (by decide) _).trans (D.f4 (on_ne (show (10 : Nat) ≠ 4 by decide) h)),
        fun h => (eval_put_ne (by decide) _).trans (D.f6 (on_ne (show (10 : Nat) ≠ 6 by decide) h)),
        fun h => (eval_put_ne (by decide) _).trans (D.f7 (on_ne (show (10 : Nat) ≠ 7 by decide) h)),
        fun h h' => by
        obtain ⟨A, c', e, ho, ha⟩ := D.m2 (on_ne (show (10 : Nat) ≠ 2 by decide) h) (off_ne (show (10 : Nat) ≠ 5 by decide) h')
        exact ⟨A, c', (eval_put_ne (by decide) _).trans (e), ho.below hk, fun g hg he e => by
          have e2 : Value.pointer (some ⟨w.heap.size, 0, none⟩) = .pointer (some ⟨g, 0, none⟩) := (eval_put_same (by rw [D.fr.size]; omega) _).symm.trans he
          simp only [Value.pointer.injEq, Option.some.injEq, Addr.mk.injEq] at e2
          have h3 := (ho.rowlt g e).2
          omega⟩,
        fun h h' => by
        obtain ⟨A, c', e, ho, ha⟩ := D.m5 (on_ne (show (10 : Nat) ≠ 5 by decide) h) (off_ne (show (10 : Nat) ≠ 8 by decide) h')
        exact ⟨A, c', (eval_put_ne (by decide) _).trans (e), ho.below hk, fun g hg he e => by
          have e2 : Value.pointer (some ⟨w.heap.size, 0, none⟩) = .pointer (some ⟨g, 0, none⟩) := (eval_put_same (by rw [D.fr.size]; omega) _).symm.trans he
          simp only [Value.pointer.injEq, Option.some.injEq, Addr.mk.injEq] at e2
          have h3 := (ho.rowlt g e).2
          omega⟩,
        fun h => by
        obtain ⟨A, c', e, ho, ha⟩ := D.m8 (on_ne (show (10 : Nat) ≠ 8 by decide) h)
        exact ⟨A, c', (eval_put_ne (by decide) _).trans (e), ho.below hk, fun g hg he e => by
          have e2 : Value.pointer (some ⟨w.heap.size, 0, none⟩) = .pointer (some ⟨g, 0, none⟩) := (eval_put_same (by rw [D.fr.size]; omega) _).symm.trans he
          simp only [Value.pointer.injEq, Option.some.injEq, Addr.mk.injEq] at e2
          have h3 := (ho.rowlt g e).2
          omega⟩,
        fun h => by
        have h1 := D.f9 (on_ne (show (10 : Nat) ≠ 9 by decide) h)
        rw [eval_put_ne (by decide), eval_put_ne (by decide)]; exact h1,
        fun _ => ⟨w.heap.size, eval_put_same (by rw [D.fr.size]; omega) _, D.bl.size, false, none, 0, 0, hbx2, fun h => absurd (on_ne (show (10 : Nat) ≠ 11 by decide) h) (by rw [hno 11 (by kernel_rfl)]; decide)⟩⟩
theorem T4_s11 (D : T4 v0 a0 g5 b A0 n c xs u m L a w) (hp : ∀ j, dep T4ops 11 j = true → L.getD j false = true) (hno : ∀ j, dep T4ops j 11 = true → L.getD j false = false) :
    wpOp Tryd.prog T4ops Q 11 (fun a' w' => T4 v0 a0 g5 b A0 n c xs u m (L.setIfInBounds 11 true) a' w') a w := by
  have h10 := hp 10 (by kernel_rfl)
  have h8 := hp 8 (by kernel_rfl)
  have h5 := hp 5 (by kernel_rfl)
  obtain ⟨A, c1, e8, ho, ha⟩ := D.m8 h8
  have e9 := D.f9 (hp 9 (by kernel_rfl))
  obtain ⟨g, eg, hge, b', A', n', c', hb, _⟩ := D.m10 h10
  refine op_skip (o := { dst := none, op := Op.store 26 (Operand.tmp 12) (Operand.tmp 51), type := 0, pos := "outright.go:99", after := #[{ on := 10, ground := Ground.data }, { on := 9, ground := Ground.data }, { on := 8, ground := Ground.chain }, { on := 0, ground := Ground.phase }, { on := 1, ground := Ground.phase }, { on := 2, ground := Ground.phase }, { on := 3, ground := Ground.phase }, { on := 4, ground := Ground.phase }, { on := 5, ground := Ground.phase }, { on := 6, ground := Ground.phase }, { on := 7, ground := Ground.phase }, { on := 8, ground := Ground.phase }, { on := 9, ground := Ground.phase }, { on := 10, ground := Ground.phase }], guard := none }) (w' := (w.setCell ⟨g, 0, none⟩ (.bool b)).setCell ⟨g, 1, none⟩ (.slice A (n + m) c1)) rfl rfl rfl ?_ ?_
  · have h0 := hb.c0
    have h1 := hb.c1
    have h2 := hb.fr 0
    have h3 := hb.fr 1
    simp only [execOp, eg, e9, e8]
    go_simp
  · exact ⟨(by rw [Array.size_setIfInBounds]; exact D.size),
        D.fr,
        (D.bl.setCell (p := ⟨g, 0, none⟩) hge _).setCell (p := ⟨g, 1, none⟩) hge _,
        fun h => D.f0 (on_ne (show (11 : Nat) ≠ 0 by decide) h),
        fun h => D.f1 (on_ne (show (11 : Nat) ≠ 1 by decide) h),
        fun h => D.f3 (on_ne (show (11 : Nat) ≠ 3 by decide) h),
        fun h => D.f4 (on_ne (show (11 : Nat) ≠ 4 by decide) h),
        fun h => D.f6 (on_ne (show (11 : Nat) ≠ 6 by decide) h),
        fun h => D.f7 (on_ne (show (11 : Nat) ≠ 7 by decide) h),
        fun h h' => absurd h5 (by rw [off_ne (show (11 : Nat) ≠ 5 by decide) h']; decide),
        fun h h' => absurd h8 (by rw [off_ne (show (11 : Nat) ≠ 8 by decide) h']; decide),
        fun _ => ⟨A, c1, e8, (ho.far (ha g h10 eg) 0 _).far (ha g h10 eg) 1 _, fun g' hg he => ha g' h10 he⟩,
        fun h => by
        have h1 := D.f9 (on_ne (show (11 : Nat) ≠ 9 by decide) h)
        exact h1,
        fun _ => ⟨g, eg, hge, b, A, (n + m), c1, (hb.set0 b).set1 A (n + m) c1, fun _ => by rw [e9, e8]⟩⟩
theorem T4_region {id : Nat} (fin : ∀ a w', Fr a0 [12, 42, 43, 44, 45, 46, 47, 48, 49, 50, 51] a → (∃ g A c', a.eval (.tmp 12) = .pointer (some ⟨g, 0, none⟩) ∧ v0.heap.size ≤ g ∧ SB w0 w' (⟨A, n + m, c', k + 200, xs ++ List.replicate m 0, v⟩ :: S0) (⟨g, b, A, n + m, c'⟩ :: T0)) → Q .normal a w') :
    (Code.region id T4ops true).wp Tryd.prog Q a0 v0 := by
  refine wp_region_inv (by kernel_rfl) (fun L a wx => T4 v0 a0 g5 b A0 n c xs u m L a wx ∧ Clo T4ops L) (fun L a wx hI => hI.1.size) ⟨?_, fun j h => by
      rw [Array.getD_eq_getD_getElem?, Array.getElem?_replicate] at h
      split at h <;> cases h⟩ (fun L a wx i hI hi => ?_) (fun L a wx hI hr => ?_)
  · have hf : ∀ j, ¬ (Array.replicate T4ops.size false).getD j false = true := fun j h => by
      rw [Array.getD_eq_getD_getElem?, Array.getElem?_replicate] at h
      split at h <;> cases h
    exact ⟨rfl, Fr.refl _ _, ⟨rfl, rfl, rfl, Nat.le_refl _, fun _ _ => rfl⟩, fun h => absurd h (hf _), fun h => absurd h (hf _), fun h => absurd h (hf _), fun h => absurd h (hf _), fun h => absurd h (hf _), fun h => absurd h (hf _), fun h => absurd h (hf _), fun h => absurd h (hf _), fun h => absurd h (hf _), fun h => absurd h (hf _), fun h => absurd h (hf _)⟩
  · have hlt2 : i < 12 := by
      obtain ⟨_, o, ho, _⟩ := mem_ready.1 hi
      exact (Array.getElem?_eq_some_iff.1 ho).1
    have hp := fun j hj => ready_pred (j := j) hi hj
    have hno := fun j hj => hI.2.no (j := j) hi hj
    have hopen : L.getD i false = false := by
      have h2 := ready_open hi
      have h3 : i < L.size := by rw [hI.1.size]; exact hlt2
      simp only [Array.getD_eq_getD_getElem?, Array.getElem?_eq_getElem h3, Option.getD_some] at h2 ⊢
      exact h2
    refine wpOp_mono (fun a' w' h => ⟨h, hI.2.set hi⟩) ?_
    match i, hlt2 with
    | 0, _ => exact T4_s0 hS hq he hn hm hbx hnu hu hlt hI.1 hp hno
    | 1, _ => exact T4_s1 hS hq he hn hm hbx hnu hu hlt hI.1 hp hno
    | 2, _ => exact T4_s2 hS hq he hn hm hbx hnu hu hlt hI.1 hp hno
    | 3, _ => exact T4_s3 hS hq he hn hm hbx hnu hu hlt hI.1 hp hno
    | 4, _ => exact T4_s4 hS hq he hn hm hbx hnu hu hlt hI.1 hp hno
    | 5, _ => exact T4_s5 hS hq he hn hm hbx hnu hu hlt hI.1 hp hopen hno
    | 6, _ => exact T4_s6 hS hq he hn hm hbx hnu hu hlt hI.1 hp hno
    | 7, _ => exact T4_s7 hS hq he hn hm hbx hnu hu hlt hI.1 hp hno
    | 8, _ => exact T4_s8 hS hq he hn hm hbx hnu hu hlt hI.1 hp hopen hno
    | 9, _ => exact T4_s9 hS hq he hn hm hbx hnu hu hlt hI.1 hp hno
    | 10, _ => exact T4_s10 hS hq he hn hm hbx hnu hu hlt hI.1 hp hno
    | 11, _ => exact T4_s11 hS hq he hn hm hbx hnu hu hlt hI.1 hp hno
    | i + 12, hi => exact absurd hi (by omega)
  · have hu2 := all_up hI.1.size (by kernel_rfl) hr
    have D := hI.1
    have h10 := hu2 10 (by decide)
    obtain ⟨A, c1, e8, ho, ha⟩ := D.m8 (hu2 8 (by decide))
    have e9 := D.f9 (hu2 9 (by decide))
    obtain ⟨g, eg, hge, b', A', n', c', hb, h3⟩ := D.m10 h10
    have e11 := (h3 (hu2 11 (by decide))).symm.trans (e9.trans (by rw [e8]))
    simp only [Value.agg.injEq, Array.mk.injEq, List.cons.injEq, Value.bool.injEq, Value.slice.injEq, and_true] at e11
    obtain ⟨rfl, rfl, rfl, rfl⟩ := e11
    have hS1 := hS.below D.bl
    obtain ⟨f1, f2, f3⟩ := hS.get he
    refine fin a wx D.fr ⟨g, A', c', eg, hge, hS1.st.cons ho.sl (by omega) (by rw [val_zeros_behind]; exact f3), fun q hq => ?_, fun q hq => ?_, fun t ht q hq hn => ?_⟩
    · rcases List.mem_cons.1 hq with e | e
      · rw [e]; exact hb
      · exact hS1.box q e
    · rcases List.mem_cons.1 hq with e | e
      · rw [e]; exact Nat.le_trans hS.st.1.size hge
      · exact hS1.from_ q e
    · rcases List.mem_cons.1 ht with e | e
      · subst e
        rcases List.mem_cons.1 hq with e' | e'
        · subst e'
          intro ad e2 e3
          have e2 : A' = some ad := e2
          exact ha g h10 eg (by rw [e2]; show some ad.block = some g; rw [e3])
        · exact N.Own.aw ho (BoxI.lt (hS.box q e'))
      · rcases List.mem_cons.1 hq with e' | e'
        · subst e'
          intro ad e2 e3
          obtain ⟨h1, _⟩ := hS.st.2 t e
          obtain ⟨ad', e4, hlt3, _⟩ := h1.at' 0 hn
          rw [e2] at e4
          injection e4 with e4
          subst e4
          have e3 : ad.block = g := e3
          omega
        · exact hS1.apart t e q e' hn
end
theorem SB.put0 {w0 w : World} {S : List Ent} {T : List Bx} {g : Nat} {b : Bool} {A : Option Addr} {n c : Nat} (h : SB w0 w S (⟨g, b, A, n, c⟩ :: T)) (hd : ∀ q ∈ T, q.g ≠ g) (b' : Bool) :
    SB w0 (w.setCell ⟨g, 0, none⟩ (.bool b')) S (⟨g, b', A, n, c⟩ :: T) := by
  have hg := h.from_ _ List.mem_cons_self
  have hB := h.box _ List.mem_cons_self
  have hbel : Below w0.heap.size w0 (w.setCell ⟨g, 0, none⟩ (.bool b')) := h.st.1.setCell (p := ⟨g, 0, none⟩) hg _
  refine ⟨⟨hbel, fun t ht => ?_⟩, fun q hq => ?_, fun q hq => ?_, fun t ht q hq => ?_⟩
  · obtain ⟨h1, h2, h3⟩ := h.st.2 t ht
    have ha := h.apart t ht _ List.mem_cons_self
    exact ⟨h1.growz (grow_set _ g 0 _) ha, h2, h3⟩
  · rcases List.mem_cons.1 hq with e | e
    · subst e; exact BoxI.set0 hB b'
    · exact BoxI.far (h.box q (List.mem_cons_of_mem _ e)) (hd q e) _
  · rcases List.mem_cons.1 hq with e | e
    · subst e; exact hg
    · exact h.from_ q (List.mem_cons_of_mem _ e)
  · rcases List.mem_cons.1 hq with e | e
    · subst e; exact h.apart t ht ⟨g, b, A, n, c⟩ List.mem_cons_self
    · exact h.apart t ht q (List.mem_cons_of_mem _ e)
end Go.Proofs.YtgahnchfefngeaaDoor
