/- Alias tables in memory over this translation: their blocks, rows of ints, append within a row's capacity. -/
import Derived.Test.YtfdpddlefobcpaaAliMath
import Derived.Test.YtfdpddlefobcpaaFreProg
import Derived.ArgAppend
import Derived.Deep.RegionHeld3
namespace Go.Proofs.Ytfdpddlefobcpaa
open Go.RowKit Go.Shelf
set_option linter.unusedVariables false
set_option linter.unusedSimpArgs false
set_option maxRecDepth 20000
open N
theorem infoI11 : (Try.prog.info? 3).map (fun i => (i.zero, i.size, i.bytes)) = some (some (.int .i64 0), 1, 8) := by kernel_rfl
theorem slI11 : Try.prog.underlying 58 = some (.slice 3) := Try.underlying58
theorem makeI_run (n : Nat) (h : n ≤ 4398046511104) (w : World) :
    (Instr.makeSlice 58 (.int .i64 (n : Int)) (.int .i64 (n : Int))).run Try.prog w = .ok (.slice (some ⟨w.heap.size, 0, none⟩) n n) (w.alloc (.cells (row n (fun _ => 0)).toArray 3)) := by
  rw [← zeros_row64]
  exact run_make_row' 58 3 (.int .i64 0) 8 slI11 infoI11 rfl .i64 .i64 n (by omega) (by omega) w
theorem blk_ne {w : World} {p q : Blk} (h1 : BlkOk w p) (h2 : BlkOk w q) (ht : p.ty ≠ q.ty) : p.g ≠ q.g := fun e => by
  unfold BlkOk at h1 h2
  rw [e, h2] at h1
  injection h1 with h1
  injection h1 with _ h1 _
  exact ht h1.symm
/-- a table, its cuts, its other places -/
def TA (t g1 g2 n : Nat) (W : Int) : Blk := ⟨t, [.int .i64 W, .slice (some ⟨g1, 0, none⟩) n n, .slice (some ⟨g2, 0, none⟩) n n], 60⟩
def CU (g n : Nat) (c : Nat → Int) : Blk := ⟨g, row n c, 2⟩
def OT (g n : Nat) (o : Nat → Nat) : Blk := ⟨g, row n (fun k => (o k : Int)), 3⟩
structure AlOk (w : World) (t g1 g2 n : Nat) (W : Int) (c : Nat → Int) (o : Nat → Nat) : Prop where
  tb : BlkOk w (TA t g1 g2 n W)
  cu : BlkOk w (CU g1 n c)
  ot : BlkOk w (OT g2 n o)
section
variable {w w' : World} {t g1 g2 n k : Nat} {W x : Int} {c : Nat → Int} {o : Nat → Nat}
theorem AlOk.on (h : AlOk w t g1 g2 n W c o) (hb : Below w.heap.size w w') : AlOk w' t g1 g2 n W c o := ⟨h.tb.on hb, h.cu.on hb, h.ot.on hb⟩
theorem AlOk.grown {gc : Nat} (h : AlOk w t g1 g2 n W c o) (hg : w.grownBy w' (some gc)) (h1 : t ≠ gc) (h2 : g1 ≠ gc) (h3 : g2 ≠ gc) : AlOk w' t g1 g2 n W c o := ⟨h.tb.grown hg h1, h.cu.grown hg h2, h.ot.grown hg h3⟩
theorem AlOk.ne (h : AlOk w t g1 g2 n W c o) : t ≠ g1 ∧ t ≠ g2 ∧ g1 ≠ g2 := ⟨blk_ne h.tb h.cu (show 60 ≠ 2 by decide), blk_ne h.tb h.ot (show 60 ≠ 3 by decide), blk_ne h.cu h.ot (show 2 ≠ 3 by decide)⟩
theorem AlOk.cs (h : AlOk w t g1 g2 n W c o) : w.cell? ⟨t, 0, none⟩ = some (.int .i64 W) ∧ w.cell? ⟨t, 1, none⟩ = some (.slice (some ⟨g1, 0, none⟩) n n) ∧ w.cell? ⟨t, 2, none⟩ = some (.slice (some ⟨g2, 0, none⟩) n n) :=
  ⟨BlkOk.cell (k := 0) h.tb rfl, BlkOk.cell (k := 1) h.tb rfl, BlkOk.cell (k := 2) h.tb rfl⟩
theorem AlOk.cut (h : AlOk w t g1 g2 n W c o) (hk : k < n) (hx : c k = x) : w.cell? ⟨g1, k, none⟩ = some (.int .i64 x) := by rw [← hx]; exact BlkOk.cell h.cu (row_get hk)
theorem AlOk.oth (h : AlOk w t g1 g2 n W c o) (hk : k < n) {y : Nat} (hy : o k = y) : w.cell? ⟨g2, k, none⟩ = some (.int .i64 (y : Int)) := by rw [← hy]; exact BlkOk.cell h.ot (row_get (f := fun k => (o k : Int)) hk)
theorem CU.set {g : Nat} (h : BlkOk w (CU g n c)) (k : Nat) (x : Int) : BlkOk (w.setCell ⟨g, k, none⟩ (.int .i64 x)) (CU g n (up c k x)) := by
  have h1 := BlkOk.set h k (.int .i64 x)
  simp only [CU] at h1
  rw [row_set] at h1
  exact h1
theorem OT.set {g : Nat} (h : BlkOk w (OT g n o)) (k x : Nat) : BlkOk (w.setCell ⟨g, k, none⟩ (.int .i64 (x : Int))) (OT g n (up o k x)) := by
  have h1 := BlkOk.set h k (.int .i64 (x : Int))
  simp only [OT] at h1
  rw [row_set] at h1
  unfold OT
  rwa [row_congr (g := fun j => ((up o k x j : Nat) : Int)) (fun j _ => by unfold up; split <;> rfl)] at h1
/-- both columns of a place written -/
theorem AlOk.put (h : AlOk w t g1 g2 n W c o) (k : Nat) (x : Int) (y : Nat) : AlOk ((w.setCell ⟨g1, k, none⟩ (.int .i64 x)).setCell ⟨g2, k, none⟩ (.int .i64 (y : Int))) t g1 g2 n W (up c k x) (up o k y) := by
  obtain ⟨n1, n2, n3⟩ := h.ne
  refine ⟨(h.tb.far (p := ⟨g1, k, none⟩) n1 _).far (p := ⟨g2, k, none⟩) n2 _, ?_, ?_⟩
  · exact BlkOk.far (p := ⟨g2, k, none⟩) (CU.set h.cu k x) n3 _
  · exact OT.set (BlkOk.far (p := ⟨g1, k, none⟩) h.ot (Ne.symm n3) _) k y
theorem AlOk.congr {c' : Nat → Int} {o' : Nat → Nat} (h : AlOk w t g1 g2 n W c o) (hc : ∀ j, j < n → c j = c' j) (ho : ∀ j, j < n → o j = o' j) : AlOk w t g1 g2 n W c' o' := by
  refine ⟨h.tb, ?_, ?_⟩
  · have h1 := h.cu
    unfold CU at h1 ⊢
    rwa [row_congr hc] at h1
  · have h1 := h.ot
    unfold OT at h1 ⊢
    rwa [row_congr (g := fun j => ((o' j : Nat) : Int)) (fun j hj => by rw [ho j hj])] at h1
theorem AlOk.drew (h : AlOk w t g1 g2 n W c o) : AlOk w.drew t g1 g2 n W c o := ⟨h.tb, h.cu, h.ot⟩
/-- its slices, behind a store into its cuts, and behind one into both columns -/
theorem AlOk.c12 (h : AlOk w t g1 g2 n W c o) : w.cell? ⟨t, 1, none⟩ = some (.slice (some ⟨g1, 0, none⟩) n n) ∧ w.cell? ⟨t, 2, none⟩ = some (.slice (some ⟨g2, 0, none⟩) n n) := ⟨h.cs.2.1, h.cs.2.2⟩
theorem AlOk.tb1 (h : AlOk w t g1 g2 n W c o) (k : Nat) (v : Value) : BlkOk (w.setCell ⟨g1, k, none⟩ v) (TA t g1 g2 n W) := h.tb.far (p := ⟨g1, k, none⟩) h.ne.1 _
theorem AlOk.tb2 (h : AlOk w t g1 g2 n W c o) (k : Nat) (v v' : Value) : BlkOk ((w.setCell ⟨g1, k, none⟩ v).setCell ⟨g2, k, none⟩ v') (TA t g1 g2 n W) := (h.tb1 k v).far (p := ⟨g2, k, none⟩) h.ne.2.1 _
theorem TA.c12 (h : BlkOk w (TA t g1 g2 n W)) : w.cell? ⟨t, 1, none⟩ = some (.slice (some ⟨g1, 0, none⟩) n n) ∧ w.cell? ⟨t, 2, none⟩ = some (.slice (some ⟨g2, 0, none⟩) n n) := ⟨BlkOk.cell (k := 1) h rfl, BlkOk.cell (k := 2) h rfl⟩
theorem CS.alloc11 {w0 : World} {T : List Blk} (h : CS w0 w T) (vs : List Value) (ty : TypeId) {g : Nat} (hg : w.heap.size = g) : CS w0 (w.alloc (.cells vs.toArray ty)) (⟨g, vs, ty⟩ :: T) := by
  subst hg
  exact h.new ((Below.refl _ w).alloc (Nat.le_refl _) _) (heap_alloc_new w _) (Nat.le_refl _)
end
/-- append of one int within a row's capacity -/
theorem run_app11 {w : World} {b m off k c y : Nat} {f : Nat → Int} {v : Int} {ty2 : TypeId} (ty : TypeId) (hb : BlkOk w ⟨b, row m f, 3⟩) (hy : BlkOk w ⟨y, [.int .i64 v], ty2⟩) (hroom : k + 1 ≤ c) (hfit : off + k < m) :
    (Builtin.append_ #[58, 58] ty #[.slice (some ⟨b, off, none⟩) k c, .slice (some ⟨y, 0, none⟩) 1 1]).run Try.prog w = .ok (.slice (some ⟨b, off, none⟩) (k + 1) c) (w.setCell ⟨b, off + k, none⟩ (.int .i64 v)) := by
  obtain ⟨i0, hi, hz0, hz1, hz2⟩ := info_parts infoI11
  have h := run_append_room_cells (P := Try.prog) w 58 ty 3 i0 slI11 hi b off k c ⟨y, 0, none⟩ 1 1 [.int .i64 v] (by rw [hz1]; rfl) (fun j u hu => by
      match j, hu with
      | 0, hu =>
        simp at hu
        subst hu
        exact BlkOk.cell (k := 0) hy rfl) (fun u hu => by simp at hu; subst hu; rfl) hroom (fun j hj => by
      obtain rfl : j = 0 := by simpa using hj
      have h1 : w.cell? ⟨b, off + k, none⟩ = some (.int .i64 (f (off + k))) := BlkOk.cell hb (row_get hfit)
      rw [hz1, Nat.mul_one, Nat.add_zero, h1]; rfl) (fun j hj => by
      obtain rfl : j = 0 := by simpa using hj
      exact BlkOk.fr hb _)
  rw [hz1, Nat.mul_one] at h
  rw [h]
  simp [World.setCells]
theorem wp_app11 {w : World} {ops : Array Oper} {rest : List Oper} {o : Oper} {a : Act} {Q : Exit → Act → World → Prop} (hgd : o.guard = none) (s x : Operand)
    (ho : o.op = .call { callee := .builtin .append, args := #[s, x], argTypes := #[58, 58] })
    {b m off k c y : Nat} {f : Nat → Int} {v : Int} {ty2 : TypeId} (hs : a.eval s = .slice (some ⟨b, off, none⟩) k c) (hx : a.eval x = .slice (some ⟨y, 0, none⟩) 1 1) (hb : BlkOk w ⟨b, row m f, 3⟩) (hy : BlkOk w ⟨y, [.int .i64 v], ty2⟩) (hroom : k + 1 ≤ c) (hfit : off + k < m)
    (h : wpList Try.prog ops Q rest (a.put o.dst (.slice (some ⟨b, off, none⟩) (k + 1) c)) (w.setCell ⟨b, off + k, none⟩ (.int .i64 v))) : wpList Try.prog ops Q (o :: rest) a w := by
  refine wpList_plain hgd fun K hK => ?_
  have hr := run_app11 o.type hb hy hroom hfit
  unfold Oper.wp execOp
  simp only [ho, resolve, invoke, builtin, Sem.run_bind, Sem.run_pure, Result.andThen_ok, List.map_toArray, List.map_cons, List.map_nil, hs, hx, hr]
  exact hK _ _ h
end Go.Proofs.Ytfdpddlefobcpaa
