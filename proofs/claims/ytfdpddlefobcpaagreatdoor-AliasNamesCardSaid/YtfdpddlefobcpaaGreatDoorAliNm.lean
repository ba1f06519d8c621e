/- What AliasNames (closed) needs (mk_alinm.py). -/
import Derived.Test.YtfdpddlefobcpaaGreatDoorGAlk
import Derived.Test.YtfdpddlefobcpaaGreatDoorRegP
import Derived.Test.YtfdpddlefobcpaaGreatDoorGRfo
namespace Go.Proofs.YtfdpddlefobcpaaGreatDoor
open Go.RowKit Go.Shelf
set_option linter.unusedVariables false
set_option linter.unusedSimpArgs false
set_option maxRecDepth 20000
open N
namespace N
theorem Il.lst11 {w : World} {g : Nat} {ty : TypeId} {xs : List Int} (h : BlkOk w ⟨g, xs.map (fun x => .int .i64 x), ty⟩) (hn : xs.length ≤ 4398046511104) (hx : ∀ x ∈ xs, -9223372036854775808 ≤ x ∧ x ≤ 9223372036854775807) : Il w (some ⟨g, 0, Option.none⟩) xs.length xs.length xs := by
  refine Il.of_blk11 h rfl (Nat.le_refl _) (by unfold maxLen; omega) hx (fun j hj => ?_)
  rw [List.getElem?_map, List.getD_eq_getElem?_getD, List.getElem?_eq_getElem hj]
  rfl
theorem Il.rep11 {w : World} {g n : Nat} {ty : TypeId} {x : Int} (h : BlkOk w ⟨g, row n (fun _ => x), ty⟩) (hn : n ≤ 4398046511104) (hx : -9223372036854775808 ≤ x ∧ x ≤ 9223372036854775807) : Il w (some ⟨g, 0, Option.none⟩) n n (List.replicate n x) := by
  refine Il.of_blk11 h (List.length_replicate ..) (Nat.le_refl _) (by unfold maxLen; omega) (fun y hy => by rw [(List.mem_replicate.1 hy).2]; exact hx) (fun j hj => ?_)
  rw [row_get hj, List.getD_eq_getElem?_getD, List.getElem?_replicate, if_pos hj]
  rfl
/-- rows of weights and what is wrong of them -/
def RW11 (g n : Nat) (w : World) : Prop := ∀ k, k < n → ∃ (A : Option Addr) (m c : Nat) (xs : List Int) (e : Int), w.cell? ⟨g, k * 2, Option.none⟩ = some (.slice A m c) ∧ w.cell? ⟨g, k * 2 + 1, Option.none⟩ = some (.int .i64 e) ∧ Il w A m c xs ∧ mayW xs = e
theorem RW11.on {g n : Nat} {w w' : World} (h : RW11 g n w) (hb : Below w.heap.size w w') : RW11 g n w' := by
  intro k hk
  obtain ⟨A, m, c, xs, e, h0, h1, h2, h3⟩ := h k hk
  have hg : g < w.heap.size := World.block_lt_of_cell? w _ h0
  exact ⟨A, m, c, xs, e, (hb.cell hg).trans h0, (hb.cell hg).trans h1, h2.below hb, h3⟩
theorem rw11_at (w : World) (C : Array Value) (t : TypeId) (n G : Nat) (hG : w.heap.size = G)
    (h : ∀ k, k < n → ∃ (A : Option Addr) (m c : Nat) (xs : List Int) (e : Int), C[k * 2]? = some (.slice A m c) ∧ C[k * 2 + 1]? = some (.int .i64 e) ∧ Il w A m c xs ∧ mayW xs = e) :
    RW11 G n (w.alloc (.cells C t)) := by
  subst hG
  intro k hk
  obtain ⟨A, m, c, xs, e, h0, h1, h2, h3⟩ := h k hk
  exact ⟨A, m, c, xs, e, by rw [World.cell?_alloc_new]; exact h0, by rw [World.cell?_alloc_new]; exact h1, h2.below ((Below.refl _ w).alloc (Nat.le_refl _) _), h3⟩
end N
section
def Wsl (e : Int) (v : Value) (W : World) : Prop := ∃ A m c xs, v = .slice A m c ∧ Il W A m c xs ∧ mayW xs = e
def Wrw (e : Int) (v : Value) (W : World) : Prop := ∃ A m c xs, v = .agg #[.slice A m c, .int .i64 e] ∧ Il W A m c xs ∧ mayW xs = e
def Wrs (n : Nat) (v : Value) (W : World) : Prop := ∃ g, v = .slice (some ⟨g, 0, none⟩) n n ∧ RW11 g n W
def Stab (φ : Value → World → Prop) : Prop := ∀ u W W', Below W.heap.size W W' → φ u W → φ u W'
theorem is_stab (c : Value) : Stab (RV.is c) := fun _ _ _ _ h => h
theorem Wsl_stab (e : Int) : Stab (Wsl e) := fun _ _ _ hb ⟨A, m, c, xs, h1, h2, h3⟩ => ⟨A, m, c, xs, h1, h2.below hb, h3⟩
theorem Wrw_stab (e : Int) : Stab (Wrw e) := fun _ _ _ hb ⟨A, m, c, xs, h1, h2, h3⟩ => ⟨A, m, c, xs, h1, h2.below hb, h3⟩
theorem Wrs_stab (n : Nat) : Stab (Wrs n) := fun _ _ _ hb ⟨g, h1, h2⟩ => ⟨g, h1, h2.on hb⟩
set_option maxHeartbeats 4000000 in
theorem names_region {Q : Exit → Act → World → Prop} {a0 : Act} {w : World} (hsz : a0.tmps.size = 246)
    (fin : ∀ (f : Nat → Value) (g : Nat) (W : World), f 55 = .slice (some ⟨g, 0, none⟩) 9 9 → f 56 = .int .i64 9 → f 57 = .int .i64 0 → RW11 g 9 W → Below w.heap.size w W → Q .normal (RV.putAll a0 ([38, 39, 40, 41, 42, 43, 44, 45, 46, 47, 48, 49, 50, 51, 52, 53, 54, 55, 56, 57].map fun d => (d, f d))) W) :
    (Code.region 3 #[{ dst := some 38, op := Op.build 44 #[(0, Operand.const (Value.slice none 0 0)), (1, Operand.const (Value.int IntKind.i64 4))], type := 44, pos := "law.go:96", after := #[], guard := none }, { dst := some 39, op := Op.makeSlice 22 (Operand.const (Value.int IntKind.i64 65)) (Operand.const (Value.int IntKind.i64 65)), type := 22, pos := "law.go:96", after := #[], guard := none }, { dst := some 40, op := Op.build 44 #[(0, Operand.tmp 39), (1, Operand.const (Value.int IntKind.i64 5))], type := 44, pos := "law.go:96", after := #[{ on := 1, ground := Ground.data }], guard := none }, { dst := some 41, op := Op.buildSlice 22 2 #[(0, Operand.const (Value.int IntKind.i64 (-1))), (1, Operand.const (Value.int IntKind.i64 0))], type := 22, pos := "law.go:96", after := #[], guard := none }, { dst := some 42, op := Op.build 44 #[(0, Operand.tmp 41), (1, Operand.const (Value.int IntKind.i64 1))], type := 44, pos := "law.go:96", after := #[{ on := 3, ground := Ground.data }], guard := none }, { dst := some 43, op := Op.buildSlice 22 1 #[(0, Operand.const (Value.int IntKind.i64 1048577))], type := 22, pos := "law.go:96", after := #[], guard := none }, { dst := some 44, op := Op.build 44 #[(0, Operand.tmp 43), (1, Operand.const (Value.int IntKind.i64 1))], type := 44, pos := "law.go:96", after := #[{ on := 5, ground := Ground.data }], guard := none }, { dst := some 45, op := Op.buildSlice 22 2 #[(0, Operand.const (Value.int IntKind.i64 0)), (1, Operand.const (Value.int IntKind.i64 0))], type := 22, pos := "law.go:96", after := #[], guard := none }, { dst := some 46, op := Op.build 44 #[(0, Operand.tmp 45), (1, Operand.const (Value.int IntKind.i64 7))], type := 44, pos := "law.go:96", after := #[{ on := 7, ground := Ground.data }], guard := none }, { dst := some 47, op := Op.makeSlice 22 (Operand.const (Value.int IntKind.i64 64)) (Operand.const (Value.int IntKind.i64 64)), type := 22, pos := "law.go:96", after := #[], guard := none }, { dst := some 48, op := Op.build 44 #[(0, Operand.tmp 47), (1, Operand.const (Value.int IntKind.i64 7))], type := 44, pos := "law.go:96", after := #[{ on := 9, ground := Ground.data }], guard := none }, { dst := some 49, op := Op.buildSlice 22 1 #[(0, Operand.const (Value.int IntKind.i64 1048576))], type := 22, pos := "law.go:96", after := #[], guard := none }, { dst := some 50, op := Op.build 44 #[(0, Operand.tmp 49), (1, Operand.const (Value.int IntKind.i64 0))], type := 44, pos := "law.go:96", after := #[{ on := 11, ground := Ground.data }], guard := none }, { dst := some 51, op := Op.buildSlice 22 2 #[(0, Operand.const (Value.int IntKind.i64 0)), (1, Operand.const (Value.int IntKind.i64 1))], type := 22, pos := "law.go:96", after := #[], guard := none }, { dst := some 52, op := Op.build 44 #[(0, Operand.tmp 51), (1, Operand.const (Value.int IntKind.i64 0))], type := 44, pos := "law.go:96", after := #[{ on := 13, ground := Ground.data }], guard := none }, { dst := some 53, op := Op.buildSlice 22 2 #[(0, Operand.const (Value.int IntKind.i64 9223372036854775807)), (1, Operand.const (Value.int IntKind.i64 9223372036854775807))], type := 22, pos := "law.go:96", after := #[], guard := none }, { dst := some 54, op := Op.build 44 #[(0, Operand.tmp 53), (1, Operand.const (Value.int IntKind.i64 1))], type := 44, pos := "law.go:96", after := #[{ on := 15, ground := Ground.data }], guard := none }, { dst := some 55, op := Op.buildSlice 45 9 #[(0, Operand.tmp 38), (1, Operand.tmp 40), (2, Operand.tmp 42), (3, Operand.tmp 44), (4, Operand.tmp 46), (5, Operand.tmp 48), (6, Operand.tmp 50), (7, Operand.tmp 52), (8, Operand.tmp 54)], type := 45, pos := "law.go:96", after := #[{ on := 0, ground := Ground.data }, { on := 2, ground := Ground.data }, { on := 4, ground := Ground.data }, { on := 6, ground := Ground.data }, { on := 8, ground := Ground.data }, { on := 10, ground := Ground.data }, { on := 12, ground := Ground.data }, { on := 14, ground := Ground.data }, { on := 16, ground := Ground.data }], guard := none }, { dst := some 56, op := Op.call { callee := Callee.builtin Builtin.len, args := #[Operand.tmp 55], argTypes := #[45] }, type := 3, pos := "law.go:96", after := #[{ on := 17, ground := Ground.data }], guard := none }, { dst := some 57, op := Op.move (Operand.const (Value.int IntKind.i64 0)), type := 3, pos := "law.go:96", after := #[], guard := none }] true).wp Tryz.prog Q a0 w := by
  refine RV.wp_region_p (by kernel_rfl) [38, 39, 40, 41, 42, 43, 44, 45, 46, 47, 48, 49, 50, 51, 52, 53, 54, 55, 56, 57] [RV.is (.agg #[.slice none 0 0, .int .i64 4]), Wsl 5, Wrw 5, Wsl 1, Wrw 1, Wsl 1, Wrw 1, Wsl 7, Wrw 7, Wsl 7, Wrw 7, Wsl 0, Wrw 0, Wsl 0, Wrw 0, Wsl 1, Wrw 1, Wrs 9, RV.is (.int .i64 9), RV.is (.int .i64 0)] (fun _ W => Below w.heap.size w W) (by kernel_rfl) rfl (by decide) (by rw [hsz]; rfl) (by kernel_rfl) (Below.refl _ w).drew ?_ ?_
  have hst : ∀ ψ ∈ ([RV.is (.agg #[.slice none 0 0, .int .i64 4]), Wsl 5, Wrw 5, Wsl 1, Wrw 1, Wsl 1, Wrw 1, Wsl 7, Wrw 7, Wsl 7, Wrw 7, Wsl 0, Wrw 0, Wsl 0, Wrw 0, Wsl 1, Wrw 1, Wrs 9, RV.is (.int .i64 9), RV.is (.int .i64 0)] : List (Value → World → Prop)), Stab ψ := by
    intro ψ hψ
    rcases List.mem_cons.1 hψ with rfl | hψ
    · exact is_stab _
    rcases List.mem_cons.1 hψ with rfl | hψ
    · exact Wsl_stab _
    rcases List.mem_cons.1 hψ with rfl | hψ
    · exact Wrw_stab _
    rcases List.mem_cons.1 hψ with rfl | hψ
    · exact Wsl_stab _
    rcases List.mem_cons.1 hψ with rfl | hψ
    · exact Wrw_stab _
    rcases List.mem_cons.1 hψ with rfl | hψ
    · exact Wsl_stab _
    rcases List.mem_cons.1 hψ with rfl | hψ
    · exact Wrw_stab _
    rcases List.mem_cons.1 hψ with rfl | hψ
    · exact Wsl_stab _
    rcases List.mem_cons.1 hψ with rfl | hψ
    · exact Wrw_stab _
    rcases List.mem_cons.1 hψ with rfl | hψ
    · exact Wsl_stab _
    rcases List.mem_cons.1 hψ with rfl | hψ
    · exact Wrw_stab _
    rcases List.mem_cons.1 hψ with rfl | hψ
    · exact Wsl_stab _
    rcases List.mem_cons.1 hψ with rfl | hψ
    · exact Wrw_stab _
    rcases List.mem_cons.1 hψ with rfl | hψ
    · exact Wsl_stab _
    rcases List.mem_cons.1 hψ with rfl | hψ
    · exact Wrw_stab _
    rcases List.mem_cons.1 hψ with rfl | hψ
    · exact Wsl_stab _
    rcases List.mem_cons.1 hψ with rfl | hψ
    · exact Wrw_stab _
    rcases List.mem_cons.1 hψ with rfl | hψ
    · exact Wrs_stab _
    rcases List.mem_cons.1 hψ with rfl | hψ
    · exact is_stab _
    rcases List.mem_cons.1 hψ with rfl | hψ
    · exact is_stab _
    · cases hψ
  intro ii hii L fa fw hLs hout hold hp hno hoff hI
  match ii, hii with
  | 0, _ =>
    refine ⟨_, _, .agg #[.slice none 0 0, .int .i64 4], fw, rfl, rfl, ?_, rfl, hI, fun q ψ u _ hψ h => h⟩
    simp only [execOp, Act.eval]
    go_simp
  | 1, _ =>
    have HBW : Below fw.heap.size fw (fw.alloc (.cells (row 65 (fun _ => 0)).toArray 2)) := (Below.refl _ fw).alloc (Nat.le_refl _) _
    have hrun := make64_run 65 (by decide) fw
    simp only [Int.cast_ofNat_Int] at hrun
    refine ⟨{ dst := some 39, op := Op.makeSlice 22 (Operand.const (Value.int IntKind.i64 65)) (Operand.const (Value.int IntKind.i64 65)), type := 22, pos := "law.go:96", after := #[], guard := none }, _, .slice (some ⟨fw.heap.size, 0, none⟩) 65 65, _, rfl, rfl, ?_, ⟨_, 65, 65, List.replicate 65 0, rfl, Il.rep11 (heap_alloc_new fw _) (by decide) (by decide), by decide +kernel⟩, hI.alloc hI.size _, fun q ψ u _ hψ h => hst ψ (List.mem_of_getElem? hψ) u _ _ HBW h⟩
    simp only [execOp, Act.eval, Sem.run_bind, hrun, Result.andThen_ok, Sem.run_pure]
  | 2, _ =>
    obtain ⟨A, m, c, xs, p, hil, hmw⟩ : Wsl 5 (fa.eval (.tmp 39)) fw := hp 1 39 _ (by kernel_rfl) rfl rfl
    refine ⟨{ dst := some 40, op := Op.build 44 #[(0, Operand.tmp 39), (1, Operand.const (Value.int IntKind.i64 5))], type := 44, pos := "law.go:96", after := #[{ on := 1, ground := Ground.data }], guard := none }, _, .agg #[.slice A m c, .int .i64 5], fw, rfl, rfl, ?_, ⟨A, m, c, xs, rfl, hil, hmw⟩, hI, fun q ψ u _ hψ h => h⟩
    simp only [execOp, List.map_toArray, List.map_cons, List.map_nil, p]
    go_simp
  | 3, _ =>
    have HBW : Below fw.heap.size fw (fw.alloc (.cells #[.int .i64 (-1), .int .i64 0] 2)) := (Below.refl _ fw).alloc (Nat.le_refl _) _
    refine ⟨{ dst := some 41, op := Op.buildSlice 22 2 #[(0, Operand.const (Value.int IntKind.i64 (-1))), (1, Operand.const (Value.int IntKind.i64 0))], type := 22, pos := "law.go:96", after := #[], guard := none }, _, .slice (some ⟨fw.heap.size, 0, none⟩) 2 2, fw.alloc (.cells #[.int .i64 (-1), .int .i64 0] 2), rfl, rfl, ?_, ⟨_, 2, 2, [-1, 0], rfl, Il.lst11 (w := fw.alloc (.cells #[.int .i64 (-1), .int .i64 0] 2)) (g := fw.heap.size) (ty := 2) (xs := [-1, 0]) (heap_alloc_new fw _) (by decide) (by decide), by decide +kernel⟩, hI.alloc hI.size _, fun q ψ u _ hψ h => hst ψ (List.mem_of_getElem? hψ) u _ _ HBW h⟩
    simp only [execOp, List.map_toArray, List.map_cons, List.map_nil, Act.eval]
    go_simp
  | 4, _ =>
    obtain ⟨A, m, c, xs, p, hil, hmw⟩ : Wsl 1 (fa.eval (.tmp 41)) fw := hp 3 41 _ (by kernel_rfl) rfl rfl
    refine ⟨{ dst := some 42, op := Op.build 44 #[(0, Operand.tmp 41), (1, Operand.const (Value.int IntKind.i64 1))], type := 44, pos := "law.go:96", after := #[{ on := 3, ground := Ground.data }], guard := none }, _, .agg #[.slice A m c, .int .i64 1], fw, rfl, rfl, ?_, ⟨A, m, c, xs, rfl, hil, hmw⟩, hI, fun q ψ u _ hψ h => h⟩
    simp only [execOp, List.map_toArray, List.map_cons, List.map_nil, p]
    go_simp
  | 5, _ =>
    have HBW : Below fw.heap.size fw (fw.alloc (.cells #[.int .i64 1048577] 2)) := (Below.refl _ fw).alloc (Nat.le_refl _) _
    refine ⟨{ dst := some 43, op := Op.buildSlice 22 1 #[(0, Operand.const (Value.int IntKind.i64 1048577))], type := 22, pos := "law.go:96", after := #[], guard := none }, _, .slice (some ⟨fw.heap.size, 0, none⟩) 1 1, fw.alloc (.cells #[.int .i64 1048577] 2), rfl, rfl, ?_, ⟨_, 1, 1, [1048577], rfl, Il.lst11 (w := fw.alloc (.cells #[.int .i64 1048577] 2)) (g := fw.heap.size) (ty := 2) (xs := [1048577]) (heap_alloc_new fw _) (by decide) (by decide), by decide +kernel⟩, hI.alloc hI.size _, fun q ψ u _ hψ h => hst ψ (List.mem_of_getElem? hψ) u _ _ HBW h⟩
    simp only [execOp, List.map_toArray, List.map_cons, List.map_nil, Act.eval]
    go_simp
  | 6, _ =>
    obtain ⟨A, m, c, xs, p, hil, hmw⟩ : Wsl 1 (fa.eval (.tmp 43)) fw := hp 5 43 _ (by kernel_rfl) rfl rfl
    refine ⟨{ dst := some 44, op := Op.build 44 #[(0, Operand.tmp 43), (1, Operand.const (Value.int IntKind.i64 1))], type := 44, pos := "law.go:96", after := #[{ on := 5, ground := Ground.data }], guard := none }, _, .agg #[.slice A m c, .int .i64 1], fw, rfl, rfl, ?_, ⟨A, m, c, xs, rfl, hil, hmw⟩, hI, fun q ψ u _ hψ h => h⟩
    simp only [execOp, List.map_toArray, List.map_cons, List.map_nil, p]
    go_simp
  | 7, _ =>
    have HBW : Below fw.heap.size fw (fw.alloc (.cells #[.int .i64 0, .int .i64 0] 2)) := (Below.refl _ fw).alloc (Nat.le_refl _) _
    refine ⟨{ dst := some 45, op := Op.buildSlice 22 2 #[(0, Operand.const (Value.int IntKind.i64 0)), (1, Operand.const (Value.int IntKind.i64 0))], type := 22, pos := "law.go:96", after := #[], guard := none }, _, .slice (some ⟨fw.heap.size, 0, none⟩) 2 2, fw.alloc (.cells #[.int .i64 0, .int .i64 0] 2), rfl, rfl, ?_, ⟨_, 2, 2, [0, 0], rfl, Il.lst11 (w := fw.alloc (.cells #[.int .i64 0, .int .i64 0] 2)) (g := fw.heap.size) (ty := 2) (xs := [0, 0]) (heap_alloc_new fw _) (by decide) (by decide), by decide +kernel⟩, hI.alloc hI.size _, fun q ψ u _ hψ h => hst ψ (List.mem_of_getElem? hψ) u _ _ HBW h⟩
    simp only [execOp, List.map_toArray, List.map_cons, List.map_nil, Act.eval]
    go_simp
  | 8, _ =>
    obtain ⟨A, m, c, xs, p, hil, hmw⟩ : Wsl 7 (fa.eval (.tmp 45)) fw := hp 7 45 _ (by kernel_rfl) rfl rfl
    refine ⟨{ dst := some 46, op := Op.build 44 #[(0, Operand.tmp 45), (1, Operand.const (Value.int IntKind.i64 7))], type := 44, pos := "law.go:96", after := #[{ on := 7, ground := Ground.data }], guard := none }, _, .agg #[.slice A m c, .int .i64 7], fw, rfl, rfl, ?_, ⟨A, m, c, xs, rfl, hil, hmw⟩, hI, fun q ψ u _ hψ h => h⟩
    simp only [execOp, List.map_toArray, List.map_cons, List.map_nil, p]
    go_simp
  | 9, _ =>
    have HBW : Below fw.heap.size fw (fw.alloc (.cells (row 64 (fun _ => 0)).toArray 2)) := (Below.refl _ fw).alloc (Nat.le_refl _) _
    have hrun := make64_run 64 (by decide) fw
    simp only [Int.cast_ofNat_Int] at hrun
    refine ⟨{ dst := some 47, op := Op.makeSlice 22 (Operand.const (Value.int IntKind.i64 64)) (Operand.const (Value.int IntKind.i64 64)), type := 22, pos := "law.go:96", after := #[], guard := none }, _, .slice (some ⟨fw.heap.size, 0, none⟩) 64 64, _, rfl, rfl, ?_, ⟨_, 64, 64, List.replicate 64 0, rfl, Il.rep11 (heap_alloc_new fw _) (by decide) (by decide), by decide +kernel⟩, hI.alloc hI.size _, fun q ψ u _ hψ h => hst ψ (List.mem_of_getElem? hψ) u _ _ HBW h⟩
    simp only [execOp, Act.eval, Sem.run_bind, hrun, Result.andThen_ok, Sem.run_pure]
  | 10, _ =>
    obtain ⟨A, m, c, xs, p, hil, hmw⟩ : Wsl 7 (fa.eval (.tmp 47)) fw := hp 9 47 _ (by kernel_rfl) rfl rfl
    refine ⟨{ dst := some 48, op := Op.build 44 #[(0, Operand.tmp 47), (1, Operand.const (Value.int IntKind.i64 7))], type := 44, pos := "law.go:96", after := #[{ on := 9, ground := Ground.data }], guard := none }, _, .agg #[.slice A m c, .int .i64 7], fw, rfl, rfl, ?_, ⟨A, m, c, xs, rfl, hil, hmw⟩, hI, fun q ψ u _ hψ h => h⟩
    simp only [execOp, List.map_toArray, List.map_cons, List.map_nil, p]
    go_simp
  | 11, _ =>
    have HBW : Below fw.heap.size fw (fw.alloc (.cells #[.int .i64 1048576] 2)) := (Below.refl _ fw).alloc (Nat.le_refl _) _
    refine ⟨{ dst := some 49, op := Op.buildSlice 22 1 #[(0, Operand.const (Value.int IntKind.i64 1048576))], type := 22, pos := "law.go:96", after := #[], guard := none }, _, .slice (some ⟨fw.heap.size, 0, none⟩) 1 1, fw.alloc (.cells #[.int .i64 1048576] 2), rfl, rfl, ?_, ⟨_, 1, 1, [1048576], rfl, Il.lst11 (w := fw.alloc (.cells #[.int .i64 1048576] 2)) (g := fw.heap.size) (ty := 2) (xs := [1048576]) (heap_alloc_new fw _) (by decide) (by decide), by decide +kernel⟩, hI.alloc hI.size _, fun q ψ u _ hψ h => hst ψ (List.mem_of_getElem? hψ) u _ _ HBW h⟩
    simp only [execOp, List.map_toArray, List.map_cons, List.map_nil, Act.eval]
    go_simp
  | 12, _ =>
    obtain ⟨A, m, c, xs, p, hil, hmw⟩ : Wsl 0 (fa.eval (.tmp 49)) fw := hp 11 49 _ (by kernel_rfl) rfl rfl
    refine ⟨{ dst := some 50, op := Op.build 44 #[(0, Operand.tmp 49), (1, Operand.const (Value.int IntKind.i64 0))], type := 44, pos := "law.go:96", after := #[{ on := 11, ground := Ground.data }], guard := none }, _, .agg #[.slice A m c, .int .i64 0], fw, rfl, rfl, ?_, ⟨A, m, c, xs, rfl, hil, hmw⟩, hI, fun q ψ u _ hψ h => h⟩
    simp only [execOp, List.map_toArray, List.map_cons, List.map_nil, p]
    go_simp
  | 13, _ =>
    have HBW : Below fw.heap.size fw (fw.alloc (.cells #[.int .i64 0, .int .i64 1] 2)) := (Below.refl _ fw).alloc (Nat.le_refl _) _
    refine ⟨{ dst := some 51, op := Op.buildSlice 22 2 #[(0, Operand.const (Value.int IntKind.i64 0)), (1, Operand.const (Value.int IntKind.i64 1))], type := 22, pos := "law.go:96", after := #[], guard := none }, _, .slice (some ⟨fw.heap.size, 0, none⟩) 2 2, fw.alloc (.cells #[.int .i64 0, .int .i64 1] 2), rfl, rfl, ?_, ⟨_, 2, 2, [0, 1], rfl, Il.lst11 (w := fw.alloc (.cells #[.int .i64 0, .int .i64 1] 2)) (g := fw.heap.size) (ty := 2) (xs := [0, 1]) (heap_alloc_new fw _) (by decide) (by decide), by decide +kernel⟩, hI.alloc hI.size _, fun q ψ u _ hψ h => hst ψ (List.mem_of_getElem? hψ) u _ _ HBW h⟩
    simp only [execOp, List.map_toArray, List.map_cons, List.map_nil, Act.eval]
    go_simp
  | 14, _ =>
    obtain ⟨A, m, c, xs, p, hil, hmw⟩ : Wsl 0 (fa.eval (.tmp 51)) fw := hp 13 51 _ (by kernel_rfl) rfl rfl
    refine ⟨{ dst := some 52, op := Op.build 44 #[(0, Operand.tmp 51), (1, Operand.const (Value.int IntKind.i64 0))], type := 44, pos := "law.go:96", after := #[{ on := 13, ground := Ground.data }], guard := none }, _, .agg #[.slice A m c, .int .i64 0], fw, rfl, rfl, ?_, ⟨A, m, c, xs, rfl, hil, hmw⟩, hI, fun q ψ u _ hψ h => h⟩
    simp only [execOp, List.map_toArray, List.map_cons, List.map_nil, p]
    go_simp
  | 15, _ =>
    have HBW : Below fw.heap.size fw (fw.alloc (.cells #[.int .i64 9223372036854775807, .int .i64 9223372036854775807] 2)) := (Below.refl _ fw).alloc (Nat.le_refl _) _
    refine ⟨{ dst := some 53, op := Op.buildSlice 22 2 #[(0, Operand.const (Value.int IntKind.i64 9223372036854775807)), (1, Operand.const (Value.int IntKind.i64 9223372036854775807))], type := 22, pos := "law.go:96", after := #[], guard := none }, _, .slice (some ⟨fw.heap.size, 0, none⟩) 2 2, fw.alloc (.cells #[.int .i64 9223372036854775807, .int .i64 9223372036854775807] 2), rfl, rfl, ?_, ⟨_, 2, 2, [9223372036854775807, 9223372036854775807], rfl, Il.lst11 (w := fw.alloc (.cells #[.int .i64 9223372036854775807, .int .i64 9223372036854775807] 2)) (g := fw.heap.size) (ty := 2) (xs := [9223372036854775807, 9223372036854775807]) (heap_alloc_new fw _) (by decide) (by decide), by decide +kernel⟩, hI.alloc hI.size _, fun q ψ u _ hψ h => hst ψ (List.mem_of_getElem? hψ) u _ _ HBW h⟩
    simp only [execOp, List.map_toArray, List.map_cons, List.map_nil, Act.eval]
    go_simp
  | 16, _ =>
    obtain ⟨A, m, c, xs, p, hil, hmw⟩ : Wsl 1 (fa.eval (.tmp 53)) fw := hp 15 53 _ (by kernel_rfl) rfl rfl
    refine ⟨{ dst := some 54, op := Op.build 44 #[(0, Operand.tmp 53), (1, Operand.const (Value.int IntKind.i64 1))], type := 44, pos := "law.go:96", after := #[{ on := 15, ground := Ground.data }], guard := none }, _, .agg #[.slice A m c, .int .i64 1], fw, rfl, rfl, ?_, ⟨A, m, c, xs, rfl, hil, hmw⟩, hI, fun q ψ u _ hψ h => h⟩
    simp only [execOp, List.map_toArray, List.map_cons, List.map_nil, p]
    go_simp
  | 17, _ =>
    have p38 : fa.eval (.tmp 38) = .agg #[.slice none 0 0, .int .i64 4] := hp 0 38 _ (by kernel_rfl) rfl rfl
    obtain ⟨A40, m40, c40, xs40, p40, l40, e40⟩ : Wrw 5 (fa.eval (.tmp 40)) fw := hp 2 40 _ (by kernel_rfl) rfl rfl
    obtain ⟨A42, m42, c42, xs42, p42, l42, e42⟩ : Wrw 1 (fa.eval (.tmp 42)) fw := hp 4 42 _ (by kernel_rfl) rfl rfl
    obtain ⟨A44, m44, c44, xs44, p44, l44, e44⟩ : Wrw 1 (fa.eval (.tmp 44)) fw := hp 6 44 _ (by kernel_rfl) rfl rfl
    obtain ⟨A46, m46, c46, xs46, p46, l46, e46⟩ : Wrw 7 (fa.eval (.tmp 46)) fw := hp 8 46 _ (by kernel_rfl) rfl rfl
    obtain ⟨A48, m48, c48, xs48, p48, l48, e48⟩ : Wrw 7 (fa.eval (.tmp 48)) fw := hp 10 48 _ (by kernel_rfl) rfl rfl
    obtain ⟨A50, m50, c50, xs50, p50, l50, e50⟩ : Wrw 0 (fa.eval (.tmp 50)) fw := hp 12 50 _ (by kernel_rfl) rfl rfl
    obtain ⟨A52, m52, c52, xs52, p52, l52, e52⟩ : Wrw 0 (fa.eval (.tmp 52)) fw := hp 14 52 _ (by kernel_rfl) rfl rfl
    obtain ⟨A54, m54, c54, xs54, p54, l54, e54⟩ : Wrw 1 (fa.eval (.tmp 54)) fw := hp 16 54 _ (by kernel_rfl) rfl rfl
    have HBW : Below fw.heap.size fw (fw.alloc (.cells #[.slice none 0 0, .int .i64 4, .slice A40 m40 c40, .int .i64 5, .slice A42 m42 c42, .int .i64 1, .slice A44 m44 c44, .int .i64 1, .slice A46 m46 c46, .int .i64 7, .slice A48 m48 c48, .int .i64 7, .slice A50 m50 c50, .int .i64 0, .slice A52 m52 c52, .int .i64 0, .slice A54 m54 c54, .int .i64 1] 44)) := (Below.refl _ fw).alloc (Nat.le_refl _) _
    refine ⟨{ dst := some 55, op := Op.buildSlice 45 9 #[(0, Operand.tmp 38), (1, Operand.tmp 40), (2, Operand.tmp 42), (3, Operand.tmp 44), (4, Operand.tmp 46), (5, Operand.tmp 48), (6, Operand.tmp 50), (7, Operand.tmp 52), (8, Operand.tmp 54)], type := 45, pos := "law.go:96", after := #[{ on := 0, ground := Ground.data }, { on := 2, ground := Ground.data }, { on := 4, ground := Ground.data }, { on := 6, ground := Ground.data }, { on := 8, ground := Ground.data }, { on := 10, ground := Ground.data }, { on := 12, ground := Ground.data }, { on := 14, ground := Ground.data }, { on := 16, ground := Ground.data }], guard := none }, _, .slice (some ⟨fw.heap.size, 0, none⟩) 9 9, fw.alloc (.cells #[.slice none 0 0, .int .i64 4, .slice A40 m40 c40, .int .i64 5, .slice A42 m42 c42, .int .i64 1, .slice A44 m44 c44, .int .i64 1, .slice A46 m46 c46, .int .i64 7, .slice A48 m48 c48, .int .i64 7, .slice A50 m50 c50, .int .i64 0, .slice A52 m52 c52, .int .i64 0, .slice A54 m54 c54, .int .i64 1] 44), rfl, rfl, ?_, ⟨fw.heap.size, rfl, ?_⟩, hI.alloc hI.size _, fun q ψ u _ hψ h => hst ψ (List.mem_of_getElem? hψ) u _ _ HBW h⟩
    · simp only [execOp, List.map_toArray, List.map_cons, List.map_nil, p38, p40, p42, p44, p46, p48, p50, p52, p54]
      go_simp
    · refine rw11_at _ _ _ 9 _ rfl ?_
      intro k hk
      match k, hk with
      | 0, _ => exact ⟨none, 0, 0, [], 4, rfl, rfl, Il.none, by decide⟩
      | 1, _ => exact ⟨A40, m40, c40, xs40, 5, rfl, rfl, l40, e40⟩
      | 2, _ => exact ⟨A42, m42, c42, xs42, 1, rfl, rfl, l42, e42⟩
      | 3, _ => exact ⟨A44, m44, c44, xs44, 1, rfl, rfl, l44, e44⟩
      | 4, _ => exact ⟨A46, m46, c46, xs46, 7, rfl, rfl, l46, e46⟩
      | 5, _ => exact ⟨A48, m48, c48, xs48, 7, rfl, rfl, l48, e48⟩
      | 6, _ => exact ⟨A50, m50, c50, xs50, 0, rfl, rfl, l50, e50⟩
      | 7, _ => exact ⟨A52, m52, c52, xs52, 0, rfl, rfl, l52, e52⟩
      | 8, _ => exact ⟨A54, m54, c54, xs54, 1, rfl, rfl, l54, e54⟩
  | 18, _ =>
    obtain ⟨g, p, _⟩ : Wrs 9 (fa.eval (.tmp 55)) fw := hp 17 55 _ (by kernel_rfl) rfl rfl
    refine ⟨_, _, .int .i64 9, fw, rfl, rfl, ?_, rfl, hI, fun q ψ u _ hψ h => h⟩
    simp only [Act.eval] at p
    simp only [execOp, Act.eval]
    go_simp
  | 19, _ =>
    refine ⟨_, _, .int .i64 0, fw, rfl, rfl, ?_, rfl, hI, fun q ψ u _ hψ h => h⟩
    rfl
  | i + 20, hi => exact absurd hi (by show ¬ (i + 20 < 20); omega)
  intro f L W hf hI
  obtain ⟨g, e, hr⟩ : Wrs 9 (f 55) W := hf 17 55 _ rfl rfl
  exact fin f g W e (hf 18 56 _ rfl rfl) (hf 19 57 _ rfl rfl) hr hI
end
namespace N
/-- rows of weights, cuts and other places -/
def RC11 (g n : Nat) (w : World) : Prop := ∀ k, k < n → ∃ (A : Option Addr) (m c : Nat) (xs : List Int) (A1 : Option Addr) (c1 : Nat) (cs : List Int) (A2 : Option Addr) (c2 : Nat) (os : List Int), w.cell? ⟨g, k * 3, Option.none⟩ = some (.slice A m c) ∧ w.cell? ⟨g, k * 3 + 1, Option.none⟩ = some (.slice A1 m c1) ∧ w.cell? ⟨g, k * 3 + 2, Option.none⟩ = some (.slice A2 m c2) ∧
  Il w A m c xs ∧ Il w A1 m c1 cs ∧ Il w A2 m c2 os ∧ mayW xs = 0 ∧ ∀ i, i < m → cs[i]? = some (cutA xs i) ∧ os[i]? = some ((othA xs i : Nat) : Int)
theorem RC11.on {g n : Nat} {w w' : World} (h : RC11 g n w) (hb : Below w.heap.size w w') : RC11 g n w' := by
  intro k hk
  obtain ⟨A, m, c, xs, A1, c1, cs, A2, c2, os, h0, h1, h2, h3, h4, h5, h6⟩ := h k hk
  have hg : g < w.heap.size := World.block_lt_of_cell? w _ h0
  exact ⟨A, m, c, xs, A1, c1, cs, A2, c2, os, (hb.cell hg).trans h0, (hb.cell hg).trans h1, (hb.cell hg).trans h2, h3.below hb, h4.below hb, h5.below hb, h6⟩
theorem rc11_at (w : World) (C : Array Value) (t : TypeId) (n G : Nat) (hG : w.heap.size = G)
    (h : ∀ k, k < n → ∃ (A : Option Addr) (m c : Nat) (xs : List Int) (A1 : Option Addr) (c1 : Nat) (cs : List Int) (A2 : Option Addr) (c2 : Nat) (os : List Int), C[k * 3]? = some (.slice A m c) ∧ C[k * 3 + 1]? = some (.slice A1 m c1) ∧ C[k * 3 + 2]? = some (.slice A2 m c2) ∧
      Il w A m c xs ∧ Il w A1 m c1 cs ∧ Il w A2 m c2 os ∧ mayW xs = 0 ∧ ∀ i, i < m → cs[i]? = some (cutA xs i) ∧ os[i]? = some ((othA xs i : Nat) : Int)) :
    RC11 G n (w.alloc (.cells C t)) := by
  subst hG
  intro k hk
  obtain ⟨A, m, c, xs, A1, c1, cs, A2, c2, os, h0, h1, h2, h3, h4, h5, h6⟩ := h k hk
  have hb := (Below.refl w.heap.size w).alloc (Nat.le_refl _) (.cells C t)
  exact ⟨A, m, c, xs, A1, c1, cs, A2, c2, os, by rw [World.cell?_alloc_new]; exact h0, by rw [World.cell?_alloc_new]; exact h1, by rw [World.cell?_alloc_new]; exact h2, h3.below hb, h4.below hb, h5.below hb, h6⟩
end N
section
variable {w0 v0 w : World} {T : List Blk} {S O : List Ent} {tn gc a n c m d : Nat} {p A A' : Option Addr} {o : Bool} {l : List UInt8} {ty : TypeId} {r : Rat}
theorem CS.blk11 (h : CS w0 w T) (vs : List Value) (ty : TypeId) : CS w0 (w.alloc (.cells vs.toArray ty)) (⟨w.heap.size, vs, ty⟩ :: T) := h.alloc11 vs ty rfl
theorem CS.of_blk11 (hb : Below w0.heap.size w0 w) : CS w0 w [] := ⟨hb, (fun q hq => by cases hq), (fun q hq => by cases hq), List.nodup_nil⟩
theorem nolen11 (h : BlkOk w ⟨tn, [.int .i64 0, .slice none 0 0, .slice none 0 0], ty⟩) (hp : p = none ∨ p = some ⟨tn, 0, none⟩) :
    Calls Tryz.prog 20 #[.pointer p] w fun e w' => e = .returned (.int .i64 ((0 : Nat) : Int)) ∧ w' = w := by
  rcases hp with rfl | rfl
  · exact alen_nil w
  · exact alen_blk h
theorem nosum11 (h : BlkOk w ⟨tn, [.int .i64 0, .slice none 0 0, .slice none 0 0], ty⟩) (hp : p = none ∨ p = some ⟨tn, 0, none⟩) :
    Calls Tryz.prog 21 #[.pointer p] w fun e w' => e = .returned (.int .i64 0) ∧ w' = w := by
  rcases hp with rfl | rfl
  · exact asum_nil w
  · exact asum_blk h
theorem noref11 (h : BlkOk w ⟨tn, [.int .i64 0, .slice none 0 0, .slice none 0 0], ty⟩) (hp : p = none ∨ p = some ⟨tn, 0, none⟩) :
    Calls Tryz.prog 41 #[.pointer p, .int .i64 0] w fun e w' => e = .returned (.int .i64 2) ∧ w' = w := refused_any (nolen11 h hp) (by rw [if_pos rfl])
theorem cut11_s (h : CS w0 w T) (i : Nat) (hi : T[i]? = some ⟨tn, [.int .i64 0, .slice none 0 0, .slice none 0 0], ty⟩) (hp : p = none ∨ p = some ⟨tn, 0, none⟩) :
    Calls Tryz.prog 16 #[.pointer p, .int .i64 0] w fun e w' => e = .returned (.tuple #[.int .i64 0, .int .i64 2]) ∧ CS w0 w' T := by
  refine (cut_no (noref11 (h.get i hi) hp) (by decide)).mono ?_
  rintro e w' ⟨rfl, rfl⟩
  exact ⟨rfl, h⟩
theorem other11_s (h : CS w0 w T) (i : Nat) (hi : T[i]? = some ⟨tn, [.int .i64 0, .slice none 0 0, .slice none 0 0], ty⟩) (hp : p = none ∨ p = some ⟨tn, 0, none⟩) :
    Calls Tryz.prog 17 #[.pointer p, .int .i64 0] w fun e w' => e = .returned (.tuple #[.int .i64 0, .int .i64 2]) ∧ CS w0 w' T := by
  refine (other_no (noref11 (h.get i hi) hp) (by decide)).mono ?_
  rintro e w' ⟨rfl, rfl⟩
  exact ⟨rfl, h⟩
theorem pick11_s (h : CS w0 w T) (i : Nat) (hi : T[i]? = some ⟨tn, [.int .i64 0, .slice none 0 0, .slice none 0 0], ty⟩) (hp : p = none ∨ p = some ⟨tn, 0, none⟩) :
    Calls Tryz.prog 18 #[.pointer p, .int .i64 0, .int .i64 0] w fun e w' => e = .returned (.tuple #[.int .i64 0, .int .i64 2]) ∧ CS w0 w' T := by
  refine (apick_no (noref11 (h.get i hi) hp) (by decide) 0).mono ?_
  rintro e w' ⟨rfl, rfl⟩
  exact ⟨rfl, h⟩
theorem share11_s (h : CS w0 w T) (i : Nat) (hi : T[i]? = some ⟨tn, [.int .i64 0, .slice none 0 0, .slice none 0 0], ty⟩) (hp : p = none ∨ p = some ⟨tn, 0, none⟩) :
    Calls Tryz.prog 19 #[.pointer p, .int .i64 0] w fun e w' => e = .returned (.tuple #[.agg #[.bool false, .slice none 0 0, .slice none 0 0], .int .i64 2]) ∧ CS w0 w' T := by
  refine (ashare_no (z := 0) (fun X hb => noref11 ((h.get i hi).on hb) hp) (by decide)).mono ?_
  rintro e w' ⟨rfl, hb⟩
  exact ⟨rfl, h.below hb⟩
theorem draw11_s (h : CS w0 w T) (i k : Nat) (hi : T[i]? = some ⟨tn, [.int .i64 0, .slice none 0 0, .slice none 0 0], ty⟩) (hp : p = none ∨ p = some ⟨tn, 0, none⟩) (hk : T[k]? = some (K gc l a o)) (hB : isB l = true) (ha : a ≤ l.length) :
    Calls Tryz.prog 12 #[.pointer p, .pointer (some ⟨gc, 0, none⟩)] w fun e w' => e = .returned (.tuple #[.int .i64 0, .bool false]) ∧ CS w0 w' (T.set k (K gc l a o)) := by
  refine (adraw_zero (nolen11 (h.get i hi) hp) (h.get k hk) hB ha).mono ?_
  rintro e w' ⟨rfl, hg, hc⟩
  exact ⟨rfl, h.turn k hk hg hc⟩
theorem cost11_c (h : SC w0 v0 w S T O) (hn : BlkOk w ⟨tn, [.int .i64 0, .slice none 0 0, .slice none 0 0], ty⟩) (hp : p = none ∨ p = some ⟨tn, 0, none⟩) (hr : mkRat 0 1 = r) :
    Calls Tryz.prog 24 #[.pointer p] w fun e w' => ∃ A n c A' n' c', e = .returned (.agg #[.bool (sg r.num), .slice A n c, .slice A' n' c']) ∧ SC w0 v0 w' (⟨A, n, c, 1, limbs (mg r.num), mg r.num⟩ :: ⟨A', n', c', 1, limbs r.den, r.den⟩ :: S) T (⟨A, n, c, 1, limbs (mg r.num), mg r.num⟩ :: ⟨A', n', c', 1, limbs r.den, r.den⟩ :: O) :=
  (acost_zero (fun X hb => nolen11 (hn.on hb) hp) hr).mono fun e w' ho => h.rR (Nat.le_refl _) ho
theorem of11_c (h : SC w0 v0 w S T O) (hr : mkRat 0 1 = r) :
    Calls Tryz.prog 25 #[.int .i64 0] w fun e w' => ∃ A n c A' n' c', e = .returned (.agg #[.bool (sg r.num), .slice A n c, .slice A' n' c']) ∧ SC w0 v0 w' (⟨A, n, c, 1, limbs (mg r.num), mg r.num⟩ :: ⟨A', n', c', 1, limbs r.den, r.den⟩ :: S) T (⟨A, n, c, 1, limbs (mg r.num), mg r.num⟩ :: ⟨A', n', c', 1, limbs r.den, r.den⟩ :: O) :=
  (r6of_any w (x := 0) (by decide) (by decide) hr).mono fun e w' ho => h.rR (Nat.le_refl _) ho
theorem count11_c (h : SC w0 v0 w S T O) (h1 : (⟨A, n, c, 1, limbs (mg r.num), mg r.num⟩ : Ent) ∈ S) (h2 : (⟨A', m, d, 1, limbs r.den, r.den⟩ : Ent) ∈ S) :
    Calls Tryz.prog 23 #[.agg #[.bool (sg r.num), .slice A n c, .slice A' m d]] w fun e w' => ∃ A n c A' n' c', e = .returned (.agg #[.bool (sg r.num), .slice A n c, .slice A' n' c']) ∧ SC w0 v0 w' (⟨A, n, c, 1, limbs (mg r.num), mg r.num⟩ :: ⟨A', n', c', 1, limbs r.den, r.den⟩ :: S) T (⟨A, n, c, 1, limbs (mg r.num), mg r.num⟩ :: ⟨A', n', c', 1, limbs r.den, r.den⟩ :: O) := by
  obtain ⟨a1, a2, e1⟩ := h.get h1
  obtain ⟨b1, b2, e2⟩ := h.get h2
  exact (r6count_p (M := 1) w (sg r.num) a1 b1 a2 b2 (Nat.le_refl _) (by decide) (by have := rden_pos r; first | (rw [← e2]; exact this) | (rw [e2]; exact this)) (by first | (rw [← e1, ← e2]; exact rv_self r) | (rw [e1, e2]; exact rv_self r))).mono fun e w' ho => h.rR (Nat.le_refl _) ho
end
end Go.Proofs.YtfdpddlefobcpaaGreatDoor
