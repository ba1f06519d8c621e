/- A state that keeps, besides, what was made since v0: it may be written over, and of what was there ahead of v0 nothing has turned. -/
import Derived.Test.YtgahnchfefngeaaGreatDoorWholeRefOut
import Derived.Test.YtgahnchfefngeaaGreatDoorWholeOwn
namespace Go.Proofs.YtgahnchfefngeaaGreatDoor
open Go.RowKit
set_option linter.unusedVariables false
set_option maxRecDepth 20000
open N
structure SO (w0 v0 w : World) (S : List Ent) (T : List Bx) (O : List Ent) : Prop where
  sb : SB w0 w S T
  bl : Below v0.heap.size v0 w
  own : ∀ t ∈ O, N.Own w v0.heap.size t.A t.n t.c t.xs
section
variable {w0 v0 w w' : World} {S O : List Ent} {T : List Bx} {A A' : Option Addr} {n c m d k k' : Nat} {xs ys : List Int} {v u z y : Int} {b b' : Bool}
theorem SO.below (h : SO w0 v0 w S T O) (hb : Below w.heap.size w w') : SO w0 v0 w' S T O :=
  ⟨h.sb.below hb, h.bl.trans (hb.mono h.bl.size), fun t ht => (h.own t ht).below hb⟩
theorem SO.alloc (h : SO w0 v0 w S T O) (o : Obj) : SO w0 v0 (w.alloc o) S T O := h.below ((Below.refl _ _).alloc (Nat.le_refl _) _)
theorem SO.allocs (h : SO w0 v0 w S T O) {o : Obj} {w1 : World} (hw : w.alloc o = w1) : SO w0 v0 w1 S T O := by subst hw; exact h.alloc o
theorem SO.drew (h : SO w0 v0 w S T O) : SO w0 v0 w.drew S T O := h.below ⟨rfl, rfl, rfl, Nat.le_refl _, fun _ _ => rfl⟩
theorem SO.drewN (h : SO w0 v0 w S T O) (k : Nat) : SO w0 v0 (w.drewN k) S T O := h.below ⟨rfl, rfl, rfl, Nat.le_refl _, fun _ _ => rfl⟩
theorem SO.drewNs {w1 : World} (h : SO w0 v0 w S T O) {k : Nat} (hw : w.drewN k = w1) : SO w0 v0 w1 S T O := by subst hw; exact h.drewN k
theorem SO.cs (h : SO w0 v0 w S T O) (i : Nat) {g : Nat} (hi : T[i]? = some ⟨g, b, A, n, c⟩) : w.cell? ⟨g, 0, none⟩ = some (.bool b) ∧ w.cell? ⟨g, 1, none⟩ = some (.slice A n c) := h.sb.cs i hi
theorem SO.lt_ (h : SO w0 v0 w S T O) (i : Nat) {q : Bx} (hi : T[i]? = some q) : q.g < w.heap.size := BoxI.lt (h.sb.box q (List.mem_of_getElem? hi))
theorem SO.boxed (h : SO w0 v0 w S T O) {w1 : World} (hw : w.alloc (.cells #[.bool b, .slice A n c] 25) = w1) : SO w0 v0 w1 S (⟨w.heap.size, b, A, n, c⟩ :: T) O :=
  have h1 := h.allocs hw
  ⟨h.sb.boxed hw, h1.bl, h1.own⟩
theorem SO.outI (h : SO w0 v0 w S T O) {m m' : Nat} {e : Ending} (hm : m ≤ m') (ho : OutI w m z e w') : ∃ A n c, e = .returned (.agg #[.bool (sg z), .slice A n c]) ∧ SO w0 v0 w' (⟨A, n, c, m', limbs (mg z), mg z⟩ :: S) T O := by
  obtain ⟨A, n, c, he, hn, hown, hb⟩ := ho
  exact ⟨A, n, c, he, h.sb.new hb hown (by omega) (limbs_val (mg_nn z)), (h.below hb).bl, (h.below hb).own⟩
theorem SO.outI2 (h : SO w0 v0 w S T O) {m m' : Nat} {q : Int} {e : Ending} (hm : m ≤ m') (ho : OutI2 w m z y q e w') :
    ∃ A n c A' n' c', e = .returned (.tuple #[.agg #[.bool (sg z), .slice A n c], .agg #[.bool (sg y), .slice A' n' c'], .int .i64 q]) ∧ SO w0 v0 w' (⟨A', n', c', m', limbs (mg y), mg y⟩ :: ⟨A, n, c, m', limbs (mg z), mg z⟩ :: S) T (⟨A', n', c', m', limbs (mg y), mg y⟩ :: ⟨A, n, c, m', limbs (mg z), mg z⟩ :: O) := by
  obtain ⟨A, n, c, A', n', c', he, hn, hn', ho1, ho2, hb⟩ := ho
  have h0 := h.below hb
  obtain ⟨A2, n2, c2, A2', n2', c2', he2, h3⟩ := h.sb.outI2 (q := q) hm ⟨A, n, c, A', n', c', rfl, hn, hn', ho1, ho2, hb⟩
  cases he2
  refine ⟨A, n, c, A', n', c', he, h3, h0.bl, fun t ht => ?_⟩
  rcases List.mem_cons.1 ht with e | e
  · rw [e]; exact ho2.mono h.bl.size
  · rcases List.mem_cons.1 e with e | e
    · rw [e]; exact ho1.mono h.bl.size
    · exact h0.own t e
theorem so_div (h : SO w0 v0 w S T O) (h1 : (⟨A, n, c, k, xs, v⟩ : Ent) ∈ S) (h2 : (⟨A', m, d, k', ys, u⟩ : Ent) ∈ S) (hk : k ≤ 1000000) (hk' : k' ≤ 1000000) (hz : iv b v = z) (hy : iv b' u = y) {q r e : Int} (hw : Way z y q r e) :
    Calls Tryz.prog 27 #[.agg #[.bool b, .slice A n c], .agg #[.bool b', .slice A' m d]] w fun e1 w' => ∃ A1 n1 c1 A2 n2 c2, e1 = .returned (.tuple #[.agg #[.bool (sg q), .slice A1 n1 c1], .agg #[.bool (sg r), .slice A2 n2 c2], .int .i64 e]) ∧
      SO w0 v0 w' (⟨A2, n2, c2, k + k' + 1, limbs (mg r), mg r⟩ :: ⟨A1, n1, c1, k + k' + 1, limbs (mg q), mg q⟩ :: S) T (⟨A2, n2, c2, k + k' + 1, limbs (mg r), mg r⟩ :: ⟨A1, n1, c1, k + k' + 1, limbs (mg q), mg q⟩ :: O) :=
  (div_o h.sb h1 h2 hk hk' hz hy hw).mono fun e1 w' ho => h.outI2 (Nat.le_refl _) ho
theorem so_rneg (h : SO w0 v0 w S T O) (h1 : (⟨A, n, c, k, xs, v⟩ : Ent) ∈ S) (hk : k ≤ 1000000) (hz : iv b v = z) :
    Calls Tryz.prog 28 #[.agg #[.bool b, .slice A n c]] w fun e w' => ∃ A n c, e = .returned (.agg #[.bool (sg (-z)), .slice A n c]) ∧ SO w0 v0 w' (⟨A, n, c, k, limbs (mg (-z)), mg (-z)⟩ :: S) T O :=
  (rneg_o h.sb h1 hk hz).mono fun e w' ho => h.outI (Nat.le_refl _) ho
theorem so_radd (h : SO w0 v0 w S T O) (h1 : (⟨A, n, c, k, xs, v⟩ : Ent) ∈ S) (h2 : (⟨A', m, d, k', ys, u⟩ : Ent) ∈ S) (hk : k ≤ 1000000) (hk' : k' ≤ 1000000) (hz : iv b v = z) (hy : iv b' u = y) :
    Calls Tryz.prog 29 #[.agg #[.bool b, .slice A n c], .agg #[.bool b', .slice A' m d]] w fun e w' => ∃ A n c, e = .returned (.agg #[.bool (sg (z + y)), .slice A n c]) ∧ SO w0 v0 w' (⟨A, n, c, k + k' + 1, limbs (mg (z + y)), mg (z + y)⟩ :: S) T O :=
  (radd_o h.sb h1 h2 hk hk' hz hy).mono fun e w' ho => h.outI (Nat.le_refl _) ho
theorem so_rsub (h : SO w0 v0 w S T O) (h1 : (⟨A, n, c, k, xs, v⟩ : Ent) ∈ S) (h2 : (⟨A', m, d, k', ys, u⟩ : Ent) ∈ S) (hk : k ≤ 1000000) (hk' : k' ≤ 1000000) (hz : iv b v = z) (hy : iv b' u = y) :
    Calls Tryz.prog 30 #[.agg #[.bool b, .slice A n c], .agg #[.bool b', .slice A' m d]] w fun e w' => ∃ A n c, e = .returned (.agg #[.bool (sg (z - y)), .slice A n c]) ∧ SO w0 v0 w' (⟨A, n, c, k + k' + 1, limbs (mg (z - y)), mg (z - y)⟩ :: S) T O :=
  (rsub_o h.sb h1 h2 hk hk' hz hy).mono fun e w' ho => h.outI (Nat.le_refl _) ho
theorem so_rmul (h : SO w0 v0 w S T O) (h1 : (⟨A, n, c, k, xs, v⟩ : Ent) ∈ S) (h2 : (⟨A', m, d, k', ys, u⟩ : Ent) ∈ S) (hk : k ≤ 1000000) (hk' : k' ≤ 1000000) (hz : iv b v = z) (hy : iv b' u = y) :
    Calls Tryz.prog 31 #[.agg #[.bool b, .slice A n c], .agg #[.bool b', .slice A' m d]] w fun e w' => ∃ A n c, e = .returned (.agg #[.bool (sg (z * y)), .slice A n c]) ∧ SO w0 v0 w' (⟨A, n, c, k + k', limbs (mg (z * y)), mg (z * y)⟩ :: S) T O :=
  (rmul_o h.sb h1 h2 hk hk' hz hy).mono fun e w' ho => h.outI (Nat.le_refl _) ho
theorem so_rsame (h : SO w0 v0 w S T O) (h1 : (⟨A, n, c, k, xs, v⟩ : Ent) ∈ S) (h2 : (⟨A', m, d, k', ys, u⟩ : Ent) ∈ S) (hb : b = b') (hx : xs = ys) :
    Calls Tryz.prog 10 #[.agg #[.bool b, .slice A n c], .agg #[.bool b', .slice A' m d]] w fun e w' => e = .returned (.bool true) ∧ SO w0 v0 w' S T O := by
  subst hb hx
  exact (wsame_any w b (h.sb.get h1).1 (h.sb.get h2).1).mono fun e w' ⟨he, hb⟩ => ⟨he, h.below hb⟩
/-- six of what was made are written over -/
theorem so_spoil6 (h : SO w0 v0 w S T O) {A0 A1 A2 A3 A4 A5 : Option Addr} {n0 n1 n2 n3 n4 n5 c0 c1 c2 c3 c4 c5 k0 k1 k2 k3 k4 k5 : Nat} {x0 x1 x2 x3 x4 x5 : List Int} {v0' v1 v2 v3 v4 v5 : Int} (b0 b1 b2 b3 b4 b5 : Bool)
    (h0 : (⟨A0, n0, c0, k0, x0, v0'⟩ : Ent) ∈ O) (h1 : (⟨A1, n1, c1, k1, x1, v1⟩ : Ent) ∈ O) (h2 : (⟨A2, n2, c2, k2, x2, v2⟩ : Ent) ∈ O) (h3 : (⟨A3, n3, c3, k3, x3, v3⟩ : Ent) ∈ O) (h4 : (⟨A4, n4, c4, k4, x4, v4⟩ : Ent) ∈ O) (h5 : (⟨A5, n5, c5, k5, x5, v5⟩ : Ent) ∈ O) :
    Calls Tryz.prog 32 #[.slice (some ⟨w.heap.size, 0, none⟩) 6 6] (w.alloc (.cells #[.bool b0, .slice A0 n0 c0, .bool b1, .slice A1 n1 c1, .bool b2, .slice A2 n2 c2, .bool b3, .slice A3 n3 c3, .bool b4, .slice A4 n4 c4, .bool b5, .slice A5 n5 c5] 25))
      fun e w' => (∃ v, e = .returned v) ∧ Below v0.heap.size v0 w' := by
  have key : ∀ t ∈ O, RowOk v0.heap.size w.heap.size (w.alloc (.cells #[.bool b0, .slice A0 n0 c0, .bool b1, .slice A1 n1 c1, .bool b2, .slice A2 n2 c2, .bool b3, .slice A3 n3 c3, .bool b4, .slice A4 n4 c4, .bool b5, .slice A5 n5 c5] 25)) t.A t.n t.c := fun t ht => by
    refine ((h.alloc _).own t ht).rowOk fun e => ?_
    have := ((h.own t ht).row.lt _ e).2
    exact Nat.lt_irrefl _ this
  refine (spoil_i _ v0.heap.size w.heap.size [(b0, A0, n0, c0), (b1, A1, n1, c1), (b2, A2, n2, c2), (b3, A3, n3, c3), (b4, A4, n4, c4), (b5, A5, n5, c5)] (ints_lit w _ _ rfl) (by simp) (fun t ht => ?_)).mono fun e w' ⟨he, hb⟩ => ⟨he, (h.alloc _).bl.trans hb⟩
  simp only [List.mem_cons, List.not_mem_nil, or_false] at ht
  rcases ht with rfl | rfl | rfl | rfl | rfl | rfl
  · exact key _ h0
  · exact key _ h1
  · exact key _ h2
  · exact key _ h3
  · exact key _ h4
  · exact key _ h5
end
end Go.Proofs.YtgahnchfefngeaaGreatDoor
