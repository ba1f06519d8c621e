/- Calls of layer 6 at hand in a statement of a later layer: Mul, Cmp, Of over states that keep the naturals and the blocks; without those that read or write texts. -/
import Derived.Test.YtfmhghemlcbapaaGreatDoorRatC
import Derived.Test.YtfmhghemlcbapaaGreatDoorRatIs
namespace Go.Proofs.YtfmhghemlcbapaaGreatDoor
open Go.RowKit
set_option linter.unusedVariables false
set_option linter.unusedSimpArgs false
set_option maxRecDepth 20000
open N
open RC
section
variable {w0 v0 w w' : World} {S O : List Ent} {T : List Blk} {A A' : Option Addr} {n c m d k k' M : Nat} {xs ys : List Int} {v u : Int} {b : Bool} {r : Rat}
theorem SC.frm9 (h : SC w0 v0 w S T O) (h1 : (⟨A, n, c, k, xs, v⟩ : Ent) ∈ S) (h2 : (⟨A', m, d, k', ys, u⟩ : Ent) ∈ S) (hk : k ≤ M) (hk' : k' ≤ M) (hr : rv b v u = r) : Frm w b A n c xs A' m d ys M r := by
  obtain ⟨a1, a2, rfl⟩ := h.get h1
  obtain ⟨b1, b2, rfl⟩ := h.get h2
  exact ⟨a1, b1, by omega, by omega, hr⟩
theorem SC.drop (h : SC w0 v0 w S T O) : SC w0 v0 w S T [] := h.sub (fun t ht => ht) (List.Sublist.refl _) (fun t ht => by cases ht)
theorem SC.cs1 (h : SC w0 v0 w S T O) (i : Nat) {g : Nat} {x0 : Value} {ty : TypeId} (hi : T[i]? = some ⟨g, [x0], ty⟩) : w.cell? ⟨g, 0, none⟩ = some x0 := h.cell i 0 hi rfl
/-- blocks at hand, nothing else -/
theorem SC.of_blocks (hb : Below w0.heap.size w0 w) (h : ∀ q ∈ T, BlkOk w q) (hf : ∀ q ∈ T, w0.heap.size ≤ q.g) (hn : (T.map Blk.g).Nodup) : SC w0 w w [] T [] :=
  ⟨⟨hb, fun t ht => by cases ht⟩, Below.refl _ _, h, hf, hn, (fun t ht => by cases ht), (fun t ht => by cases ht), (fun t ht => by cases ht)⟩
end
section
variable {w0 v0 w w' : World} {S : List Ent} {T : List Blk} {A0 A0' A1 A1' : Option Addr} {n0 c0 n0' c0' n1 c1 n1' c1' k0 k1 k : Nat} {x0 y0 x1 y1 : List Int} {p0 q0 p1 q1 : Int} {b0 b1 : Bool} {r0 r1 r : Rat}
theorem SC.tR9 (h : SC w0 v0 w S T []) {m : Nat} {e : Ending} (hm : m ≤ k) (ho : OutR w m r e w') : ∃ A n c A' n' c', e = .returned (.agg #[.bool (sg r.num), .slice A n c, .slice A' n' c']) ∧ SC w0 v0 w' (⟨A, n, c, k, limbs (mg r.num), mg r.num⟩ :: ⟨A', n', c', k, limbs r.den, r.den⟩ :: S) T [] := by
  obtain ⟨A, n, c, A', n', c', he, h1⟩ := h.rR hm ho
  exact ⟨A, n, c, A', n', c', he, h1.sub (fun t ht => ht) (List.Sublist.refl _) (fun t ht => by cases ht)⟩
theorem SC.tRE9 (h : SC w0 v0 w S T []) {m : Nat} {j : Int} {e : Ending} (hm : m ≤ k) (ho : OutRE w m r j e w') : ∃ A n c A' n' c', e = .returned (.tuple #[.agg #[.bool (sg r.num), .slice A n c, .slice A' n' c'], .int .i64 j]) ∧ SC w0 v0 w' (⟨A, n, c, k, limbs (mg r.num), mg r.num⟩ :: ⟨A', n', c', k, limbs r.den, r.den⟩ :: S) T [] := by
  obtain ⟨A, n, c, A', n', c', he, h1⟩ := h.rRE hm ho
  exact ⟨A, n, c, A', n', c', he, h1.sub (fun t ht => ht) (List.Sublist.refl _) (fun t ht => by cases ht)⟩
theorem fmul_9 (h : SC w0 v0 w S T []) (h1 : (⟨A0, n0, c0, k0, x0, p0⟩ : Ent) ∈ S) (h2 : (⟨A0', n0', c0', k0, y0, q0⟩ : Ent) ∈ S) (g1 : (⟨A1, n1, c1, k1, x1, p1⟩ : Ent) ∈ S) (g2 : (⟨A1', n1', c1', k1, y1, q1⟩ : Ent) ∈ S) (hk0 : 1 ≤ k0 ∧ k0 ≤ 100000) (hk1 : 1 ≤ k1 ∧ k1 ≤ 100000) (hr0 : rv b0 p0 q0 = r0) (hr1 : rv b1 p1 q1 = r1) :
    Calls Tryz.prog 26 #[.agg #[.bool b0, .slice A0 n0 c0, .slice A0' n0' c0'], .agg #[.bool b1, .slice A1 n1 c1, .slice A1' n1' c1']] w fun e w' => ∃ (r : Rat), ∃ A n c A' n' c', r0 * r1 = r ∧ e = .returned (.agg #[.bool (sg r.num), .slice A n c, .slice A' n' c']) ∧ SC w0 v0 w' (⟨A, n, c, k0 + k1, limbs (mg r.num), mg r.num⟩ :: ⟨A', n', c', k0 + k1, limbs r.den, r.den⟩ :: S) T [] := by
  exact (fmul_any w (h.frm9 h1 h2 (Nat.le_refl _) (Nat.le_refl _) hr0) (h.frm9 g1 g2 (Nat.le_refl _) (Nat.le_refl _) hr1) hk0.1 hk0.2 hk1.1 hk1.2).mono fun e w' ho => have ⟨A, n, c, A', n', c', he, h3⟩ := h.tR9 (Nat.le_refl _) ho; ⟨_, A, n, c, A', n', c', rfl, he, h3⟩
theorem fcmp_9 (h : SC w0 v0 w S T []) (h1 : (⟨A0, n0, c0, k0, x0, p0⟩ : Ent) ∈ S) (h2 : (⟨A0', n0', c0', k0, y0, q0⟩ : Ent) ∈ S) (g1 : (⟨A1, n1, c1, k1, x1, p1⟩ : Ent) ∈ S) (g2 : (⟨A1', n1', c1', k1, y1, q1⟩ : Ent) ∈ S) (hk0 : 1 ≤ k0 ∧ k0 ≤ 100000) (hk1 : 1 ≤ k1 ∧ k1 ≤ 100000) (hr0 : rv b0 p0 q0 = r0) (hr1 : rv b1 p1 q1 = r1) {q : Int} (hq : rs (r0 - r1) = q) :
    Calls Tryz.prog 21 #[.agg #[.bool b0, .slice A0 n0 c0, .slice A0' n0' c0'], .agg #[.bool b1, .slice A1 n1 c1, .slice A1' n1' c1']] w fun e w' => e = .returned (.int .i64 q) ∧ SC w0 v0 w' S T [] := by
  subst hq
  exact (fcmp_any w (h.frm9 h1 h2 (Nat.le_refl _) (Nat.le_refl _) hr0) (h.frm9 g1 g2 (Nat.le_refl _) (Nat.le_refl _) hr1) hk0.1 hk0.2 hk1.1 hk1.2).mono fun e w' ⟨he, hb⟩ => ⟨he, h.below hb⟩
theorem fof_9 (h : SC w0 v0 w S T []) {x : Int} (h1 : -9223372036854775808 ≤ x) (h2 : x ≤ 9223372036854775807) :
    Calls Tryz.prog 22 #[.int .i64 x] w fun e w' => ∃ (r : Rat), ∃ A n c A' n' c', mkRat x 1 = r ∧ e = .returned (.agg #[.bool (sg r.num), .slice A n c, .slice A' n' c']) ∧ SC w0 v0 w' (⟨A, n, c, 1, limbs (mg r.num), mg r.num⟩ :: ⟨A', n', c', 1, limbs r.den, r.den⟩ :: S) T [] := by
  exact (fof_any w x h1 h2).mono fun e w' ho => have ⟨A, n, c, A', n', c', he, h3⟩ := h.tR9 (Nat.le_refl _) ho; ⟨_, A, n, c, A', n', c', rfl, he, h3⟩
end
end Go.Proofs.YtfmhghemlcbapaaGreatDoor
