/- WholeNames' tables: rows in one block, of each of which something holds; the copy of a row in a block of its own. -/
import Derived.Test.YtgahnchfefngeaaDoorWholeRefState
namespace Go.Proofs.YtgahnchfefngeaaDoor
open Go.RowKit
set_option linter.unusedVariables false
set_option maxRecDepth 20000
open N
namespace N
def Rows1 (g n : Nat) (w : World) : Prop := ∀ k, k < n → ∃ b A m c xs z q is, w.cell? ⟨g, k * 4, none⟩ = some (.bool b) ∧ w.cell? ⟨g, k * 4 + 1, none⟩ = some (.slice A m c) ∧ w.cell? ⟨g, k * 4 + 2, none⟩ = some (.int .i64 q) ∧ w.cell? ⟨g, k * 4 + 3, none⟩ = some (.bool is) ∧
  Sl w A m c xs ∧ m ≤ 10 ∧ iv b (val B xs) = z ∧ SmOk z q is
theorem Rows1.below {g n : Nat} {w w' : World} (h : Rows1 g n w) (hg : g < w.heap.size) (hb : Below w.heap.size w w') : Rows1 g n w' := by
  intro k hk
  obtain ⟨b, A, m, c, xs, z, q, is, h0, h1, h2, h3, h4, h5⟩ := h k hk
  exact ⟨b, A, m, c, xs, z, q, is, (hb.cell hg).trans h0, (hb.cell hg).trans h1, (hb.cell hg).trans h2, (hb.cell hg).trans h3, h4.below hb, h5⟩
theorem rows1_of (w : World) (C : Array Value) (t : TypeId) (n : Nat)
    (h : ∀ k, k < n → ∃ b A m c xs z q is, C[k * 4]? = some (.bool b) ∧ C[k * 4 + 1]? = some (.slice A m c) ∧ C[k * 4 + 2]? = some (.int .i64 q) ∧ C[k * 4 + 3]? = some (.bool is) ∧ Sl w A m c xs ∧ m ≤ 10 ∧ iv b (val B xs) = z ∧ SmOk z q is) :
    Rows1 w.heap.size n (w.alloc (.cells C t)) := by
  intro k hk
  obtain ⟨b, A, m, c, xs, z, q, is, h0, h1, h2, h3, h4, h5⟩ := h k hk
  exact ⟨b, A, m, c, xs, z, q, is, by rw [World.cell?_alloc_new]; exact h0, by rw [World.cell?_alloc_new]; exact h1, by rw [World.cell?_alloc_new]; exact h2, by rw [World.cell?_alloc_new]; exact h3, h4.below ((Below.refl _ w).alloc (Nat.le_refl _) _), h5⟩
theorem rows1_at (w : World) (C : Array Value) (t : TypeId) (n : Nat) {g : Nat} (hg : w.heap.size = g)
    (h : ∀ k, k < n → ∃ b A m c xs z q is, C[k * 4]? = some (.bool b) ∧ C[k * 4 + 1]? = some (.slice A m c) ∧ C[k * 4 + 2]? = some (.int .i64 q) ∧ C[k * 4 + 3]? = some (.bool is) ∧ Sl w A m c xs ∧ m ≤ 10 ∧ iv b (val B xs) = z ∧ SmOk z q is) :
    Rows1 g n (w.alloc (.cells C t)) := by subst hg; exact rows1_of w C t n h
def Rows2 (g n : Nat) (w : World) : Prop := ∀ k, k < n → ∃ x0 x1 x2 x3 x4 : Int, w.cell? ⟨g, k * 5, none⟩ = some (.int .i64 x0) ∧ w.cell? ⟨g, k * 5 + 1, none⟩ = some (.int .i64 x1) ∧ w.cell? ⟨g, k * 5 + 2, none⟩ = some (.int .i64 x2) ∧ w.cell? ⟨g, k * 5 + 3, none⟩ = some (.int .i64 x3) ∧ w.cell? ⟨g, k * 5 + 4, none⟩ = some (.int .i64 x4) ∧
  (-9223372036854775808 ≤ x0 ∧ x0 ≤ 9223372036854775807) ∧ (-9223372036854775808 ≤ x1 ∧ x1 ≤ 9223372036854775807) ∧ (-9223372036854775808 ≤ x2 ∧ x2 ≤ 9223372036854775807) ∧ (-9223372036854775808 ≤ x3 ∧ x3 ≤ 9223372036854775807) ∧ x1 ≠ 0 ∧ x0 / x1 = x2 ∧ x0 % x1 = x3
theorem Rows2.below {g n : Nat} {w w' : World} (h : Rows2 g n w) (hg : g < w.heap.size) (hb : Below w.heap.size w w') : Rows2 g n w' := by
  intro k hk
  obtain ⟨x0, x1, x2, x3, x4, h0, h1, h2, h3, h4, h5⟩ := h k hk
  exact ⟨x0, x1, x2, x3, x4, (hb.cell hg).trans h0, (hb.cell hg).trans h1, (hb.cell hg).trans h2, (hb.cell hg).trans h3, (hb.cell hg).trans h4, h5⟩
theorem rows2_of (w : World) (C : Array Value) (t : TypeId) (n : Nat)
    (h : ∀ k, k < n → ∃ x0 x1 x2 x3 x4 : Int, C[k * 5]? = some (.int .i64 x0) ∧ C[k * 5 + 1]? = some (.int .i64 x1) ∧ C[k * 5 + 2]? = some (.int .i64 x2) ∧ C[k * 5 + 3]? = some (.int .i64 x3) ∧ C[k * 5 + 4]? = some (.int .i64 x4) ∧
  (-9223372036854775808 ≤ x0 ∧ x0 ≤ 9223372036854775807) ∧ (-9223372036854775808 ≤ x1 ∧ x1 ≤ 9223372036854775807) ∧ (-9223372036854775808 ≤ x2 ∧ x2 ≤ 9223372036854775807) ∧ (-9223372036854775808 ≤ x3 ∧ x3 ≤ 9223372036854775807) ∧ x1 ≠ 0 ∧ x0 / x1 = x2 ∧ x0 % x1 = x3) :
    Rows2 w.heap.size n (w.alloc (.cells C t)) := by
  intro k hk
  obtain ⟨x0, x1, x2, x3, x4, h0, h1, h2, h3, h4, h5⟩ := h k hk
  exact ⟨x0, x1, x2, x3, x4, by rw [World.cell?_alloc_new]; exact h0, by rw [World.cell?_alloc_new]; exact h1, by rw [World.cell?_alloc_new]; exact h2, by rw [World.cell?_alloc_new]; exact h3, by rw [World.cell?_alloc_new]; exact h4, h5⟩
def Rows3 (g n : Nat) (w : World) : Prop := ∀ k, k < n → ∃ (bs : List UInt8) (e y : Int), w.cell? ⟨g, k * 2, none⟩ = some (.string ⟨bs.toArray⟩) ∧ w.cell? ⟨g, k * 2 + 1, none⟩ = some (.int .i64 e) ∧ bs.length ≤ maxLen ∧ rdJ bs = e ∧ rdW bs = y ∧ (e ≠ 0 → y = 0)
theorem Rows3.below {g n : Nat} {w w' : World} (h : Rows3 g n w) (hg : g < w.heap.size) (hb : Below w.heap.size w w') : Rows3 g n w' := by
  intro k hk
  obtain ⟨bs, e, y, h0, h1, h2⟩ := h k hk
  exact ⟨bs, e, y, (hb.cell hg).trans h0, (hb.cell hg).trans h1, h2⟩
theorem rows3_of (w : World) (C : Array Value) (t : TypeId) (n : Nat)
    (h : ∀ k, k < n → ∃ (bs : List UInt8) (e y : Int), C[k * 2]? = some (.string ⟨bs.toArray⟩) ∧ C[k * 2 + 1]? = some (.int .i64 e) ∧ bs.length ≤ maxLen ∧ rdJ bs = e ∧ rdW bs = y ∧ (e ≠ 0 → y = 0)) :
    Rows3 w.heap.size n (w.alloc (.cells C t)) := by
  intro k hk
  obtain ⟨bs, e, y, h0, h1, h2⟩ := h k hk
  exact ⟨bs, e, y, by rw [World.cell?_alloc_new]; exact h0, by rw [World.cell?_alloc_new]; exact h1, h2⟩
/-- a block with these cells -/
def Cs (w : World) (g : Nat) (l : List Value) : Prop := g < w.heap.size ∧ ∀ j v, l[j]? = some v → w.cell? ⟨g, j, none⟩ = some v
theorem Cs.below {w w' : World} {g : Nat} {l : List Value} (h : Cs w g l) (hb : Below w.heap.size w w') : Cs w' g l := ⟨Nat.lt_of_lt_of_le h.1 hb.size, fun j v hj => (hb.cell h.1).trans (h.2 j v hj)⟩
theorem Cs.made {w w1 : World} {C : Array Value} {t : TypeId} (h : w.alloc (.cells C t) = w1) : Cs w1 w.heap.size C.toList ∧ Below w.heap.size w w1 := by
  subst h
  refine ⟨⟨by rw [World.size_alloc]; omega, fun j v hj => ?_⟩, (Below.refl _ w).alloc (Nat.le_refl _) _⟩
  rw [World.cell?_alloc_new]
  simpa using hj
theorem Cs.g2 {w : World} {g : Nat} {a b : Value} (h : Cs w g [a, b]) : w.cell? ⟨g, 0, none⟩ = some a ∧ w.cell? ⟨g, 1, none⟩ = some b := ⟨h.2 0 _ rfl, h.2 1 _ rfl⟩
theorem Cs.g4 {w : World} {g : Nat} {a b c d : Value} (h : Cs w g [a, b, c, d]) : w.cell? ⟨g, 0, none⟩ = some a ∧ w.cell? ⟨g, 1, none⟩ = some b ∧ w.cell? ⟨g, 2, none⟩ = some c ∧ w.cell? ⟨g, 3, none⟩ = some d := ⟨h.2 0 _ rfl, h.2 1 _ rfl, h.2 2 _ rfl, h.2 3 _ rfl⟩
theorem Cs.g5 {w : World} {g : Nat} {a b c d e : Value} (h : Cs w g [a, b, c, d, e]) : w.cell? ⟨g, 0, none⟩ = some a ∧ w.cell? ⟨g, 1, none⟩ = some b ∧ w.cell? ⟨g, 2, none⟩ = some c ∧ w.cell? ⟨g, 3, none⟩ = some d ∧ w.cell? ⟨g, 4, none⟩ = some e := ⟨h.2 0 _ rfl, h.2 1 _ rfl, h.2 2 _ rfl, h.2 3 _ rfl, h.2 4 _ rfl⟩
/-- a state over w, from w on: what is at hand in w -/
theorem SB.base {w : World} {A : Option Addr} {n c k : Nat} {xs : List Int} (h : Sl w A n c xs) (hk : n ≤ k) : SB w w [⟨A, n, c, k, xs, val B xs⟩] [] := (SB.start w).old h hk rfl
end N
theorem SB.belows {w0 w w' : World} {S : List Ent} {T : List Bx} (h : SB w0 w S T) (hb : Below w.heap.size w w') : SB w0 w' S T := h.below hb
end Go.Proofs.YtgahnchfefngeaaDoor
