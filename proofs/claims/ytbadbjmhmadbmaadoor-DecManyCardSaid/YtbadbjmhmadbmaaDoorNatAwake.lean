/- The examples of the document hold of the program: what each statement of layer 2 asks first, or last. -/
import Derived.Test.YtbadbjmhmadbmaaDoorNatState
namespace Go.Proofs.YtbadbjmhmadbmaaDoor
open Go.RowKit
set_option linter.unusedVariables false
set_option maxRecDepth 20000
open N
section
variable {w0 w w' : World} {S : List Ent}
theorem St.lit1 (h : St w0 w S) (x : Int) (hx : 0 ≤ x ∧ x < 18446744073709551616) : St w0 (w.alloc (.cells #[.int .u64 x] 33)) (⟨some ⟨w.heap.size, 0, none⟩, 1, 1, 1, [x], x⟩ :: S) := by
  have := h.lit [x] (Dg.one hx.1 hx.2) (by simp)
  rw [show val B [x] = x by simp [val]] at this
  exact this
theorem St.lit2 (h : St w0 w S) (x y : Int) (hx : 0 ≤ x ∧ x < 18446744073709551616) (hy : 0 ≤ y ∧ y < 18446744073709551616) :
    St w0 (w.alloc (.cells #[.int .u64 x, .int .u64 y] 33)) (⟨some ⟨w.heap.size, 0, none⟩, 2, 2, 2, [x, y], x + 18446744073709551616 * y⟩ :: S) := by
  have := h.lit [x, y] (Dg.cons hx.1 hx.2 (Dg.one hy.1 hy.2)) (by simp)
  rw [show val B [x, y] = x + 18446744073709551616 * y by simp [val]] at this
  exact this
end
theorem limbs_is (xs : List Int) {v : Int} (h : v = val B xs) (h1 : Dg B xs) (h2 : nn xs = xs.length) : limbs v = xs := limbs_lit xs v h1 h2 h.symm
theorem len_is {v : Int} {k : Nat} (h0 : 0 ≤ v) (h1 : v < 2 ^ k) (h2 : k = 0 ∨ 2 ^ (k - 1) ≤ v) : W.len v = k := len_of' v k h0 h1 h2
section
variable {w0 w w' : World} {S : List Ent}
theorem nats_lit (w : World) (l : List (Option Addr × Nat × Nat)) (cs : Array Value) (h : cs = (l.map fun t => Value.slice t.1 t.2.1 t.2.2).toArray) : Nats (w.alloc (.cells cs 23)) w.heap.size l := by
  intro k hk
  refine ⟨l[k].1, l[k].2.1, l[k].2.2, List.getElem?_eq_getElem hk, ?_⟩
  rw [World.cell?_alloc_new, h]
  simp [hk]
/-- 'Long' of two naturals -/
theorem long2_n (h : St w0 w S) (A A' : Option Addr) (n c m d : Nat) (hn : n ≤ 24) (hm : m ≤ 24) :
    Calls Tryd.prog 12 #[.slice (some ⟨w.heap.size, 0, none⟩) 2 2] (w.alloc (.cells #[.slice A n c, .slice A' m d] 23)) fun e w' => e = .returned (.bool false) ∧ St w0 w' S :=
  (long_no _ w.heap.size [(A, n, c), (A', m, d)] (nats_lit w _ _ rfl) (by simp) (by simp; omega)).mono fun e w' ⟨he, hb⟩ => ⟨he, by rw [hb]; exact h.alloc _⟩
theorem long2_y (h : St w0 w S) (A A' : Option Addr) (n c m d : Nat) (hx : n ≤ 9223372036854775807) (hy : m ≤ 9223372036854775807) (hl : ¬ (n ≤ 24 ∧ m ≤ 24)) :
    Calls Tryd.prog 12 #[.slice (some ⟨w.heap.size, 0, none⟩) 2 2] (w.alloc (.cells #[.slice A n c, .slice A' m d] 23)) fun e w' => e = .returned (.bool true) ∧ St w0 w' S :=
  (long_yes _ w.heap.size [(A, n, c), (A', m, d)] (nats_lit w _ _ rfl) (by simp) (by simp; omega) (by simp; omega)).mono fun e w' ⟨he, hb⟩ => ⟨he, by rw [hb]; exact h.alloc _⟩
theorem long3_n (h : St w0 w S) (A A' A3 : Option Addr) (n c m d p q : Nat) (hn : n ≤ 24) (hm : m ≤ 24) (hp : p ≤ 24) :
    Calls Tryd.prog 12 #[.slice (some ⟨w.heap.size, 0, none⟩) 3 3] (w.alloc (.cells #[.slice A n c, .slice A' m d, .slice A3 p q] 23)) fun e w' => e = .returned (.bool false) ∧ St w0 w' S :=
  (long_no _ w.heap.size [(A, n, c), (A', m, d), (A3, p, q)] (nats_lit w _ _ rfl) (by simp) (by simp; omega)).mono fun e w' ⟨he, hb⟩ => ⟨he, by rw [hb]; exact h.alloc _⟩
theorem long3_y (h : St w0 w S) (A A' A3 : Option Addr) (n c m d p q : Nat) (hx : n ≤ 9223372036854775807) (hy : m ≤ 9223372036854775807) (hz : p ≤ 9223372036854775807) (hl : ¬ (n ≤ 24 ∧ m ≤ 24 ∧ p ≤ 24)) :
    Calls Tryd.prog 12 #[.slice (some ⟨w.heap.size, 0, none⟩) 3 3] (w.alloc (.cells #[.slice A n c, .slice A' m d, .slice A3 p q] 23)) fun e w' => e = .returned (.bool true) ∧ St w0 w' S :=
  (long_yes _ w.heap.size [(A, n, c), (A', m, d), (A3, p, q)] (nats_lit w _ _ rfl) (by simp) (by simp; omega) (by simp; omega)).mono fun e w' ⟨he, hb⟩ => ⟨he, by rw [hb]; exact h.alloc _⟩
theorem long1_n (h : St w0 w S) (A : Option Addr) (n c : Nat) (hn : n ≤ 24) :
    Calls Tryd.prog 12 #[.slice (some ⟨w.heap.size, 0, none⟩) 1 1] (w.alloc (.cells #[.slice A n c] 23)) fun e w' => e = .returned (.bool false) ∧ St w0 w' S :=
  (long_no _ w.heap.size [(A, n, c)] (nats_lit w _ _ rfl) (by simp) (by simp; omega)).mono fun e w' ⟨he, hb⟩ => ⟨he, by rw [hb]; exact h.alloc _⟩
theorem long1_y (h : St w0 w S) (A : Option Addr) (n c : Nat) (hx : n ≤ 9223372036854775807) (hl : ¬ n ≤ 24) :
    Calls Tryd.prog 12 #[.slice (some ⟨w.heap.size, 0, none⟩) 1 1] (w.alloc (.cells #[.slice A n c] 23)) fun e w' => e = .returned (.bool true) ∧ St w0 w' S :=
  (long_yes _ w.heap.size [(A, n, c)] (nats_lit w _ _ rfl) (by simp) (by simp; omega) (by simp; omega)).mono fun e w' ⟨he, hb⟩ => ⟨he, by rw [hb]; exact h.alloc _⟩
end
end Go.Proofs.YtbadbjmhmadbmaaDoor
