/- Is of the document's layer 6: two fractions that are the same, over a state; without the calls of the program's fractions. -/
import Derived.Test.YtfdpddlefobcpaaGreatDoorRatCalls
namespace Go.Proofs.YtfdpddlefobcpaaGreatDoor
open Go.RowKit
set_option linter.unusedVariables false
set_option linter.unusedSimpArgs false
set_option maxRecDepth 20000
open N
section
variable {w0 v0 w w' : World} {S O : List Ent} {T : List Blk} {A A' : Option Addr} {n c m d k k' M : Nat} {xs ys : List Int} {v u : Int} {b : Bool} {r : Rat}
theorem SC.tRZ (h : SC w0 v0 w S T O) {j : Int} {e : Ending} (ho : OutRZ w j e w') : e = .returned (.tuple #[.agg #[.bool false, .slice none 0 0, .slice none 0 0], .int .i64 j]) ∧ SC w0 v0 w' S T O := ⟨ho.1, h.below ho.2⟩
theorem rsame9_c (h : SC w0 v0 w S T O) (h1 : (⟨A, n, c, k, xs, v⟩ : Ent) ∈ S) (h2 : (⟨A', m, d, k', ys, u⟩ : Ent) ∈ S) {q : Bool} (hq : decide (xs = ys) = q) :
    Calls Tryz.prog 43 #[.slice A n c, .slice A' m d] w fun e w' => e = .returned (.bool q) ∧ SC w0 v0 w' S T O := by
  subst hq
  exact (same_any w A A' n c m d xs ys (h.get h1).1 (h.get h2).1).mono fun e w' ⟨he, q, hb⟩ => ⟨he, by rw [hb]; exact h.drewN q⟩
end
section
variable {w : World} {A0 A0' A1 A1' : Option Addr} {n0 c0 n0' c0' n1 c1 n1' c1' : Nat} {x0 x0' : List Int} {b : Bool}
theorem is9_any (w : World) (b : Bool) (h1 : Sl w A0 n0 c0 x0) (h2 : Sl w A0' n0' c0' x0') (g1 : Sl w A1 n1 c1 x0) (g2 : Sl w A1' n1' c1' x0') :
    Calls Tryz.prog 22 #[.agg #[.bool b, .slice A0 n0 c0, .slice A0' n0' c0'], .agg #[.bool b, .slice A1 n1 c1, .slice A1' n1' c1']] w fun e w' => e = .returned (.bool true) ∧ Below w.heap.size w w' := by
  have hS := Lib.hid (((((SC.start w).old (k := n1') g2 (Nat.le_refl _) rfl).old (k := n1) g1 (Nat.le_refl _) rfl).old (k := n0') h2 (Nat.le_refl _) rfl).old (k := n0) h1 (Nat.le_refl _) rfl)
  clear h1 h2 g1 g2
  go_enter Tryz.func22, Tryz.ntmps22
  have h1 := ((hS.out.boxed (vs := [.bool b, .slice A0 n0 c0, .slice A0' n0' c0']) (ty := 62) rfl rfl).boxed (vs := [.bool b, .slice A1 n1 c1, .slice A1' n1' c1']) (ty := 62) rfl rfl)
  try simp only [World.size_alloc] at h1
  obtain ⟨p0_0, p1_0, p2_0⟩ := h1.cs3 0 rfl
  obtain ⟨p0_1, p1_1, p2_1⟩ := h1.cs3 1 rfl
  clear h1
  go_wp2_with fail
  clear p0_0 p1_0 p2_0 p0_1 p1_1 p2_1
  generalize hwa : World.alloc (World.alloc w _) _ = v1
  have h1 := ((hS.out.boxed (vs := [.bool b, .slice A0 n0 c0, .slice A0' n0' c0']) (ty := 62) rfl rfl).boxed (vs := [.bool b, .slice A1 n1 c1, .slice A1' n1' c1']) (ty := 62) rfl hwa)
  simp only [World.size_alloc] at h1
  have hsz : v1.heap.size = w.heap.size + 1 + 1 := by rw [← hwa]; simp only [World.size_alloc]
  try rw [← hsz]
  clear hwa hsz
  clear hS; have hS := Lib.hid h1; clear h1
  obtain ⟨x0_0, x1_0, x2_0⟩ := hS.out.cs3 0 rfl
  obtain ⟨x0_1, x1_1, x2_1⟩ := hS.out.cs3 1 rfl
  go_wp2_with fail
  go_at_call 43
  with_reducible refine (rsame9_c (q := true) hS.out (by repeat (first | exact List.mem_cons_self | apply List.mem_cons_of_mem)) (by repeat (first | exact List.mem_cons_self | apply List.mem_cons_of_mem)) (decide_eq_true rfl)).mono ?_
  rintro e v2 ⟨rfl, h1⟩
  clear x0_0 x1_0 x2_0 x0_1 x1_1 x2_1
  clear hS; have hS := Lib.hid h1; clear h1
  obtain ⟨x0_0, x1_0, x2_0⟩ := hS.out.cs3 0 rfl
  obtain ⟨x0_1, x1_1, x2_1⟩ := hS.out.cs3 1 rfl
  go_wp2_with fail
  go_at_call 43
  with_reducible refine (rsame9_c (q := true) hS.out (by repeat (first | exact List.mem_cons_self | apply List.mem_cons_of_mem)) (by repeat (first | exact List.mem_cons_self | apply List.mem_cons_of_mem)) (decide_eq_true rfl)).mono ?_
  rintro e v3 ⟨rfl, h1⟩
  clear x0_0 x1_0 x2_0 x0_1 x1_1 x2_1
  clear hS; have hS := Lib.hid h1; clear h1
  obtain ⟨x0_0, x1_0, x2_0⟩ := hS.out.cs3 0 rfl
  obtain ⟨x0_1, x1_1, x2_1⟩ := hS.out.cs3 1 rfl
  go_wp2
  go_ret
  exact ⟨rfl, hS.out.bl⟩
end
section
variable {w0 v0 w : World} {S O : List Ent} {T : List Blk} {A0 A0' A1 A1' : Option Addr} {n0 c0 n0' c0' n1 c1 n1' c1' k k' k0 k0' k1 k1' : Nat} {x0 x1 y0 y1 : List Int} {v0' v1 u0 u1 : Int} {b b' : Bool} {r r' : Rat}
theorem is9_c (h : SC w0 v0 w S T O) (h1 : (⟨A0, n0, c0, k0, x0, v0'⟩ : Ent) ∈ S) (h2 : (⟨A0', n0', c0', k0', y0, u0⟩ : Ent) ∈ S) (g1 : (⟨A1, n1, c1, k1, x1, v1⟩ : Ent) ∈ S) (g2 : (⟨A1', n1', c1', k1', y1, u1⟩ : Ent) ∈ S) (hb : b = b') (hx : x0 = x1) (hy : y0 = y1) :
    Calls Tryz.prog 22 #[.agg #[.bool b, .slice A0 n0 c0, .slice A0' n0' c0'], .agg #[.bool b', .slice A1 n1 c1, .slice A1' n1' c1']] w fun e w' => e = .returned (.bool true) ∧ SC w0 v0 w' S T O := by
  subst hb hx hy
  exact (is9_any w b (h.get h1).1 (h.get h2).1 (h.get g1).1 (h.get g2).1).mono fun e w' ⟨he, hb⟩ => ⟨he, h.below hb⟩
theorem is9_told (h : SC w0 v0 w S T O) (h1 : (⟨A0, n0, c0, k, limbs (mg r.num), mg r.num⟩ : Ent) ∈ S) (h2 : (⟨A0', n0', c0', k, limbs r.den, r.den⟩ : Ent) ∈ S) (g1 : (⟨A1, n1, c1, k', limbs (mg r'.num), mg r'.num⟩ : Ent) ∈ S) (g2 : (⟨A1', n1', c1', k', limbs r'.den, r'.den⟩ : Ent) ∈ S) (hr : r = r') :
    Calls Tryz.prog 22 #[.agg #[.bool (sg r.num), .slice A0 n0 c0, .slice A0' n0' c0'], .agg #[.bool (sg r'.num), .slice A1 n1 c1, .slice A1' n1' c1']] w fun e w' => e = .returned (.bool true) ∧ SC w0 v0 w' S T O := by
  subst hr
  exact is9_c h h1 h2 g1 g2 rfl rfl rfl
end
end Go.Proofs.YtfdpddlefobcpaaGreatDoor
