/- What the program and the document tell of texts, in one form for what is told and what is refused. -/
import Derived.Test.YtbpambamaoonfaaGreatDoorRefRatT
import Derived.Test.YtbpambamaoonfaaGreatDoorRatSpoil
import Derived.Test.YtbpambamaoonfaaGreatDoorRatG
namespace Go.Proofs.YtbpambamaoonfaaGreatDoor
open Go.RowKit
set_option linter.unusedVariables false
set_option linter.unusedSimpArgs false
set_option maxRecDepth 20000
open N
def ToldE (W : World) (M : Nat) (sb : Bool) (xs ys : List Int) (j : Int) (e : Ending) (w' : World) : Prop :=
  ∃ A n c A' n' c', e = .returned (.tuple #[.agg #[.bool sb, .slice A n c, .slice A' n' c'], .int .i64 j]) ∧ n ≤ M ∧ n' ≤ M ∧ N.Own w' W.heap.size A n c xs ∧ N.Own w' W.heap.size A' n' c' ys ∧ Below W.heap.size W w'
section
variable {w0 v0 w w' : World} {S O : List Ent} {T : List Blk} {M : Nat} {sb : Bool} {xs ys : List Int} {j : Int} {e : Ending}
theorem ToldE.of {r : Rat} {k : Int} (h : OutRE w M r k e w') : ToldE w M (sg r.num) (limbs (mg r.num)) (limbs r.den) k e w' := h
theorem ToldE.z {k : Int} (h : OutRZ w k e w') : ToldE w M false [] [] k e w' :=
  ⟨none, 0, 0, none, 0, 0, h.1, Nat.zero_le _, Nat.zero_le _, Own.nil_ _ _, Own.nil_ _ _, h.2⟩
theorem SC.told (h : SC w0 v0 w S T O) (ho : ToldE w M sb xs ys j e w') : ∃ A n c A' n' c', e = .returned (.tuple #[.agg #[.bool sb, .slice A n c, .slice A' n' c'], .int .i64 j]) ∧
    SC w0 v0 w' (⟨A, n, c, M, xs, val B xs⟩ :: ⟨A', n', c', M, ys, val B ys⟩ :: S) T (⟨A, n, c, M, xs, val B xs⟩ :: ⟨A', n', c', M, ys, val B ys⟩ :: O) := by
  obtain ⟨A, n, c, A', n', c', he, hn, hn', ho1, ho2, hb⟩ := ho
  exact ⟨A, n, c, A', n', c', he, h.new2 hb ho1 hn rfl ho2 hn' rfl⟩
end
section
variable {w0 v0 w w' : World} {S : List Ent} {T : List Blk} {A0 A0' A1 A1' : Option Addr} {n0 c0 n0' c0' n1 c1 n1' c1' k0 k1 k : Nat} {x0 y0 x1 y1 : List Int} {p0 q0 p1 q1 : Int} {b0 b1 : Bool} {r0 r1 r : Rat}
theorem long1_n (h : SC w0 v0 w S T []) {b0_ : Bool} {P0 P0' : Option Addr} {i0 j0 i0' j0' : Nat} (h0 : i0 ≤ 6 ∧ i0' ≤ 6) :
    Calls Tryz.prog 5 #[.slice (some ⟨w.heap.size, 0, none⟩) 1 1] (w.alloc (.cells #[.bool b0_, .slice P0 i0 j0, .slice P0' i0' j0'] 27)) fun e w' => e = .returned (.bool false) ∧ SC w0 v0 w' S T [] :=
  (long_no _ _ [⟨b0_, P0, i0, j0, [], P0', i0', j0', [], 0⟩] 1 (fms_lit w [⟨b0_, P0, i0, j0, [], P0', i0', j0', [], 0⟩] _ 27 rfl) (by simp) (by intro f hf; simp only [List.mem_cons, List.not_mem_nil, or_false] at hf; rcases hf with rfl <;> assumption)).mono fun e w' ⟨he, hb⟩ => ⟨he, by rw [hb]; exact h.alloc _⟩
theorem long1_y (h : SC w0 v0 w S T []) {b0_ : Bool} {P0 P0' : Option Addr} {i0 j0 i0' j0' : Nat} (h0 : i0 ≤ 9223372036854775807 ∧ i0' ≤ 9223372036854775807) (hl : ¬ ((i0 ≤ 6 ∧ i0' ≤ 6))) :
    Calls Tryz.prog 5 #[.slice (some ⟨w.heap.size, 0, none⟩) 1 1] (w.alloc (.cells #[.bool b0_, .slice P0 i0 j0, .slice P0' i0' j0'] 27)) fun e w' => e = .returned (.bool true) ∧ SC w0 v0 w' S T [] :=
  (long_yes _ _ [⟨b0_, P0, i0, j0, [], P0', i0', j0', [], 0⟩] 1 (fms_lit w [⟨b0_, P0, i0, j0, [], P0', i0', j0', [], 0⟩] _ 27 rfl) (by simp) (by intro f hf; simp only [List.mem_cons, List.not_mem_nil, or_false] at hf; rcases hf with rfl <;> assumption) (by
    apply Classical.byContradiction
    intro hc
    exact hc ⟨⟨b0_, P0, i0, j0, [], P0', i0', j0', [], 0⟩, by simp, hl⟩)).mono fun e w' ⟨he, hb⟩ => ⟨he, by rw [hb]; exact h.alloc _⟩
theorem fshow_t (h : SC w0 v0 w S T []) (h1 : (⟨A0, n0, c0, k0, x0, p0⟩ : Ent) ∈ S) (h2 : (⟨A0', n0', c0', k0, y0, q0⟩ : Ent) ∈ S) (hk0 : 1 ≤ k0 ∧ k0 ≤ 1000) (hr0 : rv b0 p0 q0 = r0) {Z : List UInt8} (hZ : shR r0 = Z) :
    Calls Tryz.prog 21 #[.agg #[.bool b0, .slice A0 n0 c0, .slice A0' n0' c0']] w fun e w' => e = .returned (.string ⟨Z.toArray⟩) ∧ SC w0 v0 w' S T [] := by
  exact (fshow_any w (h.frm h1 h2 (Nat.le_refl _) (Nat.le_refl _) hr0) hk0.1 (by omega) hZ).mono fun e w' ⟨he, hb⟩ => ⟨he, h.below hb⟩
theorem r6show_t (h : SC w0 v0 w S T []) (h1 : (⟨A0, n0, c0, k0, x0, p0⟩ : Ent) ∈ S) (h2 : (⟨A0', n0', c0', k0, y0, q0⟩ : Ent) ∈ S) (hk0 : 1 ≤ k0 ∧ k0 ≤ 1000) (hr0 : rv b0 p0 q0 = r0) {Z : List UInt8} (hZ : shR r0 = Z) :
    Calls Tryz.prog 22 #[.agg #[.bool b0, .slice A0 n0 c0, .slice A0' n0' c0']] w fun e w' => e = .returned (.string ⟨Z.toArray⟩) ∧ SC w0 v0 w' S T [] := by
  obtain ⟨a1, a2, a3⟩ := h.get h1
  obtain ⟨e1, e2, e3⟩ := h.get h2
  exact (r6show_any w b0 a1 e1 a2 e2 hk0.1 hk0.2 (by rw [a3, e3]; exact hr0) hZ).mono fun e w' ⟨he, hb⟩ => ⟨he, h.below hb⟩
end
theorem reads_t (bs : List UInt8) (hl : bs.length ≤ 300) : ∃ sb xs ys j,
    (∀ w, Calls Tryz.prog 20 #[.string ⟨bs.toArray⟩] w (ToldE w 20001 sb xs ys j)) ∧
    (∀ w, Calls Tryz.prog 19 #[.string ⟨bs.toArray⟩] w (ToldE w 20001 sb xs ys j)) := by
  have hm : bs.length ≤ maxLen := by unfold maxLen; omega
  by_cases h : rdK bs = 0
  · exact ⟨_, _, _, _, fun w => ((fread_all w bs hm).1 h).mono fun e w' ho => ToldE.of ho, fun w => ((r6read_all w bs hl).1 h).mono fun e w' ho => ToldE.of ho⟩
  · exact ⟨_, _, _, _, fun w => ((fread_all w bs hm).2 h).mono fun e w' ho => ToldE.z ho, fun w => ((r6read_all w bs hl).2 h).mono fun e w' ho => ToldE.z ho⟩
end Go.Proofs.YtbpambamaoonfaaGreatDoor
