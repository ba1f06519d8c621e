/- What the program and the document tell of the same arguments, in one form for what is told and what is refused. -/
import Derived.Test.YtpokcocfdchfeaaGreatDoorRefRatO
import Derived.Test.YtpokcocfdchfeaaGreatDoorRatSpoil
import Derived.Test.YtpokcocfdchfeaaGreatDoorRatG
namespace Go.Proofs.YtpokcocfdchfeaaGreatDoor
open Go.RowKit
set_option linter.unusedVariables false
set_option linter.unusedSimpArgs false
set_option maxRecDepth 20000
open N
def ToldE (W : World) (M : Nat) (sb : Bool) (xs ys : List Int) (j : Int) (e : Ending) (w' : World) : Prop :=
  ∃ A n c A' n' c', e = .returned (.tuple #[.agg #[.bool sb, .slice A n c, .slice A' n' c'], .int .i64 j]) ∧ n ≤ M ∧ n' ≤ M ∧ N.Own w' W.heap.size A n c xs ∧ N.Own w' W.heap.size A' n' c' ys ∧ Below W.heap.size W w'
section
variable {w0 v0 w w' : World} {S O : List Ent} {T : List Blk} {M : Nat} {sb : Bool} {xs ys : List Int} {j : Int} {e : Ending}
theorem ToldE.of {r : Rat} {k : Int} (h : OutRE w M r k e w') : ToldE w M (sg r.num) (limbs (mg r.num)) (limbs r.den) k e w' := h
theorem ToldE.z {k : Int} (h : OutRZ w k e w') : ToldE w M false [] [] k e w' :=
  ⟨none, 0, 0, none, 0, 0, h.1, Nat.zero_le _, Nat.zero_le _, Own.nil_ _ _, Own.nil_ _ _, h.2⟩
theorem SC.told (h : SC w0 v0 w S T O) (ho : ToldE w M sb xs ys j e w') : ∃ A n c A' n' c', e = .returned (.tuple #[.agg #[.bool sb, .slice A n c, .slice A' n' c'], .int .i64 j]) ∧
    SC w0 v0 w' (⟨A, n, c, M, xs, val B xs⟩ :: ⟨A', n', c', M, ys, val B ys⟩ :: S) T (⟨A, n, c, M, xs, val B xs⟩ :: ⟨A', n', c', M, ys, val B ys⟩ :: O) := by
  obtain ⟨A, n, c, A', n', c', he, hn, hn', ho1, ho2, hb⟩ := ho
  exact ⟨A, n, c, A', n', c', he, h.new2 hb ho1 hn rfl ho2 hn' rfl⟩
end
section
variable {w0 v0 w w' : World} {S : List Ent} {T : List Blk} {A0 A0' A1 A1' : Option Addr} {n0 c0 n0' c0' n1 c1 n1' c1' k0 k1 k : Nat} {x0 y0 x1 y1 : List Int} {p0 q0 p1 q1 : Int} {b0 b1 : Bool} {r0 r1 r : Rat}
theorem fmay_s (h : SC w0 v0 w S T []) (h1 : (⟨A0, n0, c0, k0, x0, p0⟩ : Ent) ∈ S) (h2 : (⟨A0', n0', c0', k0, y0, q0⟩ : Ent) ∈ S) (hk0 : k0 ≤ 100000) {q : Bool} (hq : mayR b0 x0 y0 = q) :
    Calls Tryz.prog 39 #[.agg #[.bool b0, .slice A0 n0 c0, .slice A0' n0' c0']] w fun e w' => e = .returned (.bool q) ∧ SC w0 v0 w' S T [] :=
  fmay_c h h1 h2 (by omega) (by omega) hq
theorem long1_n (h : SC w0 v0 w S T []) {b0_ : Bool} {P0 P0' : Option Addr} {i0 j0 i0' j0' : Nat} (h0 : i0 ≤ 6 ∧ i0' ≤ 6) :
    Calls Tryz.prog 4 #[.slice (some ⟨w.heap.size, 0, none⟩) 1 1] (w.alloc (.cells #[.bool b0_, .slice P0 i0 j0, .slice P0' i0' j0'] 27)) fun e w' => e = .returned (.bool false) ∧ SC w0 v0 w' S T [] :=
  (long_no _ _ [⟨b0_, P0, i0, j0, [], P0', i0', j0', [], 0⟩] 1 (fms_lit w [⟨b0_, P0, i0, j0, [], P0', i0', j0', [], 0⟩] _ 27 rfl) (by simp) (by intro f hf; simp only [List.mem_cons, List.not_mem_nil, or_false] at hf; rcases hf with rfl <;> assumption)).mono fun e w' ⟨he, hb⟩ => ⟨he, by rw [hb]; exact h.alloc _⟩
theorem long1_y (h : SC w0 v0 w S T []) {b0_ : Bool} {P0 P0' : Option Addr} {i0 j0 i0' j0' : Nat} (h0 : i0 ≤ 9223372036854775807 ∧ i0' ≤ 9223372036854775807) (hl : ¬ ((i0 ≤ 6 ∧ i0' ≤ 6))) :
    Calls Tryz.prog 4 #[.slice (some ⟨w.heap.size, 0, none⟩) 1 1] (w.alloc (.cells #[.bool b0_, .slice P0 i0 j0, .slice P0' i0' j0'] 27)) fun e w' => e = .returned (.bool true) ∧ SC w0 v0 w' S T [] :=
  (long_yes _ _ [⟨b0_, P0, i0, j0, [], P0', i0', j0', [], 0⟩] 1 (fms_lit w [⟨b0_, P0, i0, j0, [], P0', i0', j0', [], 0⟩] _ 27 rfl) (by simp) (by intro f hf; simp only [List.mem_cons, List.not_mem_nil, or_false] at hf; rcases hf with rfl <;> assumption) (by
    apply Classical.byContradiction
    intro hc
    exact hc ⟨⟨b0_, P0, i0, j0, [], P0', i0', j0', [], 0⟩, by simp, hl⟩)).mono fun e w' ⟨he, hb⟩ => ⟨he, by rw [hb]; exact h.alloc _⟩
end
theorem makes_t (b : Bool) (x y : List Int) : ∃ sb xs ys j,
    (∀ (w : World) (A : Option Addr) (n c : Nat) (A' : Option Addr) (m d : Nat), Sl w A n c x → Sl w A' m d y → n ≤ 6 → m ≤ 6 → Calls Tryz.prog 10 #[.agg #[.bool b, .slice A n c], .slice A' m d] w (ToldE w 6 sb xs ys j)) ∧
    (∀ (w : World) (A : Option Addr) (n c : Nat) (A' : Option Addr) (m d : Nat), Sl w A n c x → Sl w A' m d y → n ≤ 6 → m ≤ 6 → Calls Tryz.prog 44 #[.agg #[.bool b, .slice A n c], .slice A' m d] w (ToldE w 6 sb xs ys j)) := by
  by_cases hv : val B y = 0
  · exact ⟨_, _, _, _, fun w A n c A' m d h h' hn hm => (fmake_zero w b h h' hn hm (by decide) hv).mono fun e w' ho => ToldE.z ho,
      fun w A n c A' m d h h' hn hm => (r6make_zero w b h h' hn hm (by decide) hv).mono fun e w' ho => ToldE.z ho⟩
  · exact ⟨_, _, _, _, fun w A n c A' m d h h' hn hm => (fmake_any w b h h' hn hm (by decide) (by have := h'.nn0; omega)).mono fun e w' ho => ToldE.of ho,
      fun w A n c A' m d h h' hn hm => (r6make_any w b h h' hn hm (by decide) (by decide) (by have := h'.nn0; omega)).mono fun e w' ho => ToldE.of ho⟩
theorem overs_t {x y : Int} (hx1 : -9223372036854775808 ≤ x) (hx2 : x ≤ 9223372036854775807) (hy1 : -9223372036854775808 ≤ y) (hy2 : y ≤ 9223372036854775807) : ∃ sb xs ys j,
    (∀ w, Calls Tryz.prog 32 #[.int .i64 x, .int .i64 y] w (ToldE w 1 sb xs ys j)) ∧
    (∀ w, Calls Tryz.prog 46 #[.int .i64 x, .int .i64 y] w (ToldE w 1 sb xs ys j)) := by
  rcases Int.lt_trichotomy y 0 with h | h | h
  · exact ⟨_, _, _, _, fun w => (fover_neg w hx1 hx2 hy1 hy2 h rfl).mono fun e w' ho => ToldE.of ho, fun w => (r6over_neg w hx1 hx2 hy1 hy2 h rfl).mono fun e w' ho => ToldE.of ho⟩
  · subst h
    exact ⟨_, _, _, _, fun w => (fover_zero w hx1 hx2).mono fun e w' ho => ToldE.z ho, fun w => (r6over_z w hx1 hx2).mono fun e w' ho => ToldE.z ho⟩
  · exact ⟨_, _, _, _, fun w => (fover_pos w hx1 hx2 hy1 hy2 h rfl).mono fun e w' ho => ToldE.of ho, fun w => (r6over_pos w hx1 hx2 hy1 hy2 h rfl).mono fun e w' ho => ToldE.of ho⟩
theorem ofs_t {x : Int} (hx1 : -9223372036854775808 ≤ x) (hx2 : x ≤ 9223372036854775807) : ∃ r,
    (∀ w, Calls Tryz.prog 13 #[.int .i64 x] w (OutR w 1 r)) ∧
    (∀ w, Calls Tryz.prog 21 #[.int .i64 x] w (OutR w 1 r)) :=
  ⟨_, fun w => fof_any w x hx1 hx2, fun w => r6of_any w hx1 hx2 rfl⟩
end Go.Proofs.YtpokcocfdchfeaaGreatDoor
