/- What the program's package of whole numbers answers, over this translation: Div, Read. -/
import Derived.Test.YtfdpddlefobcpaaGreatDoorWholeProgC
namespace Go.Proofs.YtfdpddlefobcpaaGreatDoor
open Go.RowKit
set_option linter.unusedVariables false
set_option maxRecDepth 20000
open N
namespace N
theorem Held.pick {w W : World} {a0 a1 a2 a3 a4 a5 a6 : Nat × Array Value × TypeId} (h : Held w [a0, a1, a2, a3, a4, a5, a6] W) : Held w [a0, a5, a6] W := h.sub fun q hq => by
  simp only [List.mem_cons, List.not_mem_nil, or_false] at hq ⊢
  rcases hq with e | e | e <;> simp [e]
theorem Held.r2 {w W : World} {a0 a1 a2 a5 a6 : Nat × Array Value × TypeId} {g g' : Nat} (h : Held w [a0, a1, a2, (g', #[.bool false, .slice none 0 0], 60), (g, #[.bool false, .slice none 0 0], 60), a5, a6] W) (hne : g ≠ g') : R2 w W.heap.size g g' W :=
  ⟨h.below, h.ge 4 rfl, h.ge 3 rfl, h.lt 4 rfl, h.lt 3 rfl, h.below.size, Nat.le_refl _, hne, ⟨_, _, _, _, h.row 4 rfl⟩, ⟨_, _, _, _, h.row 3 rfl⟩⟩
theorem OutI2.below {W w' : World} {m : Nat} {z y q : Int} {e : Ending} (h : OutI2 W m z y q e w') : Below W.heap.size W w' := by
  obtain ⟨A, n, c, A', n', c', he, h1, h2, h3, h4, h5⟩ := h
  exact h5
end N
section
variable {w w' : World} {A A' : Option Addr} {n c m d : Nat} {xs ys : List Int}
/-- what Div of two whole numbers tells, by their signs -/
def Way (z y Q R k : Int) : Prop := ∃ q r, IsD (mg z) (mg y) q r k ∧ (0 ≤ z → 0 ≤ y → Q = q ∧ R = r) ∧ (0 ≤ z → y < 0 → Q = -q ∧ R = r) ∧
  (z < 0 → 0 ≤ y → Q = -(if r = 0 then q else q + 1) ∧ R = (if r = 0 then 0 else mg y - r)) ∧ (z < 0 → y < 0 → Q = (if r = 0 then q else q + 1) ∧ R = (if r = 0 then 0 else mg y - r))
theorem way_zero (z : Int) : Way z 0 0 0 7 :=
  ⟨0, 0, .inr ⟨rfl, rfl, rfl, rfl⟩, fun _ _ => ⟨rfl, rfl⟩, fun _ h => by omega, fun _ _ => ⟨rfl, rfl⟩, fun _ h => by omega⟩
theorem way_yes (z : Int) {y : Int} (hy : y ≠ 0) : Way z y (z / y) (z % y) 0 := by
  have hu : 0 < mg y := mg_pos.2 hy
  have hz : ∀ b, sg z = b → iv b (mg z) = z := fun b e => by rw [← e]; exact iv_sm z
  have hyv : ∀ b, sg y = b → iv b (mg y) = y := fun b e => by rw [← e]; exact iv_sm y
  refine ⟨mg z / mg y, mg z % mg y, .inl ⟨hu, rfl, rfl, rfl⟩, fun h1 h2 => ?_, fun h1 h2 => ?_, fun h1 h2 => ?_, fun h1 h2 => ?_⟩
  · have := iv_div (b := false) (b' := false) (v := mg z) hu (.inl rfl)
    rw [hz _ (sg_f h1), hyv _ (sg_f h2)] at this
    exact this
  · have := iv_div (b := false) (b' := true) (v := mg z) hu (.inl rfl)
    rw [hz _ (sg_f h1), hyv _ (sg_t h2)] at this
    exact this
  · by_cases h0 : mg z % mg y = 0
    · have := iv_div (b := true) (b' := false) (v := mg z) hu (.inr h0)
      rw [hz _ (sg_t h1), hyv _ (sg_f h2)] at this
      rw [if_pos h0, if_pos h0, this.1, this.2, h0]
      exact ⟨rfl, rfl⟩
    · have := iv_div' (b' := false) (v := mg z) hu h0
      rw [hz _ (sg_t h1), hyv _ (sg_f h2)] at this
      rw [if_neg h0, if_neg h0, this.1, this.2]
      exact ⟨rfl, rfl⟩
  · by_cases h0 : mg z % mg y = 0
    · have := iv_div (b := true) (b' := true) (v := mg z) hu (.inr h0)
      rw [hz _ (sg_t h1), hyv _ (sg_t h2)] at this
      rw [if_pos h0, if_pos h0, this.1, this.2, h0]
      exact ⟨rfl, rfl⟩
    · have := iv_div' (b' := true) (v := mg z) hu h0
      rw [hz _ (sg_t h1), hyv _ (sg_t h2)] at this
      rw [if_neg h0, if_neg h0, this.1, this.2]
      exact ⟨rfl, rfl⟩
theorem RC.outE {w1 w5 : World} {g k m : Nat} {z j : Int} (h : RC w g w1) {A : Option Addr} {n c : Nat} (hn : n ≤ k) (hown : N.Own w5 w1.heap.size A n c (limbs (mg z))) (hb : Below w1.heap.size w1 w5) :
    (w5.cell? ⟨g, 0, none⟩ = some (.bool false) ∧ w5.cell? ⟨g, 1, none⟩ = some (.slice none 0 0)) ∧ (w5.frozen? ⟨g, 0, none⟩ = false ∧ w5.frozen? ⟨g, 1, none⟩ = false) ∧
      Hid (BoxI ((w5.setCell ⟨g, 0, none⟩ (.bool (sg z))).setCell ⟨g, 1, none⟩ (.slice A n c)) g (sg z) A n c) ∧
      Hid (OutIE w k z j (.returned (.tuple #[.agg #[.bool (sg z), .slice A n c], .int .i64 j])) ((w5.setCell ⟨g, 0, none⟩ (.bool (sg z))).setCell ⟨g, 1, none⟩ (.slice A n c))) := by
  have hB := h.box.on hb
  have hlt := h.lt
  refine ⟨⟨hB.c0, hB.c1⟩, ⟨hB.fr 0, hB.fr 1⟩, Lib.hid ((hB.set0 _).set1 _ _ _), Lib.hid ⟨A, n, c, rfl, hn, ?_, ?_⟩⟩
  · exact ((hown.keep (grow_set w5 g 0 _) (fun k hk => by injection hk with hk; omega)).keep (grow_set _ g 1 _) (fun k hk => by injection hk with hk; omega)).mono h.below.size
  · exact ((h.below.trans (hb.mono h.below.size)).setCell (p := ⟨g, 0, none⟩) h.ge _).setCell (p := ⟨g, 1, none⟩) h.ge _
theorem own_nil0 {w : World} {base : Nat} : N.Own w base none 0 0 (limbs (mg 0)) := by rw [mg_0, limbs_zero]; exact N.Own.nil_ _ _
end
end Go.Proofs.YtfdpddlefobcpaaGreatDoor
