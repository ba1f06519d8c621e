/- A state of fractions at hand, each a value that need not be opened: for statements that hand whole fractions from call to call. -/
import Derived.Test.YtpokcocfdchfeaaGreatDoorRatCalls
namespace Go.Proofs.YtpokcocfdchfeaaGreatDoor
open Go.RowKit
set_option linter.unusedVariables false
set_option maxRecDepth 20000
open N
/-- a fraction at hand: its value, its sign, its limbs, how many limbs at most, for what it stands -/
structure Fe where
  x : Value
  b : Bool
  xs : List Int
  ds : List Int
  k : Nat
  r : Rat
/-- one that was told -/
def fe (x : Value) (k : Nat) (r : Rat) : Fe := ⟨x, sg r.num, limbs (mg r.num), limbs r.den, k, r⟩
def FeOk (w : World) (f : Fe) : Prop := ∃ A n c A' n' c', f.x = .agg #[.bool f.b, .slice A n c, .slice A' n' c'] ∧ Sl w A n c f.xs ∧ Sl w A' n' c' f.ds ∧ n ≤ f.k ∧ n' ≤ f.k ∧ rv f.b (val B f.xs) (val B f.ds) = f.r
def SF (w0 w : World) (F : List Fe) : Prop := Below w0.heap.size w0 w ∧ ∀ f ∈ F, FeOk w f
section
variable {w0 w w' : World} {F : List Fe}
theorem FeOk.below {f : Fe} (h : FeOk w f) (hb : Below w.heap.size w w') : FeOk w' f := by
  obtain ⟨A, n, c, A', n', c', h1, h2, h3, h4⟩ := h
  exact ⟨A, n, c, A', n', c', h1, h2.below hb, h3.below hb, h4⟩
theorem SF.start (w : World) : SF w w [] := ⟨Below.refl _ _, fun f hf => by cases hf⟩
theorem SF.below (h : SF w0 w F) (hb : Below w.heap.size w w') : SF w0 w' F := ⟨h.1.trans (hb.mono h.1.size), fun f hf => (h.2 f hf).below hb⟩
theorem SF.alloc (h : SF w0 w F) (o : Obj) : SF w0 (w.alloc o) F := h.below ((Below.refl _ _).alloc (Nat.le_refl _) _)
theorem SF.allocs (h : SF w0 w F) {o : Obj} {w1 : World} (hw : w.alloc o = w1) : SF w0 w1 F := by subst hw; exact h.alloc o
theorem SF.drewN (h : SF w0 w F) (k : Nat) : SF w0 (w.drewN k) F := h.below ⟨rfl, rfl, rfl, Nat.le_refl _, fun _ _ => rfl⟩
theorem SF.drew (h : SF w0 w F) : SF w0 w.drew F := h.below ⟨rfl, rfl, rfl, Nat.le_refl _, fun _ _ => rfl⟩
theorem SF.drewNs {w1 : World} (h : SF w0 w F) {k : Nat} (hw : w.drewN k = w1) : SF w0 w1 F := by subst hw; exact h.drewN k
theorem SF.cons (h : SF w0 w F) {f : Fe} (hf : FeOk w f) : SF w0 w (f :: F) := ⟨h.1, fun g hg => by
  rcases List.mem_cons.1 hg with e | e
  · subst e; exact hf
  · exact h.2 g e⟩
theorem SF.old (h : SF w0 w F) {b : Bool} {A A' : Option Addr} {n c n' c' k : Nat} {xs ds : List Int} {r : Rat} (h1 : Sl w0 A n c xs) (h2 : Sl w0 A' n' c' ds) (h3 : n ≤ k) (h4 : n' ≤ k) (hr : rv b (val B xs) (val B ds) = r) :
    SF w0 w (⟨.agg #[.bool b, .slice A n c, .slice A' n' c'], b, xs, ds, k, r⟩ :: F) :=
  h.cons ⟨A, n, c, A', n', c', rfl, h1.below h.1, h2.below h.1, h3, h4, hr⟩
theorem SF.outR (h : SF w0 w F) {m k : Nat} {r : Rat} {e : Ending} (hm : m ≤ k) (ho : OutR w m r e w') : ∃ z, e = .returned z ∧ SF w0 w' (fe z k r :: F) := by
  obtain ⟨A, n, c, A', n', c', he, hn, hn', ho1, ho2, hb⟩ := ho
  refine ⟨_, he, (h.below hb).cons ⟨A, n, c, A', n', c', rfl, ho1.sl, ho2.sl, by show n ≤ k; omega, by show n' ≤ k; omega, ?_⟩⟩
  show rv (sg r.num) (val B (limbs (mg r.num))) (val B (limbs r.den)) = r
  rw [limbs_val (mg_nn _), limbs_val (Int.le_of_lt (rden_pos r))]
  exact rv_self r
theorem SF.outRE (h : SF w0 w F) {m k : Nat} {r : Rat} {j : Int} {e : Ending} (hm : m ≤ k) (ho : OutRE w m r j e w') : ∃ z, e = .returned (.tuple #[z, .int .i64 j]) ∧ SF w0 w' (fe z k r :: F) := by
  obtain ⟨A, n, c, A', n', c', he, h3⟩ := ho
  obtain ⟨z, hz, h4⟩ := h.outR hm ⟨A, n, c, A', n', c', rfl, h3⟩
  cases hz
  exact ⟨_, he, h4⟩
theorem SF.outRZ (h : SF w0 w F) {j : Int} {e : Ending} (ho : OutRZ w j e w') : e = .returned (.tuple #[.agg #[.bool false, .slice none 0 0, .slice none 0 0], .int .i64 j]) ∧ SF w0 w' F := ⟨ho.1, h.below ho.2⟩
theorem SF.get (h : SF w0 w F) {f : Fe} (hf : f ∈ F) : FeOk w f := h.2 f hf
end
end Go.Proofs.YtpokcocfdchfeaaGreatDoor
