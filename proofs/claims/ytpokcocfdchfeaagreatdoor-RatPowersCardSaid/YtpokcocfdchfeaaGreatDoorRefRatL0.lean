/- The document of layer 6: Make over a state; a literal of one limb that is the call's own. -/
import Derived.Test.YtpokcocfdchfeaaGreatDoorRefRatK
import Derived.Test.YtpokcocfdchfeaaGreatDoorRatIs
namespace Go.Proofs.YtpokcocfdchfeaaGreatDoor
open Go.RowKit
set_option linter.unusedVariables false
set_option linter.unusedSimpArgs false
set_option maxRecDepth 20000
open N
theorem SC.lit1O {w0 v0 w : World} {S O : List Ent} {T : List Blk} (h : SC w0 v0 w S T O) (x : Int) (hx : 0 ≤ x ∧ x < 18446744073709551616) : SC w0 v0 (w.alloc (.cells #[.int .u64 x] 38)) (⟨some ⟨w.heap.size, 0, none⟩, 1, 1, 1, [x], x⟩ :: S) T (⟨some ⟨w.heap.size, 0, none⟩, 1, 1, 1, [x], x⟩ :: O) := by
  have h1 := h.lit1 x hx
  refine ⟨h1.st, h1.bl, h1.box, h1.from_, h1.nd, h1.apart, fun t ht => ?_, fun t ht q hq => ?_⟩
  · rcases List.mem_cons.1 ht with e | e
    · subst e
      exact ⟨(Arr.lit w [x] #[.int .u64 x] rfl).own h.bl.size rfl (by unfold maxLen; simp) (Nat.le_refl _), Dg.one hx.1 hx.2⟩
    · exact h1.own t e
  · rcases List.mem_cons.1 ht with e | e
    · subst e
      intro e
      have := (h.box q hq).lt
      have e : some w.heap.size = some q.g := e
      injection e with e
      omega
    · exact h1.apo t e q hq
section
variable {w0 v0 w : World} {S O : List Ent} {T : List Blk} {A A' : Option Addr} {n c m d k k' M : Nat} {xs ys : List Int} {v u : Int} {b : Bool}
theorem r6mk_c (h : SC w0 v0 w S T O) (h1 : (⟨A, n, c, k, xs, v⟩ : Ent) ∈ S) (h2 : (⟨A', m, d, k', ys, u⟩ : Ent) ∈ S) (hk : k ≤ M) (hk' : k' ≤ M) (hM1 : 1 ≤ M) (hM : M ≤ 1000) (hu : 0 < u) {r : Rat} (hr : rv b v u = r) :
    Calls Tryz.prog 44 #[.agg #[.bool b, .slice A n c], .slice A' m d] w fun e w' => ∃ A n c A' n' c', e = .returned (.tuple #[.agg #[.bool (sg r.num), .slice A n c, .slice A' n' c'], .int .i64 0]) ∧
      SC w0 v0 w' (⟨A, n, c, M, limbs (mg r.num), mg r.num⟩ :: ⟨A', n', c', M, limbs r.den, r.den⟩ :: S) T (⟨A, n, c, M, limbs (mg r.num), mg r.num⟩ :: ⟨A', n', c', M, limbs r.den, r.den⟩ :: O) := by
  obtain ⟨a1, a2, rfl⟩ := h.get h1
  obtain ⟨b1, b2, rfl⟩ := h.get h2
  subst hr
  exact (r6make_any w b a1 b1 (by omega) (by omega) hM1 hM hu).mono fun e w' ho => h.rRE (Nat.le_refl _) ho
theorem r6mk_z (h : SC w0 v0 w S T O) (h1 : (⟨A, n, c, k, xs, v⟩ : Ent) ∈ S) (h2 : (⟨A', m, d, k', ys, u⟩ : Ent) ∈ S) (hk : k ≤ 1000) (hk' : k' ≤ 1000) (hu : u = 0) :
    Calls Tryz.prog 44 #[.agg #[.bool b, .slice A n c], .slice A' m d] w fun e w' => e = .returned (.tuple #[.agg #[.bool false, .slice none 0 0, .slice none 0 0], .int .i64 7]) ∧ SC w0 v0 w' S T O := by
  obtain ⟨a1, a2, rfl⟩ := h.get h1
  obtain ⟨b1, b2, rfl⟩ := h.get h2
  exact (r6make_zero (M := 1000) w b a1 b1 (by omega) (by omega) (by omega) hu).mono fun e w' ho => h.tRZ ho
end
end Go.Proofs.YtpokcocfdchfeaaGreatDoor
