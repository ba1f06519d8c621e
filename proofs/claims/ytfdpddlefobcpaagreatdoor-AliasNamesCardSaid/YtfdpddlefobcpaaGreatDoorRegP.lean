/- A region whose order is left open: of each operation what holds of the value that it yields (and may hang on the world), and of the world what holds by what has come up so far. -/
import Derived.Test.YtfdpddlefobcpaaGreatDoorRegV
namespace Go.Proofs.YtfdpddlefobcpaaGreatDoor
open Go.RowKit
set_option linter.unusedVariables false
namespace RV
/-- what has come up has all that it waits for -/
def Clo (ops : Array Oper) (L : Array Bool) : Prop := ∀ j, L.getD j false = true → ∀ i, dep ops j i = true → L.getD i false = true
theorem Clo.set {ops : Array Oper} {L : Array Bool} {i : Nat} (h : Clo ops L) (hr : i ∈ Region.ready .any ops L) : Clo ops (L.setIfInBounds i true) := fun j hj k hk => by
  by_cases e : j = i
  · subst e; exact getD_set_true (ready_pred hr hk)
  · rw [getD_set_ne false (fun h => e h.symm)] at hj
    exact getD_set_true (h j hj k hk)
theorem ready_off {ops : Array Oper} {L : Array Bool} {i : Nat} (hr : i ∈ Region.ready .any ops L) : L.getD i false = false := by
  have h2 := ready_open hr
  by_cases hl : i < L.size
  · rw [Array.getD_eq_getD_getElem?, Array.getElem?_eq_getElem hl] at h2 ⊢
    exact h2
  · rw [Array.getD_eq_getD_getElem?, Array.getElem?_eq_none (by omega)]
    rfl
theorem Clo.no {ops : Array Oper} {L : Array Bool} {i j : Nat} (h : Clo ops L) (hr : i ∈ Region.ready .any ops L) (hd : dep ops j i = true) : L.getD j false = false := by
  cases e : L.getD j false with
  | false => rfl
  | true =>
    have h1 := h j e i hd
    rw [ready_off hr] at h1
    cases h1
/-- an operation that yields this very value -/
def is (c : Value) : Value → World → Prop := fun v _ => v = c
/-- what has come up so far -/
structure UpP (ops : Array Oper) (a0 : Act) (ds : List Nat) (F : List (Value → World → Prop)) (I : Array Bool → World → Prop) (L : Array Bool) (a : Act) (w : World) : Prop where
  size : L.size = ops.size
  clo : Clo ops L
  fr : Fr a0 ds a
  old : ∀ j d, ds[j]? = some d → L.getD j false = false → a.eval (.tmp d) = a0.eval (.tmp d)
  val : ∀ j, L.getD j false = true → ∀ d φ, ds[j]? = some d → F[j]? = some φ → φ (a.eval (.tmp d)) w
  wld : I L w
theorem wp_region_p {P : Program} {ops : Array Oper} {Q : Exit → Act → World → Prop} {id : Nat} {a0 : Act} {w0 : World} (hm : P.follows .mixedOrders = true) (ds : List Nat) (F : List (Value → World → Prop)) (I : Array Bool → World → Prop)
    (hsh : shaped ops ds = true) (hl : F.length = ds.length) (hn : ds.Nodup) (hlt : ds.all (fun d => decide (d < a0.tmps.size)) = true) (hro : rowed ops = true) (start : I (Array.replicate ops.size false) w0.drew)
    (step : ∀ (i : Nat), i < ops.size → ∀ (L : Array Bool) (a : Act) (w : World), L.size = ops.size → (∀ t, t ∉ ds → a.eval (.tmp t) = a0.eval (.tmp t)) → (∀ (j : Nat) d, ds[j]? = some d → L.getD j false = false → a.eval (.tmp d) = a0.eval (.tmp d)) →
      (∀ (j : Nat) d φ, dep ops i j = true → ds[j]? = some d → F[j]? = some φ → φ (a.eval (.tmp d)) w) → (∀ j, dep ops j i = true → L.getD j false = false) → L.getD i false = false → I L w →
      ∃ o φ v w', ops[i]? = some o ∧ F[i]? = some φ ∧ (execOp a.eval o).run P w = .ok (.value v) w' ∧ φ v w' ∧ I (L.setIfInBounds i true) w' ∧ (∀ (j : Nat) ψ u, L.getD j false = true → F[j]? = some ψ → ψ u w → ψ u w'))
    (fin : ∀ (f : Nat → Value) (L : Array Bool) w, (∀ (j : Nat) d φ, ds[j]? = some d → F[j]? = some φ → φ (f d) w) → I L w → Q .normal (putAll a0 (ds.map fun d => (d, f d))) w) : (Code.region id ops true).wp P Q a0 w0 := by
  have hops : ∀ (i : Nat) (o : Oper), ops[i]? = some o → ∃ d, ds[i]? = some d ∧ o.dst = some d ∧ o.guard = none := fun i o ho => by
    have h1 := congrArg (fun l => l[i]?) (eq_of_beq hsh)
    simp only [List.getElem?_map] at h1
    rw [Array.getElem?_toList, ho] at h1
    cases hd : ds[i]? with
    | none => rw [hd] at h1; cases h1
    | some d =>
      rw [hd] at h1
      simp only [Option.map_some, Option.some.injEq, Prod.mk.injEq, Option.isNone_iff_eq_none] at h1
      exact ⟨d, rfl, h1.1, h1.2⟩
  have hsz : ds.length = ops.size := by
    have h1 := congrArg List.length (eq_of_beq hsh)
    simpa using h1.symm
  have hoff : ∀ j, (Array.replicate ops.size false).getD j false = false := fun j => by
    rw [Array.getD_eq_getD_getElem?, Array.getElem?_replicate]
    split <;> rfl
  refine wp_region_inv hm (UpP ops a0 ds F I) (fun L a w h => h.size)
    ⟨by simp, fun j hj => (by rw [hoff] at hj; cases hj), Fr.refl _ _, fun _ _ _ _ => rfl, fun j hj => (by rw [hoff] at hj; cases hj), start⟩ (fun L a w i hU hr => ?_) (fun L a w hU hr => ?_)
  · obtain ⟨_, o, ho, _⟩ := mem_ready.1 hr
    obtain ⟨d, hd, hdst, hgd⟩ := hops i o ho
    have hdm : d < a0.tmps.size := of_decide_eq_true (List.all_eq_true.1 hlt d (List.mem_of_getElem? hd))
    obtain ⟨o', φ, v, w', ho', hφ, hrun, hv, hI, hkeep⟩ := step i (Array.getElem?_eq_some_iff.1 ho).1 L a w hU.size hU.fr.out hU.old
      (fun j d' u hp hd' hu => hU.val j (ready_pred hr hp) d' u hd' hu) (fun j hj => hU.clo.no hr hj) (ready_off hr) hU.wld
    obtain rfl : o' = o := Option.some.inj (ho'.symm.trans ho)
    have hne : ∀ (j : Nat) d', ds[j]? = some d' → j ≠ i → d' ≠ d := fun j d' hd' hji e' => by
      subst e'
      obtain ⟨l1, e1⟩ := List.getElem?_eq_some_iff.1 hd
      obtain ⟨l2, e2⟩ := List.getElem?_eq_some_iff.1 hd'
      exact hji ((List.getElem_inj hn).1 (e2.trans e1.symm))
    refine op_value ho hgd hrun ?_
    rw [hdst]
    refine ⟨by rw [Array.size_setIfInBounds]; exact hU.size, hU.clo.set hr, hU.fr.put (List.mem_of_getElem? hd) v, fun j d' hd' hj => ?_, fun j hj d' ψ hd' hψ => ?_, hI⟩
    · by_cases hji : j = i
      · subst hji
        have h1 : j < L.size := by rw [hU.size]; exact (Array.getElem?_eq_some_iff.1 ho).1
        simp [h1] at hj
      · rw [eval_put_ne (hne j d' hd' hji)]
        rw [getD_set_ne false (fun h => hji h.symm)] at hj
        exact hU.old j d' hd' hj
    · by_cases hji : j = i
      · subst hji
        rw [hd] at hd'; rw [hφ] at hψ
        cases hd'; cases hψ
        rw [eval_put_same (by rw [hU.fr.size]; exact hdm)]
        exact hv
      · rw [eval_put_ne (hne j d' hd' hji)]
        rcases on_set hj with e | e
        · exact absurd e hji
        · exact hkeep j ψ _ e hψ (hU.val j e d' ψ hd' hψ)
  · have hall := all_up hU.size hro hr
    rw [hU.fr.closed]
    exact fin (fun d => a.eval (.tmp d)) L w (fun j d φ hd hφ => hU.val j (hall j (by have := (List.getElem?_eq_some_iff.1 hd).1; omega)) d φ hd hφ) hU.wld
end RV
end Go.Proofs.YtfdpddlefobcpaaGreatDoor
