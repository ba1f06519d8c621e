/- As XRegP, the predicates hanging on what has come up too: what an append has taken over is no more asked for. -/
import Derived.Test.YtolfjhfmcgibbaaGreatDoorRegP
namespace Go.Proofs.YtolfjhfmcgibbaaGreatDoor
open Go.RowKit
set_option linter.unusedVariables false
namespace RV
def isq (c : Value) : Array Bool → Value → World → Prop := fun _ v _ => v = c
/-- what has come up so far -/
structure UpQ (ops : Array Oper) (a0 : Act) (ds : List Nat) (F : List (Array Bool → Value → World → Prop)) (I : Array Bool → World → Prop) (L : Array Bool) (a : Act) (w : World) : Prop where
  size : L.size = ops.size
  clo : Clo ops L
  fr : Fr a0 ds a
  old : ∀ j d, ds[j]? = some d → L.getD j false = false → a.eval (.tmp d) = a0.eval (.tmp d)
  val : ∀ j, L.getD j false = true → ∀ d φ, ds[j]? = some d → F[j]? = some φ → φ L (a.eval (.tmp d)) w
  wld : I L w
theorem wp_region_q {P : Program} {ops : Array Oper} {Q : Exit → Act → World → Prop} {id : Nat} {a0 : Act} {w0 : World} (hm : P.follows .mixedOrders = true) (ds : List Nat) (F : List (Array Bool → Value → World → Prop)) (I : Array Bool → World → Prop)
    (hsh : shaped ops ds = true) (hl : F.length = ds.length) (hn : ds.Nodup) (hlt : ds.all (fun d => decide (d < a0.tmps.size)) = true) (hro : rowed ops = true) (start : I (Array.replicate ops.size false) w0.drew)
    (step : ∀ (i : Nat), i < ops.size → ∀ (L : Array Bool) (a : Act) (w : World), L.size = ops.size → (∀ t, t ∉ ds → a.eval (.tmp t) = a0.eval (.tmp t)) → (∀ (j : Nat) d, ds[j]? = some d → L.getD j false = false → a.eval (.tmp d) = a0.eval (.tmp d)) →
      (∀ (j : Nat) d φ, dep ops i j = true → ds[j]? = some d → F[j]? = some φ → φ L (a.eval (.tmp d)) w) → (∀ j, dep ops j i = true → L.getD j false = false) → L.getD i false = false → (∀ j, dep ops i j = true → L.getD j false = true) → Clo ops L → I L w →
      ∃ o φ v w', ops[i]? = some o ∧ F[i]? = some φ ∧ (execOp a.eval o).run P w = .ok (.value v) w' ∧ φ (L.setIfInBounds i true) v w' ∧ I (L.setIfInBounds i true) w' ∧ (∀ (j : Nat) ψ u, L.getD j false = true → F[j]? = some ψ → ψ L u w → ψ (L.setIfInBounds i true) u w'))
    (fin : ∀ (f : Nat → Value) (L : Array Bool) w, (∀ (j : Nat) d φ, ds[j]? = some d → F[j]? = some φ → φ L (f d) w) → I L w → Q .normal (putAll a0 (ds.map fun d => (d, f d))) w) : (Code.region id ops true).wp P Q a0 w0 := by
  have hops : ∀ (i : Nat) (o : Oper), ops[i]? = some o → ∃ d, ds[i]? = some d ∧ o.dst = some d ∧ o.guard = none := fun i o ho => by
    have h1 := congrArg (fun l => l[i]?) (eq_of_beq hsh)
    simp only [List.getElem?_map] at h1
    rw [Array.getElem?_toList, ho] at h1
    cases hd : ds[i]? with
    | none => rw [hd] at h1; cases h1
    | some d =>
      rw [hd] at h1
      simp only [Option.map_some, Option.some.injEq, Prod.mk.injEq, Option.isNone_iff_eq_none] at h1
      exact ⟨d, rfl, h1.1, h1.2⟩
  have hsz : ds.length = ops.size := by
    have h1 := congrArg List.length (eq_of_beq hsh)
    simpa using h1.symm
  have hoff : ∀ j, (Array.replicate ops.size false).getD j false = false := fun j => by
    rw [Array.getD_eq_getD_getElem?, Array.getElem?_replicate]
    split <;> rfl
  refine wp_region_inv hm (UpQ ops a0 ds F I) (fun L a w h => h.size)
    ⟨by simp, fun j hj => (by rw [hoff] at hj; cases hj), Fr.refl _ _, fun _ _ _ _ => rfl, fun j hj => (by rw [hoff] at hj; cases hj), start⟩ (fun L a w i hU hr => ?_) (fun L a w hU hr => ?_)
  · obtain ⟨_, o, ho, _⟩ := mem_ready.1 hr
    obtain ⟨d, hd, hdst, hgd⟩ := hops i o ho
    have hdm : d < a0.tmps.size := of_decide_eq_true (List.all_eq_true.1 hlt d (List.mem_of_getElem? hd))
    obtain ⟨o', φ, v, w', ho', hφ, hrun, hv, hI, hkeep⟩ := step i (Array.getElem?_eq_some_iff.1 ho).1 L a w hU.size hU.fr.out hU.old
      (fun j d' u hp hd' hu => hU.val j (ready_pred hr hp) d' u hd' hu) (fun j hj => hU.clo.no hr hj) (ready_off hr) (fun j hj => ready_pred hr hj) hU.clo hU.wld
    obtain rfl : o' = o := Option.some.inj (ho'.symm.trans ho)
    have hne : ∀ (j : Nat) d', ds[j]? = some d' → j ≠ i → d' ≠ d := fun j d' hd' hji e' => by
      subst e'
      obtain ⟨l1, e1⟩ := List.getElem?_eq_some_iff.1 hd
      obtain ⟨l2, e2⟩ := List.getElem?_eq_some_iff.1 hd'
      exact hji ((List.getElem_inj hn).1 (e2.trans e1.symm))
    refine op_value ho hgd hrun ?_
    rw [hdst]
    refine ⟨by rw [Array.size_setIfInBounds]; exact hU.size, hU.clo.set hr, hU.fr.put (List.mem_of_getElem? hd) v, fun j d' hd' hj => ?_, fun j hj d' ψ hd' hψ => ?_, hI⟩
    · by_cases hji : j = i
      · subst hji
        have h1 : j < L.size := by rw [hU.size]; exact (Array.getElem?_eq_some_iff.1 ho).1
        simp [h1] at hj
      · rw [eval_put_ne (hne j d' hd' hji)]
        rw [getD_set_ne false (fun h => hji h.symm)] at hj
        exact hU.old j d' hd' hj
    · by_cases hji : j = i
      · subst hji
        rw [hd] at hd'; rw [hφ] at hψ
        cases hd'; cases hψ
        rw [eval_put_same (by rw [hU.fr.size]; exact hdm)]
        exact hv
      · rw [eval_put_ne (hne j d' hd' hji)]
        rcases on_set hj with e | e
        · exact absurd e hji
        · exact hkeep j ψ _ e hψ (hU.val j e d' ψ hd' hψ)
  · have hall := all_up hU.size hro hr
    rw [hU.fr.closed]
    exact fin (fun d => a.eval (.tmp d)) L w (fun j d φ hd hφ => hU.val j (hall j (by have := (List.getElem?_eq_some_iff.1 hd).1; omega)) d φ hd hφ) hU.wld
end RV
end Go.Proofs.YtolfjhfmcgibbaaGreatDoor
