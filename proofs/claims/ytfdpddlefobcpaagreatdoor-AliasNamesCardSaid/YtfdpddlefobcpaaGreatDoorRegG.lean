/- XRegV with guards: each operation is wanted, its guard told by a value that is known. -/
import Derived.Test.YtfdpddlefobcpaaGreatDoorRegV
namespace Go.Proofs.YtfdpddlefobcpaaGreatDoor
open Go.RowKit
set_option linter.unusedVariables false
set_option linter.unusedSimpArgs false
namespace RV
theorem wanted_at {ops : Array Oper} {o : Oper} {a a0 : Act} {ds : List Nat} {j d : Nat} {b : Bool} (hd : (ops[j]?).bind (·.dst) = some d) (fr : Fr a0 ds a) (hlt : decide (d < a0.tmps.size) = true) (hv : a.eval (.tmp d) = .bool b) (hg : o.guard = some (j, b)) : Region.wanted o (yielded ops a.tmps) = true := by
  have h1 : d < a.tmps.size := by rw [fr.size]; exact of_decide_eq_true hlt
  have h2 : a.tmps[d]? = some (.bool b) := by
    have h3 : a.tmps[d]? = some (a.eval (.tmp d)) := by simp [Act.eval, Array.getElem?_eq_getElem h1]
    rw [h3, hv]
  unfold Region.wanted
  rw [hg]
  simp [yielded, hd, h2]
theorem wanted_no {ops : Array Oper} {o : Oper} {a a0 : Act} {ds : List Nat} {j d : Nat} {b : Bool} {u : Value} (hd : (ops[j]?).bind (·.dst) = some d) (fr : Fr a0 ds a) (hlt : decide (d < a0.tmps.size) = true) (hv : a.eval (.tmp d) = u) (hu : u = .bool (!b) ∨ u = undef) (hg : o.guard = some (j, b)) : Region.wanted o (yielded ops a.tmps) = false := by
  have h1 : d < a.tmps.size := by rw [fr.size]; exact of_decide_eq_true hlt
  have h2 : a.tmps[d]? = some u := by
    have h3 : a.tmps[d]? = some (a.eval (.tmp d)) := by simp [Act.eval, Array.getElem?_eq_getElem h1]
    rw [h3, hv]
  unfold Region.wanted
  rw [hg]
  rcases hu with rfl | rfl
  · cases b <;> simp [yielded, hd, h2]
  · simp [yielded, hd, h2, undef]
theorem op_skip_w {P : Program} {ops : Array Oper} {Q : Exit → Act → World → Prop} {i : Nat} {o : Oper} {w : World} {a : Act} {K : Act → World → Prop} (ho : ops[i]? = some o) (hw : Region.wanted o (yielded ops a.tmps) = false) (hk : K (a.put o.dst undef) w) : wpOp P ops Q i K a w := by
  unfold wpOp
  rw [ho]
  simpa [hw] using hk
theorem wanted_none {ops : Array Oper} {o : Oper} {a : Act} (h : o.guard = none) : Region.wanted o (yielded ops a.tmps) = true := by unfold Region.wanted; rw [h]
theorem op_value_w {P : Program} {ops : Array Oper} {Q : Exit → Act → World → Prop} {i : Nat} {o : Oper} {v : Value} {w w' : World} {a : Act} {K : Act → World → Prop} (ho : ops[i]? = some o) (hw : Region.wanted o (yielded ops a.tmps) = true) (hr : (execOp a.eval o).run P w = .ok (.value v) w') (hk : K (a.put o.dst v) w') : wpOp P ops Q i K a w := by
  unfold wpOp
  rw [ho]
  simp only [hw, if_true, Oper.wp, hr, Oper.upon]
  exact .inl hk
theorem op_call_w {P : Program} {ops : Array Oper} {Q : Exit → Act → World → Prop} {i : Nat} {o : Oper} {f : FuncId} {args : Array Value} {w : World} {a : Act} {K : Act → World → Prop} {R : Ending → World → Prop} (ho : ops[i]? = some o) (hw : Region.wanted o (yielded ops a.tmps) = true) (hr : (execOp a.eval o).run P w = .ok (.enter f args) w)
    (hc : Calls P f args w R) (hk : ∀ e w', R e w' → ∃ v, e = .returned v ∧ K (a.put o.dst v) w') : wpOp P ops Q i K a w := by
  unfold wpOp
  rw [ho]
  simp only [hw, if_true, Oper.wp, hr, Oper.upon]
  refine .inl (hc.mono fun e w' h => ?_)
  obtain ⟨v, rfl, hK⟩ := hk e w' h
  exact hK
theorem yields_call_g {P : Program} {G : World → Prop} {fn : FuncId} {args : Array Operand} {tys : Array TypeId} {vs : Array Value} {d : Option Tmp} {ty : TypeId} {pos : String} {aft : Array Edge} {gd : Option (Nat × Bool)} {R : Ending → World → Prop} {a : Act} {w : World} {v : Value}
    (hv : args.map a.eval = vs) {F : Func} {bd : Code} (hF : P.funcs[fn]? = some F) (hN : (F.name == "runtime.NumGoroutine") = false) (hB : F.body = some bd) (hc : Calls P fn vs w R) (hR : ∀ e w', R e w' → e = .returned v ∧ G w') :
    Yields P G ⟨d, .call { callee := .value (.func fn), args := args, argTypes := tys }, ty, pos, aft, gd⟩ a w v := by
  refine .inr ⟨fn, vs, R, ?_, hc, hR⟩
  have he : a.eval (.func fn) = .func (.func fn) #[] #[] := rfl
  have hN' : F.name ≠ "runtime.NumGoroutine" := by simpa using hN
  have h1 : (callFunc fn vs).run P w = .ok (.enter fn vs) w := by simp [callFunc, hF, hN', hB]
  simp only [execOp, resolve, hv, he]
  go_simp
def shapedG (ops : Array Oper) (ds : List Nat) : Bool := (ops.toList.map fun o => o.dst) == ds.map some
theorem wp_region_g {P : Program} {ops : Array Oper} {Q : Exit → Act → World → Prop} {id : Nat} {a0 : Act} {w0 : World} (hm : P.follows .mixedOrders = true) (ds : List Nat) (V : List Value) (G : World → Prop)
    (hsh : shapedG ops ds = true) (hl : V.length = ds.length) (hn : ds.Nodup) (hlt : ds.all (fun d => decide (d < a0.tmps.size)) = true) (hro : rowed ops = true) (start : G w0.drew)
    (step : ∀ (i : Nat), i < ops.size → ∀ a w, Fr a0 ds a → (∀ (j : Nat) d u, dep ops i j = true → ds[j]? = some d → V[j]? = some u → a.eval (.tmp d) = u) → G w →
      ∃ o v, ops[i]? = some o ∧ V[i]? = some v ∧ ((Region.wanted o (yielded ops a.tmps) = true ∧ Yields P G o a w v) ∨ (Region.wanted o (yielded ops a.tmps) = false ∧ v = undef)))
    (fin : ∀ w, G w → Q .normal (putAll a0 (ds.zip V)) w) : (Code.region id ops true).wp P Q a0 w0 := by
  have hops : ∀ (i : Nat) (o : Oper), ops[i]? = some o → ∃ d, ds[i]? = some d ∧ o.dst = some d := fun i o ho => by
    have h1 := congrArg (fun l => l[i]?) (eq_of_beq hsh)
    simp only [List.getElem?_map] at h1
    rw [Array.getElem?_toList, ho] at h1
    cases hd : ds[i]? with
    | none => rw [hd] at h1; cases h1
    | some d =>
      rw [hd] at h1
      simp only [Option.map_some, Option.some.injEq] at h1
      exact ⟨d, rfl, h1⟩
  have hsz : ds.length = ops.size := by
    have h1 := congrArg List.length (eq_of_beq hsh)
    simpa using h1.symm
  refine wp_region_inv hm (Up a0 ds V G ops.size) (fun L a w h => h.size) (Up.start start) (fun L a w i hU hr => ?_) (fun L a w hU hr => ?_)
  · obtain ⟨_, o, ho, _⟩ := mem_ready.1 hr
    obtain ⟨d, hd, hdst⟩ := hops i o ho
    have hdm : d < a0.tmps.size := of_decide_eq_true (List.all_eq_true.1 hlt d (List.mem_of_getElem? hd))
    obtain ⟨o', v', ho', hv', hwy⟩ := step i (Array.getElem?_eq_some_iff.1 ho).1 a w hU.fr (fun j d' u hp hd' hu => hU.val j (ready_pred hr hp) d' u hd' hu) hU.wld
    obtain rfl : o' = o := Option.some.inj (ho'.symm.trans ho)
    rcases hwy with ⟨hw, hy⟩ | ⟨hw, rfl⟩
    case inr =>
      refine op_skip_w ho hw ?_
      rw [hdst]
      exact hU.put hn hd hv' hdm hU.wld
    rcases hy with ⟨w', hrun, hG⟩ | ⟨f, args, R, hrun, hc, hR⟩
    · refine op_value_w ho hw hrun ?_
      rw [hdst]
      exact hU.put hn hd hv' hdm hG
    · refine op_call_w ho hw hrun hc fun e w' h => ?_
      obtain ⟨he, hG⟩ := hR e w' h
      refine ⟨_, he, ?_⟩
      rw [hdst]
      exact hU.put hn hd hv' hdm hG
  · have hall := all_up hU.size hro hr
    have hc := hU.fr.closed
    have hpv := putAll_vals (a0 := a0) (a := a) hl (fun j d v hd hv => hU.val j (hall j (by have := (List.getElem?_eq_some_iff.1 hd).1; omega)) d v hd hv)
    rw [hpv] at hc
    rw [hc]
    exact fin w hU.wld
end RV
end Go.Proofs.YtfdpddlefobcpaaGreatDoor
