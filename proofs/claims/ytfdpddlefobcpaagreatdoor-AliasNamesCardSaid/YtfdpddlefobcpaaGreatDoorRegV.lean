/- A region whose order is left open and whose operations yield the same values in whatever order they come up: one case an operation. -/
import Derived.OrdersHeld
import Derived.WalkKit
import Derived.RowKit
namespace Go.Proofs.YtfdpddlefobcpaaGreatDoor
open Go.RowKit
set_option linter.unusedVariables false
namespace RV
section
variable {P : Program} {ops : Array Oper} {Q : Exit → Act → World → Prop} {md : Region.Mode}
/-- does operation i wait for operation j? -/
def dep (ops : Array Oper) (i j : Nat) : Bool := match ops[i]? with
  | some o => o.after.any fun e => Region.binds .any e && e.on == j
  | none => false
theorem ready_pred {L : Array Bool} {i j : Nat} (hr : i ∈ Region.ready .any ops L) (hp : dep ops i j = true) : L.getD j false = true := by
  obtain ⟨_, o, ho, hall⟩ := mem_ready.1 hr
  unfold dep at hp
  rw [ho] at hp
  obtain ⟨e, he, hb⟩ := Array.any_eq_true'.1 hp
  simp only [Bool.and_eq_true, beq_iff_eq] at hb
  have := hall e he hb.1
  rwa [hb.2] at this
theorem ready_open {L : Array Bool} {i : Nat} (hr : i ∈ Region.ready .any ops L) : L.getD i true = false := (mem_ready.1 hr).1
/-- no operation waits for one behind it -/
def rowed (ops : Array Oper) : Bool := (List.range ops.size).all fun i => match ops[i]? with
  | some o => o.after.all fun e => !Region.binds .any e || decide (e.on < i)
  | none => true
theorem all_up {L : Array Bool} (hs : L.size = ops.size) (hro : rowed ops = true) (hr : Region.ready .any ops L = []) : ∀ j, j < ops.size → L.getD j false = true := by
  intro j
  induction j using Nat.strongRecOn with
  | _ j ih =>
    intro hj
    apply Classical.byContradiction
    intro hn
    have h1 : L.getD j true = false := by
      have hjl : j < L.size := by omega
      simp only [Array.getD_eq_getD_getElem?, Array.getElem?_eq_getElem hjl, Option.getD_some] at hn ⊢
      simpa using hn
    have h2 := List.all_eq_true.1 hro j (List.mem_range.2 hj)
    rw [Array.getElem?_eq_getElem hj] at h2
    have h3 : j ∈ Region.ready .any ops L := mem_ready.2 ⟨h1, ops[j], Array.getElem?_eq_getElem hj, fun e he hb => by
      have h4 := Array.all_eq_true_iff_forall_mem.1 h2 e he
      simp only [hb, Bool.not_true, Bool.false_or, decide_eq_true_eq] at h4
      exact ih e.on h4 (by omega)⟩
    rw [hr] at h3
    cases h3
theorem count_set {l : List Bool} {i : Nat} (h : l[i]? = some false) : (l.set i true).count false + 1 = l.count false := by
  induction l generalizing i with
  | nil => cases h
  | cons x l ih =>
    cases i with
    | zero =>
      obtain rfl : x = false := by simpa using h
      simp
    | succ i =>
      have := ih (i := i) (by simpa using h)
      simp only [List.set_cons_succ, List.count_cons]
      omega
theorem wpAny_inv (Inv : Array Bool → Act → World → Prop) (hsz : ∀ L a w, Inv L a w → L.size = ops.size)
    (step : ∀ L a w i, Inv L a w → i ∈ Region.ready .any ops L → wpOp P ops Q i (fun a' w' => Inv (L.setIfInBounds i true) a' w') a w)
    (fin : ∀ L a w, Inv L a w → Region.ready .any ops L = [] → Q .normal a w) :
    ∀ (fuel : Nat) (L : Array Bool) (a : Act) (w : World), L.toList.count false ≤ fuel → Inv L a w → wpAny P .any ops Q fuel L a w := by
  intro fuel
  have hmem : ∀ (L : Array Bool) i a w, Inv L a w → i ∈ Region.ready .any ops L → L.toList[i]? = some false := fun L i a w hI hi => by
    have h0 := (mem_ready.1 hi).1
    have h1 : i < L.size := by
      apply Classical.byContradiction
      intro hc
      rw [Array.getD_eq_getD_getElem?, Array.getElem?_eq_none (by omega)] at h0
      cases h0
    rw [Array.getD_eq_getD_getElem?, Array.getElem?_eq_getElem h1] at h0
    rw [Array.getElem?_toList, Array.getElem?_eq_getElem h1]
    simpa using h0
  induction fuel with
  | zero =>
    intro L a w hc hI
    have hr : Region.ready .any ops L = [] := by
      cases hr : Region.ready .any ops L with
      | nil => rfl
      | cons i rest =>
        have h1 := hmem L i a w hI (by rw [hr]; exact List.mem_cons_self)
        have h2 : 0 < L.toList.count false := List.count_pos_iff.2 (List.mem_of_getElem? h1)
        omega
    exact ⟨hr, fin L a w hI hr⟩
  | succ fuel ih =>
    intro L a w hc hI
    refine ⟨fin L a w hI, fun i hi => wpOp_mono (fun a' w' h => ih _ a' w' ?_ h) (step L a w i hI hi)⟩
    have h1 := count_set (hmem L i a w hI hi)
    rw [Array.toList_setIfInBounds]
    omega
theorem wp_region_inv {id : Nat} {a : Act} {w : World} (hm : P.follows .mixedOrders = true) (Inv : Array Bool → Act → World → Prop) (hsz : ∀ L a w, Inv L a w → L.size = ops.size)
    (start : Inv (Array.replicate ops.size false) a w.drew)
    (step : ∀ L a w i, Inv L a w → i ∈ Region.ready .any ops L → wpOp P ops Q i (fun a' w' => Inv (L.setIfInBounds i true) a' w') a w)
    (fin : ∀ L a w, Inv L a w → Region.ready .any ops L = [] → Q .normal a w) : (Code.region id ops true).wp P Q a w :=
  wp_region_any hm (wpAny_inv Inv hsz step fin ops.size _ a _ (by rw [Array.toList_replicate, List.count_replicate]; simp) start)
theorem op_value {i : Nat} {o : Oper} {v : Value} {w w' : World} {a : Act} {K : Act → World → Prop} (ho : ops[i]? = some o) (hg : o.guard = none) (hr : (execOp a.eval o).run P w = .ok (.value v) w') (hk : K (a.put o.dst v) w') : wpOp P ops Q i K a w := by
  unfold wpOp
  rw [ho]
  have hw : Region.wanted o (yielded ops a.tmps) = true := by unfold Region.wanted; rw [hg]
  simp only [hw, if_true, Oper.wp, hr, Oper.upon]
  exact .inl hk
theorem op_skip {i : Nat} {o : Oper} {w w' : World} {a : Act} {K : Act → World → Prop} (ho : ops[i]? = some o) (hg : o.guard = none) (hd : o.dst = none) (hr : (execOp a.eval o).run P w = .ok .skip w') (hk : K a w') : wpOp P ops Q i K a w := by
  unfold wpOp
  rw [ho]
  have hw : Region.wanted o (yielded ops a.tmps) = true := by unfold Region.wanted; rw [hg]
  simp only [hw, if_true, Oper.wp, hr, Oper.upon, hd, Act.put]
  exact .inl hk
theorem op_call {i : Nat} {o : Oper} {f : FuncId} {args : Array Value} {w : World} {a : Act} {K : Act → World → Prop} {R : Ending → World → Prop} (ho : ops[i]? = some o) (hg : o.guard = none) (hr : (execOp a.eval o).run P w = .ok (.enter f args) w)
    (hc : Calls P f args w R) (hk : ∀ e w', R e w' → ∃ v, e = .returned v ∧ K (a.put o.dst v) w') : wpOp P ops Q i K a w := by
  unfold wpOp
  rw [ho]
  have hw : Region.wanted o (yielded ops a.tmps) = true := by unfold Region.wanted; rw [hg]
  simp only [hw, if_true, Oper.wp, hr, Oper.upon]
  refine .inl (hc.mono fun e w' h => ?_)
  obtain ⟨v, rfl, hK⟩ := hk e w' h
  exact hK
end
/-- frames that agree but for the slots ds -/
structure Fr (a0 : Act) (ds : List Tmp) (a : Act) : Prop where
  size : a.tmps.size = a0.tmps.size
  defers : a.defers = a0.defers
  out : ∀ t, t ∉ ds → a.eval (.tmp t) = a0.eval (.tmp t)
theorem eval_put_same {a : Act} {d : Nat} (h : d < a.tmps.size) (v : Value) : (a.put (some d) v).eval (.tmp d) = v := by
  simp [Act.eval, Act.put, h]
theorem eval_put_ne {a : Act} {d t : Nat} (h : t ≠ d) (v : Value) : (a.put (some d) v).eval (.tmp t) = a.eval (.tmp t) := by
  simp [Act.eval, Act.put, Array.getElem?_setIfInBounds_ne (Ne.symm h)]
theorem Fr.refl (a0 : Act) (ds : List Tmp) : Fr a0 ds a0 := ⟨rfl, rfl, fun _ _ => rfl⟩
theorem Fr.put {a0 a : Act} {ds : List Tmp} (h : Fr a0 ds a) {d : Nat} (hd : d ∈ ds) (v : Value) : Fr a0 ds (a.put (some d) v) :=
  ⟨by simp [Act.put, h.size], h.defers, fun t ht => by rw [eval_put_ne (fun e => ht (by rw [e]; exact hd))]; exact h.out t ht⟩
def putAll (a : Act) (l : List (Tmp × Value)) : Act := l.foldl (fun a p => a.put (some p.1) p.2) a
theorem putAll_size (l : List (Tmp × Value)) (a : Act) : (putAll a l).tmps.size = a.tmps.size := by
  induction l generalizing a with
  | nil => rfl
  | cons p l ih => show (putAll (a.put (some p.1) p.2) l).tmps.size = _; rw [ih]; simp [Act.put]
theorem putAll_defers (l : List (Tmp × Value)) (a : Act) : (putAll a l).defers = a.defers := by
  induction l generalizing a with
  | nil => rfl
  | cons p l ih => show (putAll (a.put (some p.1) p.2) l).defers = _; rw [ih]; rfl
theorem putAll_get (f : Nat → Value) (ds : List Nat) (a : Act) (t : Nat) (ht : t < a.tmps.size) :
    (putAll a (ds.map fun d => (d, f d))).tmps[t]? = if t ∈ ds then some (f t) else a.tmps[t]? := by
  induction ds generalizing a with
  | nil => simp [putAll]
  | cons d ds ih =>
    show (putAll (a.put (some d) (f d)) (ds.map fun d => (d, f d))).tmps[t]? = _
    rw [ih _ (by simpa [Act.put] using ht)]
    by_cases h : t ∈ ds
    · rw [if_pos h, if_pos (List.mem_cons_of_mem _ h)]
    · rw [if_neg h]
      by_cases h' : t = d
      · subst h'
        rw [if_pos List.mem_cons_self]
        simp [Act.put, ht]
      · rw [if_neg (by simp [h, h'])]
        simp [Act.put, Array.getElem?_setIfInBounds_ne (Ne.symm h')]
theorem Fr.closed {a0 a : Act} {ds : List Tmp} (h : Fr a0 ds a) : a = putAll a0 (ds.map fun d => (d, a.eval (.tmp d))) := by
  have h1 : a.tmps = (putAll a0 (ds.map fun d => (d, a.eval (.tmp d)))).tmps := by
    apply Array.ext_getElem?
    intro t
    by_cases ht : t < a0.tmps.size
    · rw [putAll_get (fun d => a.eval (.tmp d)) ds a0 t ht]
      have hta : t < a.tmps.size := by rw [h.size]; exact ht
      have he : a.tmps[t]? = some (a.eval (.tmp t)) := by simp [Act.eval, Array.getElem?_eq_getElem hta]
      by_cases hm : t ∈ ds
      · rw [if_pos hm, he]
      · rw [if_neg hm, he, h.out t hm]
        simp [Act.eval, Array.getElem?_eq_getElem ht]
    · rw [Array.getElem?_eq_none (by rw [h.size]; omega), Array.getElem?_eq_none (by rw [putAll_size]; omega)]
  have h2 := (putAll_defers (ds.map fun d => (d, a.eval (.tmp d))) a0).trans h.defers.symm
  obtain ⟨t1, d1⟩ := a
  show (⟨t1, d1⟩ : Act) = _
  generalize putAll a0 _ = b at *
  obtain ⟨t2, d2⟩ := b
  simp only at h1 h2
  rw [h1, h2]
theorem on_set {L : Array Bool} {i j : Nat} (h : (L.setIfInBounds i true).getD j false = true) : j = i ∨ L.getD j false = true := by
  by_cases e : j = i
  · exact .inl e
  · rw [getD_set_ne false (fun h => e h.symm)] at h; exact .inr h
/-- one operation: what it yields, in whatever frame and world -/
def Yields (P : Program) (G : World → Prop) (o : Oper) (a : Act) (w : World) (v : Value) : Prop :=
  (∃ w', (execOp a.eval o).run P w = .ok (.value v) w' ∧ G w') ∨
  (∃ f args R, (execOp a.eval o).run P w = .ok (.enter f args) w ∧ Calls P f args w R ∧ ∀ e w', R e w' → e = .returned v ∧ G w')
/-- what has come up so far -/
structure Up (a0 : Act) (ds : List Nat) (V : List Value) (G : World → Prop) (N0 : Nat) (L : Array Bool) (a : Act) (w : World) : Prop where
  size : L.size = N0
  fr : Fr a0 ds a
  val : ∀ j, L.getD j false = true → ∀ d v, ds[j]? = some d → V[j]? = some v → a.eval (.tmp d) = v
  wld : G w
theorem Up.start {a0 : Act} {ds : List Nat} {V : List Value} {G : World → Prop} {N0 : Nat} {w : World} (h : G w) : Up a0 ds V G N0 (Array.replicate N0 false) a0 w :=
  ⟨by simp, Fr.refl _ _, fun j h d v _ _ => absurd h (by
    intro h
    rw [Array.getD_eq_getD_getElem?, Array.getElem?_replicate] at h
    split at h <;> simp at h), h⟩
theorem Up.put {a0 a : Act} {ds : List Nat} {V : List Value} {G : World → Prop} {N0 i d : Nat} {L : Array Bool} {w w' : World} {v : Value} (h : Up a0 ds V G N0 L a w) (hn : ds.Nodup) (hd : ds[i]? = some d) (hv : V[i]? = some v)
    (hlt : d < a0.tmps.size) (hG : G w') : Up a0 ds V G N0 (L.setIfInBounds i true) (a.put (some d) v) w' := by
  have hm : d ∈ ds := List.mem_of_getElem? hd
  refine ⟨by rw [Array.size_setIfInBounds]; exact h.size, h.fr.put hm v, fun j hj d' v' hd' hv' => ?_, hG⟩
  rcases on_set hj with e | e
  · subst e
    rw [hd] at hd'; rw [hv] at hv'
    cases hd'; cases hv'
    exact eval_put_same (by rw [h.fr.size]; exact hlt) v
  · by_cases hji : j = i
    · subst hji
      rw [hd] at hd'; rw [hv] at hv'
      cases hd'; cases hv'
      exact eval_put_same (by rw [h.fr.size]; exact hlt) v
    · have hne : d' ≠ d := fun e' => by
        subst e'
        obtain ⟨l1, e1⟩ := List.getElem?_eq_some_iff.1 hd
        obtain ⟨l2, e2⟩ := List.getElem?_eq_some_iff.1 hd'
        exact hji ((List.getElem_inj hn).1 (e2.trans e1.symm))
      rw [eval_put_ne hne]
      exact h.val j e d' v' hd' hv'
def shaped (ops : Array Oper) (ds : List Nat) : Bool := (ops.toList.map fun o => (o.dst, o.guard.isNone)) == ds.map fun d => (some d, true)
theorem putAll_vals {a0 : Act} {ds : List Nat} {V : List Value} {a : Act} (hl : V.length = ds.length) (h : ∀ (j : Nat) d v, ds[j]? = some d → V[j]? = some v → a.eval (.tmp d) = v) : (ds.map fun d => (d, a.eval (.tmp d))) = ds.zip V := by
  apply List.ext_getElem?
  intro j
  rw [List.getElem?_map]
  by_cases hj : j < ds.length
  · have h1 := List.getElem?_eq_getElem hj
    have h2 := List.getElem?_eq_getElem (l := V) (i := j) (by omega)
    have h3 : (ds.zip V)[j]? = some (ds[j], V[j]'(by omega)) := List.getElem?_zip_eq_some.2 ⟨h1, h2⟩
    rw [h3, h1, Option.map_some, h j _ _ h1 h2]
  · rw [List.getElem?_eq_none (by omega), List.getElem?_eq_none (by rw [List.length_zip]; omega)]
    rfl
theorem wp_region_v {P : Program} {ops : Array Oper} {Q : Exit → Act → World → Prop} {id : Nat} {a0 : Act} {w0 : World} (hm : P.follows .mixedOrders = true) (ds : List Nat) (V : List Value) (G : World → Prop)
    (hsh : shaped ops ds = true) (hl : V.length = ds.length) (hn : ds.Nodup) (hlt : ds.all (fun d => decide (d < a0.tmps.size)) = true) (hro : rowed ops = true) (start : G w0.drew)
    (step : ∀ (i : Nat), i < ops.size → ∀ a w, Fr a0 ds a → (∀ (j : Nat) d u, dep ops i j = true → ds[j]? = some d → V[j]? = some u → a.eval (.tmp d) = u) → G w → ∃ o v, ops[i]? = some o ∧ V[i]? = some v ∧ Yields P G o a w v)
    (fin : ∀ w, G w → Q .normal (putAll a0 (ds.zip V)) w) : (Code.region id ops true).wp P Q a0 w0 := by
  have hops : ∀ (i : Nat) (o : Oper), ops[i]? = some o → ∃ d, ds[i]? = some d ∧ o.dst = some d ∧ o.guard = none := fun i o ho => by
    have h1 := congrArg (fun l => l[i]?) (eq_of_beq hsh)
    simp only [List.getElem?_map] at h1
    rw [Array.getElem?_toList, ho] at h1
    cases hd : ds[i]? with
    | none => rw [hd] at h1; cases h1
    | some d =>
      rw [hd] at h1
      simp only [Option.map_some, Option.some.injEq, Prod.mk.injEq, Option.isNone_iff_eq_none] at h1
      exact ⟨d, rfl, h1.1, h1.2⟩
  have hsz : ds.length = ops.size := by
    have h1 := congrArg List.length (eq_of_beq hsh)
    simpa using h1.symm
  refine wp_region_inv hm (Up a0 ds V G ops.size) (fun L a w h => h.size) (Up.start start) (fun L a w i hU hr => ?_) (fun L a w hU hr => ?_)
  · obtain ⟨_, o, ho, _⟩ := mem_ready.1 hr
    obtain ⟨d, hd, hdst, hgd⟩ := hops i o ho
    have hi : i < V.length := by rw [hl]; exact (List.getElem?_eq_some_iff.1 hd).1
    have hv := List.getElem?_eq_getElem hi
    have hdm : d < a0.tmps.size := of_decide_eq_true (List.all_eq_true.1 hlt d (List.mem_of_getElem? hd))
    obtain ⟨o', v', ho', hv', hy⟩ := step i (Array.getElem?_eq_some_iff.1 ho).1 a w hU.fr (fun j d' u hp hd' hu => hU.val j (ready_pred hr hp) d' u hd' hu) hU.wld
    obtain rfl : o' = o := Option.some.inj (ho'.symm.trans ho)
    rw [hv'] at hv
    rcases hy with ⟨w', hrun, hG⟩ | ⟨f, args, R, hrun, hc, hR⟩
    · refine op_value ho hgd hrun ?_
      rw [hdst]
      exact hU.put hn hd hv' hdm hG
    · refine op_call ho hgd hrun hc fun e w' h => ?_
      obtain ⟨he, hG⟩ := hR e w' h
      refine ⟨_, he, ?_⟩
      rw [hdst]
      exact hU.put hn hd hv' hdm hG
  · have hall := all_up hU.size hro hr
    have hc := hU.fr.closed
    have hpv := putAll_vals (a0 := a0) (a := a) hl (fun j d v hd hv => hU.val j (hall j (by have := (List.getElem?_eq_some_iff.1 hd).1; omega)) d v hd hv)
    rw [hpv] at hc
    rw [hc]
    exact fin w hU.wld
/-- an operation that calls a function, at arguments that are known -/
theorem yields_call {P : Program} {G : World → Prop} {fn : FuncId} {args : Array Operand} {tys : Array TypeId} {vs : Array Value} {d : Option Tmp} {ty : TypeId} {pos : String} {aft : Array Edge} {R : Ending → World → Prop} {a : Act} {w : World} {v : Value}
    (hv : args.map a.eval = vs) {F : Func} {bd : Code} (hF : P.funcs[fn]? = some F) (hN : (F.name == "runtime.NumGoroutine") = false) (hB : F.body = some bd) (hc : Calls P fn vs w R) (hR : ∀ e w', R e w' → e = .returned v ∧ G w') :
    Yields P G ⟨d, .call { callee := .value (.func fn), args := args, argTypes := tys }, ty, pos, aft, none⟩ a w v := by
  refine .inr ⟨fn, vs, R, ?_, hc, hR⟩
  have he : a.eval (.func fn) = .func (.func fn) #[] #[] := rfl
  have hN' : F.name ≠ "runtime.NumGoroutine" := by simpa using hN
  have h1 : (callFunc fn vs).run P w = .ok (.enter fn vs) w := by simp [callFunc, hF, hN', hB]
  simp only [execOp, resolve, hv, he]
  go_simp
end RV
end Go.Proofs.YtfdpddlefobcpaaGreatDoor
