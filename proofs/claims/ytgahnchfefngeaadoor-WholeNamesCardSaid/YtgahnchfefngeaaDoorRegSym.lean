/- A region whose order is left open, shown by what holds of whatever has come up so far (one case an operation, whatever the orders): whole numbers told by calls, laid into blocks of the region's own. -/
import Derived.Test.YtgahnchfefngeaaDoorWholeState
import Derived.OrdersHeld
namespace Go.Proofs.YtgahnchfefngeaaDoor
open Go.RowKit
set_option linter.unusedVariables false
set_option maxRecDepth 20000
open N
namespace N
section
variable {P : Program} {ops : Array Oper} {Q : Exit → Act → World → Prop} {md : Region.Mode}
/-- does operation i wait for operation j? -/
def dep (ops : Array Oper) (i j : Nat) : Bool := match ops[i]? with
  | some o => o.after.any fun e => Region.binds .any e && e.on == j
  | none => false
theorem ready_pred {L : Array Bool} {i j : Nat} (hr : i ∈ Region.ready .any ops L) (hp : dep ops i j = true) : L.getD j false = true := by
  obtain ⟨_, o, ho, hall⟩ := mem_ready.1 hr
  unfold dep at hp
  rw [ho] at hp
  obtain ⟨e, he, hb⟩ := Array.any_eq_true'.1 hp
  simp only [Bool.and_eq_true, beq_iff_eq] at hb
  have := hall e he hb.1
  rwa [hb.2] at this
theorem ready_open {L : Array Bool} {i : Nat} (hr : i ∈ Region.ready .any ops L) : L.getD i true = false := (mem_ready.1 hr).1
/-- no operation waits for one behind it -/
def rowed (ops : Array Oper) : Bool := (List.range ops.size).all fun i => match ops[i]? with
  | some o => o.after.all fun e => !Region.binds .any e || decide (e.on < i)
  | none => true
theorem all_up {L : Array Bool} (hs : L.size = ops.size) (hro : rowed ops = true) (hr : Region.ready .any ops L = []) : ∀ j, j < ops.size → L.getD j false = true := by
  intro j
  induction j using Nat.strongRecOn with
  | _ j ih =>
    intro hj
    apply Classical.byContradiction
    intro hn
    have h1 : L.getD j true = false := by
      have hjl : j < L.size := by omega
      simp only [Array.getD_eq_getD_getElem?, Array.getElem?_eq_getElem hjl, Option.getD_some] at hn ⊢
      simpa using hn
    have h2 := List.all_eq_true.1 hro j (List.mem_range.2 hj)
    rw [Array.getElem?_eq_getElem hj] at h2
    have h3 : j ∈ Region.ready .any ops L := mem_ready.2 ⟨h1, ops[j], Array.getElem?_eq_getElem hj, fun e he hb => by
      have h4 := Array.all_eq_true_iff_forall_mem.1 h2 e he
      simp only [hb, Bool.not_true, Bool.false_or, decide_eq_true_eq] at h4
      exact ih e.on h4 (by omega)⟩
    rw [hr] at h3
    cases h3
/-- what has come up has all that it waits for -/
def Clo (ops : Array Oper) (L : Array Bool) : Prop := ∀ j, L.getD j false = true → ∀ i, dep ops j i = true → L.getD i false = true
theorem Clo.set {L : Array Bool} {i : Nat} (h : Clo ops L) (hr : i ∈ Region.ready .any ops L) : Clo ops (L.setIfInBounds i true) := fun j hj k hk => by
  by_cases e : j = i
  · subst e; exact getD_set_true (ready_pred hr hk)
  · rw [getD_set_ne false (fun h => e h.symm)] at hj
    exact getD_set_true (h j hj k hk)
theorem Clo.no {L : Array Bool} {i j : Nat} (h : Clo ops L) (hr : i ∈ Region.ready .any ops L) (hd : dep ops j i = true) : L.getD j false = false := by
  cases e : L.getD j false with
  | false => rfl
  | true =>
    have h1 := h j e i hd
    have h2 := ready_open hr
    by_cases hl : i < L.size
    · rw [Array.getD_eq_getD_getElem?, Array.getElem?_eq_getElem hl] at h1 h2
      rw [Option.getD_some] at h1 h2
      rw [h1] at h2; cases h2
    · rw [Array.getD_eq_getD_getElem?, Array.getElem?_eq_none (by omega)] at h1
      cases h1
theorem count_set {l : List Bool} {i : Nat} (h : l[i]? = some false) : (l.set i true).count false + 1 = l.count false := by
  induction l generalizing i with
  | nil => cases h
  | cons x l ih =>
    cases i with
    | zero =>
      obtain rfl : x = false := by simpa using h
      simp
    | succ i =>
      have := ih (i := i) (by simpa using h)
      simp only [List.set_cons_succ, List.count_cons]
      omega
theorem wpAny_inv (Inv : Array Bool → Act → World → Prop) (hsz : ∀ L a w, Inv L a w → L.size = ops.size)
    (step : ∀ L a w i, Inv L a w → i ∈ Region.ready .any ops L → wpOp P ops Q i (fun a' w' => Inv (L.setIfInBounds i true) a' w') a w)
    (fin : ∀ L a w, Inv L a w → Region.ready .any ops L = [] → Q .normal a w) :
    ∀ (fuel : Nat) (L : Array Bool) (a : Act) (w : World), L.toList.count false ≤ fuel → Inv L a w → wpAny P .any ops Q fuel L a w := by
  intro fuel
  have hmem : ∀ (L : Array Bool) i a w, Inv L a w → i ∈ Region.ready .any ops L → L.toList[i]? = some false := fun L i a w hI hi => by
    have h0 := (mem_ready.1 hi).1
    have h1 : i < L.size := by
      apply Classical.byContradiction
      intro hc
      rw [Array.getD_eq_getD_getElem?, Array.getElem?_eq_none (by omega)] at h0
      cases h0
    rw [Array.getD_eq_getD_getElem?, Array.getElem?_eq_getElem h1] at h0
    rw [Array.getElem?_toList, Array.getElem?_eq_getElem h1]
    simpa using h0
  induction fuel with
  | zero =>
    intro L a w hc hI
    have hr : Region.ready .any ops L = [] := by
      cases hr : Region.ready .any ops L with
      | nil => rfl
      | cons i rest =>
        have h1 := hmem L i a w hI (by rw [hr]; exact List.mem_cons_self)
        have h2 : 0 < L.toList.count false := List.count_pos_iff.2 (List.mem_of_getElem? h1)
        omega
    exact ⟨hr, fin L a w hI hr⟩
  | succ fuel ih =>
    intro L a w hc hI
    refine ⟨fin L a w hI, fun i hi => wpOp_mono (fun a' w' h => ih _ a' w' ?_ h) (step L a w i hI hi)⟩
    have h1 := count_set (hmem L i a w hI hi)
    rw [Array.toList_setIfInBounds]
    omega
theorem wp_region_inv {id : Nat} {a : Act} {w : World} (hm : P.follows .mixedOrders = true) (Inv : Array Bool → Act → World → Prop) (hsz : ∀ L a w, Inv L a w → L.size = ops.size)
    (start : Inv (Array.replicate ops.size false) a w.drew)
    (step : ∀ L a w i, Inv L a w → i ∈ Region.ready .any ops L → wpOp P ops Q i (fun a' w' => Inv (L.setIfInBounds i true) a' w') a w)
    (fin : ∀ L a w, Inv L a w → Region.ready .any ops L = [] → Q .normal a w) : (Code.region id ops true).wp P Q a w :=
  wp_region_any hm (wpAny_inv Inv hsz step fin ops.size _ a _ (by rw [Array.toList_replicate, List.count_replicate]; simp) start)
theorem op_value {i : Nat} {o : Oper} {v : Value} {w w' : World} {a : Act} {K : Act → World → Prop} (ho : ops[i]? = some o) (hg : o.guard = none) (hr : (execOp a.eval o).run P w = .ok (.value v) w') (hk : K (a.put o.dst v) w') : wpOp P ops Q i K a w := by
  unfold wpOp
  rw [ho]
  have hw : Region.wanted o (yielded ops a.tmps) = true := by unfold Region.wanted; rw [hg]
  simp only [hw, if_true, Oper.wp, hr, Oper.upon]
  exact .inl hk
theorem op_skip {i : Nat} {o : Oper} {w w' : World} {a : Act} {K : Act → World → Prop} (ho : ops[i]? = some o) (hg : o.guard = none) (hd : o.dst = none) (hr : (execOp a.eval o).run P w = .ok .skip w') (hk : K a w') : wpOp P ops Q i K a w := by
  unfold wpOp
  rw [ho]
  have hw : Region.wanted o (yielded ops a.tmps) = true := by unfold Region.wanted; rw [hg]
  simp only [hw, if_true, Oper.wp, hr, Oper.upon, hd, Act.put]
  exact .inl hk
theorem op_call {i : Nat} {o : Oper} {f : FuncId} {args : Array Value} {w : World} {a : Act} {K : Act → World → Prop} {R : Ending → World → Prop} (ho : ops[i]? = some o) (hg : o.guard = none) (hr : (execOp a.eval o).run P w = .ok (.enter f args) w)
    (hc : Calls P f args w R) (hk : ∀ e w', R e w' → ∃ v, e = .returned v ∧ K (a.put o.dst v) w') : wpOp P ops Q i K a w := by
  unfold wpOp
  rw [ho]
  have hw : Region.wanted o (yielded ops a.tmps) = true := by unfold Region.wanted; rw [hg]
  simp only [hw, if_true, Oper.wp, hr, Oper.upon]
  refine .inl (hc.mono fun e w' h => ?_)
  obtain ⟨v, rfl, hK⟩ := hk e w' h
  exact hK
end
/-- frames that agree but for the slots ds -/
structure Fr (a0 : Act) (ds : List Tmp) (a : Act) : Prop where
  size : a.tmps.size = a0.tmps.size
  defers : a.defers = a0.defers
  out : ∀ t, t ∉ ds → a.eval (.tmp t) = a0.eval (.tmp t)
theorem eval_put_same {a : Act} {d : Nat} (h : d < a.tmps.size) (v : Value) : (a.put (some d) v).eval (.tmp d) = v := by
  simp [Act.eval, Act.put, h]
theorem eval_put_ne {a : Act} {d t : Nat} (h : t ≠ d) (v : Value) : (a.put (some d) v).eval (.tmp t) = a.eval (.tmp t) := by
  simp [Act.eval, Act.put, Array.getElem?_setIfInBounds_ne (Ne.symm h)]
theorem Fr.refl (a0 : Act) (ds : List Tmp) : Fr a0 ds a0 := ⟨rfl, rfl, fun _ _ => rfl⟩
theorem Fr.put {a0 a : Act} {ds : List Tmp} (h : Fr a0 ds a) {d : Nat} (hd : d ∈ ds) (v : Value) : Fr a0 ds (a.put (some d) v) :=
  ⟨by simp [Act.put, h.size], h.defers, fun t ht => by rw [eval_put_ne (fun e => ht (by rw [e]; exact hd))]; exact h.out t ht⟩
def putAll (a : Act) (l : List (Tmp × Value)) : Act := l.foldl (fun a p => a.put (some p.1) p.2) a
theorem putAll_size (l : List (Tmp × Value)) (a : Act) : (putAll a l).tmps.size = a.tmps.size := by
  induction l generalizing a with
  | nil => rfl
  | cons p l ih => show (putAll (a.put (some p.1) p.2) l).tmps.size = _; rw [ih]; simp [Act.put]
theorem putAll_defers (l : List (Tmp × Value)) (a : Act) : (putAll a l).defers = a.defers := by
  induction l generalizing a with
  | nil => rfl
  | cons p l ih => show (putAll (a.put (some p.1) p.2) l).defers = _; rw [ih]; rfl
theorem putAll_get (f : Nat → Value) (ds : List Nat) (a : Act) (t : Nat) (ht : t < a.tmps.size) :
    (putAll a (ds.map fun d => (d, f d))).tmps[t]? = if t ∈ ds then some (f t) else a.tmps[t]? := by
  induction ds generalizing a with
  | nil => simp [putAll]
  | cons d ds ih =>
    show (putAll (a.put (some d) (f d)) (ds.map fun d => (d, f d))).tmps[t]? = _
    rw [ih _ (by simpa [Act.put] using ht)]
    by_cases h : t ∈ ds
    · rw [if_pos h, if_pos (List.mem_cons_of_mem _ h)]
    · rw [if_neg h]
      by_cases h' : t = d
      · subst h'
        rw [if_pos List.mem_cons_self]
        simp [Act.put, ht]
      · rw [if_neg (by simp [h, h'])]
        simp [Act.put, Array.getElem?_setIfInBounds_ne (Ne.symm h')]
theorem Fr.closed {a0 a : Act} {ds : List Tmp} (h : Fr a0 ds a) : a = putAll a0 (ds.map fun d => (d, a.eval (.tmp d))) := by
  have h1 : a.tmps = (putAll a0 (ds.map fun d => (d, a.eval (.tmp d)))).tmps := by
    apply Array.ext_getElem?
    intro t
    by_cases ht : t < a0.tmps.size
    · rw [putAll_get (fun d => a.eval (.tmp d)) ds a0 t ht]
      have hta : t < a.tmps.size := by rw [h.size]; exact ht
      have he : a.tmps[t]? = some (a.eval (.tmp t)) := by simp [Act.eval, Array.getElem?_eq_getElem hta]
      by_cases hm : t ∈ ds
      · rw [if_pos hm, he]
      · rw [if_neg hm, he, h.out t hm]
        simp [Act.eval, Array.getElem?_eq_getElem ht]
    · rw [Array.getElem?_eq_none (by rw [h.size]; omega), Array.getElem?_eq_none (by rw [putAll_size]; omega)]
  have h2 := (putAll_defers (ds.map fun d => (d, a.eval (.tmp d))) a0).trans h.defers.symm
  obtain ⟨t1, d1⟩ := a
  show (⟨t1, d1⟩ : Act) = _
  generalize putAll a0 _ = b at *
  obtain ⟨t2, d2⟩ := b
  simp only at h1 h2
  rw [h1, h2]
/-- what is known of a slot, once its operation has come up -/
inductive Ft where
  | val (t : Nat) (v : Value)
  | int (t : Nat) (r : Int) (k : Nat)
  | two (t : Nat) (q r : Int) (k : Nat) (e : Int)
  | intE (t : Nat) (r : Int) (k : Nat) (e : Int)
  | box (t : Nat)
  | boxv (t : Nat) (r : Int) (k : Nat)
def Ft.slot : Ft → Nat
  | .val t _ => t | .int t _ _ => t | .two t _ _ _ _ => t | .intE t _ _ _ => t | .box t => t | .boxv t _ _ => t
def Ft.isBox : Ft → Bool
  | .box _ => true | .boxv _ _ _ => true | _ => false
def En (S : List Ent) (r : Int) (k : Nat) (A : Option Addr) (n c : Nat) : Prop := (⟨A, n, c, k, limbs (mg r), mg r⟩ : Ent) ∈ S
def Ft.ok (a : Act) (S : List Ent) (T : List Bx) : Ft → Prop
  | .val t v => a.eval (.tmp t) = v
  | .int t r k => ∃ A n c, a.eval (.tmp t) = .agg #[.bool (sg r), .slice A n c] ∧ En S r k A n c
  | .two t q r k e => ∃ A n c A' n' c', a.eval (.tmp t) = .tuple #[.agg #[.bool (sg q), .slice A n c], .agg #[.bool (sg r), .slice A' n' c'], .int .i64 e] ∧ En S q k A n c ∧ En S r k A' n' c'
  | .intE t r k e => ∃ A n c, a.eval (.tmp t) = .tuple #[.agg #[.bool (sg r), .slice A n c], .int .i64 e] ∧ En S r k A n c
  | .box t => ∃ g b A n c, a.eval (.tmp t) = .pointer (some ⟨g, 0, none⟩) ∧ (⟨g, b, A, n, c⟩ : Bx) ∈ T
  | .boxv t r k => ∃ g A n c, a.eval (.tmp t) = .pointer (some ⟨g, 0, none⟩) ∧ (⟨g, sg r, A, n, c⟩ : Bx) ∈ T ∧ En S r k A n c
theorem Ft.ok_put {a : Act} {S S' : List Ent} {T T' : List Bx} {f : Ft} {d : Nat} {v : Value} (h : f.ok a S T) (hd : f.slot ≠ d) (hs : ∀ t ∈ S, t ∈ S') (ht : ∀ q ∈ T, q ∈ T') : f.ok (a.put (some d) v) S' T' := by
  cases f with
  | val t x => exact (eval_put_ne hd v).trans h
  | int t r k => obtain ⟨A, n, c, e, h1⟩ := h; exact ⟨A, n, c, (eval_put_ne hd v).trans e, hs _ h1⟩
  | two t q r k e => obtain ⟨A, n, c, A', n', c', e1, h1, h2⟩ := h; exact ⟨A, n, c, A', n', c', (eval_put_ne hd v).trans e1, hs _ h1, hs _ h2⟩
  | intE t r k e => obtain ⟨A, n, c, e1, h1⟩ := h; exact ⟨A, n, c, (eval_put_ne hd v).trans e1, hs _ h1⟩
  | box t => obtain ⟨g, b, A, n, c, e, h1⟩ := h; exact ⟨g, b, A, n, c, (eval_put_ne hd v).trans e, ht _ h1⟩
  | boxv t r k => obtain ⟨g, A, n, c, e, h1, h2⟩ := h; exact ⟨g, A, n, c, (eval_put_ne hd v).trans e, ht _ h1, hs _ h2⟩
end N
/-- the state in the midst of a region: L: what has come up; S0, T0: what was there -/
structure Dat (a0 : Act) (ds : List Tmp) (facts : Nat → List Ft) (N0 : Nat) (w0 : World) (S0 : List Ent) (T0 : List Bx) (L : Array Bool) (a : Act) (w : World) (S : List Ent) (T : List Bx) : Prop where
  size : L.size = N0
  fr : Fr a0 ds a
  sb : SB w0 w S T
  sub : ∀ t ∈ S0, t ∈ S
  subT : ∀ q ∈ T0, q ∈ T
  nd : (T.map Bx.g).Nodup
  fact : ∀ j, L.getD j false = true → ∀ f ∈ facts j, f.ok a S T
  sep : ∀ j j', L.getD j false = true → L.getD j' false = true → ∀ f ∈ facts j, ∀ f' ∈ facts j', f.isBox = true → f'.isBox = true → f.slot ≠ f'.slot → a.eval (.tmp f.slot) ≠ a.eval (.tmp f'.slot)
  old : ∀ j, L.getD j false = true → ∀ f ∈ facts j, f.isBox = true → ∀ q ∈ T0, a.eval (.tmp f.slot) ≠ .pointer (some ⟨q.g, 0, none⟩)
def RI (a0 : Act) (ds : List Tmp) (facts : Nat → List Ft) (N0 : Nat) (w0 : World) (S0 : List Ent) (T0 : List Bx) (L : Array Bool) (a : Act) (w : World) : Prop := ∃ S T, Dat a0 ds facts N0 w0 S0 T0 L a w S T
namespace N
theorem on_set {L : Array Bool} {i j : Nat} (h : (L.setIfInBounds i true).getD j false = true) : j = i ∨ L.getD j false = true := by
  by_cases e : j = i
  · exact .inl e
  · rw [getD_set_ne false (fun h => e h.symm)] at h; exact .inr h
end N
section
variable {a0 : Act} {ds : List Tmp} {facts : Nat → List Ft} {N0 : Nat} {w0 w w' : World} {S0 S S' : List Ent} {T0 T : List Bx} {L : Array Bool} {a : Act} {i d : Nat} {v : Value}
theorem Dat.start {w0 w : World} {S0 : List Ent} {T0 : List Bx} (h : SB w0 w S0 T0) (hn : (T0.map Bx.g).Nodup) : RI a0 ds facts N0 w0 S0 T0 (Array.replicate N0 false) a0 w := by
  have hf : ∀ j, ¬ (Array.replicate N0 false).getD j false = true := fun j h => by
    rw [Array.getD_eq_getD_getElem?, Array.getElem?_replicate] at h
    split at h <;> cases h
  exact ⟨S0, T0, by simp, Fr.refl _ _, h, fun t ht => ht, fun q hq => hq, hn, fun j h => absurd h (hf j), fun j j' h => absurd h (hf j), fun j h => absurd h (hf j)⟩
/-- an operation that lays a value into its slot: the blocks are as they were -/
theorem Dat.value (D : Dat a0 ds facts N0 w0 S0 T0 L a w S T) (hd : d ∈ ds) (hlt : d < a0.tmps.size) (hsl : ∀ j, j ≠ i → L.getD j false = true → ∀ f ∈ facts j, f.slot ≠ d) (hS' : SB w0 w' S' T) (hs : ∀ t ∈ S, t ∈ S')
    (hb : ∀ f ∈ facts i, f.isBox = false) (hnew : ∀ f ∈ facts i, f.ok (a.put (some d) v) S' T) : RI a0 ds facts N0 w0 S0 T0 (L.setIfInBounds i true) (a.put (some d) v) w' := by
  refine ⟨S', T, by rw [Array.size_setIfInBounds]; exact D.size, D.fr.put hd v, hS', fun t ht => hs t (D.sub t ht), D.subT, D.nd, fun j hj f hf => ?_, fun j j' hj hj' f hf f' hf' h1 h2 hne => ?_, fun j hj f hf h1 q hq => ?_⟩
  · by_cases e : j = i
    · subst e; exact hnew f hf
    · exact Ft.ok_put (D.fact j ((on_set hj).resolve_left e) f hf) (hsl j e ((on_set hj).resolve_left e) f hf) hs (fun q hq => hq)
  · have e : j ≠ i := fun e => by subst e; rw [hb f hf] at h1; cases h1
    have e' : j' ≠ i := fun e => by subst e; rw [hb f' hf'] at h2; cases h2
    rw [eval_put_ne (hsl j e ((on_set hj).resolve_left e) f hf), eval_put_ne (hsl j' e' ((on_set hj').resolve_left e') f' hf')]
    exact D.sep j j' ((on_set hj).resolve_left e) ((on_set hj').resolve_left e') f hf f' hf' h1 h2 hne
  · have e : j ≠ i := fun e => by subst e; rw [hb f hf] at h1; cases h1
    rw [eval_put_ne (hsl j e ((on_set hj).resolve_left e) f hf)]
    exact D.old j ((on_set hj).resolve_left e) f hf h1 q hq
/-- a new block -/
theorem Dat.alloc (D : Dat a0 ds facts N0 w0 S0 T0 L a w S T) (hd : d ∈ ds) (hlt : d < a0.tmps.size) (hsl : ∀ j, j ≠ i → L.getD j false = true → ∀ f ∈ facts j, f.slot ≠ d) (hi : facts i = [.box d]) :
    RI a0 ds facts N0 w0 S0 T0 (L.setIfInBounds i true) (a.put (some d) (.pointer (some ⟨w.heap.size, 0, none⟩))) (w.alloc (.cells #[.bool false, .slice none 0 0] 26)) := by
  have hS' := D.sb.boxed (b := false) (A := none) (n := 0) (c := 0) rfl
  have hlt' : d < a.tmps.size := by rw [D.fr.size]; exact hlt
  have hgs : ∀ q ∈ T, q.g < w.heap.size := fun q hq => BoxI.lt (D.sb.box q hq)
  have hev : ∀ j, L.getD j false = true → ∀ f ∈ facts j, f.isBox = true → a.eval (.tmp f.slot) ≠ .pointer (some ⟨w.heap.size, 0, none⟩) := fun j hj f hf hb e => by
    have h1 := D.fact j hj f hf
    cases f with
    | box t =>
      obtain ⟨g, b, A, n, c, e1, h2⟩ := h1
      have e2 : Value.pointer (some ⟨g, 0, none⟩) = .pointer (some ⟨w.heap.size, 0, none⟩) := e1.symm.trans e
      have := hgs _ h2
      simp only [Value.pointer.injEq, Option.some.injEq, Addr.mk.injEq] at e2
      have h3 : g < w.heap.size := this
      omega
    | boxv t r k =>
      obtain ⟨g, A, n, c, e1, h2, _⟩ := h1
      have e2 : Value.pointer (some ⟨g, 0, none⟩) = .pointer (some ⟨w.heap.size, 0, none⟩) := e1.symm.trans e
      have := hgs _ h2
      simp only [Value.pointer.injEq, Option.some.injEq, Addr.mk.injEq] at e2
      have h3 : g < w.heap.size := this
      omega
    | val t x => cases hb
    | int t r k => cases hb
    | two t q r k e => cases hb
    | intE t r k e => cases hb
  refine ⟨S, _, by rw [Array.size_setIfInBounds]; exact D.size, D.fr.put hd _, hS', D.sub, fun q hq => List.mem_cons_of_mem _ (D.subT q hq), ?_, fun j hj f hf => ?_, fun j j' hj hj' f hf f' hf' h1 h2 hne => ?_, fun j hj f hf h1 q hq => ?_⟩
  · show ((⟨w.heap.size, false, none, 0, 0⟩ : Bx).g :: T.map Bx.g).Nodup
    refine List.nodup_cons.2 ⟨fun hm => ?_, D.nd⟩
    obtain ⟨q, hq, e⟩ := List.mem_map.1 hm
    have := hgs q hq
    have e : q.g = w.heap.size := e
    omega
  · by_cases e : j = i
    · subst e
      rw [hi] at hf
      obtain rfl : f = .box d := by simpa using hf
      exact ⟨w.heap.size, false, none, 0, 0, eval_put_same hlt' _, List.mem_cons_self⟩
    · exact Ft.ok_put (D.fact j ((on_set hj).resolve_left e) f hf) (hsl j e ((on_set hj).resolve_left e) f hf) (fun t ht => ht) (fun q hq => List.mem_cons_of_mem _ hq)
  · by_cases e : j = i
    · subst e
      rw [hi] at hf
      obtain rfl : f = .box d := by simpa using hf
      by_cases e' : j' = j
      · subst e'
        rw [hi] at hf'
        obtain rfl : f' = .box d := by simpa using hf'
        exact absurd rfl hne
      · show (a.put (some d) _).eval (.tmp d) ≠ _
        rw [eval_put_same hlt', eval_put_ne (hsl j' e' ((on_set hj').resolve_left e') f' hf')]
        exact fun h => hev j' ((on_set hj').resolve_left e') f' hf' h2 h.symm
    · by_cases e' : j' = i
      · subst e'
        rw [hi] at hf'
        obtain rfl : f' = .box d := by simpa using hf'
        show _ ≠ (a.put (some d) _).eval (.tmp d)
        rw [eval_put_same hlt', eval_put_ne (hsl j e ((on_set hj).resolve_left e) f hf)]
        exact hev j ((on_set hj).resolve_left e) f hf h1
      · rw [eval_put_ne (hsl j e ((on_set hj).resolve_left e) f hf), eval_put_ne (hsl j' e' ((on_set hj').resolve_left e') f' hf')]
        exact D.sep j j' ((on_set hj).resolve_left e) ((on_set hj').resolve_left e') f hf f' hf' h1 h2 hne
  · by_cases e : j = i
    · subst e
      rw [hi] at hf
      obtain rfl : f = .box d := by simpa using hf
      show (a.put (some d) _).eval (.tmp d) ≠ _
      rw [eval_put_same hlt']
      intro h
      have := hgs q (D.subT q hq)
      simp only [Value.pointer.injEq, Option.some.injEq, Addr.mk.injEq] at h
      omega
    · rw [eval_put_ne (hsl j e ((on_set hj).resolve_left e) f hf)]
      exact D.old j ((on_set hj).resolve_left e) f hf h1 q hq
/-- a whole number laid into a block of the region's own -/
theorem Dat.store {j0 t g : Nat} {r : Int} {k : Nat} {A : Option Addr} {n c : Nat} (D : Dat a0 ds facts N0 w0 S0 T0 L a w S T) (hj0 : L.getD j0 false = true) (hbx : Ft.box t ∈ facts j0) (hij : j0 ≠ i)
    (hg : a.eval (.tmp t) = .pointer (some ⟨g, 0, none⟩)) (hen : En S r k A n c) (hi : facts i = [.boxv t r k]) (hu : ∀ j, j ≠ i → ∀ f ∈ facts j, f.isBox = true → f.slot = t → f = .box t) :
    RI a0 ds facts N0 w0 S0 T0 (L.setIfInBounds i true) a ((w.setCell ⟨g, 0, none⟩ (.bool (sg r))).setCell ⟨g, 1, none⟩ (.slice A n c)) := by
  obtain ⟨g1, b1, A1, n1, c1, e1, hm⟩ := D.fact j0 hj0 _ hbx
  have e2 : Value.pointer (some ⟨g1, 0, none⟩) = .pointer (some ⟨g, 0, none⟩) := e1.symm.trans hg
  simp only [Value.pointer.injEq, Option.some.injEq, Addr.mk.injEq] at e2
  obtain rfl : g1 = g := e2.1
  have hT1 : SB w0 w S (⟨g1, b1, A1, n1, c1⟩ :: T.filter fun q => q.g != g1) := D.sb.sub (fun t ht => ht) fun q hq => by
    rcases List.mem_cons.1 hq with e | e
    · rw [e]; exact hm
    · exact (List.mem_filter.1 e).1
  have hd : ∀ q ∈ T.filter (fun q => q.g != g1), q.g ≠ g1 := fun q hq => by simpa using (List.mem_filter.1 hq).2
  have hS' := hT1.put hd (sg r) A n c
  have hold : ∀ q ∈ T0, q.g ≠ g1 := fun q hq e => by
    have := D.old j0 hj0 _ hbx rfl q hq
    exact this (by rw [e]; exact e1)
  have hin : ∀ q ∈ T, q.g ≠ g1 → q ∈ (⟨g1, sg r, A, n, c⟩ : Bx) :: T.filter (fun q => q.g != g1) := fun q hq h => List.mem_cons_of_mem _ (List.mem_filter.2 ⟨hq, by simpa using h⟩)
  have hsep : ∀ j, L.getD j false = true → ∀ f ∈ facts j, f.isBox = true → f.slot ≠ t → a.eval (.tmp t) ≠ a.eval (.tmp f.slot) := fun j hj f hf h1 hne => D.sep j0 j hj0 hj _ hbx f hf rfl h1 (fun e => hne e.symm)
  refine ⟨S, _, by rw [Array.size_setIfInBounds]; exact D.size, D.fr, hS', D.sub, fun q hq => hin q (D.subT q hq) (hold q hq), ?_, fun j hj f hf => ?_, fun j j' hj hj' f hf f' hf' h1 h2 hne => ?_, fun j hj f hf h1 q hq => ?_⟩
  · show (g1 :: (T.filter fun q => q.g != g1).map Bx.g).Nodup
    refine List.nodup_cons.2 ⟨fun h => ?_, (List.filter_sublist.map _).nodup D.nd⟩
    obtain ⟨q, hq, e⟩ := List.mem_map.1 h
    exact hd q hq e
  · by_cases e : j = i
    · subst e
      rw [hi] at hf
      obtain rfl : f = .boxv t r k := by simpa using hf
      exact ⟨g1, A, n, c, e1, List.mem_cons_self, hen⟩
    · have hj' := (on_set hj).resolve_left e
      have h1 := D.fact j hj' f hf
      cases f with
      | val t' x => exact h1
      | int t' r' k' => exact h1
      | two t' q r' k' e => exact h1
      | intE t' r' k' e => exact h1
      | box t' =>
        obtain ⟨g', b', A', n', c', e3, h2⟩ := h1
        by_cases hgg : g' = g1
        · subst hgg
          exact ⟨g', sg r, A, n, c, e3, List.mem_cons_self⟩
        · exact ⟨g', b', A', n', c', e3, hin _ h2 hgg⟩
      | boxv t' r' k' =>
        obtain ⟨g', A', n', c', e3, h2, h3⟩ := h1
        by_cases hgg : g' = g1
        · subst hgg
          have h4 : t' ≠ t := fun h => by have := hu j e _ hf rfl h; cases this
          exact absurd (e1.trans e3.symm) (hsep j hj' _ hf rfl h4)
        · exact ⟨g', A', n', c', e3, hin _ h2 hgg, h3⟩
  · by_cases e : j = i
    · subst e
      rw [hi] at hf
      obtain rfl : f = .boxv t r k := by simpa using hf
      by_cases e' : j' = j
      · subst e'
        rw [hi] at hf'
        obtain rfl : f' = .boxv t r k := by simpa using hf'
        exact absurd rfl hne
      · exact hsep j' ((on_set hj').resolve_left e') f' hf' h2 (fun h => hne h.symm)
    · by_cases e' : j' = i
      · subst e'
        rw [hi] at hf'
        obtain rfl : f' = .boxv t r k := by simpa using hf'
        exact fun h => hsep j ((on_set hj).resolve_left e) f hf h1 hne h.symm
      · exact D.sep j j' ((on_set hj).resolve_left e) ((on_set hj').resolve_left e') f hf f' hf' h1 h2 hne
  · by_cases e : j = i
    · subst e
      rw [hi] at hf
      obtain rfl : f = .boxv t r k := by simpa using hf
      exact D.old j0 hj0 _ hbx rfl q hq
    · exact D.old j ((on_set hj).resolve_left e) f hf h1 q hq
/-- the law: whatever has come up -/
theorem wp_region_ri {id : Nat} {ops : Array Oper} {Q : Exit → Act → World → Prop} (facts : Nat → List Ft) (ds : List Tmp) (h : SB w0 w S0 T0) (hn : (T0.map Bx.g).Nodup)
    (step : ∀ i, i < ops.size → ∀ L a w' S T, Dat a0 ds facts ops.size w0 S0 T0 L a w' S T → (∀ j, dep ops i j = true → L.getD j false = true) → (∀ j, dep ops j i = true → L.getD j false = false) → wpOp Tryd.prog ops Q i (fun a' w' => RI a0 ds facts ops.size w0 S0 T0 (L.setIfInBounds i true) a' w') a w')
    (hro : rowed ops = true)
    (fin : ∀ a w' S T, Fr a0 ds a → SB w0 w' S T → (∀ t ∈ S0, t ∈ S) → (∀ q ∈ T0, q ∈ T) → (T.map Bx.g).Nodup → (∀ j, j < ops.size → ∀ f ∈ facts j, f.ok a S T) →
      (∀ j j', j < ops.size → j' < ops.size → ∀ f ∈ facts j, ∀ f' ∈ facts j', f.isBox = true → f'.isBox = true → f.slot ≠ f'.slot → a.eval (.tmp f.slot) ≠ a.eval (.tmp f'.slot)) →
      (∀ j, j < ops.size → ∀ f ∈ facts j, f.isBox = true → ∀ q ∈ T0, a.eval (.tmp f.slot) ≠ .pointer (some ⟨q.g, 0, none⟩)) → Q .normal a w') :
    (Code.region id ops true).wp Tryd.prog Q a0 w := by
  refine wp_region_inv (by kernel_rfl) (fun L a w => RI a0 ds facts ops.size w0 S0 T0 L a w ∧ Clo ops L) (fun L a w hI => by obtain ⟨⟨S, T, D⟩, _⟩ := hI; exact D.size) ⟨Dat.start h.drew hn, fun j h => by
      rw [Array.getD_eq_getD_getElem?, Array.getElem?_replicate] at h
      split at h <;> cases h⟩
    (fun L a w i hI hi => by
      obtain ⟨⟨S, T, D⟩, hc⟩ := hI
      have hlt : i < ops.size := by
        obtain ⟨_, o, ho, _⟩ := mem_ready.1 hi
        exact (Array.getElem?_eq_some_iff.1 ho).1
      exact wpOp_mono (fun a' w' h => ⟨h, hc.set hi⟩) (step i hlt L a w S T D (fun j hj => ready_pred hi hj) (fun j hj => hc.no hi hj)))
    (fun L a w hI hr => by
      obtain ⟨⟨S, T, D⟩, _⟩ := hI
      have hu := all_up D.size hro hr
      exact fin a w S T D.fr D.sb D.sub D.subT D.nd (fun j hj f hf => D.fact j (hu j hj) f hf) (fun j j' hj hj' => D.sep j j' (hu j hj) (hu j' hj')) (fun j hj => D.old j (hu j hj)))
end
namespace N
def fs (FL : List (List Ft)) (i : Nat) : List Ft := FL.getD i []
def slotsOk (FL : List (List Ft)) (i d : Nat) : Bool := (List.range FL.length).all fun j => j == i || (fs FL j).all fun f => f.slot != d
theorem slotsOk_spec {FL : List (List Ft)} {i d : Nat} (h : slotsOk FL i d = true) : ∀ j, j ≠ i → ∀ f ∈ fs FL j, f.slot ≠ d := by
  intro j hj f hf
  by_cases hl : j < FL.length
  · have h1 := List.all_eq_true.1 h j (List.mem_range.2 hl)
    simp only [Bool.or_eq_true, beq_iff_eq, hj, false_or] at h1
    simpa using List.all_eq_true.1 h1 f hf
  · unfold fs at hf
    rw [List.getD_eq_getElem?_getD, List.getElem?_eq_none (by omega)] at hf
    cases hf
def slotsOkA (ops : Array Oper) (FL : List (List Ft)) (i d : Nat) : Bool := (List.range FL.length).all fun j => j == i || dep ops j i || (fs FL j).all fun f => f.slot != d
theorem slotsOkA_spec {ops : Array Oper} {FL : List (List Ft)} {i d : Nat} {L : Array Bool} (hno : ∀ j, dep ops j i = true → L.getD j false = false) (h : slotsOkA ops FL i d = true) : ∀ j, j ≠ i → L.getD j false = true → ∀ f ∈ fs FL j, f.slot ≠ d := by
  intro j hj hL f hf
  have hnd : dep ops j i = false := by
    cases e : dep ops j i with
    | false => rfl
    | true => rw [hno j e] at hL; cases hL
  by_cases hl : j < FL.length
  · have h1 := List.all_eq_true.1 h j (List.mem_range.2 hl)
    simp only [Bool.or_eq_true, beq_iff_eq, hj, false_or, hnd, Bool.false_eq_true] at h1
    simpa using List.all_eq_true.1 h1 f hf
  · unfold fs at hf
    rw [List.getD_eq_getElem?_getD, List.getElem?_eq_none (by omega)] at hf
    cases hf
def Ft.isBoxv : Ft → Bool
  | .boxv _ _ _ => true | _ => false
def storesOk (FL : List (List Ft)) (i t : Nat) : Bool := (List.range FL.length).all fun j => j == i || (fs FL j).all fun f => !(f.isBoxv && f.slot == t)
theorem storesOk_spec {FL : List (List Ft)} {i t : Nat} (h : storesOk FL i t = true) : ∀ j, j ≠ i → ∀ f ∈ fs FL j, f.isBox = true → f.slot = t → f = .box t := by
  intro j hj f hf hb hs
  by_cases hl : j < FL.length
  · have h1 := List.all_eq_true.1 h j (List.mem_range.2 hl)
    simp only [Bool.or_eq_true, beq_iff_eq, hj, false_or] at h1
    have h2 := List.all_eq_true.1 h1 f hf
    cases f with
    | box t' => have hs : t' = t := hs; rw [hs]
    | boxv t' r k =>
      have hs : t' = t := hs
      subst hs
      simp [Ft.isBoxv, Ft.slot] at h2
    | val t' x => cases hb
    | int t' r k => cases hb
    | two t' q r k e => cases hb
    | intE t' r k e => cases hb
  · unfold fs at hf
    rw [List.getD_eq_getElem?_getD, List.getElem?_eq_none (by omega)] at hf
    cases hf
end N
section
variable {ops : Array Oper} {Q : Exit → Act → World → Prop} {a0 : Act} {ds : List Tmp} {FL : List (List Ft)} {w0 w w' : World} {S0 S S' : List Ent} {T0 T : List Bx} {L : Array Bool} {a : Act} {i d t u : Nat} {v : Value} {ty : TypeId} {pos : String} {aft : Array Edge}
/-- a load of a whole number -/
theorem st_load {g : Nat} {b : Bool} {A : Option Addr} {n c : Nat} (D : Dat a0 ds (fs FL) ops.size w0 S0 T0 L a w S T) (ho : ops[i]? = some ⟨some d, .load 26 (.tmp t), ty, pos, aft, none⟩) (hp : a.eval (.tmp t) = .pointer (some ⟨g, 0, none⟩)) (hq : (⟨g, b, A, n, c⟩ : Bx) ∈ T)
    (hd : ds.contains d = true) (hlt : d < a0.tmps.size) (hs : slotsOk FL i d = true) (hf : fs FL i = [.val d (.agg #[.bool b, .slice A n c])]) :
    wpOp Tryd.prog ops Q i (fun a' w' => RI a0 ds (fs FL) ops.size w0 S0 T0 (L.setIfInBounds i true) a' w') a w := by
  refine op_value (w' := w) ho rfl ?_ (D.value (v := .agg #[.bool b, .slice A n c]) (by simpa using hd) hlt (fun j hj _ => slotsOk_spec hs j hj) D.sb (fun t ht => ht) (fun f h => ?_) fun f h => ?_)
  · have h0 := D.sb.c0 hq
    have h1 := D.sb.c1 hq
    simp only [execOp, hp]
    go_simp
  · rw [hf] at h
    obtain rfl : f = _ := by simpa using h
    rfl
  · rw [hf] at h
    obtain rfl : f = _ := by simpa using h
    exact eval_put_same (by rw [D.fr.size]; exact hlt) _
/-- an operation that only reckons -/
theorem st_pure {o : Oper} {f : Ft} (D : Dat a0 ds (fs FL) ops.size w0 S0 T0 L a w S T) (ho : ops[i]? = some o) (hg : o.guard = none) (hdst : o.dst = some d) (hr : (execOp a.eval o).run Tryd.prog w = .ok (.value v) w)
    (hd : ds.contains d = true) (hlt : d < a0.tmps.size) (hs : slotsOk FL i d = true) (hf : fs FL i = [f]) (hb : f.isBox = false) (hok : ∀ a', a'.eval (.tmp d) = v → f.ok a' S T) :
    wpOp Tryd.prog ops Q i (fun a' w' => RI a0 ds (fs FL) ops.size w0 S0 T0 (L.setIfInBounds i true) a' w') a w := by
  refine op_value (w' := w) ho hg hr ?_
  rw [hdst]
  refine D.value (v := v) (by simpa using hd) hlt (fun j hj _ => slotsOk_spec hs j hj) D.sb (fun t ht => ht) (fun f' h => ?_) fun f' h => ?_
  · rw [hf] at h
    obtain rfl : f' = _ := by simpa using h
    exact hb
  · rw [hf] at h
    obtain rfl : f' = _ := by simpa using h
    exact hok _ (eval_put_same (by rw [D.fr.size]; exact hlt) _)
theorem st_move {u : Nat} {f : Ft} (D : Dat a0 ds (fs FL) ops.size w0 S0 T0 L a w S T) (ho : ops[i]? = some ⟨some d, .move (.tmp u), ty, pos, aft, none⟩) (hv : a.eval (.tmp u) = v)
    (hd : ds.contains d = true) (hlt : d < a0.tmps.size) (hs : slotsOk FL i d = true) (hf : fs FL i = [f]) (hb : f.isBox = false) (hok : ∀ a', a'.eval (.tmp d) = v → f.ok a' S T) :
    wpOp Tryd.prog ops Q i (fun a' w' => RI a0 ds (fs FL) ops.size w0 S0 T0 (L.setIfInBounds i true) a' w') a w :=
  st_pure D ho rfl rfl (by simp only [execOp, hv]; rfl) hd hlt hs hf hb hok
theorem st_assign {u : Nat} {f : Ft} (D : Dat a0 ds (fs FL) ops.size w0 S0 T0 L a w S T) (ho : ops[i]? = some ⟨some d, .assign (.tmp u), ty, pos, aft, none⟩) (hv : a.eval (.tmp u) = v)
    (hd : ds.contains d = true) (hlt : d < a0.tmps.size) (hs : slotsOk FL i d = true) (hf : fs FL i = [f]) (hb : f.isBox = false) (hok : ∀ a', a'.eval (.tmp d) = v → f.ok a' S T) :
    wpOp Tryd.prog ops Q i (fun a' w' => RI a0 ds (fs FL) ops.size w0 S0 T0 (L.setIfInBounds i true) a' w') a w :=
  st_pure D ho rfl rfl (by simp only [execOp, hv]; rfl) hd hlt hs hf hb hok
theorem st_extract {u k : Nat} {f : Ft} {vs : Array Value} (D : Dat a0 ds (fs FL) ops.size w0 S0 T0 L a w S T) (ho : ops[i]? = some ⟨some d, .extract (.tmp u) k, ty, pos, aft, none⟩) (hv : a.eval (.tmp u) = .tuple vs) (hk : vs[k]? = some v)
    (hd : ds.contains d = true) (hlt : d < a0.tmps.size) (hs : slotsOk FL i d = true) (hf : fs FL i = [f]) (hb : f.isBox = false) (hok : ∀ a', a'.eval (.tmp d) = v → f.ok a' S T) :
    wpOp Tryd.prog ops Q i (fun a' w' => RI a0 ds (fs FL) ops.size w0 S0 T0 (L.setIfInBounds i true) a' w') a w :=
  st_pure D ho rfl rfl (by simp only [execOp, hv]; go_simp) hd hlt hs hf hb hok
/-- an operation that only reckons, of which nothing is told -/
theorem st_none {o : Oper} (D : Dat a0 ds (fs FL) ops.size w0 S0 T0 L a w S T) (ho : ops[i]? = some o) (hg : o.guard = none) (hdst : o.dst = some d) (hr : (execOp a.eval o).run Tryd.prog w = .ok (.value v) w)
    (hd : ds.contains d = true) (hlt : d < a0.tmps.size) (hs : slotsOk FL i d = true) (hf : fs FL i = []) :
    wpOp Tryd.prog ops Q i (fun a' w' => RI a0 ds (fs FL) ops.size w0 S0 T0 (L.setIfInBounds i true) a' w') a w := by
  refine op_value (w' := w) ho hg hr ?_
  rw [hdst]
  refine D.value (v := v) (by simpa using hd) hlt (fun j hj _ => slotsOk_spec hs j hj) D.sb (fun t ht => ht) (fun f' h => ?_) fun f' h => ?_
  · rw [hf] at h; cases h
  · rw [hf] at h; cases h
/-- a call by name -/
theorem st_call {fn : FuncId} {args : Array Operand} {tys : Array TypeId} {vs : Array Value} {f : Ft} {R : Ending → World → Prop} (D : Dat a0 ds (fs FL) ops.size w0 S0 T0 L a w S T)
    (ho : ops[i]? = some ⟨some d, .call { callee := .value (.func fn), args := args, argTypes := tys }, ty, pos, aft, none⟩) (hv : args.map a.eval = vs) {F : Func} {bd : Code} (hF : Tryd.prog.funcs[fn]? = some F) (hN : (F.name == "runtime.NumGoroutine") = false) (hB : F.body = some bd) (hc : Calls Tryd.prog fn vs w R)
    (hd : ds.contains d = true) (hlt : d < a0.tmps.size) (hs : slotsOk FL i d = true) (hf : fs FL i = [f]) (hb : f.isBox = false)
    (hR : ∀ e w', R e w' → ∃ v S', e = .returned v ∧ SB w0 w' S' T ∧ (∀ t ∈ S, t ∈ S') ∧ ∀ a', a'.eval (.tmp d) = v → f.ok a' S' T) :
    wpOp Tryd.prog ops Q i (fun a' w' => RI a0 ds (fs FL) ops.size w0 S0 T0 (L.setIfInBounds i true) a' w') a w := by
  refine op_call (f := fn) (args := vs) ho rfl ?_ hc fun e w' he => ?_
  · have he : a.eval (.func fn) = .func (.func fn) #[] #[] := rfl
    have hN' : F.name ≠ "runtime.NumGoroutine" := by simpa using hN
    have h1 : (callFunc fn vs).run Tryd.prog w = .ok (.enter fn vs) w := by simp [callFunc, hF, hN', hB]
    simp only [execOp, resolve, hv, he]
    go_simp
  · obtain ⟨v, S', rfl, hS', hsub, hok⟩ := hR e w' he
    refine ⟨v, rfl, D.value (v := v) (by simpa using hd) hlt (fun j hj _ => slotsOk_spec hs j hj) hS' hsub (fun f' h => ?_) fun f' h => ?_⟩
    · rw [hf] at h
      obtain rfl : f' = _ := by simpa using h
      exact hb
    · rw [hf] at h
      obtain rfl : f' = _ := by simpa using h
      exact hok _ (eval_put_same (by rw [D.fr.size]; exact hlt) _)
theorem st_alloc (D : Dat a0 ds (fs FL) ops.size w0 S0 T0 L a w S T) (ho : ops[i]? = some ⟨some d, .alloc 26, ty, pos, aft, none⟩)
    (hd : ds.contains d = true) (hlt : d < a0.tmps.size) (hno : ∀ j, dep ops j i = true → L.getD j false = false) (hs : slotsOkA ops FL i d = true) (hf : fs FL i = [.box d]) :
    wpOp Tryd.prog ops Q i (fun a' w' => RI a0 ds (fs FL) ops.size w0 S0 T0 (L.setIfInBounds i true) a' w') a w := by
  refine op_value (v := .pointer (some ⟨w.heap.size, 0, none⟩)) (w' := w.alloc (.cells #[.bool false, .slice none 0 0] 26)) ho rfl ?_ (D.alloc (by simpa using hd) hlt (slotsOkA_spec hno hs) hf)
  simp only [execOp]
  go_simp
theorem st_store {j0 : Nat} {r : Int} {k : Nat} {A : Option Addr} {n c : Nat} (D : Dat a0 ds (fs FL) ops.size w0 S0 T0 L a w S T) (ho : ops[i]? = some ⟨none, .store 26 (.tmp t) (.tmp u), ty, pos, aft, none⟩)
    (hj0 : L.getD j0 false = true) (hbx : fs FL j0 = [.box t]) (hij : j0 ≠ i) (hval : a.eval (.tmp u) = .agg #[.bool (sg r), .slice A n c]) (hen : En S r k A n c) (hs : storesOk FL i t = true) (hf : fs FL i = [.boxv t r k]) :
    wpOp Tryd.prog ops Q i (fun a' w' => RI a0 ds (fs FL) ops.size w0 S0 T0 (L.setIfInBounds i true) a' w') a w := by
  obtain ⟨g, b1, A1, n1, c1, e1, hm⟩ := D.fact j0 hj0 (.box t) (by rw [hbx]; exact List.mem_singleton.2 rfl)
  have e1 : a.eval (.tmp t) = .pointer (some ⟨g, 0, none⟩) := e1
  refine op_skip (w' := (w.setCell ⟨g, 0, none⟩ (.bool (sg r))).setCell ⟨g, 1, none⟩ (.slice A n c)) ho rfl rfl ?_ (D.store hj0 (by rw [hbx]; exact List.mem_singleton.2 rfl) hij e1 hen hf (storesOk_spec hs))
  have h0 := D.sb.c0 hm
  have h1 := D.sb.c1 hm
  have h2 := D.sb.fr hm 0
  have h3 := D.sb.fr hm 1
  simp only [execOp, e1, hval]
  go_simp
theorem SB.drewNs {w0 w w1 : World} {S : List Ent} {T : List Bx} (h : SB w0 w S T) {k : Nat} (hw : w.drewN k = w1) : SB w0 w1 S T := by subst hw; exact h.drewN k
theorem SB.lt_ {w0 w : World} {S : List Ent} {T : List Bx} (h : SB w0 w S T) (i : Nat) {q : Bx} (hi : T[i]? = some q) : q.g < w.heap.size := BoxI.lt (h.box q (List.mem_of_getElem? hi))
theorem SB.pick {w0 w : World} {S0 S : List Ent} {T0 T : List Bx} (h : SB w0 w S T) (hs : ∀ t ∈ S0, t ∈ S) (ht : ∀ q ∈ T0, q ∈ T) : SB w0 w S0 T0 := h.sub hs ht
theorem mem_more {α : Type} {S0 S : List α} {e : α} (h : e ∈ S) (hs : ∀ t ∈ S0, t ∈ S) : ∀ t ∈ e :: S0, t ∈ S := fun t ht => by
  rcases List.mem_cons.1 ht with e | e
  · rw [e]; exact h
  · exact hs t e
/-- what stands in a slot that the region does not write -/
theorem Dat.at0 (D : Dat a0 ds (fs FL) ops.size w0 S0 T0 L a w S T) (h : ds.contains t = false) (hv : a0.eval (.tmp t) = v) : a.eval (.tmp t) = v := (D.fr.out t (by simpa using h)).trans hv
theorem Dat.ft {j : Nat} {f : Ft} (D : Dat a0 ds (fs FL) ops.size w0 S0 T0 L a w S T) (hj : L.getD j false = true) (hf : fs FL j = [f]) : f.ok a S T := D.fact j hj f (by rw [hf]; exact List.mem_singleton.2 rfl)
end
end Go.Proofs.YtgahnchfefngeaaDoor
