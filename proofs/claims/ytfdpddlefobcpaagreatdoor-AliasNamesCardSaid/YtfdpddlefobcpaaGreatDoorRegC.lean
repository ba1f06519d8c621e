/- A region whose order is left open, shown by what holds of whatever has come up so far (one case an operation): over states of naturals and of blocks with any cells (RatState): values told by calls, new blocks, stores into new and older blocks. -/
import Derived.Test.YtfdpddlefobcpaaGreatDoorRatCalls
import Derived.OrdersHeld
namespace Go.Proofs.YtfdpddlefobcpaaGreatDoor
open Go.RowKit
set_option linter.unusedVariables false
set_option linter.unusedSimpArgs false
set_option maxRecDepth 20000
open N
section
variable {w0 v0 w w' : World} {S O : List Ent} {T : List Blk}
theorem grow_row (w : World) (g : Nat) (cs : Array Value) : w.grownBy (w.setRow g cs) (some g) :=
  ⟨rfl, rfl, rfl, by rw [setRow_size]; exact Nat.le_refl _, fun k _ hne => setRow_other w g k cs (fun e => hne (by subst e; rfl))⟩
theorem below_row {B g : Nat} {w0 w : World} (hb : Below B w0 w) (hBg : B ≤ g) (cs : Array Value) : Below B w0 (w.setRow g cs) := ⟨hb.os, hb.tape, hb.output, by rw [setRow_size]; exact hb.size, fun k hk => (setRow_other w g k cs (by omega)).trans (hb.block k hk)⟩
theorem SC.putRow (h : SC w0 v0 w S T O) (i : Nat) {g : Nat} {vs : List Value} {ty : TypeId} (hi : T[i]? = some ⟨g, vs, ty⟩) (hv : v0.heap.size ≤ g) (ws : List Value) :
    SC w0 v0 (w.setRow g ws.toArray) S (T.set i ⟨g, ws, ty⟩) O := by
  have hm := List.mem_of_getElem? hi
  have hg := h.from_ _ hm
  have hB := h.box _ hm
  refine ⟨⟨below_row h.st.1 hg _, fun t ht => ?_⟩, below_row h.bl hv _, fun q hq => ?_, fun q hq => ?_, by rw [set_g (q' := ⟨g, ws, ty⟩) hi rfl]; exact h.nd, fun t ht q hq => ?_, fun t ht => ?_, fun t ht q hq => ?_⟩
  · obtain ⟨h1, h2, h3⟩ := h.st.2 t ht
    exact ⟨h1.growz (grow_row w g _) (h.apart t ht _ hm), h2, h3⟩
  · rcases set_mem (q' := ⟨g, ws, ty⟩) hi rfl h.nd hq with e | ⟨e, hne⟩
    · subst e; exact setRow_heap w g _ _ _ _ hB
    · exact (setRow_other w g q.g _ hne).trans (h.box q e)
  · rcases set_mem (q' := ⟨g, ws, ty⟩) hi rfl h.nd hq with e | ⟨e, hne⟩
    · subst e; exact hg
    · exact h.from_ q e
  · rcases set_mem (q' := ⟨g, ws, ty⟩) hi rfl h.nd hq with e | ⟨e, hne⟩
    · subst e; exact h.apart t ht ⟨g, vs, ty⟩ hm
    · exact h.apart t ht q e
  · exact ⟨(h.own t ht).row.kept (grow_row w g _) (by
      cases hb : (Value.slice t.A t.n t.c).ownBlock with
      | none => exact .inl rfl
      | some g' => exact .inr (fun e => h.apo t ht _ hm (by rw [hb]; exact e))), (h.own t ht).dg⟩
  · rcases set_mem (q' := ⟨g, ws, ty⟩) hi rfl h.nd hq with e | ⟨e, hne⟩
    · subst e; exact h.apo t ht ⟨g, vs, ty⟩ hm
    · exact h.apo t ht q e
end
namespace RC
section
variable {P : Program} {ops : Array Oper} {Q : Exit → Act → World → Prop} {md : Region.Mode}
/-- does operation i wait for operation j? -/
def dep (ops : Array Oper) (i j : Nat) : Bool := match ops[i]? with
  | some o => o.after.any fun e => Region.binds .any e && e.on == j
  | none => false
theorem ready_pred {L : Array Bool} {i j : Nat} (hr : i ∈ Region.ready .any ops L) (hp : dep ops i j = true) : L.getD j false = true := by
  obtain ⟨_, o, ho, hall⟩ := mem_ready.1 hr
  unfold dep at hp
  rw [ho] at hp
  obtain ⟨e, he, hb⟩ := Array.any_eq_true'.1 hp
  simp only [Bool.and_eq_true, beq_iff_eq] at hb
  have := hall e he hb.1
  rwa [hb.2] at this
theorem ready_open {L : Array Bool} {i : Nat} (hr : i ∈ Region.ready .any ops L) : L.getD i true = false := (mem_ready.1 hr).1
/-- no operation waits for one behind it -/
def rowed (ops : Array Oper) : Bool := (List.range ops.size).all fun i => match ops[i]? with
  | some o => o.after.all fun e => !Region.binds .any e || decide (e.on < i)
  | none => true
theorem all_up {L : Array Bool} (hs : L.size = ops.size) (hro : rowed ops = true) (hr : Region.ready .any ops L = []) : ∀ j, j < ops.size → L.getD j false = true := by
  intro j
  induction j using Nat.strongRecOn with
  | _ j ih =>
    intro hj
    apply Classical.byContradiction
    intro hn
    have h1 : L.getD j true = false := by
      have hjl : j < L.size := by omega
      simp only [Array.getD_eq_getD_getElem?, Array.getElem?_eq_getElem hjl, Option.getD_some] at hn ⊢
      simpa using hn
    have h2 := List.all_eq_true.1 hro j (List.mem_range.2 hj)
    rw [Array.getElem?_eq_getElem hj] at h2
    have h3 : j ∈ Region.ready .any ops L := mem_ready.2 ⟨h1, ops[j], Array.getElem?_eq_getElem hj, fun e he hb => by
      have h4 := Array.all_eq_true_iff_forall_mem.1 h2 e he
      simp only [hb, Bool.not_true, Bool.false_or, decide_eq_true_eq] at h4
      exact ih e.on h4 (by omega)⟩
    rw [hr] at h3
    cases h3
/-- what has come up has all that it waits for -/
def Clo (ops : Array Oper) (L : Array Bool) : Prop := ∀ j, L.getD j false = true → ∀ i, dep ops j i = true → L.getD i false = true
theorem Clo.set {L : Array Bool} {i : Nat} (h : Clo ops L) (hr : i ∈ Region.ready .any ops L) : Clo ops (L.setIfInBounds i true) := fun j hj k hk => by
  by_cases e : j = i
  · subst e; exact getD_set_true (ready_pred hr hk)
  · rw [getD_set_ne false (fun h => e h.symm)] at hj
    exact getD_set_true (h j hj k hk)
theorem Clo.no {L : Array Bool} {i j : Nat} (h : Clo ops L) (hr : i ∈ Region.ready .any ops L) (hd : dep ops j i = true) : L.getD j false = false := by
  cases e : L.getD j false with
  | false => rfl
  | true =>
    have h1 := h j e i hd
    have h2 := ready_open hr
    by_cases hl : i < L.size
    · rw [Array.getD_eq_getD_getElem?, Array.getElem?_eq_getElem hl] at h1 h2
      rw [Option.getD_some] at h1 h2
      rw [h1] at h2; cases h2
    · rw [Array.getD_eq_getD_getElem?, Array.getElem?_eq_none (by omega)] at h1
      cases h1
theorem count_set {l : List Bool} {i : Nat} (h : l[i]? = some false) : (l.set i true).count false + 1 = l.count false := by
  induction l generalizing i with
  | nil => cases h
  | cons x l ih =>
    cases i with
    | zero =>
      obtain rfl : x = false := by simpa using h
      simp
    | succ i =>
      have := ih (i := i) (by simpa using h)
      simp only [List.set_cons_succ, List.count_cons]
      omega
theorem wpAny_inv (Inv : Array Bool → Act → World → Prop) (hsz : ∀ L a w, Inv L a w → L.size = ops.size)
    (step : ∀ L a w i, Inv L a w → i ∈ Region.ready .any ops L → wpOp P ops Q i (fun a' w' => Inv (L.setIfInBounds i true) a' w') a w)
    (fin : ∀ L a w, Inv L a w → Region.ready .any ops L = [] → Q .normal a w) :
    ∀ (fuel : Nat) (L : Array Bool) (a : Act) (w : World), L.toList.count false ≤ fuel → Inv L a w → wpAny P .any ops Q fuel L a w := by
  intro fuel
  have hmem : ∀ (L : Array Bool) i a w, Inv L a w → i ∈ Region.ready .any ops L → L.toList[i]? = some false := fun L i a w hI hi => by
    have h0 := (mem_ready.1 hi).1
    have h1 : i < L.size := by
      apply Classical.byContradiction
      intro hc
      rw [Array.getD_eq_getD_getElem?, Array.getElem?_eq_none (by omega)] at h0
      cases h0
    rw [Array.getD_eq_getD_getElem?, Array.getElem?_eq_getElem h1] at h0
    rw [Array.getElem?_toList, Array.getElem?_eq_getElem h1]
    simpa using h0
  induction fuel with
  | zero =>
    intro L a w hc hI
    have hr : Region.ready .any ops L = [] := by
      cases hr : Region.ready .any ops L with
      | nil => rfl
      | cons i rest =>
        have h1 := hmem L i a w hI (by rw [hr]; exact List.mem_cons_self)
        have h2 : 0 < L.toList.count false := List.count_pos_iff.2 (List.mem_of_getElem? h1)
        omega
    exact ⟨hr, fin L a w hI hr⟩
  | succ fuel ih =>
    intro L a w hc hI
    refine ⟨fin L a w hI, fun i hi => wpOp_mono (fun a' w' h => ih _ a' w' ?_ h) (step L a w i hI hi)⟩
    have h1 := count_set (hmem L i a w hI hi)
    rw [Array.toList_setIfInBounds]
    omega
theorem wp_region_inv {id : Nat} {a : Act} {w : World} (hm : P.follows .mixedOrders = true) (Inv : Array Bool → Act → World → Prop) (hsz : ∀ L a w, Inv L a w → L.size = ops.size)
    (start : Inv (Array.replicate ops.size false) a w.drew)
    (step : ∀ L a w i, Inv L a w → i ∈ Region.ready .any ops L → wpOp P ops Q i (fun a' w' => Inv (L.setIfInBounds i true) a' w') a w)
    (fin : ∀ L a w, Inv L a w → Region.ready .any ops L = [] → Q .normal a w) : (Code.region id ops true).wp P Q a w :=
  wp_region_any hm (wpAny_inv Inv hsz step fin ops.size _ a _ (by rw [Array.toList_replicate, List.count_replicate]; simp) start)
theorem op_value {i : Nat} {o : Oper} {v : Value} {w w' : World} {a : Act} {K : Act → World → Prop} (ho : ops[i]? = some o) (hg : o.guard = none) (hr : (execOp a.eval o).run P w = .ok (.value v) w') (hk : K (a.put o.dst v) w') : wpOp P ops Q i K a w := by
  unfold wpOp
  rw [ho]
  have hw : Region.wanted o (yielded ops a.tmps) = true := by unfold Region.wanted; rw [hg]
  simp only [hw, if_true, Oper.wp, hr, Oper.upon]
  exact .inl hk
theorem op_skip {i : Nat} {o : Oper} {w w' : World} {a : Act} {K : Act → World → Prop} (ho : ops[i]? = some o) (hg : o.guard = none) (hd : o.dst = none) (hr : (execOp a.eval o).run P w = .ok .skip w') (hk : K a w') : wpOp P ops Q i K a w := by
  unfold wpOp
  rw [ho]
  have hw : Region.wanted o (yielded ops a.tmps) = true := by unfold Region.wanted; rw [hg]
  simp only [hw, if_true, Oper.wp, hr, Oper.upon, hd, Act.put]
  exact .inl hk
theorem op_call {i : Nat} {o : Oper} {f : FuncId} {args : Array Value} {w : World} {a : Act} {K : Act → World → Prop} {R : Ending → World → Prop} (ho : ops[i]? = some o) (hg : o.guard = none) (hr : (execOp a.eval o).run P w = .ok (.enter f args) w)
    (hc : Calls P f args w R) (hk : ∀ e w', R e w' → ∃ v, e = .returned v ∧ K (a.put o.dst v) w') : wpOp P ops Q i K a w := by
  unfold wpOp
  rw [ho]
  have hw : Region.wanted o (yielded ops a.tmps) = true := by unfold Region.wanted; rw [hg]
  simp only [hw, if_true, Oper.wp, hr, Oper.upon]
  refine .inl (hc.mono fun e w' h => ?_)
  obtain ⟨v, rfl, hK⟩ := hk e w' h
  exact hK
end
/-- frames that agree but for the slots ds -/
structure Fr (a0 : Act) (ds : List Tmp) (a : Act) : Prop where
  size : a.tmps.size = a0.tmps.size
  defers : a.defers = a0.defers
  out : ∀ t, t ∉ ds → a.eval (.tmp t) = a0.eval (.tmp t)
theorem eval_put_same {a : Act} {d : Nat} (h : d < a.tmps.size) (v : Value) : (a.put (some d) v).eval (.tmp d) = v := by
  simp [Act.eval, Act.put, h]
theorem eval_put_ne {a : Act} {d t : Nat} (h : t ≠ d) (v : Value) : (a.put (some d) v).eval (.tmp t) = a.eval (.tmp t) := by
  simp [Act.eval, Act.put, Array.getElem?_setIfInBounds_ne (Ne.symm h)]
theorem Fr.refl (a0 : Act) (ds : List Tmp) : Fr a0 ds a0 := ⟨rfl, rfl, fun _ _ => rfl⟩
theorem Fr.put {a0 a : Act} {ds : List Tmp} (h : Fr a0 ds a) {d : Nat} (hd : d ∈ ds) (v : Value) : Fr a0 ds (a.put (some d) v) :=
  ⟨by simp [Act.put, h.size], h.defers, fun t ht => by rw [eval_put_ne (fun e => ht (by rw [e]; exact hd))]; exact h.out t ht⟩
def putAll (a : Act) (l : List (Tmp × Value)) : Act := l.foldl (fun a p => a.put (some p.1) p.2) a
theorem putAll_size (l : List (Tmp × Value)) (a : Act) : (putAll a l).tmps.size = a.tmps.size := by
  induction l generalizing a with
  | nil => rfl
  | cons p l ih => show (putAll (a.put (some p.1) p.2) l).tmps.size = _; rw [ih]; simp [Act.put]
theorem putAll_defers (l : List (Tmp × Value)) (a : Act) : (putAll a l).defers = a.defers := by
  induction l generalizing a with
  | nil => rfl
  | cons p l ih => show (putAll (a.put (some p.1) p.2) l).defers = _; rw [ih]; rfl
theorem putAll_get (f : Nat → Value) (ds : List Nat) (a : Act) (t : Nat) (ht : t < a.tmps.size) :
    (putAll a (ds.map fun d => (d, f d))).tmps[t]? = if t ∈ ds then some (f t) else a.tmps[t]? := by
  induction ds generalizing a with
  | nil => simp [putAll]
  | cons d ds ih =>
    show (putAll (a.put (some d) (f d)) (ds.map fun d => (d, f d))).tmps[t]? = _
    rw [ih _ (by simpa [Act.put] using ht)]
    by_cases h : t ∈ ds
    · rw [if_pos h, if_pos (List.mem_cons_of_mem _ h)]
    · rw [if_neg h]
      by_cases h' : t = d
      · subst h'
        rw [if_pos List.mem_cons_self]
        simp [Act.put, ht]
      · rw [if_neg (by simp [h, h'])]
        simp [Act.put, Array.getElem?_setIfInBounds_ne (Ne.symm h')]
theorem Fr.closed {a0 a : Act} {ds : List Tmp} (h : Fr a0 ds a) : a = putAll a0 (ds.map fun d => (d, a.eval (.tmp d))) := by
  have h1 : a.tmps = (putAll a0 (ds.map fun d => (d, a.eval (.tmp d)))).tmps := by
    apply Array.ext_getElem?
    intro t
    by_cases ht : t < a0.tmps.size
    · rw [putAll_get (fun d => a.eval (.tmp d)) ds a0 t ht]
      have hta : t < a.tmps.size := by rw [h.size]; exact ht
      have he : a.tmps[t]? = some (a.eval (.tmp t)) := by simp [Act.eval, Array.getElem?_eq_getElem hta]
      by_cases hm : t ∈ ds
      · rw [if_pos hm, he]
      · rw [if_neg hm, he, h.out t hm]
        simp [Act.eval, Array.getElem?_eq_getElem ht]
    · rw [Array.getElem?_eq_none (by rw [h.size]; omega), Array.getElem?_eq_none (by rw [putAll_size]; omega)]
  have h2 := (putAll_defers (ds.map fun d => (d, a.eval (.tmp d))) a0).trans h.defers.symm
  obtain ⟨t1, d1⟩ := a
  show (⟨t1, d1⟩ : Act) = _
  generalize putAll a0 _ = b at *
  obtain ⟨t2, d2⟩ := b
  simp only at h1 h2
  rw [h1, h2]
/-- what a value is, for as long as more naturals come up -/
structure MP where
  p : Value → List Ent → List Ent → Prop
  mono : ∀ x S S' O O', (∀ t ∈ S, t ∈ S') → (∀ t ∈ O, t ∈ O') → p x S O → p x S' O'
def mT : MP := ⟨fun _ _ _ => True, fun _ _ _ _ _ _ _ h => h⟩
def mSh (n : Nat) : MP := ⟨fun x _ _ => ∃ cs, x = .agg cs ∧ cs.size = n, fun _ _ _ _ _ _ _ h => h⟩
def mV (v : Value) : MP := ⟨fun x _ _ => x = v, fun _ _ _ _ _ _ _ h => h⟩
def mN (r : Int) (k : Nat) : MP := ⟨fun x S O => ∃ A n c, x = .slice A n c ∧ (⟨A, n, c, k, limbs r, r⟩ : Ent) ∈ S ∧ (⟨A, n, c, k, limbs r, r⟩ : Ent) ∈ O, fun x S S' O O' hs ho ⟨A, n, c, e, h1, h2⟩ => ⟨A, n, c, e, hs _ h1, ho _ h2⟩⟩
def mI (r : Int) (k : Nat) : MP := ⟨fun x S O => ∃ A n c, x = .agg #[.bool (sg r), .slice A n c] ∧ (⟨A, n, c, k, limbs (mg r), mg r⟩ : Ent) ∈ S ∧ (⟨A, n, c, k, limbs (mg r), mg r⟩ : Ent) ∈ O, fun x S S' O O' hs ho ⟨A, n, c, e, h1, h2⟩ => ⟨A, n, c, e, hs _ h1, ho _ h2⟩⟩
def mR (r : Rat) (k : Nat) : MP := ⟨fun x S O => ∃ A n c A' n' c', x = .agg #[.bool (sg r.num), .slice A n c, .slice A' n' c'] ∧ (⟨A, n, c, k, limbs (mg r.num), mg r.num⟩ : Ent) ∈ S ∧ (⟨A', n', c', k, limbs r.den, r.den⟩ : Ent) ∈ S ∧ (⟨A, n, c, k, limbs (mg r.num), mg r.num⟩ : Ent) ∈ O ∧ (⟨A', n', c', k, limbs r.den, r.den⟩ : Ent) ∈ O,
  fun x S S' O O' hs ho ⟨A, n, c, A', n', c', e, h1, h2, h3, h4⟩ => ⟨A, n, c, A', n', c', e, hs _ h1, hs _ h2, ho _ h3, ho _ h4⟩⟩
def mN2 (r : Int) (k : Nat) (j : Int) : MP := ⟨fun x S O => ∃ A n c, x = .tuple #[.slice A n c, .int .i64 j] ∧ (⟨A, n, c, k, limbs r, r⟩ : Ent) ∈ S ∧ (⟨A, n, c, k, limbs r, r⟩ : Ent) ∈ O, fun x S S' O O' hs ho ⟨A, n, c, e, h1, h2⟩ => ⟨A, n, c, e, hs _ h1, ho _ h2⟩⟩
def mI2 (r : Int) (k : Nat) (j : Int) : MP := ⟨fun x S O => ∃ A n c, x = .tuple #[.agg #[.bool (sg r), .slice A n c], .int .i64 j] ∧ (⟨A, n, c, k, limbs (mg r), mg r⟩ : Ent) ∈ S ∧ (⟨A, n, c, k, limbs (mg r), mg r⟩ : Ent) ∈ O, fun x S S' O O' hs ho ⟨A, n, c, e, h1, h2⟩ => ⟨A, n, c, e, hs _ h1, ho _ h2⟩⟩
def mR2 (r : Rat) (k : Nat) (j : Int) : MP := ⟨fun x S O => ∃ A n c A' n' c', x = .tuple #[.agg #[.bool (sg r.num), .slice A n c, .slice A' n' c'], .int .i64 j] ∧ (⟨A, n, c, k, limbs (mg r.num), mg r.num⟩ : Ent) ∈ S ∧ (⟨A', n', c', k, limbs r.den, r.den⟩ : Ent) ∈ S ∧ (⟨A, n, c, k, limbs (mg r.num), mg r.num⟩ : Ent) ∈ O ∧ (⟨A', n', c', k, limbs r.den, r.den⟩ : Ent) ∈ O,
  fun x S S' O O' hs ho ⟨A, n, c, A', n', c', e, h1, h2, h3, h4⟩ => ⟨A, n, c, A', n', c', e, hs _ h1, hs _ h2, ho _ h3, ho _ h4⟩⟩
/-- a fraction that need not be in lowest terms, its denominator above 0 -/
def mS (r : Rat) (k : Nat) : MP := ⟨fun x S O => ∃ b A n c xs v A' n' c' ys u, x = .agg #[.bool b, .slice A n c, .slice A' n' c'] ∧ 0 < u ∧ rv b v u = r ∧ (⟨A, n, c, k, xs, v⟩ : Ent) ∈ S ∧ (⟨A', n', c', k, ys, u⟩ : Ent) ∈ S,
  fun x S S' O O' hs ho ⟨b, A, n, c, xs, v, A', n', c', ys, u, e, h0, h1, h2, h3⟩ => ⟨b, A, n, c, xs, v, A', n', c', ys, u, e, h0, h1, hs _ h2, hs _ h3⟩⟩
def φp (g : Nat) : Value := .pointer (some ⟨g, 0, none⟩)
def φs (n : Nat) (g : Nat) : Value := .slice (some ⟨g, 0, none⟩) n n
/-- what is known, once an operation has come up: of a slot; of a new block (by the slot that points to it); of an older block (by its place) -/
inductive Ft where
  | val (t : Nat) (m : MP)
  | blk (t : Nat) (φ : Nat → Value) (m : MP)
  | old (i : Nat) (m : MP)
def Ft.slot : Ft → Option Nat
  | .val t _ => some t | .blk t _ _ => some t | .old _ _ => none
def Ft.ok (a : Act) (S O : List Ent) (Bn : List (Nat × Blk)) (T1 : List Blk) : Ft → Prop
  | .val t m => m.p (a.eval (.tmp t)) S O
  | .blk t φ m => ∃ b, (t, b) ∈ Bn ∧ a.eval (.tmp t) = φ b.g ∧ m.p (.agg b.vs.toArray) S O
  | .old i m => ∃ q, T1[i]? = some q ∧ m.p (.agg q.vs.toArray) S O
theorem Ft.ok_put {a : Act} {S S' O O' : List Ent} {Bn Bn' : List (Nat × Blk)} {T1 : List Blk} {f : Ft} {d : Nat} {v : Value} (h : f.ok a S O Bn T1) (hd : f.slot ≠ some d) (hs : ∀ t ∈ S, t ∈ S') (ho : ∀ t ∈ O, t ∈ O') (hb : ∀ p ∈ Bn, p ∈ Bn') : f.ok (a.put (some d) v) S' O' Bn' T1 := by
  cases f with
  | val t m =>
    have hd : t ≠ d := fun e => hd (congrArg some e)
    show m.p ((a.put (some d) v).eval (.tmp t)) S' O'
    rw [eval_put_ne hd]; exact m.mono _ _ _ _ _ hs ho h
  | blk t φ m =>
    have hd : t ≠ d := fun e => hd (congrArg some e)
    obtain ⟨b, h1, h2, h3⟩ := h
    exact ⟨b, hb _ h1, (eval_put_ne hd v).trans h2, m.mono _ _ _ _ _ hs ho h3⟩
  | old i m =>
    obtain ⟨q, h1, h2⟩ := h
    exact ⟨q, h1, m.mono _ _ _ _ _ hs ho h2⟩
/-- the state in the midst of a region: L: what has come up; S0, T0, O0: what was there; Bn: the new blocks, each with the slot that points to it; T1: what the older blocks hold now -/
structure Dat (a0 : Act) (ds : List Tmp) (facts : Nat → List Ft) (N0 : Nat) (w0 v0 : World) (S0 : List Ent) (T0 : List Blk) (O0 : List Ent) (L : Array Bool) (a : Act) (w : World) (S : List Ent) (Bn : List (Nat × Blk)) (T1 : List Blk) (O : List Ent) : Prop where
  size : L.size = N0
  fr : Fr a0 ds a
  sc : SC w0 v0 w S (Bn.map Prod.snd ++ T1) O
  sub : ∀ t ∈ S0, t ∈ S
  subO : ∀ t ∈ O0, t ∈ O
  tags : (Bn.map Prod.fst).Nodup
  tagup : ∀ p ∈ Bn, ∃ j, L.getD j false = true ∧ ∃ φ m, Ft.blk p.1 φ m ∈ facts j
  hib : ∀ p ∈ Bn, v0.heap.size ≤ p.2.g
  gs : T1.map Blk.g = T0.map Blk.g
  keep : ∀ i, (∀ j, L.getD j false = true → ∀ m, Ft.old i m ∉ facts j) → T1[i]? = T0[i]?
  fact : ∀ j, L.getD j false = true → ∀ f ∈ facts j, f.ok a S O Bn T1
def RI (a0 : Act) (ds : List Tmp) (facts : Nat → List Ft) (N0 : Nat) (w0 v0 : World) (S0 : List Ent) (T0 : List Blk) (O0 : List Ent) (L : Array Bool) (a : Act) (w : World) : Prop := ∃ S Bn T1 O, Dat a0 ds facts N0 w0 v0 S0 T0 O0 L a w S Bn T1 O
theorem on_set {L : Array Bool} {i j : Nat} (h : (L.setIfInBounds i true).getD j false = true) : j = i ∨ L.getD j false = true := by
  by_cases e : j = i
  · exact .inl e
  · rw [getD_set_ne false (fun h => e h.symm)] at h; exact .inr h
section
variable {a0 : Act} {ds : List Tmp} {facts : Nat → List Ft} {N0 : Nat} {w0 v0 w w' : World} {S0 S S' O0 O O' : List Ent} {T0 T1 : List Blk} {Bn : List (Nat × Blk)} {L : Array Bool} {a : Act} {i d : Nat} {v : Value}
theorem Dat.start (h : SC w0 v0 w S0 T0 O0) : RI a0 ds facts N0 w0 v0 S0 T0 O0 (Array.replicate N0 false) a0 w := by
  have hf : ∀ j, ¬ (Array.replicate N0 false).getD j false = true := fun j h => by
    rw [Array.getD_eq_getD_getElem?, Array.getElem?_replicate] at h
    split at h <;> cases h
  exact ⟨S0, [], T0, O0, by simp, Fr.refl _ _, h, fun t ht => ht, fun t ht => ht, List.nodup_nil, (fun p hp => by cases hp), (fun p hp => by cases hp), rfl, fun i _ => rfl, fun j h => absurd h (hf j)⟩
theorem up_mono {j : Nat} (h : L.getD j false = true) : (L.setIfInBounds i true).getD j false = true := getD_set_true h
theorem up_self (h : i < L.size) : (L.setIfInBounds i true).getD i false = true := by simp [Array.getD_eq_getD_getElem?, h]
/-- an operation that lays a value into its slot -/
theorem Dat.value {m : MP} (D : Dat a0 ds facts N0 w0 v0 S0 T0 O0 L a w S Bn T1 O) (hd : d ∈ ds) (hlt : d < a0.tmps.size) (hsl : ∀ j, j ≠ i → L.getD j false = true → ∀ f ∈ facts j, f.slot ≠ some d) (hS' : SC w0 v0 w' S' (Bn.map Prod.snd ++ T1) O') (hs : ∀ t ∈ S, t ∈ S') (ho : ∀ t ∈ O, t ∈ O')
    (hi : facts i = [.val d m]) (hm : m.p v S' O') : RI a0 ds facts N0 w0 v0 S0 T0 O0 (L.setIfInBounds i true) (a.put (some d) v) w' := by
  refine ⟨S', Bn, T1, O', by rw [Array.size_setIfInBounds]; exact D.size, D.fr.put hd v, hS', fun t ht => hs t (D.sub t ht), fun t ht => ho t (D.subO t ht), D.tags, fun p hp => ?_, D.hib, D.gs, fun i' h => D.keep i' fun j hj => h j (up_mono hj), fun j hj f hf => ?_⟩
  · obtain ⟨j, h1, h2⟩ := D.tagup p hp
    exact ⟨j, up_mono h1, h2⟩
  · by_cases e : j = i
    · subst e
      rw [hi] at hf
      obtain rfl : f = .val d m := by simpa using hf
      show m.p ((a.put (some d) v).eval (.tmp d)) S' O'
      rw [eval_put_same (by rw [D.fr.size]; exact hlt)]; exact hm
    · exact Ft.ok_put (D.fact j ((on_set hj).resolve_left e) f hf) (hsl j e ((on_set hj).resolve_left e) f hf) hs ho (fun p hp => hp)
/-- a new block -/
theorem Dat.alloc {m : MP} {φ : Nat → Value} {vs : List Value} {ty : TypeId} (D : Dat a0 ds facts N0 w0 v0 S0 T0 O0 L a w S Bn T1 O) (hd : d ∈ ds) (hlt : d < a0.tmps.size) (hsl : ∀ j, j ≠ i → L.getD j false = true → ∀ f ∈ facts j, f.slot ≠ some d) (hup : L.getD i false = false) (hiN : i < N0) (hi : facts i = [.blk d φ m]) (hm : m.p (.agg vs.toArray) S O) :
    RI a0 ds facts N0 w0 v0 S0 T0 O0 (L.setIfInBounds i true) (a.put (some d) (φ w.heap.size)) (w.alloc (.cells vs.toArray ty)) := by
  have hil : i < L.size := by rw [D.size]; exact hiN
  refine ⟨S, (d, ⟨w.heap.size, vs, ty⟩) :: Bn, T1, O, by rw [Array.size_setIfInBounds]; exact D.size, D.fr.put hd _, D.sc.boxed rfl rfl, D.sub, D.subO, List.nodup_cons.2 ⟨fun hmem => ?_, D.tags⟩, fun p hp => ?_, fun p hp => ?_, D.gs, fun i' h => D.keep i' fun j hj => h j (up_mono hj), fun j hj f hf => ?_⟩
  · obtain ⟨p, hp, e⟩ := List.mem_map.1 hmem
    obtain ⟨j, h1, φ', m', h2⟩ := D.tagup p hp
    have e : p.1 = d := e
    by_cases eji : j = i
    · rw [eji, hup] at h1; cases h1
    · exact hsl j eji h1 _ h2 (congrArg some e)
  · rcases List.mem_cons.1 hp with e | e
    · subst e
      exact ⟨i, up_self hil, φ, m, by rw [hi]; exact List.mem_singleton.2 rfl⟩
    · obtain ⟨j, h1, h2⟩ := D.tagup p e
      exact ⟨j, up_mono h1, h2⟩
  · rcases List.mem_cons.1 hp with e | e
    · subst e; exact D.sc.bl.size
    · exact D.hib p e
  · by_cases e : j = i
    · subst e
      rw [hi] at hf
      obtain rfl : f = .blk d φ m := by simpa using hf
      exact ⟨⟨w.heap.size, vs, ty⟩, List.mem_cons_self, eval_put_same (by rw [D.fr.size]; exact hlt) _, hm⟩
    · exact Ft.ok_put (D.fact j ((on_set hj).resolve_left e) f hf) (hsl j e ((on_set hj).resolve_left e) f hf) (fun t ht => ht) (fun t ht => ht) (fun p hp => List.mem_cons_of_mem _ hp)
theorem tag_ne {p q : Nat × Blk} (h : (Bn.map Prod.fst).Nodup) {n n' : Nat} (hp : Bn[n]? = some p) (hq : Bn[n']? = some q) (hne : p.1 ≠ q.1) : n ≠ n' := fun e => by
  subst e; rw [hp] at hq; injection hq with hq; exact hne (by rw [hq])
/-- a store into a new block -/
theorem Dat.store {m m0 : MP} {φ : Nat → Value} {t j0 : Nat} (D : Dat a0 ds facts N0 w0 v0 S0 T0 O0 L a w S Bn T1 O) (hj0 : L.getD j0 false = true) (hbx : Ft.blk t φ m0 ∈ facts j0) (hiN : i < N0) (hi : facts i = [.blk t φ m])
    (hu : ∀ j, j ≠ i → ∀ φ' m', Ft.blk t φ' m' ∈ facts j → m' = m0) :
    ∃ b, BlkOk w b ∧ a.eval (.tmp t) = φ b.g ∧ m0.p (.agg b.vs.toArray) S O ∧ ∀ ws : List Value, m.p (.agg ws.toArray) S O → m0.p (.agg ws.toArray) S O → RI a0 ds facts N0 w0 v0 S0 T0 O0 (L.setIfInBounds i true) a (w.setRow b.g ws.toArray) := by
  obtain ⟨b, hb, he, hm0⟩ := D.fact j0 hj0 _ hbx
  have hil : i < L.size := by rw [D.size]; exact hiN
  obtain ⟨n, hn⟩ := List.getElem?_of_mem hb
  have hnl := (List.getElem?_eq_some_iff.1 hn).1
  have hT : (Bn.map Prod.snd ++ T1)[n]? = some b := by rw [List.getElem?_append_left (by rw [List.length_map]; exact hnl), List.getElem?_map, hn]; rfl
  refine ⟨b, D.sc.box b (List.mem_of_getElem? hT), he, hm0, fun ws hm hm0' => ?_⟩
  have hsc := D.sc.putRow n (g := b.g) (vs := b.vs) (ty := b.ty) hT (D.hib _ hb) ws
  have hset : (Bn.map Prod.snd ++ T1).set n ⟨b.g, ws, b.ty⟩ = (Bn.set n (t, ⟨b.g, ws, b.ty⟩)).map Prod.snd ++ T1 := by
    rw [List.set_append_left _ _ (by rw [List.length_map]; exact hnl), List.map_set]
  have hfst : (Bn.set n (t, ⟨b.g, ws, b.ty⟩)).map Prod.fst = Bn.map Prod.fst := by
    apply List.ext_getElem?
    intro q
    rw [List.getElem?_map, List.getElem?_map]
    by_cases e : n = q
    · subst e
      rw [List.getElem?_set_self hnl, hn]; rfl
    · rw [List.getElem?_set_ne e]
  have hin : ∀ p ∈ Bn, p.1 ≠ t → p ∈ Bn.set n (t, (⟨b.g, ws, b.ty⟩ : Blk)) := fun p hp hne => by
    obtain ⟨q, hq⟩ := List.getElem?_of_mem hp
    have : n ≠ q := tag_ne D.tags hn hq (fun e => hne e.symm)
    exact List.mem_of_getElem? (i := q) (by rw [List.getElem?_set_ne this]; exact hq)
  have hnew : (t, (⟨b.g, ws, b.ty⟩ : Blk)) ∈ Bn.set n (t, (⟨b.g, ws, b.ty⟩ : Blk)) := List.mem_of_getElem? (i := n) (List.getElem?_set_self hnl)
  rw [hset] at hsc
  have htag : ∀ b', (t, b') ∈ Bn → b' = b := fun b' hb' => by
    obtain ⟨q, hq⟩ := List.getElem?_of_mem hb'
    by_cases e : n = q
    · subst e; rw [hn] at hq; injection hq with hq; injection hq with _ hq; exact hq.symm
    · exfalso
      have h1 := (List.getElem?_eq_some_iff.1 hq).1
      exact e ((List.getElem_inj (i := n) (j := q) (h₀ := by rw [List.length_map]; exact hnl) (h₁ := by rw [List.length_map]; exact h1) D.tags).1 (by rw [List.getElem_map, List.getElem_map, (List.getElem?_eq_some_iff.1 hn).2, (List.getElem?_eq_some_iff.1 hq).2]))
  refine ⟨S, _, T1, O, by rw [Array.size_setIfInBounds]; exact D.size, D.fr, hsc, D.sub, D.subO, by rw [hfst]; exact D.tags, fun p hp => ?_, fun p hp => ?_, D.gs, fun i' h => D.keep i' fun j hj => h j (up_mono hj), fun j hj f hf => ?_⟩
  · by_cases e : p.1 = t
    · rw [e]; exact ⟨j0, up_mono hj0, φ, m0, hbx⟩
    · have hp' : p ∈ Bn := by
        rcases List.mem_or_eq_of_mem_set hp with h | h
        · exact h
        · exact absurd (by rw [h]) e
      obtain ⟨j, h1, h2⟩ := D.tagup p hp'
      exact ⟨j, up_mono h1, h2⟩
  · rcases List.mem_or_eq_of_mem_set hp with h | h
    · exact D.hib p h
    · rw [h]; exact D.hib (t, b) hb
  · by_cases e : j = i
    · subst e
      rw [hi] at hf
      obtain rfl : f = .blk t φ m := by simpa using hf
      exact ⟨_, hnew, he, hm⟩
    · have h1 := D.fact j ((on_set hj).resolve_left e) f hf
      cases f with
      | val t' m' => exact h1
      | old i' m' => exact h1
      | blk t' φ' m' =>
        obtain ⟨b', h2, h3, h4⟩ := h1
        by_cases ht : t' = t
        · subst ht
          have := hu j e φ' m' hf
          subst this
          have := htag b' h2
          subst this
          exact ⟨_, hnew, h3, hm0'⟩
        · exact ⟨b', hin _ h2 ht, h3, h4⟩
/-- a store into an older block -/
theorem Dat.put {m : MP} {i0 g : Nat} {vs : List Value} {ty : TypeId} (D : Dat a0 ds facts N0 w0 v0 S0 T0 O0 L a w S Bn T1 O) (hT : T0[i0]? = some ⟨g, vs, ty⟩) (hv : v0.heap.size ≤ g) (hup : L.getD i false = false) (hiN : i < N0) (hi : facts i = [.old i0 m])
    (hu : ∀ j, j ≠ i → ∀ m', Ft.old i0 m' ∉ facts j) (ws : List Value) (hm : m.p (.agg ws.toArray) S O) : BlkOk w ⟨g, vs, ty⟩ ∧ RI a0 ds facts N0 w0 v0 S0 T0 O0 (L.setIfInBounds i true) a (w.setRow g ws.toArray) := by
  have hk : T1[i0]? = some ⟨g, vs, ty⟩ := by
    rw [D.keep i0 fun j hj m' => ?_]; exact hT
    by_cases e : j = i
    · rw [e, hup] at hj; cases hj
    · exact hu j e m'
  have hl := (List.getElem?_eq_some_iff.1 hk).1
  have hT' : (Bn.map Prod.snd ++ T1)[Bn.length + i0]? = some ⟨g, vs, ty⟩ := by
    rw [List.getElem?_append_right (by rw [List.length_map]; omega), List.length_map, Nat.add_sub_cancel_left]; exact hk
  have hsc := D.sc.putRow (Bn.length + i0) hT' hv ws
  have hset : (Bn.map Prod.snd ++ T1).set (Bn.length + i0) ⟨g, ws, ty⟩ = Bn.map Prod.snd ++ T1.set i0 ⟨g, ws, ty⟩ := by
    rw [List.set_append_right _ _ (by rw [List.length_map]; omega), List.length_map, Nat.add_sub_cancel_left]
  rw [hset] at hsc
  refine ⟨D.sc.box _ (List.mem_of_getElem? hT'), S, Bn, _, O, by rw [Array.size_setIfInBounds]; exact D.size, D.fr, hsc, D.sub, D.subO, D.tags, fun p hp => ?_, D.hib, by rw [set_g (q' := ⟨g, ws, ty⟩) hk rfl]; exact D.gs, fun i' h => ?_, fun j hj f hf => ?_⟩
  · obtain ⟨j, h1, h2⟩ := D.tagup p hp
    exact ⟨j, up_mono h1, h2⟩
  · by_cases e : i0 = i'
    · subst e
      by_cases hil : i < L.size
      · exact absurd (by rw [hi]; exact List.mem_singleton.2 rfl) (h i (up_self hil) m)
      · exact absurd (by rw [D.size]; exact hiN) hil
    · rw [List.getElem?_set_ne e]
      exact D.keep i' fun j hj => h j (up_mono hj)
  · by_cases e : j = i
    · subst e
      rw [hi] at hf
      obtain rfl : f = .old i0 m := by simpa using hf
      exact ⟨_, List.getElem?_set_self hl, hm⟩
    · have h1 := D.fact j ((on_set hj).resolve_left e) f hf
      cases f with
      | val t' m' => exact h1
      | blk t' φ' m' => exact h1
      | old i' m' =>
        obtain ⟨q, h2, h3⟩ := h1
        have hne : i0 ≠ i' := fun h => by subst h; exact hu j e m' hf
        exact ⟨q, by rw [List.getElem?_set_ne hne]; exact h2, h3⟩
/-- what an older block still holds -/
theorem Dat.old (D : Dat a0 ds facts N0 w0 v0 S0 T0 O0 L a w S Bn T1 O) {i0 : Nat} {q : Blk} (hT : T0[i0]? = some q) (hu : ∀ j, L.getD j false = true → ∀ m, Ft.old i0 m ∉ facts j) : BlkOk w q := by
  have hk : T1[i0]? = some q := by rw [D.keep i0 hu]; exact hT
  exact D.sc.box q (List.mem_append_right _ (List.mem_of_getElem? hk))
/-- the law: whatever has come up -/
theorem wp_region_rc {id : Nat} {ops : Array Oper} {Q : Exit → Act → World → Prop} (facts : Nat → List Ft) (ds : List Tmp) (h : SC w0 v0 w S0 T0 O0)
    (step : ∀ i, i < ops.size → ∀ L a w' S Bn T1 O, Dat a0 ds facts ops.size w0 v0 S0 T0 O0 L a w' S Bn T1 O → (∀ j, dep ops i j = true → L.getD j false = true) → (∀ j, dep ops j i = true → L.getD j false = false) → L.getD i false = false → wpOp Tryz.prog ops Q i (fun a' w' => RI a0 ds facts ops.size w0 v0 S0 T0 O0 (L.setIfInBounds i true) a' w') a w')
    (hro : rowed ops = true)
    (fin : ∀ a w' S Bn T1 O, Fr a0 ds a → SC w0 v0 w' S (Bn.map Prod.snd ++ T1) O → (∀ t ∈ S0, t ∈ S) → (∀ t ∈ O0, t ∈ O) → (Bn.map Prod.fst).Nodup → T1.map Blk.g = T0.map Blk.g → (∀ i, (∀ j, j < ops.size → ∀ m, Ft.old i m ∉ facts j) → T1[i]? = T0[i]?) → (∀ j, j < ops.size → ∀ f ∈ facts j, f.ok a S O Bn T1) → Q .normal a w')
    (hbig : ∀ j, ops.size ≤ j → facts j = []) :
    (Code.region id ops true).wp Tryz.prog Q a0 w := by
  refine wp_region_inv (by kernel_rfl) (fun L a wx => RI a0 ds facts ops.size w0 v0 S0 T0 O0 L a wx ∧ Clo ops L) (fun L a wx hI => by obtain ⟨⟨S, Bn, T1, O, D⟩, _⟩ := hI; exact D.size) ⟨Dat.start h.drew, fun j h => by
      rw [Array.getD_eq_getD_getElem?, Array.getElem?_replicate] at h
      split at h <;> cases h⟩
    (fun L a wx i hI hi => by
      obtain ⟨⟨S, Bn, T1, O, D⟩, hc⟩ := hI
      have hlt : i < ops.size := by
        obtain ⟨_, o, ho, _⟩ := mem_ready.1 hi
        exact (Array.getElem?_eq_some_iff.1 ho).1
      have hni : L.getD i false = false := by
        have h1 := ready_open hi
        have hl : i < L.size := by rw [D.size]; exact hlt
        rw [Array.getD_eq_getD_getElem?, Array.getElem?_eq_getElem hl] at h1 ⊢
        exact h1
      exact wpOp_mono (fun a' w' h => ⟨h, hc.set hi⟩) (step i hlt L a wx S Bn T1 O D (fun j hj => ready_pred hi hj) (fun j hj => hc.no hi hj) hni))
    (fun L a wx hI hr => by
      obtain ⟨⟨S, Bn, T1, O, D⟩, _⟩ := hI
      have hu := all_up D.size hro hr
      refine fin a wx S Bn T1 O D.fr D.sc D.sub D.subO D.tags D.gs (fun i h => D.keep i fun j hj m => ?_) (fun j hj f hf => D.fact j (hu j hj) f hf)
      by_cases hjl : j < ops.size
      · exact h j hjl m
      · rw [hbig j (by omega)]; exact List.not_mem_nil)
end
def fs (FL : List (List Ft)) (i : Nat) : List Ft := FL.getD i []
theorem fs_big {FL : List (List Ft)} {j : Nat} (h : FL.length ≤ j) : fs FL j = [] := by unfold fs; rw [List.getD_eq_getElem?_getD, List.getElem?_eq_none h]; rfl
def slotsOk (ops : Array Oper) (FL : List (List Ft)) (i d : Nat) : Bool := (List.range FL.length).all fun j => j == i || dep ops j i || (fs FL j).all fun f => f.slot != some d
theorem slotsOk_spec {ops : Array Oper} {FL : List (List Ft)} {i d : Nat} {L : Array Bool} (hno : ∀ j, dep ops j i = true → L.getD j false = false) (h : slotsOk ops FL i d = true) : ∀ j, j ≠ i → L.getD j false = true → ∀ f ∈ fs FL j, f.slot ≠ some d := by
  intro j hj hL f hf
  have hnd : dep ops j i = false := by
    cases e : dep ops j i with
    | false => rfl
    | true => rw [hno j e] at hL; cases hL
  by_cases hl : j < FL.length
  · have h1 := List.all_eq_true.1 h j (List.mem_range.2 hl)
    simp only [Bool.or_eq_true, beq_iff_eq, hj, false_or, hnd, Bool.false_eq_true] at h1
    simpa using List.all_eq_true.1 h1 f hf
  · rw [fs_big (by omega)] at hf; cases hf
/-- the block of slot t is stored into by operation i alone; j0 made it -/
def Ft.bare : Ft → Bool
  | .blk _ _ m => false | _ => true
def onlyBlk (FL : List (List Ft)) (i j0 t : Nat) : Bool := (List.range FL.length).all fun j => j == i || j == j0 || (fs FL j).all fun f => match f with | .blk t' _ _ => t' != t | _ => true
theorem onlyBlk_spec {FL : List (List Ft)} {i j0 t : Nat} {φ : Nat → Value} {m0 : MP} (h : onlyBlk FL i j0 t = true) (h0 : fs FL j0 = [.blk t φ m0]) : ∀ j, j ≠ i → ∀ φ' m', Ft.blk t φ' m' ∈ fs FL j → m' = m0 := by
  intro j hj φ' m' hf
  by_cases e : j = j0
  · subst e
    rw [h0] at hf
    have := List.mem_singleton.1 hf
    injection this
  · by_cases hl : j < FL.length
    · have h1 := List.all_eq_true.1 h j (List.mem_range.2 hl)
      simp only [Bool.or_eq_true, beq_iff_eq, hj, e, false_or] at h1
      have h2 := List.all_eq_true.1 h1 _ hf
      simp at h2
    · rw [fs_big (by omega)] at hf; cases hf
def onlyOld (FL : List (List Ft)) (i i0 : Nat) : Bool := (List.range FL.length).all fun j => j == i || (fs FL j).all fun f => match f with | .old i' _ => i' != i0 | _ => true
theorem onlyOld_spec {FL : List (List Ft)} {i i0 : Nat} (h : onlyOld FL i i0 = true) : ∀ j, j ≠ i → ∀ m', Ft.old i0 m' ∉ fs FL j := by
  intro j hj m' hf
  by_cases hl : j < FL.length
  · have h1 := List.all_eq_true.1 h j (List.mem_range.2 hl)
    simp only [Bool.or_eq_true, beq_iff_eq, hj, false_or] at h1
    have h2 := List.all_eq_true.1 h1 _ hf
    simp at h2
  · rw [fs_big (by omega)] at hf; cases hf
/-- no operation but those that wait for i stores into the older block i0 -/
def noOld (ops : Array Oper) (FL : List (List Ft)) (i i0 : Nat) : Bool := (List.range FL.length).all fun j => dep ops j i || (fs FL j).all fun f => match f with | .old i' _ => i' != i0 | _ => true
theorem noOld_spec {ops : Array Oper} {FL : List (List Ft)} {i i0 : Nat} {L : Array Bool} (hno : ∀ j, dep ops j i = true → L.getD j false = false) (h : noOld ops FL i i0 = true) : ∀ j, L.getD j false = true → ∀ m', Ft.old i0 m' ∉ fs FL j := by
  intro j hL m' hf
  have hnd : dep ops j i = false := by
    cases e : dep ops j i with
    | false => rfl
    | true => rw [hno j e] at hL; cases hL
  by_cases hl : j < FL.length
  · have h1 := List.all_eq_true.1 h j (List.mem_range.2 hl)
    simp only [Bool.or_eq_true, hnd, Bool.false_eq_true, false_or] at h1
    have h2 := List.all_eq_true.1 h1 _ hf
    simp at h2
  · rw [fs_big (by omega)] at hf; cases hf
section
variable {ops : Array Oper} {Q : Exit → Act → World → Prop} {a0 : Act} {ds : List Tmp} {FL : List (List Ft)} {w0 v0 w w' : World} {S0 S S' O0 O O' : List Ent} {T0 T1 : List Blk} {Bn : List (Nat × Blk)} {L : Array Bool} {a : Act} {i d t u : Nat} {v : Value} {ty : TypeId} {pos : String} {aft : Array Edge} {m : MP}
/-- an operation that only reckons, or reads -/
theorem st_pure {o : Oper} (D : Dat a0 ds (fs FL) ops.size w0 v0 S0 T0 O0 L a w S Bn T1 O) (hno : ∀ j, dep ops j i = true → L.getD j false = false) (ho : ops[i]? = some o) (hg : o.guard = none) (hdst : o.dst = some d) (hr : (execOp a.eval o).run Tryz.prog w = .ok (.value v) w)
    (hd : ds.contains d = true) (hlt : d < a0.tmps.size) (hs : slotsOk ops FL i d = true) (hf : fs FL i = [.val d m]) (hm : m.p v S O) :
    wpOp Tryz.prog ops Q i (fun a' w' => RI a0 ds (fs FL) ops.size w0 v0 S0 T0 O0 (L.setIfInBounds i true) a' w') a w := by
  refine op_value (w' := w) ho hg hr ?_
  rw [hdst]
  exact D.value (by simpa using hd) hlt (slotsOk_spec hno hs) D.sc (fun t ht => ht) (fun t ht => ht) hf hm
/-- a call by name -/
theorem st_call {fn : FuncId} {args : Array Operand} {tys : Array TypeId} {vs : Array Value} {R : Ending → World → Prop} (D : Dat a0 ds (fs FL) ops.size w0 v0 S0 T0 O0 L a w S Bn T1 O) (hno : ∀ j, dep ops j i = true → L.getD j false = false)
    (ho : ops[i]? = some ⟨some d, .call { callee := .value (.func fn), args := args, argTypes := tys }, ty, pos, aft, none⟩) (hv : args.map a.eval = vs) {F : Func} {bd : Code} (hF : Tryz.prog.funcs[fn]? = some F) (hN : (F.name == "runtime.NumGoroutine") = false) (hB : F.body = some bd) (hc : Calls Tryz.prog fn vs w R)
    (hd : ds.contains d = true) (hlt : d < a0.tmps.size) (hs : slotsOk ops FL i d = true) (hf : fs FL i = [.val d m])
    (hR : ∀ e w', R e w' → ∃ v S' O', e = .returned v ∧ SC w0 v0 w' S' (Bn.map Prod.snd ++ T1) O' ∧ (∀ t ∈ S, t ∈ S') ∧ (∀ t ∈ O, t ∈ O') ∧ m.p v S' O') :
    wpOp Tryz.prog ops Q i (fun a' w' => RI a0 ds (fs FL) ops.size w0 v0 S0 T0 O0 (L.setIfInBounds i true) a' w') a w := by
  refine op_call (f := fn) (args := vs) ho rfl ?_ hc fun e w' he => ?_
  · have he : a.eval (.func fn) = .func (.func fn) #[] #[] := rfl
    have hN' : F.name ≠ "runtime.NumGoroutine" := by simpa using hN
    have h1 : (callFunc fn vs).run Tryz.prog w = .ok (.enter fn vs) w := by simp [callFunc, hF, hN', hB]
    simp only [execOp, resolve, hv, he]
    go_simp
  · obtain ⟨v, S', O', rfl, hS', hs1, hs2, hm⟩ := hR e w' he
    exact ⟨v, rfl, D.value (by simpa using hd) hlt (slotsOk_spec hno hs) hS' hs1 hs2 hf hm⟩
/-- a new block -/
theorem st_alloc {φ : Nat → Value} {o : Oper} {vs : List Value} {bt : TypeId} (D : Dat a0 ds (fs FL) ops.size w0 v0 S0 T0 O0 L a w S Bn T1 O) (hno : ∀ j, dep ops j i = true → L.getD j false = false) (hni : L.getD i false = false) (ho : ops[i]? = some o) (hg : o.guard = none) (hdst : o.dst = some d)
    (hr : (execOp a.eval o).run Tryz.prog w = .ok (.value (φ w.heap.size)) (w.alloc (.cells vs.toArray bt)))
    (hd : ds.contains d = true) (hlt : d < a0.tmps.size) (hiN : i < ops.size) (hs : slotsOk ops FL i d = true) (hf : fs FL i = [.blk d φ m]) (hm : m.p (.agg vs.toArray) S O) :
    wpOp Tryz.prog ops Q i (fun a' w' => RI a0 ds (fs FL) ops.size w0 v0 S0 T0 O0 (L.setIfInBounds i true) a' w') a w := by
  refine op_value (w' := w.alloc (.cells vs.toArray bt)) ho hg hr ?_
  rw [hdst]
  exact D.alloc (by simpa using hd) hlt (slotsOk_spec hno hs) hni hiN hf hm
/-- a store of a struct into a new block -/
theorem st_store {j0 n : Nat} {sty : TypeId} {cs : Array Value} (D : Dat a0 ds (fs FL) ops.size w0 v0 S0 T0 O0 L a w S Bn T1 O) (ho : ops[i]? = some ⟨none, .store sty (.tmp t) (.tmp u), ty, pos, aft, none⟩) (hiN : i < ops.size)
    (hj0 : L.getD j0 false = true) (hbx : fs FL j0 = [.blk t φp (mSh n)]) (hval : a.eval (.tmp u) = .agg cs) (hm : m.p (.agg cs) S O) (hs : onlyBlk FL i j0 t = true) (hf : fs FL i = [.blk t φp m])
    (hi : (Tryz.prog.info? sty).map (·.size) = some cs.size) (hc : cs.size = n) (h1 : cs.all (·.oneCell') = true) :
    wpOp Tryz.prog ops Q i (fun a' w' => RI a0 ds (fs FL) ops.size w0 v0 S0 T0 O0 (L.setIfInBounds i true) a' w') a w := by
  obtain ⟨b, hb, he, ⟨cs0, e0, hc0⟩, hR⟩ := D.store hj0 (by rw [hbx]; exact List.mem_singleton.2 rfl) hiN hf (onlyBlk_spec hs hbx)
  refine op_skip (w' := w.setRow b.g cs) ho rfl rfl ?_ (by have := hR cs.toList (by simpa using hm) ⟨cs, by simp, hc⟩; simpa using this)
  have he' : a.eval (.tmp t) = .pointer (some ⟨b.g, 0, none⟩) := he
  injection e0 with e0
  simp only [execOp, he', hval, Instr.storeAt, Instr.sureAddr, Sem.run_bind, Sem.run_pure, Result.andThen_ok, run_storeVar_row w b.g b.ty sty b.vs.toArray cs hb hi (by rw [e0, hc0, hc]) h1]
/-- a store of a struct into an older block -/
theorem st_put {i0 g : Nat} {vs : List Value} {bt : TypeId} {sty : TypeId} {cs : Array Value} (D : Dat a0 ds (fs FL) ops.size w0 v0 S0 T0 O0 L a w S Bn T1 O) (hni : L.getD i false = false) (ho : ops[i]? = some ⟨none, .store sty (.tmp t) (.tmp u), ty, pos, aft, none⟩) (hiN : i < ops.size)
    (hT : T0[i0]? = some ⟨g, vs, bt⟩) (hv : v0.heap.size ≤ g) (hp : a.eval (.tmp t) = .pointer (some ⟨g, 0, none⟩)) (hval : a.eval (.tmp u) = .agg cs) (hm : m.p (.agg cs) S O) (hs : onlyOld FL i i0 = true) (hf : fs FL i = [.old i0 m])
    (hi : (Tryz.prog.info? sty).map (·.size) = some cs.size) (hc : vs.length = cs.size) (h1 : cs.all (·.oneCell') = true) :
    wpOp Tryz.prog ops Q i (fun a' w' => RI a0 ds (fs FL) ops.size w0 v0 S0 T0 O0 (L.setIfInBounds i true) a' w') a w := by
  obtain ⟨hb, hR⟩ := D.put hT hv hni hiN hf (onlyOld_spec hs) cs.toList (by simpa using hm)
  refine op_skip (w' := w.setRow g cs) ho rfl rfl ?_ (by simpa using hR)
  simp only [execOp, hp, hval, Instr.storeAt, Instr.sureAddr, Sem.run_bind, Sem.run_pure, Result.andThen_ok, run_storeVar_row w g bt sty vs.toArray cs hb hi (by simpa using hc) h1]
/-- what stands in a slot that the region does not write -/
theorem Dat.at0 (D : Dat a0 ds (fs FL) ops.size w0 v0 S0 T0 O0 L a w S Bn T1 O) (h : ds.contains t = false) (hv : a0.eval (.tmp t) = v) : a.eval (.tmp t) = v := (D.fr.out t (by simpa using h)).trans hv
theorem Dat.ft {j : Nat} {f : Ft} (D : Dat a0 ds (fs FL) ops.size w0 v0 S0 T0 O0 L a w S Bn T1 O) (hj : L.getD j false = true) (hf : fs FL j = [f]) : f.ok a S O Bn T1 := D.fact j hj f (by rw [hf]; exact List.mem_singleton.2 rfl)
theorem Dat.vt {j : Nat} (D : Dat a0 ds (fs FL) ops.size w0 v0 S0 T0 O0 L a w S Bn T1 O) (hj : L.getD j false = true) (hf : fs FL j = [.val t m]) : m.p (a.eval (.tmp t)) S O := D.ft hj hf
/-- what an older block holds, where no store into it can have come up -/
theorem Dat.cells (D : Dat a0 ds (fs FL) ops.size w0 v0 S0 T0 O0 L a w S Bn T1 O) (hno : ∀ j, dep ops j i = true → L.getD j false = false) {i0 : Nat} {q : Blk} (hT : T0[i0]? = some q) (h : noOld ops FL i i0 = true) : BlkOk w q := D.old hT (noOld_spec hno h)
theorem b3 {w : World} {g : Nat} {x y z : Value} {ty : TypeId} (h : BlkOk w ⟨g, [x, y, z], ty⟩) : w.cell? ⟨g, 0, none⟩ = some x ∧ w.cell? ⟨g, 1, none⟩ = some y ∧ w.cell? ⟨g, 2, none⟩ = some z := ⟨h.cell (k := 0) rfl, h.cell (k := 1) rfl, h.cell (k := 2) rfl⟩
theorem b2 {w : World} {g : Nat} {x y : Value} {ty : TypeId} (h : BlkOk w ⟨g, [x, y], ty⟩) : w.cell? ⟨g, 0, none⟩ = some x ∧ w.cell? ⟨g, 1, none⟩ = some y := ⟨h.cell (k := 0) rfl, h.cell (k := 1) rfl⟩
theorem mem_more {α : Type} {S0 S : List α} {e : α} (h : e ∈ S) (hs : ∀ t ∈ S0, t ∈ S) : ∀ t ∈ e :: S0, t ∈ S := fun t ht => by
  rcases List.mem_cons.1 ht with e | e
  · rw [e]; exact h
  · exact hs t e
/-- what is wanted of a region's end: some of the naturals, the older blocks as they are now -/
theorem end_old {S' O' : List Ent} (h : SC w0 v0 w S (Bn.map Prod.snd ++ T1) O) (hs : ∀ t ∈ S', t ∈ S) (ho : ∀ t ∈ O', t ∈ O) : SC w0 v0 w S' T1 O' := h.sub hs (List.sublist_append_right _ _) ho
theorem end_one {S' O' : List Ent} {t : Nat} {b : Blk} (h : SC w0 v0 w S (Bn.map Prod.snd ++ T1) O) (hb : (t, b) ∈ Bn) (hs : ∀ t ∈ S', t ∈ S) (ho : ∀ t ∈ O', t ∈ O) : SC w0 v0 w S' (b :: T1) O' :=
  h.sub hs (show List.Sublist ([b] ++ T1) (Bn.map Prod.snd ++ T1) from List.Sublist.append (List.singleton_sublist.2 (List.mem_map.2 ⟨(t, b), hb, rfl⟩)) (List.Sublist.refl T1)) ho
theorem list_1 {α : Type} {l : List α} {a : α} (h : l.length = 1) (h0 : l[0]? = some a) : l = [a] := by
  apply List.ext_getElem?; intro i; rcases i with _ | i
  · simpa using h0
  · rw [List.getElem?_eq_none (by omega), List.getElem?_eq_none (by simp)]
theorem list_2 {α : Type} {l : List α} {a b : α} (h : l.length = 2) (h0 : l[0]? = some a) (h1 : l[1]? = some b) : l = [a, b] := by
  apply List.ext_getElem?; intro i; rcases i with _ | _ | i
  · simpa using h0
  · simpa using h1
  · rw [List.getElem?_eq_none (by omega), List.getElem?_eq_none (by simp)]
theorem list_3 {α : Type} {l : List α} {a b c : α} (h : l.length = 3) (h0 : l[0]? = some a) (h1 : l[1]? = some b) (h2 : l[2]? = some c) : l = [a, b, c] := by
  apply List.ext_getElem?; intro i; rcases i with _ | _ | _ | i
  · simpa using h0
  · simpa using h1
  · simpa using h2
  · rw [List.getElem?_eq_none (by omega), List.getElem?_eq_none (by simp)]
theorem list_4 {α : Type} {l : List α} {a b c d : α} (h : l.length = 4) (h0 : l[0]? = some a) (h1 : l[1]? = some b) (h2 : l[2]? = some c) (h3 : l[3]? = some d) : l = [a, b, c, d] := by
  apply List.ext_getElem?; intro i; rcases i with _ | _ | _ | _ | i
  · simpa using h0
  · simpa using h1
  · simpa using h2
  · simpa using h3
  · rw [List.getElem?_eq_none (by omega), List.getElem?_eq_none (by simp)]
theorem g_old {T0 T1 : List Blk} {i g : Nat} {vs : List Value} {ty : TypeId} {q : Blk} (hgs : T1.map Blk.g = T0.map Blk.g) (hT : T0[i]? = some ⟨g, vs, ty⟩) (hq : T1[i]? = some q) : q.g = g := by
  have h := congrArg (fun l : List Nat => l[i]?) hgs
  simp only [List.getElem?_map, hT, hq, Option.map_some] at h
  injection h
theorem blk_eq {q : Blk} {g : Nat} {vs : List Value} (hg : q.g = g) (hv : Value.agg q.vs.toArray = .agg vs.toArray) : q = ⟨g, vs, q.ty⟩ := by
  injection hv with hv
  have hv := congrArg Array.toList hv
  simp only [List.toList_toArray] at hv
  cases q
  simp only at hg hv
  rw [hg, hv]
end
end RC
end Go.Proofs.YtfdpddlefobcpaaGreatDoor
