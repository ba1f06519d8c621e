/- Gathered: WholeMem, Held, WholeText. -/
import Derived.Test.YtfdpddlefobcpaaGreatDoorGNatB
import Derived.Test.YtfdpddlefobcpaaGreatDoorGMem
import Derived.Test.YtfdpddlefobcpaaGreatDoorGMath
/- Whole numbers as they are told: a sign and limbs. No function of the program. -/
namespace Go.Proofs.YtfdpddlefobcpaaGreatDoor
open Go.RowKit
set_option linter.unusedVariables false
set_option maxRecDepth 20000
namespace N
/-- the whole number that a sign and a natural stand for -/
def iv (b : Bool) (v : Int) : Int := if b then -v else v
/-- its sign, and its magnitude, as they are told -/
def sg (z : Int) : Bool := decide (z < 0)
def mg (z : Int) : Int := (z.natAbs : Int)
theorem iv_f (v : Int) : iv false v = v := rfl
theorem iv_t (v : Int) : iv true v = -v := rfl
theorem iv_0 (b : Bool) : iv b 0 = 0 := by cases b <;> rfl
theorem mg_nn (z : Int) : 0 ≤ mg z := by unfold mg; omega
theorem iv_sm (z : Int) : iv (sg z) (mg z) = z := by
  unfold iv sg mg
  by_cases h : z < 0
  · rw [decide_eq_true h, if_pos rfl]; omega
  · rw [decide_eq_false h, if_neg (by decide)]; omega
theorem sg_f {z : Int} (h : 0 ≤ z) : sg z = false := decide_eq_false (by omega)
theorem sg_t {z : Int} (h : z < 0) : sg z = true := decide_eq_true h
theorem mg_f {z : Int} (h : 0 ≤ z) : mg z = z := by unfold mg; omega
theorem mg_t {z : Int} (h : z ≤ 0) : mg z = -z := by unfold mg; omega
theorem mg_iv {b : Bool} {v : Int} (h : 0 ≤ v) : mg (iv b v) = v := by cases b <;> unfold iv mg <;> simp <;> omega
theorem sg_iv {b : Bool} {v : Int} (h : 0 ≤ v) : sg (iv b v) = (b && decide (0 < v)) := by
  cases b
  · rw [iv_f, sg_f h]; rfl
  · rw [iv_t, Bool.true_and]; unfold sg; congr 1; exact propext ⟨fun _ => by omega, fun _ => by omega⟩
theorem sg_0 : sg 0 = false := rfl
theorem mg_0 : mg 0 = 0 := rfl
theorem mg_eq0 {z : Int} : mg z = 0 ↔ z = 0 := by unfold mg; omega
theorem mg_pos {z : Int} : 0 < mg z ↔ z ≠ 0 := by unfold mg; omega
theorem wn_inj {z y : Int} (h1 : sg z = sg y) (h2 : mg z = mg y) : z = y := by rw [← iv_sm z, ← iv_sm y, h1, h2]
theorem mg_mul (z y : Int) : mg (z * y) = mg z * mg y := by unfold mg; rw [Int.natAbs_mul, Int.natCast_mul]
theorem iv_mul (b b' : Bool) (v u : Int) : iv b v * iv b' u = iv (b != b') (v * u) := by
  cases b <;> cases b' <;> simp [iv, Int.neg_mul, Int.mul_neg]
theorem iv_neg (b : Bool) (v : Int) : iv (!b) v = -iv b v := by cases b <;> simp [iv]
theorem iv_add (b : Bool) (v u : Int) : iv b v + iv b u = iv b (v + u) := by cases b <;> simp [iv] <;> omega
theorem iv_sub (b : Bool) (v u : Int) : iv b v + iv (!b) u = iv b (v - u) := by cases b <;> simp [iv] <;> omega
theorem abs_iv {b : Bool} {v : Int} (h : 0 ≤ v) : (iv b v).natAbs = v.toNat := by cases b <;> simp [iv] <;> omega
/-- -1, 0, 1 -/
def sgn (z : Int) : Int := if z < 0 then -1 else if z = 0 then 0 else 1
theorem sgn_neg {z : Int} (h : z < 0) : sgn z = -1 := by unfold sgn; rw [if_pos h]
theorem sgn_zero {z : Int} (h : z = 0) : sgn z = 0 := by subst h; rfl
theorem sgn_pos {z : Int} (h : 0 < z) : sgn z = 1 := by unfold sgn; rw [if_neg (by omega), if_neg (by omega)]
theorem sgn_n (z : Int) : sgn (-z) = -sgn z := by unfold sgn; split <;> split <;> (try split) <;> omega
theorem sgn_cases (z : Int) : (z < 0 ∧ sgn z = -1) ∨ (z = 0 ∧ sgn z = 0) ∨ (0 < z ∧ sgn z = 1) := by unfold sgn; split <;> (try split) <;> omega
theorem sgn_mul (z y : Int) : sgn (z * y) = sgn z * sgn y := by
  rcases sgn_cases z with ⟨h, e⟩ | ⟨h, e⟩ | ⟨h, e⟩ <;> rcases sgn_cases y with ⟨h', e'⟩ | ⟨h', e'⟩ | ⟨h', e'⟩ <;> rw [e, e']
  · exact sgn_pos (Int.mul_pos_of_neg_of_neg h h')
  · subst h'; rw [Int.mul_zero]; rfl
  · exact sgn_neg (Int.mul_neg_of_neg_of_pos h h')
  · subst h; rw [Int.zero_mul]; rfl
  · subst h; rw [Int.zero_mul]; rfl
  · subst h; rw [Int.zero_mul]; rfl
  · exact sgn_neg (Int.mul_neg_of_pos_of_neg h h')
  · subst h'; rw [Int.mul_zero]; rfl
  · exact sgn_pos (Int.mul_pos h h')
theorem dm_pos {x y q r : Int} (hy : 0 < y) (h : q * y + r = x) (h0 : 0 ≤ r) (h1 : r < y) : x / y = q ∧ x % y = r :=
  (Int.ediv_emod_unique hy).2 ⟨by rw [← h, Int.mul_comm y q]; omega, h0, h1⟩
theorem dm_neg {x y q r : Int} (hy : 0 < y) (h : q * -y + r = x) (h0 : 0 ≤ r) (h1 : r < y) : x / -y = q ∧ x % -y = r := by
  obtain ⟨e1, e2⟩ := dm_pos (x := x) (y := y) (q := -q) (r := r) hy (by rw [← h, Int.neg_mul, Int.mul_neg]) h0 h1
  rw [Int.ediv_neg, Int.emod_neg, e1, e2]
  exact ⟨by omega, rfl⟩
/-- a quotient of whole numbers from that of their magnitudes, where nothing is left, or the first is not below 0 -/
theorem iv_div {b b' : Bool} {v u : Int} (hu : 0 < u) (h : b = false ∨ v % u = 0) : iv b v / iv b' u = iv (b != b') (v / u) ∧ iv b v % iv b' u = v % u := by
  have h1 := Int.ediv_mul_add_emod v u
  have h2 := Int.emod_nonneg v (show u ≠ 0 by omega)
  have h3 := Int.emod_lt_of_pos v hu
  generalize hq : v / u = q at h1 ⊢
  generalize hr : v % u = r at h1 h2 h3 h ⊢
  cases b <;> cases b' <;> simp only [iv_f, iv_t, Bool.false_bne, Bool.true_bne, Bool.not_false, Bool.not_true]
  · exact dm_pos hu h1 h2 h3
  · exact dm_neg hu (by rw [Int.neg_mul_neg]; exact h1) h2 h3
  · obtain h | h := h
    · cases h
    · subst h; exact dm_pos hu (by rw [Int.neg_mul]; omega) h2 h3
  · obtain h | h := h
    · cases h
    · subst h; exact dm_neg hu (by rw [Int.mul_neg]; omega) h2 h3
/-- the same, where something is left of one below 0 -/
theorem iv_div' {b' : Bool} {v u : Int} (hu : 0 < u) (h : v % u ≠ 0) : iv true v / iv b' u = iv (true != b') (v / u + 1) ∧ iv true v % iv b' u = u - v % u := by
  have h1 := Int.ediv_mul_add_emod v u
  have h2 := Int.emod_nonneg v (show u ≠ 0 by omega)
  have h3 := Int.emod_lt_of_pos v hu
  generalize hq : v / u = q at h1 ⊢
  generalize hr : v % u = r at h1 h2 h3 h ⊢
  cases b' <;> simp only [iv_f, iv_t, Bool.true_bne, Bool.not_false, Bool.not_true]
  · exact dm_pos hu (by rw [Int.neg_mul, Int.add_mul, Int.one_mul]; omega) (by omega) (by omega)
  · exact dm_neg hu (by rw [Int.mul_neg, Int.add_mul, Int.one_mul]; omega) (by omega) (by omega)
/-- has it the form that results have? -/
def mayB (b : Bool) (xs : List Int) : Bool := decide (nn xs = xs.length) && !(b && decide (xs.length = 0))
theorem mayB_told (z : Int) : mayB (sg z) (limbs (mg z)) = true := by
  unfold mayB
  rw [limbs_nn, decide_eq_true rfl, Bool.true_and]
  by_cases h : z < 0
  · have : (limbs (mg z)).length ≠ 0 := fun e => by
      have h1 := limbs_val (mg_nn z)
      rw [List.eq_nil_of_length_eq_zero e] at h1
      have := mg_eq0.1 h1.symm
      omega
    rw [decide_eq_false this, Bool.and_false]; rfl
  · rw [sg_f (by omega)]; rfl
/-- what a call tells that makes a whole number: its sign, its limbs, in memory of its own; of what was there nothing has turned; m: how many limbs at most -/
def OutI (W : World) (m : Nat) (z : Int) (e : Ending) (w' : World) : Prop :=
  ∃ A n c, e = .returned (.agg #[.bool (sg z), .slice A n c]) ∧ n ≤ m ∧ N.Own w' W.heap.size A n c (limbs (mg z)) ∧ Below W.heap.size W w'
/-- the same, beside an error's number -/
def OutIE (W : World) (m : Nat) (z : Int) (k : Int) (e : Ending) (w' : World) : Prop :=
  ∃ A n c, e = .returned (.tuple #[.agg #[.bool (sg z), .slice A n c], .int .i64 k]) ∧ n ≤ m ∧ N.Own w' W.heap.size A n c (limbs (mg z)) ∧ Below W.heap.size W w'
/-- two whole numbers and an error's number -/
def OutI2 (W : World) (m : Nat) (z y : Int) (k : Int) (e : Ending) (w' : World) : Prop :=
  ∃ A n c A' n' c', e = .returned (.tuple #[.agg #[.bool (sg z), .slice A n c], .agg #[.bool (sg y), .slice A' n' c'], .int .i64 k]) ∧ n ≤ m ∧ n' ≤ m ∧
    N.Own w' W.heap.size A n c (limbs (mg z)) ∧ N.Own w' W.heap.size A' n' c' (limbs (mg y)) ∧ Below W.heap.size W w'
/-- the block g holds one whole number -/
def BoxI (w : World) (g : Nat) (b : Bool) (A : Option Addr) (n c : Nat) : Prop := w.heap[g]? = some (.cells #[.bool b, .slice A n c] 60 (0, 0))
section
variable {w w' : World} {g : Nat} {b : Bool} {A : Option Addr} {n c : Nat}
theorem BoxI.lt (h : BoxI w g b A n c) : g < w.heap.size := by
  rcases Nat.lt_or_ge g w.heap.size with hlt | hge
  · exact hlt
  · unfold BoxI at h; rw [Array.getElem?_eq_none hge] at h; cases h
theorem BoxI.c0 (h : BoxI w g b A n c) : w.cell? ⟨g, 0, none⟩ = some (.bool b) := by rw [cell_of_row w g 0 _ _ _ h]; rfl
theorem BoxI.c1 (h : BoxI w g b A n c) : w.cell? ⟨g, 1, none⟩ = some (.slice A n c) := by rw [cell_of_row w g 1 _ _ _ h]; rfl
theorem BoxI.fr (h : BoxI w g b A n c) (k : Nat) : w.frozen? ⟨g, k, none⟩ = false := by unfold BoxI at h; simp [World.frozen?, h]
theorem BoxI.below {B : Nat} (h : BoxI w g b A n c) (hb : Below B w w') (hg : g < B) : BoxI w' g b A n c := (hb.block g hg).trans h
theorem BoxI.on (h : BoxI w g b A n c) (hb : Below w.heap.size w w') : BoxI w' g b A n c := h.below hb h.lt
theorem BoxI.alloc (h : BoxI w g b A n c) (o : Obj) : BoxI (w.alloc o) g b A n c := (Below.heap_alloc w o g h.lt).trans h
theorem BoxI.drewN (h : BoxI w g b A n c) (k : Nat) : BoxI (w.drewN k) g b A n c := h
theorem BoxI.drew (h : BoxI w g b A n c) : BoxI w.drew g b A n c := h
theorem BoxI.set0 (h : BoxI w g b A n c) (b' : Bool) : BoxI (w.setCell ⟨g, 0, none⟩ (.bool b')) g b' A n c := by
  unfold BoxI at h ⊢
  simp [World.setCell, Array.getElem?_modify, h]
theorem BoxI.set1 (h : BoxI w g b A n c) (A' : Option Addr) (n' c' : Nat) : BoxI (w.setCell ⟨g, 1, none⟩ (.slice A' n' c')) g b A' n' c' := by
  unfold BoxI at h ⊢
  simp [World.setCell, Array.getElem?_modify, h]
theorem BoxI.far (h : BoxI w g b A n c) {p : Addr} (hp : g ≠ p.block) (u : Value) : BoxI (w.setCell p u) g b A n c := (Below.heap_setCell w p u g hp).trans h
theorem BoxI.made {w1 : World} (h : w.alloc (.cells #[.bool b, .slice A n c] 60) = w1) : BoxI w1 w.heap.size b A n c ∧ Below w.heap.size w w1 := by
  subst h
  exact ⟨heap_alloc_new w _, (Below.refl _ w).alloc (Nat.le_refl _) _⟩
end
theorem infoInt : (Tryz.prog.info? 60).map (·.size) = some 2 := by kernel_rfl
theorem BoxI.load {w : World} {g : Nat} {b : Bool} {A : Option Addr} {n c : Nat} (h : BoxI w g b A n c) : (loadVar 60 ⟨g, 0, none⟩).run Tryz.prog w = .ok (.agg #[.bool b, .slice A n c]) w :=
  run_loadVar_row w g _ 60 _ _ _ h Tryz.underlying60 rfl infoInt
/-- the result of a function that makes it in a block -/
theorem results_I {f : Func} {k : Nat} (hf : f.results = #[.cell k 60]) {tmps : Array Value} {w : World} {g : Nat} {b : Bool} {A : Option Addr} {n c : Nat} (hp : tmps.getD k undef = .pointer (some ⟨g, 0, none⟩)) (h : BoxI w g b A n c) :
    (results f tmps).run Tryz.prog w = .ok (.agg #[.bool b, .slice A n c]) w := by
  have hp' : tmps[k]?.getD undef = .pointer (some ⟨g, 0, none⟩) := by simpa using hp
  simp [results, hf, hp', asAddr, h.load]
theorem results_I2 {f : Func} {k t : Nat} (hf : f.results = #[.cell k 60, .tmp t]) {tmps : Array Value} {w : World} {g : Nat} {b : Bool} {A : Option Addr} {n c : Nat} {x : Value} (hp : tmps.getD k undef = .pointer (some ⟨g, 0, none⟩)) (hx : tmps.getD t undef = x) (h : BoxI w g b A n c) :
    (results f tmps).run Tryz.prog w = .ok (.tuple #[.agg #[.bool b, .slice A n c], x]) w := by
  have hp' : tmps[k]?.getD undef = .pointer (some ⟨g, 0, none⟩) := by simpa using hp
  have hx' : tmps[t]?.getD undef = x := by simpa using hx
  simp [results, hf, hp', hx', asAddr, h.load]
theorem limbs_mg_len (z : Int) {k : Nat} (h : mg z < Q B k) : (limbs (mg z)).length ≤ k := (limbs_len_le (mg_nn z) k).2 h
theorem Sl.lt {w : World} {A : Option Addr} {n c : Nat} {xs : List Int} (h : Sl w A n c xs) : val B xs < Q B n := by
  have := val_lt (b := B) (by decide) h.dg
  rwa [h.len] at this
theorem Sl.nn0 {w : World} {A : Option Addr} {n c : Nat} {xs : List Int} (h : Sl w A n c xs) : 0 ≤ val B xs := val_nonneg (by decide) h.dg
theorem OutI.tight {W : World} {m : Nat} {z : Int} {e : Ending} {w' : World} (h : OutI W m z e w') {k : Nat} (hk : mg z < Q B k) : OutI W k z e w' := by
  obtain ⟨A, n, c, he, _, ho, hb⟩ := h
  exact ⟨A, n, c, he, by rw [← ho.len]; exact limbs_mg_len z hk, ho, hb⟩
theorem QB_pos (n : Nat) : 1 ≤ Q B n := by
  have : (0 : Int) < Q B n := Q_pos (by decide) n
  omega
theorem QB_add (n m : Nat) : Q B (n + m) = Q B n * Q B m := by unfold Q; rw [Int.pow_add]
theorem QB_le {n m : Nat} (h : n ≤ m) : Q B n ≤ Q B m := by
  obtain ⟨k, rfl⟩ := Nat.exists_eq_add_of_le h
  rw [QB_add]
  have h1 := QB_pos n
  have h2 := QB_pos k
  have h3 := Int.mul_le_mul_of_nonneg_left h2 (show 0 ≤ Q B n by omega)
  rwa [Int.mul_one] at h3
theorem QB_sum {n m : Nat} {v u : Int} (hv : v < Q B n) (hu : u < Q B m) : v + u < Q B (n + m + 1) := by
  have h1 := QB_le (show n ≤ n + m by omega)
  have h2 := QB_le (show m ≤ n + m by omega)
  have h3 := QB_pos (n + m)
  rw [show Q B (n + m + 1) = Q B (n + m) * Q B 1 from QB_add _ _, show Q B 1 = 18446744073709551616 by unfold Q; decide]
  omega
theorem QB_prod {n m : Nat} {v u : Int} (h0 : 0 ≤ v) (h0' : 0 ≤ u) (hv : v < Q B n) (hu : u < Q B m) : v * u < Q B (n + m) := by
  rw [QB_add]
  have h1 := Int.mul_le_mul_of_nonneg_right (Int.le_of_lt hv) h0'
  have h2 := Int.mul_lt_mul_of_pos_left hu (show 0 < Q B n by omega)
  omega
theorem OutI.from {W w1 : World} {m : Nat} {z : Int} {e : Ending} {w' : World} (hb : Below W.heap.size W w1) (h : OutI w1 m z e w') : OutI W m z e w' := by
  obtain ⟨A, n, c, he, hn, ho, hb'⟩ := h
  exact ⟨A, n, c, he, hn, ho.mono hb.size, hb.trans (hb'.mono hb.size)⟩
theorem QB_one : Q B 1 = 18446744073709551616 := by unfold Q; decide
theorem len_of_limbs {z : Int} {n : Nat} (h : (limbs (mg z)).length = n) : n = 0 ↔ z = 0 := by
  rw [← h]
  constructor
  · intro e
    have h1 := limbs_val (mg_nn z)
    rw [List.eq_nil_of_length_eq_zero e] at h1
    exact mg_eq0.1 h1.symm
  · intro e
    subst e
    rw [mg_0, limbs_zero]; rfl
end N
end Go.Proofs.YtfdpddlefobcpaaGreatDoor
/- Blocks of a call's own, all of whose cells are known: what a walk carries from call to call. No function of the program. -/
namespace Go.Proofs.YtfdpddlefobcpaaGreatDoor
open Go.RowKit
set_option linter.unusedVariables false
set_option maxRecDepth 20000
namespace N
/-- blocks behind all that was there: number, cells, type -/
structure Held (w : World) (L : List (Nat × Array Value × TypeId)) (W : World) : Prop where
  below : Below w.heap.size w W
  rows : ∀ q ∈ L, w.heap.size ≤ q.1 ∧ W.heap[q.1]? = some (.cells q.2.1 q.2.2 (0, 0))
section
variable {w W W' : World} {L : List (Nat × Array Value × TypeId)} {g : Nat} {cs : Array Value} {t : TypeId}
theorem Held.start (w : World) : Held w [] w := ⟨Below.refl _ _, fun q hq => by cases hq⟩
theorem heap_lt {W : World} {g : Nat} {o : Obj} (h : W.heap[g]? = some o) : g < W.heap.size := by
  rcases Nat.lt_or_ge g W.heap.size with hlt | hge
  · exact hlt
  · rw [Array.getElem?_eq_none hge] at h; cases h
theorem Held.on (h : Held w L W) (hb : Below W.heap.size W W') : Held w L W' :=
  ⟨h.below.trans (hb.mono h.below.size), fun q hq => ⟨(h.rows q hq).1, (hb.block q.1 (heap_lt (h.rows q hq).2)).trans (h.rows q hq).2⟩⟩
theorem Held.alloc (h : Held w L W) (hw : W.alloc (.cells cs t) = W') : Held w ((W.heap.size, cs, t) :: L) W' := by
  have h' := h.on (W' := W') (by subst hw; exact (Below.refl _ W).alloc (Nat.le_refl _) _)
  refine ⟨h'.below, fun q hq => ?_⟩
  rcases List.mem_cons.1 hq with e | e
  · subst e; subst hw; exact ⟨h.below.size, heap_alloc_new W _⟩
  · exact h'.rows q e
theorem Held.allocs (h : Held w L W) {o : Obj} (hw : W.alloc o = W') : Held w L W' := h.on (by subst hw; exact (Below.refl _ W).alloc (Nat.le_refl _) _)
theorem Held.drewN (h : Held w L W) (k : Nat) : Held w L (W.drewN k) := h.on ⟨rfl, rfl, rfl, Nat.le_refl _, fun _ _ => rfl⟩
theorem Held.drew (h : Held w L W) : Held w L W.drew := h.on ⟨rfl, rfl, rfl, Nat.le_refl _, fun _ _ => rfl⟩
theorem Held.row (h : Held w L W) (i : Nat) (hi : L[i]? = some (g, cs, t)) : W.heap[g]? = some (.cells cs t (0, 0)) := (h.rows _ (List.mem_of_getElem? hi)).2
theorem Held.ge (h : Held w L W) (i : Nat) (hi : L[i]? = some (g, cs, t)) : w.heap.size ≤ g := (h.rows _ (List.mem_of_getElem? hi)).1
theorem Held.lt (h : Held w L W) (i : Nat) (hi : L[i]? = some (g, cs, t)) : g < W.heap.size := heap_lt (h.row i hi)
theorem Held.cell (h : Held w L W) (i k : Nat) (hi : L[i]? = some (g, cs, t)) {v : Value} (hk : cs[k]? = some v) : W.cell? ⟨g, k, none⟩ = some v := by
  rw [cell_of_row W g k _ _ _ (h.row i hi)]; exact hk
theorem Held.fr (h : Held w L W) (i k : Nat) (hi : L[i]? = some (g, cs, t)) : W.frozen? ⟨g, k, none⟩ = false := by
  have := h.row i hi
  simp [World.frozen?, this]
theorem Held.c1 (h : Held w L W) (i : Nat) {a : Value} (hi : L[i]? = some (g, #[a], t)) : W.cell? ⟨g, 0, none⟩ = some a := h.cell i 0 hi rfl
theorem Held.c2 (h : Held w L W) (i : Nat) {a b : Value} (hi : L[i]? = some (g, #[a, b], t)) : W.cell? ⟨g, 0, none⟩ = some a ∧ W.cell? ⟨g, 1, none⟩ = some b := ⟨h.cell i 0 hi rfl, h.cell i 1 hi rfl⟩
theorem Held.c4 (h : Held w L W) (i : Nat) {a b c d : Value} (hi : L[i]? = some (g, #[a, b, c, d], t)) : W.cell? ⟨g, 0, none⟩ = some a ∧ W.cell? ⟨g, 1, none⟩ = some b ∧ W.cell? ⟨g, 2, none⟩ = some c ∧ W.cell? ⟨g, 3, none⟩ = some d :=
  ⟨h.cell i 0 hi rfl, h.cell i 1 hi rfl, h.cell i 2 hi rfl, h.cell i 3 hi rfl⟩
theorem Held.f2 (h : Held w L W) (i : Nat) (hi : L[i]? = some (g, cs, t)) : W.frozen? ⟨g, 0, none⟩ = false ∧ W.frozen? ⟨g, 1, none⟩ = false := ⟨h.fr i 0 hi, h.fr i 1 hi⟩
theorem Held.sub {L' : List (Nat × Array Value × TypeId)} (h : Held w L W) (hs : ∀ q ∈ L', q ∈ L) : Held w L' W := ⟨h.below, fun q hq => h.rows q (hs q hq)⟩
/-- a cell of the first block written -/
theorem Held.set (h : Held w ((g, cs, t) :: L) W) (hd : ∀ q ∈ L, q.1 ≠ g) (k : Nat) (v : Value) : Held w ((g, cs.modify k fun _ => v, t) :: L) (W.setCell ⟨g, k, none⟩ v) := by
  have hg := h.ge 0 (g := g) rfl
  have hr := h.row 0 (g := g) rfl
  refine ⟨h.below.setCell (p := ⟨g, k, none⟩) hg v, fun q hq => ?_⟩
  rcases List.mem_cons.1 hq with e | e
  · subst e
    refine ⟨hg, ?_⟩
    show (W.setCell ⟨g, k, none⟩ v).heap[g]? = _
    have hm : (cs.modify k fun _ => v) = cs.set! k v := by
      apply Array.ext_getElem?
      intro i
      rw [Array.set!_eq_setIfInBounds, Array.getElem?_modify, Array.getElem?_setIfInBounds]
      by_cases hki : k = i
      · subst hki
        rw [if_pos rfl, if_pos rfl]
        by_cases hb : k < cs.size
        · rw [if_pos hb, Array.getElem?_eq_getElem hb]; rfl
        · rw [if_neg hb, Array.getElem?_eq_none (by omega)]; rfl
      · rw [if_neg hki, if_neg hki]
    simp [World.setCell, Array.getElem?_modify, hr, hm]
  · obtain ⟨h1, h2⟩ := h.rows q (List.mem_cons_of_mem _ e)
    exact ⟨h1, (Below.heap_setCell W ⟨g, k, none⟩ v q.1 (hd q e)).trans h2⟩
end
end N
end Go.Proofs.YtfdpddlefobcpaaGreatDoor
/- Texts of whole numbers, plain: what Show and Read of a whole number must answer. No program, no walk. -/
namespace Go.Proofs.YtfdpddlefobcpaaGreatDoor
set_option linter.unusedVariables false
set_option maxRecDepth 20000
namespace N
open Go.Lib (decDigits nDigits nDigits_small nDigits_big nDigits_pos lt_pow_nDigits decDigits_length)
/-- the text of a whole number -/
def shI (z : Int) : List UInt8 := if z < 0 then 45 :: decDigits z.natAbs else decDigits z.natAbs
theorem shI_neg {z : Int} (h : z < 0) : shI z = 45 :: decDigits z.natAbs := if_pos h
theorem shI_pos {z : Int} (h : 0 ≤ z) : shI z = decDigits z.natAbs := if_neg (by omega)
/-- does it begin with a sign? -/
def isNg (bs : List UInt8) : Bool := bs.head? == some 45
/-- why a text is no whole number's, 0 if it is -/
def rdJ (bs : List UInt8) : Int := if isNg bs then (if rdE bs.tail = 0 then (if rdV bs.tail = 0 then 3 else 0) else rdE bs.tail) else rdE bs
/-- what a text tells, 0 if nothing -/
def rdW (bs : List UInt8) : Int := if isNg bs then -rdV bs.tail else rdV bs
theorem rdV_err {bs : List UInt8} (h : rdE bs ≠ 0) : rdV bs = 0 := by unfold rdV; rw [if_neg h]
theorem rdW_err {bs : List UInt8} (h : rdJ bs ≠ 0) : rdW bs = 0 := by
  unfold rdW
  unfold rdJ at h
  by_cases hn : isNg bs = true
  · rw [if_pos hn] at h ⊢
    by_cases he : rdE bs.tail = 0
    · rw [if_pos he] at h
      by_cases hv : rdV bs.tail = 0
      · rw [hv]; rfl
      · rw [if_neg hv] at h; exact absurd rfl h
    · rw [rdV_err he]; rfl
  · rw [if_neg hn] at h ⊢
    exact rdV_err h
theorem dd_head45 (u : Nat) : isNg (decDigits u) = false := by
  cases e : isNg (decDigits u) with
  | false => rfl
  | true =>
    unfold isNg at e
    have e1 : (decDigits u).head? = some 45 := by simpa using e
    have hm : (45 : UInt8) ∈ decDigits u := List.mem_of_mem_head? e1
    have := dd_isD u 45 hm
    unfold IsD at this
    have h2 : (45 : UInt8).toNat = 45 := rfl
    omega
theorem rd_shI {z : Int} (h : nDigits z.natAbs ≤ 20000) : rdJ (shI z) = 0 ∧ rdW (shI z) = z := by
  obtain ⟨h1, h2⟩ := rdV_dd h
  by_cases hz : z < 0
  · rw [shI_neg hz]
    have hn : isNg (45 :: decDigits z.natAbs) = true := rfl
    unfold rdJ rdW
    rw [if_pos hn, if_pos hn]
    show (if rdE (decDigits z.natAbs) = 0 then (if rdV (decDigits z.natAbs) = 0 then (3 : Int) else 0) else rdE (decDigits z.natAbs)) = 0 ∧ -rdV (decDigits z.natAbs) = z
    rw [h1, h2, if_pos rfl, if_neg (by omega)]
    exact ⟨rfl, by omega⟩
  · rw [shI_pos (by omega)]
    unfold rdJ rdW
    rw [dd_head45, if_neg (by decide), if_neg (by decide), h1, h2]
    exact ⟨rfl, by omega⟩
theorem shI_inj {z y : Int} (h : shI z = shI y) : z = y := by
  by_cases hz : z < 0
  · rw [shI_neg hz] at h
    by_cases hy : y < 0
    · rw [shI_neg hy] at h
      injection h with _ h
      have := dd_inj h
      omega
    · rw [shI_pos (by omega)] at h
      have := dd_head45 y.natAbs
      rw [← h] at this
      exact absurd this (by show ¬ (true = false); decide)
  · rw [shI_pos (by omega)] at h
    by_cases hy : y < 0
    · rw [shI_neg hy] at h
      have := dd_head45 z.natAbs
      rw [h] at this
      exact absurd this (by show ¬ (true = false); decide)
    · rw [shI_pos (by omega)] at h
      have := dd_inj h
      omega
theorem ng_cons {bs : List UInt8} (h : isNg bs = true) : bs = 45 :: bs.tail := by
  cases bs with
  | nil => exact absurd h (by decide)
  | cons b t =>
    have : b = 45 := by simpa [isNg] using h
    rw [this]; rfl
theorem sh_rdW {bs : List UInt8} (h : rdJ bs = 0) : shI (rdW bs) = bs := by
  unfold rdJ at h
  unfold rdW
  by_cases hn : isNg bs = true
  · rw [if_pos hn] at h ⊢
    by_cases he : rdE bs.tail = 0
    · rw [if_pos he] at h
      by_cases hv : rdV bs.tail = 0
      · rw [if_pos hv] at h; exact absurd h (by decide)
      · have hp := rdV_nonneg bs.tail
        rw [shI_neg (by omega), Int.natAbs_neg, show (rdV bs.tail).natAbs = (rdV bs.tail).toNat by omega, dd_rdV he]
        exact (ng_cons hn).symm
    · rw [if_neg he] at h; exact absurd h he
  · rw [if_neg hn] at h ⊢
    rw [shI_pos (rdV_nonneg bs), show (rdV bs).natAbs = (rdV bs).toNat by have := rdV_nonneg bs; omega, dd_rdV h]
theorem rdJ_pos {bs : List UInt8} (h : isNg bs = false) : rdJ bs = rdE bs ∧ rdW bs = rdV bs := by unfold rdJ rdW; rw [h]; exact ⟨rfl, rfl⟩
theorem rdJ_neg {bs : List UInt8} (h : isNg bs = true) : rdJ bs = (if rdE bs.tail = 0 then (if rdV bs.tail = 0 then 3 else 0) else rdE bs.tail) ∧ rdW bs = -rdV bs.tail := by unfold rdJ rdW; rw [h]; exact ⟨rfl, rfl⟩
end N
end Go.Proofs.YtfdpddlefobcpaaGreatDoor
