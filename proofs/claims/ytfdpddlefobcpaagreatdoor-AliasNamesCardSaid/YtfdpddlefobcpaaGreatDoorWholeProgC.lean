/- What the program's package of whole numbers answers, over this translation: Div and its operations. -/
import Derived.Test.YtfdpddlefobcpaaGreatDoorWholeProgB
import Derived.Deep.RegionWith
namespace Go.Proofs.YtfdpddlefobcpaaGreatDoor
open Go.RowKit
set_option linter.unusedVariables false
set_option maxRecDepth 20000
open N
theorem results_I3 {f : Func} {k k' t : Nat} (hf : f.results = #[.cell k 60, .cell k' 60, .tmp t]) {tmps : Array Value} {w : World} {g g' : Nat} {b b' : Bool} {A A' : Option Addr} {n c n' c' : Nat} {x : Value} (hp : tmps.getD k undef = .pointer (some ⟨g, 0, none⟩)) (hp' : tmps.getD k' undef = .pointer (some ⟨g', 0, none⟩)) (hx : tmps.getD t undef = x) (h : BoxI w g b A n c) (h' : BoxI w g' b' A' n' c') :
    (results f tmps).run Tryz.prog w = .ok (.tuple #[.agg #[.bool b, .slice A n c], .agg #[.bool b', .slice A' n' c'], x]) w := by
  have h1 : tmps[k]?.getD undef = .pointer (some ⟨g, 0, none⟩) := by simpa using hp
  have h2 : tmps[k']?.getD undef = .pointer (some ⟨g', 0, none⟩) := by simpa using hp'
  have h3 : tmps[t]?.getD undef = x := by simpa using hx
  simp [results, hf, h1, h2, h3, asAddr, h.load, h'.load]
namespace N
/-- the two boxes in which a call makes its results, written -/
def put2 (W : World) (g g' : Nat) (u v u' v' : Value) : World := (((W.setCell ⟨g, 0, none⟩ u).setCell ⟨g, 1, none⟩ v).setCell ⟨g', 0, none⟩ u').setCell ⟨g', 1, none⟩ v'
structure R2 (w : World) (base g g' : Nat) (W : World) : Prop where
  below : Below w.heap.size w W
  ge : w.heap.size ≤ g
  ge' : w.heap.size ≤ g'
  lt : g < base
  lt' : g' < base
  le : w.heap.size ≤ base
  lew : base ≤ W.heap.size
  ne : g ≠ g'
  bx : ∃ b A n c, BoxI W g b A n c
  bx' : ∃ b A n c, BoxI W g' b A n c
section
variable {w W W' : World} {base g g' : Nat}
theorem R2.on (h : R2 w base g g' W) (hb : Below W.heap.size W W') : R2 w base g g' W' := by
  obtain ⟨b, A, n, c, h1⟩ := h.bx
  obtain ⟨b', A', n', c', h2⟩ := h.bx'
  exact ⟨h.below.trans (hb.mono h.below.size), h.ge, h.ge', h.lt, h.lt', h.le, Nat.le_trans h.lew hb.size, h.ne, ⟨b, A, n, c, h1.on hb⟩, ⟨b', A', n', c', h2.on hb⟩⟩
theorem R2.hbase (h : R2 w base g g' W) : base ≤ W.heap.size := h.lew
theorem R2.cells (h : R2 w base g g' W) : (∃ a b, W.cell? ⟨g, 0, none⟩ = some a ∧ W.cell? ⟨g, 1, none⟩ = some b) ∧ (∃ a b, W.cell? ⟨g', 0, none⟩ = some a ∧ W.cell? ⟨g', 1, none⟩ = some b) ∧
    (W.frozen? ⟨g, 0, none⟩ = false ∧ W.frozen? ⟨g, 1, none⟩ = false) ∧ (W.frozen? ⟨g', 0, none⟩ = false ∧ W.frozen? ⟨g', 1, none⟩ = false) := by
  obtain ⟨b, A, n, c, h1⟩ := h.bx
  obtain ⟨b', A', n', c', h2⟩ := h.bx'
  exact ⟨⟨_, _, h1.c0, h1.c1⟩, ⟨_, _, h2.c0, h2.c1⟩, ⟨h1.fr 0, h1.fr 1⟩, ⟨h2.fr 0, h2.fr 1⟩⟩
theorem R2.put (h : R2 w base g g' W) (b b' : Bool) (A A' : Option Addr) (n c n' c' : Nat) :
    BoxI (put2 W g g' (.bool b) (.slice A n c) (.bool b') (.slice A' n' c')) g b A n c ∧ BoxI (put2 W g g' (.bool b) (.slice A n c) (.bool b') (.slice A' n' c')) g' b' A' n' c' ∧ R2 w base g g' (put2 W g g' (.bool b) (.slice A n c) (.bool b') (.slice A' n' c')) := by
  obtain ⟨b0, A0, n0, c0, h1⟩ := h.bx
  obtain ⟨b1, A1, n1, c1, h2⟩ := h.bx'
  have e1 : BoxI (put2 W g g' (.bool b) (.slice A n c) (.bool b') (.slice A' n' c')) g b A n c := BoxI.far (BoxI.far ((h1.set0 b).set1 A n c) h.ne _) h.ne _
  have e2 : BoxI (put2 W g g' (.bool b) (.slice A n c) (.bool b') (.slice A' n' c')) g' b' A' n' c' := ((BoxI.far (BoxI.far h2 (fun e => h.ne e.symm) _) (fun e => h.ne e.symm) _).set0 b').set1 A' n' c'
  refine ⟨e1, e2, ⟨?_, h.ge, h.ge', h.lt, h.lt', h.le, by unfold put2; simp only [World.size_setCell]; exact h.lew, h.ne, ⟨_, _, _, _, e1⟩, ⟨_, _, _, _, e2⟩⟩⟩
  exact (((h.below.setCell (p := ⟨g, 0, none⟩) h.ge _).setCell (p := ⟨g, 1, none⟩) h.ge _).setCell (p := ⟨g', 0, none⟩) h.ge' _).setCell (p := ⟨g', 1, none⟩) h.ge' _
theorem R2.own (h : R2 w base g g' W) {A : Option Addr} {n c : Nat} {xs : List Int} (ho : N.Own W base A n c xs) (u v u' v' : Value) : N.Own (put2 W g g' u v u' v') base A n c xs :=
  (((ho.keep (grow_set W g 0 _) (fun k hk => by injection hk with hk; have := h.lt; omega)).keep (grow_set _ g 1 _) (fun k hk => by injection hk with hk; have := h.lt; omega)).keep (grow_set _ g' 0 _) (fun k hk => by injection hk with hk; have := h.lt'; omega)).keep (grow_set _ g' 1 _) (fun k hk => by injection hk with hk; have := h.lt'; omega)
theorem R2.fin (h : R2 w base g g' W) {A A' : Option Addr} {n c n' c' m : Nat} {z y k : Int} (ho : N.Own W base A n c (limbs (mg z))) (ho' : N.Own W base A' n' c' (limbs (mg y))) (hn : n ≤ m) (hn' : n' ≤ m) :
    OutI2 w m z y k (.returned (.tuple #[.agg #[.bool (sg z), .slice A n c], .agg #[.bool (sg y), .slice A' n' c'], .int .i64 k])) (put2 W g g' (.bool (sg z)) (.slice A n c) (.bool (sg y)) (.slice A' n' c')) :=
  ⟨A, n, c, A', n', c', rfl, hn, hn', (h.own ho _ _ _ _).mono h.le, (h.own ho' _ _ _ _).mono h.le, (h.put _ _ _ _ _ _ _ _).2.2.below⟩
theorem R2.made {w1 : World} (h : (w.alloc (.cells #[.bool false, .slice none 0 0] 60)).alloc (.cells #[.bool false, .slice none 0 0] 60) = w1) : R2 w w1.heap.size w.heap.size (w.heap.size + 1) w1 := by
  have h1 := ((Held.start w).alloc rfl).alloc h
  simp only [World.size_alloc] at h1
  exact ⟨h1.below, Nat.le_refl _, by omega, h1.lt 1 rfl, h1.lt 0 rfl, h1.below.size, Nat.le_refl _, by omega, ⟨_, _, _, _, h1.row 1 rfl⟩, ⟨_, _, _, _, h1.row 0 rfl⟩⟩
end
end N
section
variable {w w' : World} {A A' : Option Addr} {n c m d : Nat} {xs ys : List Int}
theorem signed_s (w : World) (b : Bool) {v : Int} (hv : 0 ≤ v) (hl : (limbs v).length = n) :
    Calls Tryz.prog 77 #[.bool b, .slice A n c] w fun e w' => e = .returned (.agg #[.bool (sg (iv b v)), .slice A n c]) ∧ Below w.heap.size w w' :=
  (signed_any w b A n c).mono fun e w' ⟨he, hb⟩ => ⟨by rw [he, sg_of_len hv hl], hb⟩
/-- what a division of two magnitudes tells -/
def IsD (v u q r k : Int) : Prop := (0 < u ∧ q = v / u ∧ r = v % u ∧ k = 0) ∨ (u = 0 ∧ q = 0 ∧ r = 0 ∧ k = 7)
theorem IsD.nn {v u q r k : Int} (h : IsD v u q r k) (hv : 0 ≤ v) : 0 ≤ q ∧ 0 ≤ r := by
  rcases h with ⟨h1, rfl, rfl, _⟩ | ⟨_, rfl, rfl, _⟩
  · exact ⟨Int.ediv_nonneg hv (by omega), Int.emod_nonneg _ (by omega)⟩
  · exact ⟨by omega, by omega⟩
theorem qdiv_d (w : World) (h : Sl w A n c xs) (hn : n ≤ 1000000) (h' : Sl w A' m d ys) (hm : m ≤ 1000000) {q r k : Int} (hd : IsD (val B xs) (val B ys) q r k) :
    Calls Tryz.prog 108 #[.slice A n c, .slice A' m d] w fun e w' => ∃ A n1 c A' n' c', e = .returned (.tuple #[.slice A n1 c, .slice A' n' c', .int .i64 k]) ∧ n1 ≤ n ∧ n' ≤ n ∧ N.Own w' w.heap.size A n1 c (limbs q) ∧ N.Own w' w.heap.size A' n' c' (limbs r) ∧ Below w.heap.size w w' := by
  rcases hd with ⟨h0, rfl, rfl, rfl⟩ | ⟨h0, rfl, rfl, rfl⟩
  · exact (qdiv_any w A A' n c m d xs ys h h' (by omega) (by omega) h0).mono fun e w' ⟨A, n, c, A', n', c', he, h1, h2, h3, h4, _, h5⟩ => ⟨A, n, c, A', n', c', he, h1, h2, h3, h4, h5⟩
  · exact (qdiv_zero w A A' n c m d xs ys h h' (by omega) (by omega) h0).mono fun e w' ⟨he, hw⟩ => ⟨none, 0, 0, none, 0, 0, he, Nat.zero_le _, Nat.zero_le _, by rw [limbs_zero]; exact N.Own.nil_ _ _, by rw [limbs_zero]; exact N.Own.nil_ _ _, by rw [hw]; exact Below.refl _ _⟩
theorem wadd_o {W : World} {base base' : Nat} {z y : Int} (ho : N.Own W base A n c (limbs (mg z))) (hn : n ≤ 1000000) (ho' : N.Own W base' A' m d (limbs (mg y))) (hm : m ≤ 1000000) :
    Calls Tryz.prog 101 #[.agg #[.bool (sg z), .slice A n c], .agg #[.bool (sg y), .slice A' m d]] W (OutI W (n + m + 1) (z + y)) := by
  have := wadd_any W (sg z) ho.sl hn (sg y) ho'.sl hm
  rwa [limbs_val (mg_nn z), limbs_val (mg_nn y), iv_sm, iv_sm] at this
theorem wneg_o {W : World} {base : Nat} {z : Int} (ho : N.Own W base A n c (limbs (mg z))) (hn : n ≤ 1099511627776) :
    Calls Tryz.prog 54 #[.agg #[.bool (sg z), .slice A n c]] W (OutI W n (-z)) := by
  have := wneg_any W (sg z) ho.sl (by omega)
  rwa [limbs_val (mg_nn z), iv_sm] at this
theorem wsign_o {W : World} {base : Nat} {z : Int} (ho : N.Own W base A n c (limbs (mg z))) (hn : n ≤ 1000000) {q : Int} (hq : sgn z = q) :
    Calls Tryz.prog 131 #[.agg #[.bool (sg z), .slice A n c]] W fun e w' => e = .returned (.int .i64 q) ∧ Below W.heap.size W w' := by
  have := wsign_any W (sg z) ho.sl (by omega)
  rwa [limbs_val (mg_nn z), iv_sm, hq] at this
/-- the boxes of the results, and what lies in them -/
structure Dv (w : World) (base g g' : Nat) (q r : Int) (A1 : Option Addr) (n1 c1 : Nat) (A2 : Option Addr) (n2 c2 : Nat) (W : World) : Prop where
  r2 : R2 w base g g' W
  bq : BoxI W g (sg q) A1 n1 c1
  br : BoxI W g' (sg r) A2 n2 c2
  oq : N.Own W base A1 n1 c1 (limbs (mg q))
  ow : N.Own W base A2 n2 c2 (limbs (mg r))
section
variable {w W W' : World} {base g g' : Nat} {q r : Int} {A1 A2 : Option Addr} {n1 c1 n2 c2 : Nat}
theorem Dv.on (h : Dv w base g g' q r A1 n1 c1 A2 n2 c2 W) (hb : Below W.heap.size W W') : Dv w base g g' q r A1 n1 c1 A2 n2 c2 W' :=
  ⟨h.r2.on hb, h.bq.on hb, h.br.on hb, h.oq.below hb, h.ow.below hb⟩
theorem Dv.drew (h : Dv w base g g' q r A1 n1 c1 A2 n2 c2 W) : Dv w base g g' q r A1 n1 c1 A2 n2 c2 W.drew := h.on ⟨rfl, rfl, rfl, Nat.le_refl _, fun _ _ => rfl⟩
theorem Dv.cells (h : Dv w base g g' q r A1 n1 c1 A2 n2 c2 W) : (W.cell? ⟨g, 0, none⟩ = some (.bool (sg q)) ∧ W.cell? ⟨g, 1, none⟩ = some (.slice A1 n1 c1)) ∧ (W.cell? ⟨g', 0, none⟩ = some (.bool (sg r)) ∧ W.cell? ⟨g', 1, none⟩ = some (.slice A2 n2 c2)) ∧
    (W.frozen? ⟨g, 0, none⟩ = false ∧ W.frozen? ⟨g, 1, none⟩ = false) ∧ (W.frozen? ⟨g', 0, none⟩ = false ∧ W.frozen? ⟨g', 1, none⟩ = false) :=
  ⟨⟨h.bq.c0, h.bq.c1⟩, ⟨h.br.c0, h.br.c1⟩, ⟨h.bq.fr 0, h.bq.fr 1⟩, ⟨h.br.fr 0, h.br.fr 1⟩⟩
/-- behind the first stores -/
theorem Dv.start (h2 : R2 w base g g' W) (ho1 : N.Own W base A1 n1 c1 (limbs (mg q))) (ho2 : N.Own W base A2 n2 c2 (limbs (mg r))) (hw : put2 W g g' (.bool (sg q)) (.slice A1 n1 c1) (.bool (sg r)) (.slice A2 n2 c2) = W') :
    Dv w base g g' q r A1 n1 c1 A2 n2 c2 W' := by
  subst hw
  obtain ⟨e1, e2, e3⟩ := h2.put (sg q) (sg r) A1 A2 n1 c1 n2 c2
  exact ⟨e3, e1, e2, h2.own ho1 _ _ _ _, h2.own ho2 _ _ _ _⟩
end
end
end Go.Proofs.YtfdpddlefobcpaaGreatDoor
