/- What the program's package of whole numbers answers, over this translation: Div and its operations. -/
import Derived.Test.YtgahnchfefngeaaDoorWholeProgB
import Derived.Deep.RegionWith
namespace Go.Proofs.YtgahnchfefngeaaDoor
open Go.RowKit
set_option linter.unusedVariables false
set_option maxRecDepth 20000
open N
theorem results_I3 {f : Func} {k k' t : Nat} (hf : f.results = #[.cell k 26, .cell k' 26, .tmp t]) {tmps : Array Value} {w : World} {g g' : Nat} {b b' : Bool} {A A' : Option Addr} {n c n' c' : Nat} {x : Value} (hp : tmps.getD k undef = .pointer (some ⟨g, 0, none⟩)) (hp' : tmps.getD k' undef = .pointer (some ⟨g', 0, none⟩)) (hx : tmps.getD t undef = x) (h : BoxI w g b A n c) (h' : BoxI w g' b' A' n' c') :
    (results f tmps).run Tryd.prog w = .ok (.tuple #[.agg #[.bool b, .slice A n c], .agg #[.bool b', .slice A' n' c'], x]) w := by
  have h1 : tmps[k]?.getD undef = .pointer (some ⟨g, 0, none⟩) := by simpa using hp
  have h2 : tmps[k']?.getD undef = .pointer (some ⟨g', 0, none⟩) := by simpa using hp'
  have h3 : tmps[t]?.getD undef = x := by simpa using hx
  simp [results, hf, h1, h2, h3, asAddr, h.load, h'.load]
namespace N
/-- the two boxes in which a call makes its results, written -/
def put2 (W : World) (g g' : Nat) (u v u' v' : Value) : World := (((W.setCell ⟨g, 0, none⟩ u).setCell ⟨g, 1, none⟩ v).setCell ⟨g', 0, none⟩ u').setCell ⟨g', 1, none⟩ v'
structure R2 (w : World) (base g g' : Nat) (W : World) : Prop where
  below : Below w.heap.size w W
  ge : w.heap.size ≤ g
  ge' : w.heap.size ≤ g'
  lt : g < base
  lt' : g' < base
  le : w.heap.size ≤ base
  lew : base ≤ W.heap.size
  ne : g ≠ g'
  bx : ∃ b A n c, BoxI W g b A n c
  bx' : ∃ b A n c, BoxI W g' b A n c
section
variable {w W W' : World} {base g g' : Nat}
theorem R2.on (h : R2 w base g g' W) (hb : Below W.heap.size W W') : R2 w base g g' W' := by
  obtain ⟨b, A, n, c, h1⟩ := h.bx
  obtain ⟨b', A', n', c', h2⟩ := h.bx'
  exact ⟨h.below.trans (hb.mono h.below.size), h.ge, h.ge', h.lt, h.lt', h.le, Nat.le_trans h.lew hb.size, h.ne, ⟨b, A, n, c, h1.on hb⟩, ⟨b', A', n', c', h2.on hb⟩⟩
theorem R2.hbase (h : R2 w base g g' W) : base ≤ W.heap.size := h.lew
theorem R2.cells (h : R2 w base g g' W) : (∃ a b, W.cell? ⟨g, 0, none⟩ = some a ∧ W.cell? ⟨g, 1, none⟩ = some b) ∧ (∃ a b, W.cell? ⟨g', 0, none⟩ = some a ∧ W.cell? ⟨g', 1, none⟩ = some b) ∧
    (W.frozen? ⟨g, 0, none⟩ = false ∧ W.frozen? ⟨g, 1, none⟩ = false) ∧ (W.frozen? ⟨g', 0, none⟩ = false ∧ W.frozen? ⟨g', 1, none⟩ = false) := by
  obtain ⟨b, A, n, c, h1⟩ := h.bx
  obtain ⟨b', A', n', c', h2⟩ := h.bx'
  exact ⟨⟨_, _, h1.c0, h1.c1⟩, ⟨_, _, h2.c0, h2.c1⟩, ⟨h1.fr 0, h1.fr 1⟩, ⟨h2.fr 0, h2.fr 1⟩⟩
theorem R2.put (h : R2 w base g g' W) (b b' : Bool) (A A' : Option Addr) (n c n' c' : Nat) :
    BoxI (put2 W g g' (.bool b) (.slice A n c) (.bool b') (.slice A' n' c')) g b A n c ∧ BoxI (put2 W g g' (.bool b) (.slice A n c) (.bool b') (.slice A' n' c')) g' b' A' n' c' ∧ R2 w base g g' (put2 W g g' (.bool b) (.slice A n c) (.bool b') (.slice A' n' c')) := by
  obtain ⟨b0, A0, n0, c0, h1⟩ := h.bx
  obtain ⟨b1, A1, n1, c1, h2⟩ := h.bx'
  have e1 : BoxI (put2 W g g' (.bool b) (.slice A n c) (.bool b') (.slice A' n' c')) g b A n c := BoxI.far (BoxI.far ((h1.set0 b).set1 A n c) h.ne _) h.ne _
  have e2 : BoxI (put2 W g g' (.bool b) (.slice A n c) (.bool b') (.slice A' n' c')) g' b' A' n' c' := ((BoxI.far (BoxI.far h2 (fun e => h.ne e.symm) _) (fun e => h.ne e.symm) _).set0 b').set1 A' n' c'
  refine ⟨e1, e2, ⟨?_, h.ge, h.ge', h.lt, h.lt', h.le, by unfold put2; simp only [World.size_setCell]; exact h.lew, h.ne, ⟨_, _, _, _, e1⟩, ⟨_, _, _, _, e2⟩⟩⟩
  exact (((h.below.setCell (p := ⟨g, 0, none⟩) h.ge _).setCell (p := ⟨g, 1, none⟩) h.ge _).setCell (p := ⟨g', 0, none⟩) h.ge' _).setCell (p := ⟨g', 1, none⟩) h.ge' _
theorem R2.own (h : R2 w base g g' W) {A : Option Addr} {n c : Nat} {xs : List Int} (ho : N.Own W base A n c xs) (u v u' v' : Value) : N.Own (put2 W g g' u v u' v') base A n c xs :=
  (((ho.keep (grow_set W g 0 _) (fun k hk => by injection hk with hk; have := h.lt; omega)).keep (grow_set _ g 1 _) (fun k hk => by injection hk with hk; have := h.lt; omega)).keep (grow_set _ g' 0 _) (fun k hk => by injection hk with hk; have := h.lt'; omega)).keep (grow_set _ g' 1 _) (fun k hk => by injection hk with hk; have := h.lt'; omega)
theorem R2.fin (h : R2 w base g g' W) {A A' : Option Addr} {n c n' c' m : Nat} {z y k : Int} (ho : N.Own W base A n c (limbs (mg z))) (ho' : N.Own W base A' n' c' (limbs (mg y))) (hn : n ≤ m) (hn' : n' ≤ m) :
    OutI2 w m z y k (.returned (.tuple #[.agg #[.bool (sg z), .slice A n c], .agg #[.bool (sg y), .slice A' n' c'], .int .i64 k])) (put2 W g g' (.bool (sg z)) (.slice A n c) (.bool (sg y)) (.slice A' n' c')) :=
  ⟨A, n, c, A', n', c', rfl, hn, hn', (h.own ho _ _ _ _).mono h.le, (h.own ho' _ _ _ _).mono h.le, (h.put _ _ _ _ _ _ _ _).2.2.below⟩
theorem R2.made {w1 : World} (h : (w.alloc (.cells #[.bool false, .slice none 0 0] 26)).alloc (.cells #[.bool false, .slice none 0 0] 26) = w1) : R2 w w1.heap.size w.heap.size (w.heap.size + 1) w1 := by
  have h1 := ((Held.start w).alloc rfl).alloc h
  simp only [World.size_alloc] at h1
  exact ⟨h1.below, Nat.le_refl _, by omega, h1.lt 1 rfl, h1.lt 0 rfl, h1.below.size, Nat.le_refl _, by omega, ⟨_, _, _, _, h1.row 1 rfl⟩, ⟨_, _, _, _, h1.row 0 rfl⟩⟩
end
end N
section
variable {w w' : World} {A A' : Option Addr} {n c m d : Nat} {xs ys : List Int}
theorem signed_s (w : World) (b : Bool) {v : Int} (hv : 0 ≤ v) (hl : (limbs v).length = n) :
    Calls Tryd.prog 30 #[.bool b, .slice A n c] w fun e w' => e = .returned (.agg #[.bool (sg (iv b v)), .slice A n c]) ∧ Below w.heap.size w w' :=
  (signed_any w b A n c).mono fun e w' ⟨he, hb⟩ => ⟨by rw [he, sg_of_len hv hl], hb⟩
/-- what a division of two magnitudes tells -/
def IsD (v u q r k : Int) : Prop := (0 < u ∧ q = v / u ∧ r = v % u ∧ k = 0) ∨ (u = 0 ∧ q = 0 ∧ r = 0 ∧ k = 7)
theorem IsD.nn {v u q r k : Int} (h : IsD v u q r k) (hv : 0 ≤ v) : 0 ≤ q ∧ 0 ≤ r := by
  rcases h with ⟨h1, rfl, rfl, _⟩ | ⟨_, rfl, rfl, _⟩
  · exact ⟨Int.ediv_nonneg hv (by omega), Int.emod_nonneg _ (by omega)⟩
  · exact ⟨by omega, by omega⟩
theorem qdiv_d (w : World) (h : Sl w A n c xs) (hn : n ≤ 1000000) (h' : Sl w A' m d ys) (hm : m ≤ 1000000) {q r k : Int} (hd : IsD (val B xs) (val B ys) q r k) :
    Calls Tryd.prog 52 #[.slice A n c, .slice A' m d] w fun e w' => ∃ A n1 c A' n' c', e = .returned (.tuple #[.slice A n1 c, .slice A' n' c', .int .i64 k]) ∧ n1 ≤ n ∧ n' ≤ n ∧ N.Own w' w.heap.size A n1 c (limbs q) ∧ N.Own w' w.heap.size A' n' c' (limbs r) ∧ Below w.heap.size w w' := by
  rcases hd with ⟨h0, rfl, rfl, rfl⟩ | ⟨h0, rfl, rfl, rfl⟩
  · exact (qdiv_any w A A' n c m d xs ys h h' (by omega) (by omega) h0).mono fun e w' ⟨A, n, c, A', n', c', he, h1, h2, h3, h4, _, h5⟩ => ⟨A, n, c, A', n', c', he, h1, h2, h3, h4, h5⟩
  · exact (qdiv_zero w A A' n c m d xs ys h h' (by omega) (by omega) h0).mono fun e w' ⟨he, hw⟩ => ⟨none, 0, 0, none, 0, 0, he, Nat.zero_le _, Nat.zero_le _, by rw [limbs_zero]; exact N.Own.nil_ _ _, by rw [limbs_zero]; exact N.Own.nil_ _ _, by rw [hw]; exact Below.refl _ _⟩
set_option maxHeartbeats 1000000 in
theorem down_any (w : World) (h : Sl w A n c xs) (hn : n ≤ 1000000) (h' : Sl w A' m d ys) (hm : m ≤ 1000000) {q r k : Int} (hd : IsD (val B xs) (val B ys) q r k) :
    Calls Tryd.prog 33 #[.slice A n c, .slice A' m d] w (OutI2 w n q r k) := by
  obtain ⟨hq, hr⟩ := hd.nn h.nn0
  have HQ := Lib.hid hq
  have HR := Lib.hid hr
  have HQD := Lib.hid (fun W (hb : Below w.heap.size w W) => qdiv_d W (h.below hb) hn (h'.below hb) hm hd)
  clear hq hr hd h h'
  go_enter Tryd.func33, Tryd.ntmps33
  go_wp2_with fail
  go_at_call 52
  generalize hw1 : World.alloc (World.alloc w _) _ = w1
  have H2 := Lib.hid (R2.made hw1)
  clear hw1
  refine (HQD.out w1 H2.out.below).mono ?_
  rintro e w2 ⟨A1, n1, c1, A2, n2, c2, rfl, hn1, hn2, ho1, ho2, hb⟩
  have hm1 := signed_s w2 (A := A1) (c := c1) false HQ.out ho1.len
  rw [iv_f] at hm1
  have HM1 := Lib.hid hm1
  have HL2 := Lib.hid ho2.len
  rw [← mg_f HQ.out] at ho1
  rw [← mg_f HR.out] at ho2
  have h22 := H2.out.on hb
  have HO1 := Lib.hid ho1
  have HO2 := Lib.hid ho2
  clear ho1 ho2 hb H2 hm1
  have H2 := Lib.hid h22
  clear h22
  go_wp2_with fail
  go_at_call 30
  refine HM1.out.mono ?_
  rintro e w3 ⟨rfl, hb3⟩
  have hm2 := signed_s w3 (A := A2) (c := c2) false HR.out HL2.out
  rw [iv_f] at hm2
  have HM2 := Lib.hid hm2
  have HP1 := Lib.hid (HO1.out.below hb3)
  have HP2 := Lib.hid (HO2.out.below hb3)
  have h22 := H2.out.on hb3
  clear hb3 H2 hm2 HO1 HO2
  have H2 := Lib.hid h22
  clear h22
  go_wp2_with fail
  go_at_call 30
  refine HM2.out.mono ?_
  rintro e w4 ⟨rfl, hb4⟩
  have HO1 := Lib.hid (HP1.out.below hb4)
  have HO2 := Lib.hid (HP2.out.below hb4)
  have h22 := H2.out.on hb4
  clear hb4 H2 HP1 HP2
  have H2 := Lib.hid h22
  clear h22
  obtain ⟨⟨a0, a1, x0, x1⟩, ⟨a2, a3, x2, x3⟩, ⟨y0, y1⟩, ⟨y2, y3⟩⟩ := H2.out.cells
  go_wp2
  refine bodyPost_ret (results_I3 rfl rfl rfl rfl (H2.out.put _ _ _ _ _ _ _ _).1 (H2.out.put _ _ _ _ _ _ _ _).2.1) rfl ?_
  exact H2.out.fin HO1.out HO2.out hn1 hn2
theorem wadd_o {W : World} {base base' : Nat} {z y : Int} (ho : N.Own W base A n c (limbs (mg z))) (hn : n ≤ 1000000) (ho' : N.Own W base' A' m d (limbs (mg y))) (hm : m ≤ 1000000) :
    Calls Tryd.prog 22 #[.agg #[.bool (sg z), .slice A n c], .agg #[.bool (sg y), .slice A' m d]] W (OutI W (n + m + 1) (z + y)) := by
  have := wadd_any W (sg z) ho.sl hn (sg y) ho'.sl hm
  rwa [limbs_val (mg_nn z), limbs_val (mg_nn y), iv_sm, iv_sm] at this
theorem wneg_o {W : World} {base : Nat} {z : Int} (ho : N.Own W base A n c (limbs (mg z))) (hn : n ≤ 1099511627776) :
    Calls Tryd.prog 24 #[.agg #[.bool (sg z), .slice A n c]] W (OutI W n (-z)) := by
  have := wneg_any W (sg z) ho.sl (by omega)
  rwa [limbs_val (mg_nn z), iv_sm] at this
theorem wsign_o {W : World} {base : Nat} {z : Int} (ho : N.Own W base A n c (limbs (mg z))) (hn : n ≤ 1000000) {q : Int} (hq : sgn z = q) :
    Calls Tryd.prog 19 #[.agg #[.bool (sg z), .slice A n c]] W fun e w' => e = .returned (.int .i64 q) ∧ Below W.heap.size W w' := by
  have := wsign_any W (sg z) ho.sl (by omega)
  rwa [limbs_val (mg_nn z), iv_sm, hq] at this
/-- the boxes of the results, and what lies in them -/
structure Dv (w : World) (base g g' : Nat) (q r : Int) (A1 : Option Addr) (n1 c1 : Nat) (A2 : Option Addr) (n2 c2 : Nat) (W : World) : Prop where
  r2 : R2 w base g g' W
  bq : BoxI W g (sg q) A1 n1 c1
  br : BoxI W g' (sg r) A2 n2 c2
  oq : N.Own W base A1 n1 c1 (limbs (mg q))
  ow : N.Own W base A2 n2 c2 (limbs (mg r))
section
variable {w W W' : World} {base g g' : Nat} {q r : Int} {A1 A2 : Option Addr} {n1 c1 n2 c2 : Nat}
theorem Dv.on (h : Dv w base g g' q r A1 n1 c1 A2 n2 c2 W) (hb : Below W.heap.size W W') : Dv w base g g' q r A1 n1 c1 A2 n2 c2 W' :=
  ⟨h.r2.on hb, h.bq.on hb, h.br.on hb, h.oq.below hb, h.ow.below hb⟩
theorem Dv.drew (h : Dv w base g g' q r A1 n1 c1 A2 n2 c2 W) : Dv w base g g' q r A1 n1 c1 A2 n2 c2 W.drew := h.on ⟨rfl, rfl, rfl, Nat.le_refl _, fun _ _ => rfl⟩
theorem Dv.cells (h : Dv w base g g' q r A1 n1 c1 A2 n2 c2 W) : (W.cell? ⟨g, 0, none⟩ = some (.bool (sg q)) ∧ W.cell? ⟨g, 1, none⟩ = some (.slice A1 n1 c1)) ∧ (W.cell? ⟨g', 0, none⟩ = some (.bool (sg r)) ∧ W.cell? ⟨g', 1, none⟩ = some (.slice A2 n2 c2)) ∧
    (W.frozen? ⟨g, 0, none⟩ = false ∧ W.frozen? ⟨g, 1, none⟩ = false) ∧ (W.frozen? ⟨g', 0, none⟩ = false ∧ W.frozen? ⟨g', 1, none⟩ = false) :=
  ⟨⟨h.bq.c0, h.bq.c1⟩, ⟨h.br.c0, h.br.c1⟩, ⟨h.bq.fr 0, h.bq.fr 1⟩, ⟨h.br.fr 0, h.br.fr 1⟩⟩
/-- behind the first stores -/
theorem Dv.start (h2 : R2 w base g g' W) (ho1 : N.Own W base A1 n1 c1 (limbs (mg q))) (ho2 : N.Own W base A2 n2 c2 (limbs (mg r))) (hw : put2 W g g' (.bool (sg q)) (.slice A1 n1 c1) (.bool (sg r)) (.slice A2 n2 c2) = W') :
    Dv w base g g' q r A1 n1 c1 A2 n2 c2 W' := by
  subst hw
  obtain ⟨e1, e2, e3⟩ := h2.put (sg q) (sg r) A1 A2 n1 c1 n2 c2
  exact ⟨e3, e1, e2, h2.own ho1 _ _ _ _, h2.own ho2 _ _ _ _⟩
end
set_option maxHeartbeats 4000000 in
theorem up_any (w : World) (h : Sl w A n c xs) (hn : n ≤ 1000000) (h' : Sl w A' m d ys) (hm : m ≤ 1000000) {q r k : Int} (hd : IsD (val B xs) (val B ys) q r k) :
    Calls Tryd.prog 35 #[.slice A n c, .slice A' m d] w (OutI2 w (n + m + 1) (if r = 0 then q else q + 1) (if r = 0 then 0 else val B ys - r) k) := by
  have hd0 := hd
  obtain ⟨hq, hr⟩ := hd.nn h.nn0
  have HV := Lib.hid hr
  have HYS := Lib.hid h'
  have HD := Lib.hid (fun W (hb : Below w.heap.size w W) => down_any W (h.below hb) hn (h'.below hb) hm hd)
  clear hq hd h h'
  by_cases h0 : r = 0
  · clear hd0
    subst h0
    rw [if_pos rfl, if_pos rfl]
    clear hr
    go_enter Tryd.func35, Tryd.ntmps35
    go_wp2_with fail
    go_at_call 33
    generalize hw1 : World.alloc (World.alloc w _) _ = w1
    have H2 := Lib.hid (R2.made hw1)
    clear hw1
    refine (HD.out w1 H2.out.below).mono ?_
    rintro e w2 ⟨A1, n1, c1, A2, n2, c2, rfl, hn1, hn2, ho1, ho2, hb⟩
    have h22 := H2.out.on hb
    have HO1 := Lib.hid ho1
    have HO2 := Lib.hid ho2
    clear ho1 ho2 hb H2
    have H2 := Lib.hid h22
    clear h22
    obtain ⟨⟨a0, a1, x0, x1⟩, ⟨a2, a3, x2, x3⟩, ⟨y0, y1⟩, ⟨y2, y3⟩⟩ := H2.out.cells
    go_wp2_with fail
    generalize hw3 : World.setCell (World.setCell (World.setCell (World.setCell w2 _ _) _ _) _ _) _ _ = w3
    have HU := Lib.hid (Dv.start H2.out HO1.out HO2.out hw3)
    clear hw3 x0 x1 x2 x3 y0 y1 y2 y3
    go_at_call 19
    refine (wsign_o HU.out.ow (by omega) (sgn_zero rfl)).mono ?_
    rintro e w4 ⟨rfl, hb4⟩
    have h22 := HU.out.on hb4
    clear HU hb4
    have HU := Lib.hid h22
    clear h22
    obtain ⟨⟨x0, x1⟩, ⟨x2, x3⟩, ⟨y0, y1⟩, ⟨y2, y3⟩⟩ := HU.out.cells
    go_wp2_with fail
    go_region
    all_goals (go_wp2; refine bodyPost_ret (results_I3 rfl rfl rfl rfl (HU.out.drew.r2.put _ _ _ _ _ _ _ _).1 (HU.out.drew.r2.put _ _ _ _ _ _ _ _).2.1) rfl ?_; exact HU.out.drew.r2.fin HU.out.drew.oq HU.out.drew.ow (by omega) (by omega))
  · rw [if_neg h0, if_neg h0]
    have H0 := Lib.hid (show sgn r = 1 from sgn_pos (by omega))
    have hm1 : 1 ≤ m := by
      rcases Nat.eq_zero_or_pos m with e | e
      · exfalso
        have h1 := HYS.out.len
        rw [e] at h1
        rw [List.eq_nil_of_length_eq_zero h1] at hd0
        rcases hd0 with ⟨h2, _⟩ | ⟨_, _, h2, _⟩
        · exact absurd h2 (by decide)
        · exact h0 h2
      · exact e
    clear hd0
    have HDF := Lib.hid (show ∀ (W : World) (base n2 c2 : Nat) (A2 : Option Addr), Below w.heap.size w W → N.Own W base A2 n2 c2 (limbs (mg r)) → n2 ≤ 1000000 → Calls Tryd.prog 41 #[.slice A' m d, .slice A2 n2 c2] W (OutI W (m + n2 + 1) (val B ys - r)) from fun W base n2 c2 A2 hb ho hn2 => by
      have := wdiff_any W (HYS.out.below hb) (by omega) ho.sl (by omega)
      rwa [limbs_val (mg_nn r), mg_f HV.out] at this)
    clear hr h0
    go_enter Tryd.func35, Tryd.ntmps35
    go_wp2_with fail
    go_at_call 33
    generalize hw1 : World.alloc (World.alloc w _) _ = w1
    have H2 := Lib.hid (R2.made hw1)
    clear hw1
    refine (HD.out w1 H2.out.below).mono ?_
    rintro e w2 ⟨A1, n1, c1, A2, n2, c2, rfl, hn1, hn2, ho1, ho2, hb⟩
    have h22 := H2.out.on hb
    have HO1 := Lib.hid ho1
    have HO2 := Lib.hid ho2
    clear ho1 ho2 hb H2
    have H2 := Lib.hid h22
    clear h22
    obtain ⟨⟨a0, a1, x0, x1⟩, ⟨a2, a3, x2, x3⟩, ⟨y0, y1⟩, ⟨y2, y3⟩⟩ := H2.out.cells
    go_wp2_with fail
    generalize hw3 : World.setCell (World.setCell (World.setCell (World.setCell w2 _ _) _ _) _ _) _ _ = w3
    have HU := Lib.hid (Dv.start H2.out HO1.out HO2.out hw3)
    clear hw3 x0 x1 x2 x3 y0 y1 y2 y3
    go_at_call 19
    refine (wsign_o HU.out.ow (by omega) H0.out).mono ?_
    rintro e w4 ⟨rfl, hb4⟩
    have h22 := HU.out.on hb4
    clear HU hb4
    have HU := Lib.hid h22
    clear h22
    obtain ⟨⟨x0, x1⟩, ⟨x2, x3⟩, ⟨y0, y1⟩, ⟨y2, y3⟩⟩ := HU.out.cells
    go_wp2_with fail
    have h1 := HU.out.drew
    clear HU x0 x1 x2 x3 y0 y1 y2 y3
    have HU := Lib.hid h1
    clear h1
    obtain ⟨⟨x0, x1⟩, ⟨x2, x3⟩, ⟨y0, y1⟩, ⟨y2, y3⟩⟩ := HU.out.cells
    go_region_with (first
      | (go_at_call 13; (with_reducible refine (wof_any _ 1 (by omega) (by omega)).mono ?_); rintro e w' ho; have h3 := HU.out.on ho.below; have hbb := ho.below; obtain ⟨A5, n5, c5, rfl, hn5, ho5, hb5⟩ := ho; have HN5 := Lib.hid hn5; have HO5 := Lib.hid ho5; clear hn5; clear HU hb5 ho5 hbb; have HU := Lib.hid h3; clear h3; obtain ⟨⟨x0, x1⟩, ⟨x2, x3⟩, ⟨y0, y1⟩, ⟨y2, y3⟩⟩ := HU.out.cells)
      | (go_at_call 22; (with_reducible refine (wadd_o HU.out.oq (by omega) HO5.out (by have := HN5.out; omega)).mono ?_); rintro e w' ho; have h3 := HU.out.on ho.below; have hbb := ho.below; obtain ⟨A5, n5, c5, rfl, hn5, ho5, hb5⟩ := ho; have HOA := Lib.hid (ho5.mono HU.out.r2.hbase); have HNA := Lib.hid (show n5 ≤ n + m + 1 by have := HN5.out; omega); clear hn5; clear HU hb5 ho5 hbb; have HU := Lib.hid h3; clear h3; obtain ⟨⟨x0, x1⟩, ⟨x2, x3⟩, ⟨y0, y1⟩, ⟨y2, y3⟩⟩ := HU.out.cells)
      | (go_at_call 41; (with_reducible refine (HDF.out _ _ _ _ _ HU.out.r2.below HU.out.ow (by omega)).mono ?_); rintro e w' ho; have h3 := HU.out.on ho.below; have hbb := ho.below; obtain ⟨A5, n5, c5, rfl, hn5, ho5, hb5⟩ := ho; have HOB := Lib.hid (HOA.out.below hbb); have HOD := Lib.hid (ho5.mono HU.out.r2.hbase); have HND := Lib.hid (show n5 ≤ n + m + 1 by omega); clear hn5; clear HU hb5 ho5 hbb; have HU := Lib.hid h3; clear h3; obtain ⟨⟨x0, x1⟩, ⟨x2, x3⟩, ⟨y0, y1⟩, ⟨y2, y3⟩⟩ := HU.out.cells))
    all_goals (go_wp2; refine bodyPost_ret (results_I3 rfl rfl rfl rfl (HU.out.r2.put _ _ _ _ _ _ _ _).1 (HU.out.r2.put _ _ _ _ _ _ _ _).2.1) rfl ?_; exact HU.out.r2.fin HOB.out HOD.out HNA.out HND.out)
set_option maxHeartbeats 4000000 in
theorem minus_down (w : World) (gd : Nat) {q r k : Int} {K : Nat} (hK : K ≤ 3000000) (hgd : w.cell? ⟨gd, 0, none⟩ = some (.func (.func 33) #[] #[])) (hlt : gd < w.heap.size)
    (hf : ∀ W, Below w.heap.size w W → Calls Tryd.prog 33 #[.slice A n c, .slice A' m d] W (OutI2 W K q r k)) :
    Calls Tryd.prog 53 #[.slice A n c, .slice A' m d, .pointer (some ⟨gd, 0, none⟩)] w (OutI2 w K (-q) r k) := by
  have HD := Lib.hid hf
  clear hf
  go_enter Tryd.func53, Tryd.ntmps53
  go_wp2_with fail
  go_at_call 33
  generalize hw1 : World.alloc (World.alloc w _) _ = w1
  have H2 := Lib.hid (R2.made hw1)
  clear hw1
  refine (HD.out w1 H2.out.below).mono ?_
  rintro e w2 ⟨A1, n1, c1, A2, n2, c2, rfl, hn1, hn2, ho1, ho2, hb⟩
  have h22 := H2.out.on hb
  have HO1 := Lib.hid ho1
  have HO2 := Lib.hid ho2
  clear ho1 ho2 hb H2
  have H2 := Lib.hid h22
  clear h22
  obtain ⟨⟨a0, a1, x0, x1⟩, ⟨a2, a3, x2, x3⟩, ⟨y0, y1⟩, ⟨y2, y3⟩⟩ := H2.out.cells
  go_wp2_with fail
  generalize hw3 : World.setCell (World.setCell (World.setCell (World.setCell w2 _ _) _ _) _ _) _ _ = w3
  have HU := Lib.hid (Dv.start H2.out HO1.out HO2.out hw3)
  clear hw3 x0 x1 x2 x3 y0 y1 y2 y3
  have h1 := HU.out.drew
  clear HU
  have HU := Lib.hid h1
  clear h1
  obtain ⟨⟨x0, x1⟩, ⟨x2, x3⟩, ⟨y0, y1⟩, ⟨y2, y3⟩⟩ := HU.out.cells
  go_region_with (first
    | (go_at_call 24; (with_reducible refine (wneg_o HU.out.oq (by omega)).mono ?_); rintro e w' ho; have h3 := HU.out.on ho.below; have hbb := ho.below; obtain ⟨A5, n5, c5, rfl, hn5, ho5, hb5⟩ := ho; have HOA := Lib.hid (ho5.mono HU.out.r2.hbase); have HNA := Lib.hid (show n5 ≤ K by omega); clear hn5; clear HU hb5 ho5 hbb; have HU := Lib.hid h3; clear h3; obtain ⟨⟨x0, x1⟩, ⟨x2, x3⟩, ⟨y0, y1⟩, ⟨y2, y3⟩⟩ := HU.out.cells))
  all_goals (go_wp2; refine bodyPost_ret (results_I3 rfl rfl rfl rfl (HU.out.r2.put _ _ _ _ _ _ _ _).1 (HU.out.r2.put _ _ _ _ _ _ _ _).2.1) rfl ?_; exact HU.out.r2.fin HOA.out HU.out.ow HNA.out hn2)
set_option maxHeartbeats 4000000 in
theorem minus_up (w : World) (gd : Nat) {q r k : Int} {K : Nat} (hK : K ≤ 3000000) (hgd : w.cell? ⟨gd, 0, none⟩ = some (.func (.func 35) #[] #[])) (hlt : gd < w.heap.size)
    (hf : ∀ W, Below w.heap.size w W → Calls Tryd.prog 35 #[.slice A n c, .slice A' m d] W (OutI2 W K q r k)) :
    Calls Tryd.prog 53 #[.slice A n c, .slice A' m d, .pointer (some ⟨gd, 0, none⟩)] w (OutI2 w K (-q) r k) := by
  have HD := Lib.hid hf
  clear hf
  go_enter Tryd.func53, Tryd.ntmps53
  go_wp2_with fail
  go_at_call 35
  generalize hw1 : World.alloc (World.alloc w _) _ = w1
  have H2 := Lib.hid (R2.made hw1)
  clear hw1
  refine (HD.out w1 H2.out.below).mono ?_
  rintro e w2 ⟨A1, n1, c1, A2, n2, c2, rfl, hn1, hn2, ho1, ho2, hb⟩
  have h22 := H2.out.on hb
  have HO1 := Lib.hid ho1
  have HO2 := Lib.hid ho2
  clear ho1 ho2 hb H2
  have H2 := Lib.hid h22
  clear h22
  obtain ⟨⟨a0, a1, x0, x1⟩, ⟨a2, a3, x2, x3⟩, ⟨y0, y1⟩, ⟨y2, y3⟩⟩ := H2.out.cells
  go_wp2_with fail
  generalize hw3 : World.setCell (World.setCell (World.setCell (World.setCell w2 _ _) _ _) _ _) _ _ = w3
  have HU := Lib.hid (Dv.start H2.out HO1.out HO2.out hw3)
  clear hw3 x0 x1 x2 x3 y0 y1 y2 y3
  have h1 := HU.out.drew
  clear HU
  have HU := Lib.hid h1
  clear h1
  obtain ⟨⟨x0, x1⟩, ⟨x2, x3⟩, ⟨y0, y1⟩, ⟨y2, y3⟩⟩ := HU.out.cells
  go_region_with (first
    | (go_at_call 24; (with_reducible refine (wneg_o HU.out.oq (by omega)).mono ?_); rintro e w' ho; have h3 := HU.out.on ho.below; have hbb := ho.below; obtain ⟨A5, n5, c5, rfl, hn5, ho5, hb5⟩ := ho; have HOA := Lib.hid (ho5.mono HU.out.r2.hbase); have HNA := Lib.hid (show n5 ≤ K by omega); clear hn5; clear HU hb5 ho5 hbb; have HU := Lib.hid h3; clear h3; obtain ⟨⟨x0, x1⟩, ⟨x2, x3⟩, ⟨y0, y1⟩, ⟨y2, y3⟩⟩ := HU.out.cells))
  all_goals (go_wp2; refine bodyPost_ret (results_I3 rfl rfl rfl rfl (HU.out.r2.put _ _ _ _ _ _ _ _).1 (HU.out.r2.put _ _ _ _ _ _ _ _).2.1) rfl ?_; exact HU.out.r2.fin HOA.out HU.out.ow HNA.out hn2)
end
end Go.Proofs.YtgahnchfefngeaaDoor
