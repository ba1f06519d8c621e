/- What long of layer 3 answers, over this translation. -/
import Derived.Test.YtbadbjmhmadbmaaDoorQuoShort
import Derived.Test.YtbadbjmhmadbmaaDoorQuoRange
namespace Go.Proofs.YtbadbjmhmadbmaaDoor
open Go.RowKit Go.Shelf
set_option linter.unusedVariables false
set_option maxRecDepth 20000
open N
attribute [local go_sem] Oper.semAt_some
namespace N
theorem front_pos {ys : List Int} {n k : Nat} (hy : Dg B ys) (hn : 2 ≤ n) (hk : k ≤ 63) (h1 : val B ys * 2 ^ k < Q B n) (h2 : Q B n ≤ 2 * (val B ys * 2 ^ k)) : 0 < shd ys (n - 1) k := by
  obtain ⟨m, rfl⟩ : ∃ m, n = m + 1 := ⟨n - 1, by omega⟩
  rw [show m + 1 - 1 = m by omega, shd_eq hy m k (by omega)]
  have hq := Q_pos (b := B) (by decide) m
  have hQ1 : Q B (m + 1) = Q B m * 18446744073709551616 := Q_succ ..
  have hV := val_nonneg (b := B) (by decide) hy
  have hpp := W.pow_pos k
  have hy0 : 0 ≤ val B ys * 2 ^ k := Int.mul_nonneg hV (by omega)
  have f2 : val B ys * 2 ^ k / Q B m % B = val B ys * 2 ^ k / Q B m := by
    refine Int.emod_eq_of_lt (Int.ediv_nonneg hy0 (by omega)) (Int.ediv_lt_of_lt_mul (by omega) ?_)
    show _ < 18446744073709551616 * _
    omega
  rw [f2]
  have : 1 ≤ val B ys * 2 ^ k / Q B m := (Int.le_ediv_iff_mul_le hq).2 (by omega)
  omega
end N
namespace N
theorem pl_split {len : Nat} {pre : List (Fin len × Int)} {x : Fin len × Int} (h : pl (pre ++ [x]) = dn len (pre.length + 1)) : pl pre = dn len pre.length ∧ x.1.val = len - 1 - pre.length := by
  unfold pl at h ⊢
  rw [dn_succ, List.map_append] at h
  obtain ⟨e1, e2⟩ := List.append_inj' h rfl
  exact ⟨e1, by simpa using e2⟩
theorem pl_full {len : Nat} {pre : List (Fin len × Int)} {k : Nat} (h : pl pre = dn len k) : pre.length = k := by
  have := congrArg List.length h
  unfold pl at this
  rwa [List.length_map, dn_length] at this
/-- the digit that is estimated at place i -/
def dgt (ys R : List Int) (n k i : Nat) : Int :=
  estD (shd ((R.drop i).take (n + 1)) n k * 18446744073709551616 + shd ((R.drop i).take (n + 1)) (n - 1) k) (shd ys (n - 1) k) (shd ys (n - 2) k)
theorem wd_dgt (ys R : List Int) (n k i : Nat) : W.Wd (dgt ys R n k i) := by
  have h1 := wd_shd ((R.drop i).take (n + 1)) n k
  have h2 := wd_shd ((R.drop i).take (n + 1)) (n - 1) k
  have h3 := wd_shd ys (n - 2) k
  exact wd_estD (by unfold W.Wd at *; omega) h3.1
theorem est_place {ys R : List Int} {n k i : Nat} (hy : Dg B ys) (hd : Dg B R) (hn : 2 ≤ n) (hk : k ≤ 63) (h1 : val B ys * 2 ^ k < Q B n) (h2 : Q B n ≤ 2 * (val B ys * 2 ^ k)) (hV : val B ys < Q B n)
    (hlt : val B (R.drop i) < 18446744073709551616 * val B ys) : dgt ys R n k i * val B ys ≤ val B (R.drop i) + val B ys ∧ val B (R.drop i) < (dgt ys R n k i + 1) * val B ys := by
  have hQ : Q B (n + 1) = Q B n * 18446744073709551616 := Q_succ ..
  have e : val B ((R.drop i).take (n + 1)) = val B (R.drop i) := by
    show lo B (R.drop i) (n + 1) = _
    rw [← (val_div (by decide) (hd.drop i) (n + 1)).2]
    exact Int.emod_eq_of_lt (val_nonneg (by decide) (hd.drop i)) (by omega)
  have := est_rows (ys := ys) (ps := (R.drop i).take (n + 1)) (n := n) (k := k) hy ((hd.drop i).take (n + 1)) hn hk h1 h2 (by rw [e]; exact hlt)
  rw [e] at this
  exact this
end N
/-- the boxes of a long division: the divisor, the quotient's slice, how many limbs, the front -/
structure LgA (w : World) (F : Nat) (VB V4 : Value) (n : Nat) (k v1 v2 : Int) (W : World) : Prop where
  b3 : W.cell? ⟨w.heap.size, 0, none⟩ = some VB
  b4 : W.cell? ⟨w.heap.size + 1, 0, none⟩ = some V4
  f4 : W.frozen? ⟨w.heap.size + 1, 0, none⟩ = false
  b6 : W.cell? ⟨w.heap.size + 1 + 1, 0, none⟩ = some (.int .i64 n)
  p0 : W.cell? ⟨F, 0, none⟩ = some (.int .i64 k)
  p1 : W.cell? ⟨F, 1, none⟩ = some (.int .u64 v1)
  p2 : W.cell? ⟨F, 2, none⟩ = some (.int .u64 v2)
  bl : Below w.heap.size w W
  fs : w.heap.size + 3 ≤ F
  sz : F < W.heap.size
theorem LgA.under {w : World} {F : Nat} {VB V4 : Value} {n : Nat} {k v1 v2 : Int} {W W' : World} (h : LgA w F VB V4 n k v1 v2 W) {b : Nat} (hb : Below b W W') (hF : F < b) : LgA w F VB V4 n k v1 v2 W' := by
  have hs := h.fs
  have hz := h.sz
  have ne : ∀ x o u, x ≤ F → W.cell? ⟨x, o, none⟩ = some u → W'.cell? ⟨x, o, none⟩ = some u := fun x o u hx hu => (hb.cell (p := ⟨x, o, none⟩) (by show x < b; omega)).trans hu
  exact ⟨ne _ _ _ (by omega) h.b3, ne _ _ _ (by omega) h.b4, (hb.frozen (p := ⟨w.heap.size + 1, 0, none⟩) (by show w.heap.size + 1 < b; omega)).trans h.f4, ne _ _ _ (by omega) h.b6, ne _ _ _ (by omega) h.p0, ne _ _ _ (by omega) h.p1, ne _ _ _ (by omega) h.p2,
    h.bl.trans (hb.mono (by omega)), hs, Nat.lt_of_lt_of_le hz hb.size⟩
theorem LgA.grow {w : World} {F : Nat} {VB V4 : Value} {n : Nat} {k v1 v2 : Int} {W W' : World} (h : LgA w F VB V4 n k v1 v2 W) {r : Option Nat} (hg : W.grownBy W' r) (hr : ∀ g, r = some g → F < g) : LgA w F VB V4 n k v1 v2 W' :=
  h.under (b := F + 1) (below_grow hg h.sz (fun k e => hr k e)) (by omega)
theorem LgA.below {w : World} {F : Nat} {VB V4 : Value} {n : Nat} {k v1 v2 : Int} {W W' : World} (h : LgA w F VB V4 n k v1 v2 W) (hb : Below W.heap.size W W') : LgA w F VB V4 n k v1 v2 W' :=
  h.grow (r := none) (grow_below hb none) (fun g e => by cases e)
theorem LgA.put {w : World} {F : Nat} {VB V4 : Value} {n : Nat} {k v1 v2 : Int} {W : World} (h : LgA w F VB V4 n k v1 v2 W) (V : Value) : LgA w F VB V n k v1 v2 (W.setCell ⟨w.heap.size + 1, 0, none⟩ V) := by
  have hs := h.fs
  have ne : ∀ b o u, b ≠ w.heap.size + 1 → W.cell? ⟨b, o, none⟩ = some u → (W.setCell ⟨w.heap.size + 1, 0, none⟩ V).cell? ⟨b, o, none⟩ = some u := fun b o u hb hu =>
    (World.cell?_setCell_other _ _ _ _ (fun e => hb (congrArg Addr.block e).symm)).trans hu
  exact ⟨ne _ _ _ (by omega) h.b3, World.cell?_setCell_same' _ _ _ (by rw [h.b4]; rfl), by rw [World.frozen?_setCell]; exact h.f4, ne _ _ _ (by omega) h.b6, ne _ _ _ (by omega) h.p0, ne _ _ _ (by omega) h.p1, ne _ _ _ (by omega) h.p2,
    h.bl.setCell (by dsimp only; omega) _, hs, by rw [World.size_setCell]; exact h.sz⟩
/-- the state of a long division's loop -/
structure LgSt (w : World) (F G H er la cr lq n : Nat) (VB : Value) (k v1 v2 : Int) (qs R : List Int) (W : World) : Prop where
  a : LgA w F VB (.slice (some ⟨H + 1, 0, none⟩) lq lq) n k v1 v2 W
  b8 : W.cell? ⟨H, 0, none⟩ = some (.slice (some ⟨G, 0, none⟩) (la + 1) cr)
  arr : Arr W (H + 1) qs
  row : ArP W G er R
  sz : H + 3 ≤ W.heap.size
  fg : F < G
  gh : G < H
section
variable {w : World} {F G H er la cr lq n : Nat} {VB : Value} {k v1 v2 : Int} {qs R : List Int} {W W' : World}
theorem LgSt.below (h : LgSt w F G H er la cr lq n VB k v1 v2 qs R W) (hb : Below (H + 3) W W') : LgSt w F G H er la cr lq n VB k v1 v2 qs R W' := by
  have h1 := h.fg
  have h2 := h.gh
  exact ⟨h.a.under hb (by omega), (hb.cell (p := ⟨H, 0, none⟩) (by show H < H + 3; omega)).trans h.b8, h.arr.below hb (by omega), h.row.below hb (by omega), Nat.le_trans h.sz hb.size, h1, h2⟩
theorem LgSt.new (h : LgSt w F G H er la cr lq n VB k v1 v2 qs R W) (hb : Below W.heap.size W W') : LgSt w F G H er la cr lq n VB k v1 v2 qs R W' := h.below (hb.mono h.sz)
theorem LgSt.store (h : LgSt w F G H er la cr lq n VB k v1 v2 qs R W) (j : Nat) (v : Int) : LgSt w F G H er la cr lq n VB k v1 v2 (qs.set j v) R (W.setCell ⟨H + 1, j, none⟩ (.int .u64 v)) := by
  have h1 := h.fg
  have h2 := h.gh
  have h3 := h.sz
  exact ⟨h.a.grow (grow_set W (H + 1) j _) (fun g e => by cases e; omega), (World.cell?_setCell_other _ _ _ _ (fun e => absurd (congrArg Addr.block e) (by show ¬ H + 1 = H; omega))).trans h.b8,
    h.arr.set j v, h.row.far (by show G ≠ H + 1; omega) _, by rw [World.size_setCell]; exact h3, h1, h2⟩
theorem LgSt.turn (h : LgSt w F G H er la cr lq n VB k v1 v2 qs R W) {R' : List Int} (hr : ArP W' G er R') (hg : W.grownBy W' (some G)) : LgSt w F G H er la cr lq n VB k v1 v2 qs R' W' := by
  have h1 := h.fg
  have h2 := h.gh
  have h3 := h.sz
  exact ⟨h.a.grow hg (fun g e => by cases e; omega), hg.cell h.b8 (by intro e; injection e with e; have e' : H = G := e; omega), (hg.block _ (by omega) (by intro e; injection e with e; omega)).trans h.arr, hr, Nat.le_trans h3 hg.size, h1, h2⟩
end
theorem LgSt.drew {w : World} {F G H er la cr lq n : Nat} {VB : Value} {k v1 v2 : Int} {qs R : List Int} {W : World} (h : LgSt w F G H er la cr lq n VB k v1 v2 qs R W) : LgSt w F G H er la cr lq n VB k v1 v2 qs R W.drew :=
  h.below ⟨rfl, rfl, rfl, Nat.le_refl _, fun _ _ => rfl⟩
/-- of what lay there the blocks G and K alone have turned -/
structure Two (G K : Nat) (W W' : World) : Prop where
  os : W'.os = W.os
  tape : W'.tape = W.tape
  output : W'.output = W.output
  size : W.heap.size ≤ W'.heap.size
  block : ∀ j, j < W.heap.size → j ≠ G → j ≠ K → W'.heap[j]? = W.heap[j]?
theorem Two.of {G K : Nat} {W W' : World} {r : Option Nat} (h : W.grownBy W' r) (hr : ∀ g, r = some g → g = G ∨ g = K) : Two G K W W' :=
  ⟨h.os, h.tape, h.output, h.size, fun j hj h1 h2 => h.block j hj (fun e => by rcases hr j e.symm with e | e <;> omega)⟩
theorem Two.trans {G K : Nat} {A C D : World} (h : Two G K A C) (k : Two G K C D) : Two G K A D :=
  ⟨k.os.trans h.os, k.tape.trans h.tape, k.output.trans h.output, Nat.le_trans h.size k.size, fun j hj h1 h2 => (k.block j (Nat.lt_of_lt_of_le hj h.size) h1 h2).trans (h.block j hj h1 h2)⟩
theorem Two.drew (G K : Nat) (W : World) : Two G K W W.drew := ⟨rfl, rfl, rfl, Nat.le_refl _, fun _ _ _ _ => rfl⟩
theorem Two.kpq {G K Bs len : Nat} {W W' : World} (h : Two G K W W') (hB : Bs < W.heap.size) (h1 : Bs ≠ G) (h2 : Bs ≠ K) {zs : List Int} (hA : Arr W' K zs) (hl : zs.length = len) : KpQ Bs K len W W' :=
  ⟨h.block Bs hB h1 h2, fun _ _ _ => ⟨zs, hA, hl⟩⟩
theorem Two.keeps {G K B : Nat} {W W' : World} (h : Two G K W W') (hG : G < B) (hK : K < B) : KeepsFrom B W W' :=
  ⟨h.size, fun j o hB hj _ => (h.block j (Array.getElem?_eq_some_iff.1 hj).1 (by omega) (by omega)).trans hj⟩
set_option maxRecDepth 100000 in
set_option maxHeartbeats 2000000 in
theorem long_any (w : World) (A A' : Option Addr) (la c n d0 : Nat) (xs ys : List Int) (hx : Sl w A la c xs) (hy : Sl w A' n d0 ys) (hn : 2 ≤ n) (hnn : nn ys = n) (hle : n ≤ la) (hla : la ≤ 1099511627775) (hxn : nn xs = la) :
    Calls Tryd.prog 69 #[.slice A la c, .slice A' n d0] w (OutQ w la la (val B xs / val B ys) (val B xs % val B ys)) := by
  obtain ⟨k, hk63, hkL, hk1, hk2⟩ := normal hy.dg hnn (by omega)
  obtain ⟨lq, hlq, hlq1⟩ : ∃ lq : Nat, ((la : Int) - (n : Int) + 1) = (lq : Int) ∧ lq + n = la + 1 := ⟨la - n + 1, by omega, by omega⟩
  have hmk : ∀ W : World, (Instr.makeSlice 23 (.int .i64 (lq : Nat)) (.int .i64 (lq : Nat))).run Tryd.prog W = .ok (.slice (some ⟨W.heap.size, 0, none⟩) lq lq) (W.alloc (.cells (madeCells #[.int .u64 0] lq) 33)) := fun W => make_run _ slNat lq (by omega) W
  have hl1 : ∀ o, Sl (w.alloc o) A' n d0 ys := fun o => hy.below ((Below.refl _ w).alloc (Nat.le_refl _) o)
  have hro : Fence.wide.round = none := rfl
  refine calls_of_wp_q 6 Tryd.func69 rfl ?_
  simp only [Tryd.ntmps69, List.size_toArray, List.length_cons, List.length_nil, Nat.reduceAdd, Nat.reduceSub, Array.replicate_succ, Array.replicate_zero, List.push_toArray, List.append_toArray, List.nil_append, List.cons_append]
  go_wp2_with fail
  obtain ⟨W0, hW0⟩ : ∃ W0 : World, W0 = ((w.alloc (.cells #[.slice A' n d0] 23)).alloc (.cells #[.slice none 0 0] 23)).alloc (.cells #[.int .i64 n] 3) := ⟨_, rfl⟩
  have z0 : W0.heap.size = w.heap.size + 3 := by rw [hW0]; simp
  have b0 : Below w.heap.size w W0 := by rw [hW0]; exact (((Below.refl _ w).alloc (Nat.le_refl _) _).alloc (by simp) _).alloc (by simp; omega) _
  have c3 : W0.cell? ⟨w.heap.size, 0, none⟩ = some (.slice A' n d0) := by rw [hW0]; go_simp
  have c4 : W0.cell? ⟨w.heap.size + 1, 0, none⟩ = some (.slice none 0 0) := by rw [hW0]; go_simp
  have c6 : W0.cell? ⟨w.heap.size + 1 + 1, 0, none⟩ = some (.int .i64 n) := by rw [hW0]; go_simp
  have f4 : W0.frozen? ⟨w.heap.size + 1, 0, none⟩ = false := by rw [hW0]; go_simp
  rw [← hW0]
  clear hW0
  have hl64 : 0 ≤ W.len (lim ys (n - 1)) ∧ W.len (lim ys (n - 1)) ≤ 64 := by have := len_nonneg (lim ys (n - 1)); omega
  refine (frontOf_len _ A' n d0 ys (hy.below b0) hn k _ rfl hkL hl64.1 hl64.2).mono ?_
  rintro e w1 ⟨rfl, b1⟩
  have b01 := b0.trans (b1.mono (by omega))
  have hA : LgA w w1.heap.size (.slice A' n d0) (.slice none 0 0) n k (shd ys (n - 1) k) (shd ys (n - 2) k) (w1.alloc (.cells #[.int .i64 k, .int .u64 (shd ys (n - 1) k), .int .u64 (shd ys (n - 2) k)] 103)) := by
    have c3' := (b1.cell (p := ⟨w.heap.size, 0, none⟩) (by show w.heap.size < _; omega)).trans c3
    have c4' := (b1.cell (p := ⟨w.heap.size + 1, 0, none⟩) (by show w.heap.size + 1 < _; omega)).trans c4
    have c6' := (b1.cell (p := ⟨w.heap.size + 1 + 1, 0, none⟩) (by show w.heap.size + 1 + 1 < _; omega)).trans c6
    have f4' := (b1.frozen (p := ⟨w.heap.size + 1, 0, none⟩) (by show w.heap.size + 1 < _; omega)).trans f4
    have z1 := b1.size
    have al : ∀ o, Below w1.heap.size w1 (w1.alloc o) := fun o => (Below.refl _ w1).alloc (Nat.le_refl _) o
    exact ⟨((al _).cell (p := ⟨w.heap.size, 0, none⟩) (by show w.heap.size < _; omega)).trans c3', ((al _).cell (p := ⟨w.heap.size + 1, 0, none⟩) (by show w.heap.size + 1 < _; omega)).trans c4',
      ((al _).frozen (p := ⟨w.heap.size + 1, 0, none⟩) (by show w.heap.size + 1 < _; omega)).trans f4', ((al _).cell (p := ⟨w.heap.size + 1 + 1, 0, none⟩) (by show w.heap.size + 1 + 1 < _; omega)).trans c6',
      by go_simp, by go_simp, by go_simp, b01.trans ((al _).mono b01.size), by omega, by simp⟩
  clear c3 c4 c6 f4
  have hF0 := b01.size
  have hF : w.heap.size + 3 ≤ w1.heap.size := by have := b1.size; omega
  clear b1 b01
  go_wp2_with fail
  obtain ⟨W1, hW1⟩ : ∃ W1 : World, W1 = w1.alloc (.cells #[.int .i64 k, .int .u64 (shd ys (n - 1) k), .int .u64 (shd ys (n - 2) k)] 103) := ⟨_, rfl⟩
  have zW1 : W1.heap.size = w1.heap.size + 1 := by rw [hW1]; simp
  rw [← hW1] at hA ⊢
  clear hW1
  refine (trim_any W1 A la c xs (hx.below hA.bl) (by omega)).mono ?_
  rintro e w2 ⟨At, nt, ct, rfl, hnt, hot, hb2⟩
  have hA2 := hA.below hb2
  have hnt2 : nt = la := by rw [← hot.len, ← hxn, nn_limbs hx.dg]
  subst hnt2
  have hlit := Sl.lit w2 [0] #[.int .u64 0] 1 rfl (Dg.one (by omega) (by decide)) rfl (by omega)
  have hot2 := hot.below ((Below.refl _ w2).alloc (Nat.le_refl _) (.cells #[.int .u64 0] 33))
  have hlim : limbs (val B xs) = xs := by rw [limbs_of hx.dg]; unfold tr; rw [hxn, ← hx.len, List.take_length]
  rw [hlim] at hot2
  have HLM := Lib.hid hlim
  have HX := Lib.hid hx
  have HXN := Lib.hid hxn
  have HNN := Lib.hid hnn
  have HHL := Lib.hid hkL
  have HZ1 := Lib.hid zW1
  have HZ0 := Lib.hid z0
  clear hlim hx hxn hnn hkL zW1 hot hA z0
  go_wp2_with (first
    | (at_builtin; refine wp_app rfl _ _ _ rfl slNat W1.heap.size rfl hot2 rfl hlit (by omega) (by omega) (by have := hb2.size; simp; omega) ?_; intro A2 c2 w4 hown4 hg4 hat4 hb4
       have hA4 := (hA2.below ((Below.refl _ w2).alloc (Nat.le_refl _) _)).under hb4 (by have := HZ1.out; omega)
       have k6 := hA4.b6
       have k4 := hA4.b4
       have kf4 := hA4.f4
       have s6 : w.heap.size + 1 + 1 < w4.heap.size := by have := hA4.sz; omega
       have s4 : w.heap.size + 1 < w4.heap.size := by omega
       have al2 : ∀ o o', Below w4.heap.size w4 ((w4.alloc o).alloc o') := fun o o' => ((Below.refl _ w4).alloc (Nat.le_refl _) o).alloc (by simp) o'
       have kA : ∀ o o', ((w4.alloc o).alloc o').cell? ⟨w.heap.size + 1, 0, none⟩ = some (.slice none 0 0) := fun o o' => ((al2 o o').cell (p := ⟨w.heap.size + 1, 0, none⟩) s4).trans k4
       have kF : ∀ o o', ((w4.alloc o).alloc o').frozen? ⟨w.heap.size + 1, 0, none⟩ = false := fun o o' => ((al2 o o').frozen (p := ⟨w.heap.size + 1, 0, none⟩) s4).trans kf4
       clear al2
       have HA4 := Lib.hid hA4
       have HO4 := Lib.hid hown4
       have HG4 := Lib.hid hg4
       have HT4 := Lib.hid hat4
       have HB4 := Lib.hid hb4
       clear hA4 hown4 hg4 hat4 hb4)
    | (go_at_call 46; refine ((callsIn_wide (n := 5)).1 (back_in _ _ trivial rfl _ _ _ _)).mono ?_; rintro e w5 ⟨rfl, rfl⟩))
  obtain ⟨G, hG0, hG1, hG2, hG3, hrow⟩ := HO4.out.arp (by omega)
  subst hG0
  have hGl := hrow.lt
  have hFG : w1.heap.size < G := by have := HZ1.out; omega
  obtain ⟨L, hL⟩ : ∃ L : World, L = (((w4.alloc (.cells #[.slice (some ⟨G, 0, none⟩) (nt + 1) c2] 23)).alloc (.cells (madeCells #[.int .u64 0] lq) 33)).setCell ⟨w.heap.size + 1, 0, none⟩ (.slice (some ⟨w4.heap.size + 1, 0, none⟩) lq lq)).alloc
    (.cells #[.slice (some ⟨w4.heap.size + 1, 0, none⟩) lq lq] 23) := ⟨_, rfl⟩
  have hst : LgSt w w1.heap.size G w4.heap.size (c2 - (nt + 1)) nt c2 lq n (.slice A' n d0) k (shd ys (n - 1) k) (shd ys (n - 2) k) (List.replicate lq 0) (xs ++ [0]) L ∧ L.cell? ⟨w4.heap.size + 1 + 1, 0, none⟩ = some (.slice (some ⟨w4.heap.size + 1, 0, none⟩) lq lq) ∧ L.heap.size = w4.heap.size + 3 := by
    have al2 : ∀ o o', Below w4.heap.size w4 ((w4.alloc o).alloc o') := fun o o' => ((Below.refl _ w4).alloc (Nat.le_refl _) o).alloc (by simp) o'
    have q1 := ((HA4.out.below (al2 (.cells #[.slice (some ⟨G, 0, none⟩) (nt + 1) c2] 23) (.cells (madeCells #[.int .u64 0] lq) 33))).put (.slice (some ⟨w4.heap.size + 1, 0, none⟩) lq lq)).below ((Below.refl _ _).alloc (Nat.le_refl _) (.cells #[.slice (some ⟨w4.heap.size + 1, 0, none⟩) lq lq] 23))
    have q2 : Arr ((w4.alloc (.cells #[.slice (some ⟨G, 0, none⟩) (nt + 1) c2] 23)).alloc (.cells (madeCells #[.int .u64 0] lq) 33)) (w4.heap.size + 1) (List.replicate lq 0) := by
      have := Arr.made (w4.alloc (.cells #[.slice (some ⟨G, 0, none⟩) (nt + 1) c2] 23)) lq
      rwa [World.size_alloc] at this
    have hws : w.heap.size + 1 < G := by omega
    rw [← hL] at q1
    refine ⟨⟨q1, ?_, ?_, ?_, by rw [hL]; simp, hFG, hGl⟩, ?_, by rw [hL]; simp⟩
    · have h9 : ((w4.alloc (.cells #[.slice (some ⟨G, 0, none⟩) (nt + 1) c2] 23)).alloc (.cells (madeCells #[.int .u64 0] lq) 33)).cell? ⟨w4.heap.size, 0, none⟩ = some (.slice (some ⟨G, 0, none⟩) (nt + 1) c2) := by go_simp
      rw [hL, World.cell?_alloc_lt _ _ _ (by rw [World.size_setCell]; simp; omega), World.cell?_setCell_other _ _ _ _ (fun e => absurd (congrArg Addr.block e) (by show ¬ w.heap.size + 1 = w4.heap.size; omega))]
      exact h9
    · rw [hL]; exact (q2.far (by show w4.heap.size + 1 ≠ w.heap.size + 1; omega) _).alloc _
    · rw [hL]; exact (((hrow.alloc _).alloc _).far (by show G ≠ w.heap.size + 1; omega) _).alloc _
    · rw [hL]; go_simp
  obtain ⟨hst, hsv, hsz⟩ := hst
  rw [← hL]
  clear hL kA kF k6 k4 kf4 hmk
  have hV0 : val B ys < Q B n := val_lt_nn' hy.dg (by rw [HNN.out]; exact Nat.le_refl _)
  refine (wpIn_wide (n := 6)).1 ?_
  refine wpIn_rangeFunc_ownG (F := Fence.wide) (n := 6) hro (by omega) (gf := 63) (lb := #[.pointer (some ⟨w4.heap.size + 1 + 1, 0, none⟩)]) rfl trivial (enters_of Tryd.func63 (by kernel_rfl) rfl)
    (backq_stops Fence.wide 5 trivial rfl (by omega) (w4.heap.size + 1 + 1) (w4.heap.size + 1) lq lq (by omega) L (by omega) hsv _ hst.arr (by simp))
    KpQ.trans (KpQ.put (by omega) (by omega)) (Below.refl _ _) (fun _ => rfl)
    (fun pre W => ∃ qs R, LgSt w w1.heap.size G w4.heap.size (c2 - (nt + 1)) nt c2 lq n (.slice A' n d0) k (shd ys (n - 1) k) (shd ys (n - 2) k) qs R W ∧ qs.length = lq ∧ Dg B qs ∧ R.length = nt + 1 ∧ Dg B R ∧ (pl pre = dn lq pre.length → LInv (val B ys) (val B xs) lq pre.length qs R))
    (fun _ _ _ => False)
    (ownFrom_of_below (fun s W W' h hb => by obtain ⟨qs, R, h1, h2⟩ := h; exact ⟨qs, R, h1.below (by rw [hsz] at hb; exact hb), h2⟩) (fun s W h => by obtain ⟨qs, R, h1, h2⟩ := h; rw [hsz]; exact h1.sz))
    (fun _ _ _ _ _ hs _ _ => hs)
    ⟨_, _, hst, by simp, Dg.zeros (by decide) _, by rw [List.length_append, HX.out.len]; rfl, HX.out.dg.append (Dg.one (by omega) (by decide)), fun _ => LInv.start HX.out.dg rfl (by rw [HX.out.len]; omega) (by omega) (top_le hy.dg HNN.out (by omega))⟩
    (fun x => { tmps := #[.slice A nt c, .slice A' n d0, undef, .pointer (some ⟨w.heap.size, 0, none⟩), .pointer (some ⟨w.heap.size + 1, 0, none⟩), .slice none 0 0, .pointer (some ⟨w.heap.size + 1 + 1, 0, none⟩), .pointer (some ⟨w1.heap.size, 0, none⟩), .pointer (some ⟨w4.heap.size, 0, none⟩), .int .i64 ((x.1.val : Nat) : Int), undef,
      .slice A' n d0, .int .i64 n, .slice A' n d0, .agg #[.int .i64 k, .int .u64 (shd ys (n - 1) k), .int .u64 (shd ys (n - 2) k)], .slice A nt c, .slice At nt ct, .slice (some ⟨w2.heap.size, 0, none⟩) 1 1, .slice (some ⟨G, 0, none⟩) (nt + 1) c2, .slice A nt c, .int .i64 nt, .int .i64 n, .int .i64 ((nt : Int) - n), .int .i64 lq,
      .slice (some ⟨w4.heap.size + 1, 0, none⟩) lq lq, .slice (some ⟨w4.heap.size + 1, 0, none⟩) lq lq, .func (.func 63) #[] #[.pointer (some ⟨w4.heap.size + 1 + 1, 0, none⟩)], .int .i64 ((x.1.val : Nat) : Int), .int .u64 x.2,
      undef, undef, undef, undef, undef, undef, undef, undef, undef, undef, undef, undef, undef, undef, undef, undef, undef, undef, undef, undef, undef, undef, undef, undef, undef, undef, undef, undef, undef, undef, undef, undef, undef], defers := [] }) ?assign ?body ?done ?stop
  case assign =>
    intro l x W K hK
    gi_wp2
    exact hK
  case body =>
    rintro l pre x V ⟨qs, R, h, hql, hqd, hRl, hRd, hI⟩ hpl
    have hxl := x.1.2
    have h2 : 1 ≤ 6 - 1 - 1 := by omega
    have hmx : Tryd.prog.follows .mixedOrders = true := by kernel_rfl
    have g8 := h.b8
    have g6 := h.a.b6
    have HH := Lib.hid h
    have HI := Lib.hid hI
    have HQL := Lib.hid hql
    have HQD := Lib.hid hqd
    have HRL := Lib.hid hRl
    have HRD := Lib.hid hRd
    have HPL := Lib.hid hpl
    have HST := Lib.hid hst
    have HSZ := Lib.hid hsz
    clear hst hsv hsz h hI hql hqd hRl hRd hpl
    generalize hxi : x.1.val = xi at *
    have HXI := Lib.hid hxi
    clear hxi
    have i1 : (xi : Int) + (n : Int) + 1 ≤ (c2 : Int) := by omega
    have i2 : (0 : Int) ≤ (xi : Int) := by omega
    have i3 : xi + n + 1 ≤ nt + 1 := by omega
    have i4 : c2 ≤ 9223372036854775807 := by unfold maxLen at hG3; omega
    have i5 : xi + n + 1 - xi = n + 1 := by omega
    have i6 : (xi : Int) < (lq : Int) := by omega
    have i7 : xi + (n + 1) ≤ R.length := by rw [HRL.out]; omega
    obtain ⟨dd, hdd⟩ : ∃ dd : Int, dgt ys R n k xi = dd := ⟨_, rfl⟩
    have hdw : W.Wd dd := by rw [← hdd]; exact wd_dgt ys R n k xi
    have HDD := Lib.hid hdd
    clear hdd
    have hes : Hid (∀ V1 : World, LgSt w w1.heap.size G w4.heap.size (c2 - (nt + 1)) nt c2 lq n (.slice A' n d0) k (shd ys (n - 1) k) (shd ys (n - 2) k) qs R V1 → Calls Tryd.prog 76 #[.agg #[.int .i64 k, .int .u64 (shd ys (n - 1) k), .int .u64 (shd ys (n - 2) k)], .slice (some ⟨G, xi, none⟩) (n + 1) (c2 - xi)] V1 fun e w' => e = .returned (.int .u64 dd) ∧ Below V1.heap.size V1 w') := Lib.hid (fun V1 hV1 => by
      have := estimate_any V1 (some ⟨G, xi, none⟩) n (c2 - xi) _ (hV1.row.part HRD.out i7 (by omega) (by omega)) (by omega) k (shd ys (n - 1) k) (shd ys (n - 2) k) (by omega) (by omega) (wd_shd _ _ _) (wd_shd _ _ _) (front_pos hy.dg hn hk63 hk1 hk2)
      rw [← HDD.out]
      exact this)
    have hy' : Hid (∀ V1 : World, Below w.heap.size w V1 → Sl V1 A' n d0 ys) := Lib.hid (fun V1 hb => hy.below hb)
    gi_wp2
    refine Rd.held_round (S := fun w' => w'.cell? ⟨w.heap.size + 1, 0, none⟩ = some (.slice (some ⟨w4.heap.size + 1, 0, none⟩) lq lq) ∧ w'.cell? ⟨w1.heap.size, 0, none⟩ = some (.int .i64 k) ∧ w'.cell? ⟨w1.heap.size, 1, none⟩ = some (.int .u64 (shd ys (n - 1) k)) ∧ w'.cell? ⟨w1.heap.size, 2, none⟩ = some (.int .u64 (shd ys (n - 2) k)))
      hmx (by kernel_rfl) (by rintro ⟨_, _, h⟩; exact (h : False)) ⟨HH.out.a.b4, HH.out.a.p0, HH.out.a.p1, HH.out.a.p2⟩ (fun hHeld => ?_)
    refine wpAnyH_take (i := 0) (oi := { dst := _, op := _, type := _, pos := _, after := _, guard := _ }) (v := ?_) rfl (by kernel_rfl) (by kernel_rfl) (by kernel_rfl) (fun _ _ _ h => h) (Or.inl ⟨by rfl, ?_⟩) (by assumption) ?_
    rotate_left 1
    · intro w1 hS1
      try dsimp only at hS1
      go_simp
      try with_reducible rfl
    try simp only [Act.put, List.setIfInBounds_toArray, List.set_cons_zero, List.set_cons_succ]
    refine wpAnyH_take (i := 1) (oi := { dst := _, op := _, type := _, pos := _, after := _, guard := _ }) (v := ?_) rfl (by kernel_rfl) (by kernel_rfl) (by kernel_rfl) (fun _ _ _ h => h) (Or.inl ⟨by rfl, ?_⟩) (by assumption) ?_
    rotate_left 1
    · intro w1 hS1
      try dsimp only at hS1
      go_simp
      try with_reducible rfl
    try simp only [Act.put, List.setIfInBounds_toArray, List.set_cons_zero, List.set_cons_succ]
    refine wpAnyH_take (i := 2) (oi := { dst := _, op := _, type := _, pos := _, after := _, guard := _ }) (v := ?_) rfl (by kernel_rfl) (by kernel_rfl) (by kernel_rfl) (fun _ _ _ h => h) (Or.inl ⟨by rfl, ?_⟩) (by assumption) ?_
    rotate_left 1
    · intro w1 hS1
      try dsimp only at hS1
      go_simp
      try with_reducible rfl
    try simp only [Act.put, List.setIfInBounds_toArray, List.set_cons_zero, List.set_cons_succ]
    refine wpAnyH_take (i := 3) (oi := { dst := _, op := _, type := _, pos := _, after := _, guard := _ }) (v := ?_) rfl (by kernel_rfl) (by kernel_rfl) (by kernel_rfl) (fun _ _ _ h => h) (Or.inl ⟨by rfl, ?_⟩) (by assumption) ?_
    rotate_left 1
    · intro w1 hS1
      try dsimp only at hS1
      go_simp
      try with_reducible rfl
    try simp only [Act.put, List.setIfInBounds_toArray, List.set_cons_zero, List.set_cons_succ]
    refine wpAnyH_ready (rs := [4]) (by kernel_rfl) (by simp) ?_
    refine AllReadyH.cons (o := { dst := _, op := _, type := _, pos := _, after := _, guard := _ }) rfl (fun K hK => ?_) AllReadyH.nil
    go_simp
    (go_at_call 76; refine (hes.out _ HH.out.drew).mono ?_; rintro e w5 ⟨rfl, hb5⟩)
    have h5 := Lib.hid (HH.out.drew.new hb5)
    have t5 := Lib.hid ((Two.drew G (w4.heap.size + 1) V).trans (Two.of (grow_below hb5 none) (fun g e => by cases e)))
    have qc5 := h5.out.arr.cell (k := xi) (by rw [HQL.out]; omega)
    have qf5 := h5.out.arr.frozen xi
    clear hb5
    refine hK.out _ _ ?_ (fun hHeld2 => ?_)
    · exact ⟨h5.out.a.b4, h5.out.a.p0, h5.out.a.p1, h5.out.a.p2⟩
    clear hK K
    try simp only [Act.put, List.setIfInBounds_toArray, List.set_cons_zero, List.set_cons_succ]
    refine wpAnyH_take (i := 5) (oi := { dst := _, op := _, type := _, pos := _, after := _, guard := _ }) (v := ?_) rfl (by kernel_rfl) (by kernel_rfl) (by kernel_rfl) (fun _ _ _ h => h) (Or.inl ⟨by rfl, ?_⟩) (by assumption) ?_
    rotate_left 1
    · intro w1 hS1
      try dsimp only at hS1
      go_simp
      try with_reducible rfl
    try simp only [Act.put, List.setIfInBounds_toArray, List.set_cons_zero, List.set_cons_succ]
    refine wpAnyH_ready (rs := [6]) (by kernel_rfl) (by simp) ?_
    refine AllReadyH.cons (o := { dst := _, op := _, type := _, pos := _, after := _, guard := _ }) rfl (fun K hK => ?_) AllReadyH.nil
    go_simp
    have h6 := Lib.hid (h5.out.store xi dd)
    have t6 := Lib.hid (t5.out.trans (Two.of (grow_set w5 (w4.heap.size + 1) xi (.int .u64 dd)) (fun g e => by cases e; exact .inr rfl)))
    refine hK.out _ _ ?_ (fun hHeld3 => ?_)
    · exact ⟨h6.out.a.b4, h6.out.a.p0, h6.out.a.p1, h6.out.a.p2⟩
    clear hK K
    try simp only [Act.put, List.setIfInBounds_toArray, List.set_cons_zero, List.set_cons_succ]
    refine wpAnyH_done (by kernel_rfl) ?_ _
    obtain ⟨W6, hW6⟩ : ∃ W6 : World, W6 = w5.setCell ⟨w4.heap.size + 1, xi, none⟩ (.int .u64 dd) := ⟨_, rfl⟩
    rw [← hW6] at h6 t6 ⊢
    clear hW6 qc5 qf5 h5 t5 hHeld hHeld2 hHeld3
    have hq6 : (qs.set xi dd).length = lq := by rw [List.length_set]; exact HQL.out
    have c6 := h6.out.arr.cell (k := xi) (by rw [hq6]; omega)
    have e6 : lim (qs.set xi dd) xi = dd := by rw [lim_set _ _ _ _ (by rw [HQL.out]; omega), if_pos rfl]
    rw [e6] at c6
    have HQ6 := Lib.hid hq6
    clear e6 hq6
    have ha : Aw A' G := by
      obtain ⟨ad, e1, e2, _⟩ := hy.cell (k := 0) (by omega)
      intro a e
      rw [e1] at e
      cases e
      omega
    gi_wp2
    refine Rd.held_round (S := fun w' => w'.cell? ⟨w.heap.size, 0, none⟩ = some (.slice A' n d0) ∧ w'.cell? ⟨w.heap.size + 1, 0, none⟩ = some (.slice (some ⟨w4.heap.size + 1, 0, none⟩) lq lq) ∧ w'.cell? ⟨w4.heap.size + 1, xi, none⟩ = some (.int .u64 dd))
      hmx (by kernel_rfl) (by rintro ⟨_, _, h⟩; exact (h : False)) ⟨h6.out.a.b3, h6.out.a.b4, c6⟩ (fun hHeld => ?_)
    refine wpAnyH_take (i := 0) (oi := { dst := _, op := _, type := _, pos := _, after := _, guard := _ }) (v := ?_) rfl (by kernel_rfl) (by kernel_rfl) (by kernel_rfl) (fun _ _ _ h => h) (Or.inl ⟨by rfl, ?_⟩) (by assumption) ?_
    rotate_left 1
    · intro w1 hS1
      try dsimp only at hS1
      go_simp
      try with_reducible rfl
    try simp only [Act.put, List.setIfInBounds_toArray, List.set_cons_zero, List.set_cons_succ]
    refine wpAnyH_take (i := 1) (oi := { dst := _, op := _, type := _, pos := _, after := _, guard := _ }) (v := ?_) rfl (by kernel_rfl) (by kernel_rfl) (by kernel_rfl) (fun _ _ _ h => h) (Or.inl ⟨by rfl, ?_⟩) (by assumption) ?_
    rotate_left 1
    · intro w1 hS1
      try dsimp only at hS1
      go_simp
      try with_reducible rfl
    try simp only [Act.put, List.setIfInBounds_toArray, List.set_cons_zero, List.set_cons_succ]
    refine wpAnyH_take (i := 2) (oi := { dst := _, op := _, type := _, pos := _, after := _, guard := _ }) (v := ?_) rfl (by kernel_rfl) (by kernel_rfl) (by kernel_rfl) (fun _ _ _ h => h) (Or.inl ⟨by rfl, ?_⟩) (by assumption) ?_
    rotate_left 1
    · intro w1 hS1
      try dsimp only at hS1
      go_simp
      try with_reducible rfl
    try simp only [Act.put, List.setIfInBounds_toArray, List.set_cons_zero, List.set_cons_succ]
    refine wpAnyH_take (i := 3) (oi := { dst := _, op := _, type := _, pos := _, after := _, guard := _ }) (v := ?_) rfl (by kernel_rfl) (by kernel_rfl) (by kernel_rfl) (fun _ _ _ h => h) (Or.inl ⟨by rfl, ?_⟩) (by assumption) ?_
    rotate_left 1
    · intro w1 hS1
      try dsimp only at hS1
      go_simp
      try with_reducible rfl
    try simp only [Act.put, List.setIfInBounds_toArray, List.set_cons_zero, List.set_cons_succ]
    refine wpAnyH_take (i := 4) (oi := { dst := _, op := _, type := _, pos := _, after := _, guard := _ }) (v := ?_) rfl (by kernel_rfl) (by kernel_rfl) (by kernel_rfl) (fun _ _ _ h => h) (Or.inl ⟨by rfl, ?_⟩) (by assumption) ?_
    rotate_left 1
    · intro w1 hS1
      try dsimp only at hS1
      go_simp
      try with_reducible rfl
    try simp only [Act.put, List.setIfInBounds_toArray, List.set_cons_zero, List.set_cons_succ]
    refine wpAnyH_take (i := 5) (oi := { dst := _, op := _, type := _, pos := _, after := _, guard := _ }) (v := ?_) rfl (by kernel_rfl) (by kernel_rfl) (by kernel_rfl) (fun _ _ _ h => h) (Or.inl ⟨by rfl, ?_⟩) (by assumption) ?_
    rotate_left 1
    · intro w1 hS1
      try dsimp only at hS1
      go_simp
      try with_reducible rfl
    try simp only [Act.put, List.setIfInBounds_toArray, List.set_cons_zero, List.set_cons_succ]
    refine wpAnyH_ready (rs := [6]) (by kernel_rfl) (by simp) ?_
    refine AllReadyH.cons (o := { dst := _, op := _, type := _, pos := _, after := _, guard := _ }) rfl (fun K hK => ?_) AllReadyH.nil
    go_simp
    (go_at_call 77; refine (take_any W6.drew G (c2 - (nt + 1)) xi n (c2 - xi) R A' d0 ys dd h6.out.drew.row HRD.out i7 (by omega) (by omega) (by rw [HRL.out]; omega) (hy'.out _ h6.out.a.bl.drew) ha hdw).mono ?_; rintro e w7 ⟨b, R', rfl, hT, hA7, hg7⟩)
    have h7 := Lib.hid (h6.out.drew.turn hA7 hg7)
    have t7 := Lib.hid (t6.out.trans ((Two.drew G (w4.heap.size + 1) W6).trans (Two.of hg7 (fun g e => by cases e; exact .inl rfl))))
    have c7 : w7.cell? ⟨w4.heap.size + 1, xi, none⟩ = some (.int .u64 dd) := hg7.cell (a := ⟨w4.heap.size + 1, xi, none⟩) c6 (by intro e; injection e with e; have e' : w4.heap.size + 1 = G := e; omega)
    have HT := Lib.hid hT
    clear hT hA7 hg7
    refine hK.out _ _ ?_ (fun hHeld2 => ?_)
    · exact ⟨h7.out.a.b3, h7.out.a.b4, c7⟩
    clear hK K
    try simp only [Act.put, List.setIfInBounds_toArray, List.set_cons_zero, List.set_cons_succ]
    refine wpAnyH_done (by kernel_rfl) ?_ _
    clear hHeld hHeld2 c6 hes h6 t6
    obtain ⟨r1, r2, r3, r4, r5, r6⟩ := HT.out
    rcases r5 with rfl | rfl
    · have HV := Lib.hid r4
      have HR1 := Lib.hid r1
      have HR3 := Lib.hid r3
      clear HT r4 r1 r3 r6
      gi_wp2
      refine ⟨t7.out.keeps (by rw [HSZ.out]; omega) (by rw [HSZ.out]; omega), t7.out.kpq (by have := HH.out.sz; omega) (by omega) (by omega) h7.out.arr HQ6.out, qs.set xi dd, R', h7.out, HQ6.out, HQD.out.set xi hdw.1 hdw.2, HR1.out.trans HRL.out, r2, fun ho => ?_⟩
      rw [List.length_append] at ho ⊢
      obtain ⟨o1, o2⟩ := pl_split ho
      rw [HXI.out] at o2
      have hL := HI.out o1
      have hm := HPL.out
      have hp := hL.part hm HRD.out
      rw [← o2] at hp
      have he := est_place hy.dg HRD.out hn hk63 hk1 hk2 hV0 hp
      rw [HDD.out] at he
      have hv := HV.out
      have := hL.just (n := n) (d := dd) (R' := R') hm (by rw [HQL.out]; omega) HRD.out r2 hV0 (by rw [← o2]; exact he.2) (fun j hj => HR3.out j (.inl (by omega))) (by rw [← o2]; omega)
      rw [← o2] at this
      exact this
    · have d1 : 1 ≤ dd := by have := hdw.1; apply Classical.byContradiction; intro hc; have := r6 (by omega); omega
      have HV := Lib.hid r4
      have HR1 := Lib.hid r1
      have HR2 := Lib.hid r2
      have HR3 := Lib.hid r3
      have qf7 := h7.out.arr.frozen xi
      have qb7 := h7.out.a.b4
      clear HT r4 r1 r3 r2 r6
      have h8 := Lib.hid (h7.out.store xi (dd - 1))
      have t8 := Lib.hid (t7.out.trans (Two.of (grow_set w7 (w4.heap.size + 1) xi (.int .u64 (dd - 1))) (fun g e => by cases e; exact .inr rfl)))
      have b8 := h8.out.a.b3
      have hgb : Hid (Calls Tryd.prog 78 #[.slice (some ⟨G, xi, none⟩) (n + 1) (c2 - xi), .slice A' n d0] (w7.setCell ⟨w4.heap.size + 1, xi, none⟩ (.int .u64 (dd - 1))) fun e' w' => ∃ (b : Int) (R2 : List Int), (∃ v, e' = .returned v) ∧ GbOut R' ys xi n b R2 ∧ ArP w' G (c2 - (nt + 1)) R2 ∧ (w7.setCell ⟨w4.heap.size + 1, xi, none⟩ (.int .u64 (dd - 1))).grownBy w' (some G)) :=
        Lib.hid (giveBack_any _ G (c2 - (nt + 1)) xi n (c2 - xi) R' A' d0 ys h8.out.row HR2.out (by rw [HR1.out]; exact i7) (by omega) (by omega) (by rw [HR1.out, HRL.out]; omega) (hy'.out _ h8.out.a.bl) ha)
      have hd2 := hdw.2
      gi_wp2_with fail
      refine ⟨trivial, ?_⟩
      refine (CallsIn.inRound l (callsIn_wide.2 hgb.out)).mono ?_
      rintro e w9 ⟨c, R2, ⟨v, rfl⟩, hG9, hA9, hg9⟩
      have h9 := Lib.hid (h8.out.turn hA9 hg9)
      have t9 := Lib.hid (t8.out.trans (Two.of hg9 (fun g e => by cases e; exact .inl rfl)))
      have HG9 := Lib.hid hG9
      clear hG9 hA9 hg9
      gi_wp2
      obtain ⟨s1, s2, s3, s4, s5⟩ := HG9.out
      refine ⟨t9.out.keeps (by rw [HSZ.out]; omega) (by rw [HSZ.out]; omega), t9.out.kpq (by have := HH.out.sz; omega) (by omega) (by omega) h9.out.arr (by rw [List.length_set]; exact HQ6.out), (qs.set xi dd).set xi (dd - 1), R2, h9.out, by rw [List.length_set]; exact HQ6.out, (HQD.out.set xi hdw.1 hdw.2).set xi (by omega) (by show dd - 1 < 18446744073709551616; omega), s1.trans (HR1.out.trans HRL.out), s2, fun ho => ?_⟩
      rw [List.length_append] at ho ⊢
      obtain ⟨o1, o2⟩ := pl_split ho
      rw [HXI.out] at o2
      have hL := HI.out o1
      have hm := HPL.out
      have hp := hL.part hm HRD.out
      rw [← o2] at hp
      have he := est_place hy.dg HRD.out hn hk63 hk1 hk2 hV0 hp
      rw [HDD.out] at he
      have hv := HV.out
      have := hL.less (n := n) (d := dd) (c := c) (R' := R') (R2 := R2) hm (by rw [HQL.out]; omega) HRD.out HR2.out s2 hV0 (by rw [← o2]; exact he.1) (by rw [← o2]; exact he.2)
        (fun j hj => HR3.out j (.inl (by omega))) (fun j hj => HR3.out j (.inr (by omega))) (fun j hj => s3 j (.inl (by omega))) (fun j hj => s3 j (.inr (by omega))) (by rw [← o2]; omega) s5 (by rw [← o2]; exact s4)
      rw [← o2] at this
      exact this
  case done =>
    rintro D pre V hD hS ⟨qs, R, h, hql, hqd, hRl, hRd, hI⟩ hK
    have hp := pl_full hS
    have hI := hI (by rw [hp]; exact hS)
    rw [hp] at hI
    obtain ⟨e1, e2⟩ := hI.done hRd
    have hVV := hI.low
    rw [Nat.sub_self, List.drop_zero] at hVV
    have hnR : nn R ≤ nt := by
      have hVV2 : val B R < Q B n := by omega
      have := (limbs_len_le (val_nonneg (by decide) hRd) n).2 hVV2
      rw [← nn_limbs hRd] at this
      omega
    have hnq := nn_le qs
    rw [hql] at hnq
    have hoR := h.row.own (base := w.heap.size) (n := nt + 1) (c := c2) (by have := h.a.fs; omega) hRl (by omega) hG3 hRd
    have hSq := h.arr.sl hql (by unfold maxLen; omega) hqd
    have hSR := hoR.sl
    have hsV := h.sz
    have E1 := Lib.hid e1
    have E2 := Lib.hid e2
    have HH := Lib.hid h
    have HQL := Lib.hid hql
    have HQD := Lib.hid hqd
    have HRD := Lib.hid hRd
    have HRL := Lib.hid hRl
    have g4 := h.a.b4
    have gf := h.a.f4
    have g8 := h.b8
    clear hI hst hsv hql hqd hRl hRd hS h e1 e2 hVV hoR
    go_wp2
    refine wp_region_held_drew (S := fun w' => w'.cell? ⟨w4.heap.size, 0, none⟩ = some (.slice (some ⟨G, 0, none⟩) (nt + 1) c2)) (by kernel_rfl) g8 (fun hHeld => ?_)
    refine wpAnyH_take (i := 2) (oi := { dst := _, op := _, type := _, pos := _, after := _, guard := _ }) (v := ?_) rfl (by kernel_rfl) (by kernel_rfl) (by kernel_rfl) (fun _ _ _ h => h) (Or.inl ⟨by rfl, ?_⟩) (by assumption) ?_
    rotate_left 1
    · intro w1 hS1
      try dsimp only at hS1
      go_simp
      try with_reducible rfl
    try simp only [Act.put, List.setIfInBounds_toArray, List.set_cons_zero, List.set_cons_succ]
    refine wpAnyH_ready (rs := [0]) (by kernel_rfl) (by simp) ?_
    refine AllReadyH.cons (o := { dst := _, op := _, type := _, pos := _, after := _, guard := _ }) rfl (fun K hK => ?_) AllReadyH.nil
    go_simp
    refine hK.out _ _ ?_ (fun hHeld => ?_)
    · exact g8
    clear hK K
    try simp only [Act.put, List.setIfInBounds_toArray, List.set_cons_zero, List.set_cons_succ]
    refine wpAnyH_ready (rs := [1]) (by kernel_rfl) (by simp) ?_
    refine AllReadyH.cons (o := { dst := _, op := _, type := _, pos := _, after := _, guard := _ }) rfl (fun K hK => ?_) AllReadyH.nil
    go_simp
    (go_at_call 67; refine (qbare_any _ _ _ _ qs hSq.drew (by omega)).mono ?_; rintro e w3 ⟨rfl, rfl⟩)
    refine hK.out _ _ ?_ (fun hHeld => ?_)
    · exact g8
    clear hK K
    try simp only [Act.put, List.setIfInBounds_toArray, List.set_cons_zero, List.set_cons_succ]
    refine wpAnyH_ready (rs := [3]) (by kernel_rfl) (by simp) ?_
    refine AllReadyH.cons (o := { dst := _, op := _, type := _, pos := _, after := _, guard := _ }) rfl (fun K hK => ?_) AllReadyH.nil
    go_simp
    (go_at_call 67; refine (qbare_any _ _ _ _ R hSR.drew (by omega)).mono ?_; rintro e w3 ⟨rfl, rfl⟩)
    refine hK.out _ _ ?_ (fun hHeld => ?_)
    · exact g8
    clear hK K
    try simp only [Act.put, List.setIfInBounds_toArray, List.set_cons_zero, List.set_cons_succ]
    refine wpAnyH_ready (rs := [4]) (by kernel_rfl) (by simp) ?_
    refine AllReadyH.cons (o := { dst := _, op := _, type := _, pos := _, after := _, guard := _ }) rfl (fun K hK => ?_) AllReadyH.nil
    go_simp
    refine hK.out _ _ ?_ (fun hHeld => ?_)
    · exact (World.cell?_setCell_far V _ _ _ (by have := HH.out.a.fs; show ¬ w.heap.size + 1 = w4.heap.size; omega)).trans g8
    clear hK K
    try simp only [Act.put, List.setIfInBounds_toArray, List.set_cons_zero, List.set_cons_succ]
    refine wpAnyH_take (i := 5) (oi := { dst := _, op := _, type := _, pos := _, after := _, guard := _ }) (v := ?_) rfl (by kernel_rfl) (by kernel_rfl) (by kernel_rfl) (fun _ _ _ h => h) (Or.inl ⟨by rfl, ?_⟩) (by assumption) ?_
    rotate_left 1
    · intro w1 hS1
      try dsimp only at hS1
      go_simp
      try with_reducible rfl
    try simp only [Act.put, List.setIfInBounds_toArray, List.set_cons_zero, List.set_cons_succ]
    refine wpAnyH_done (by kernel_rfl) ?_ _
    go_wp2
    have hDV : D < V.heap.size := (Array.getElem?_eq_some_iff.1 hK).1
    rw [hsz] at hD
    have hfs := HH.out.a.fs
    have hK5 : (V.setCell ⟨w.heap.size + 1, 0, none⟩ (.slice (some ⟨w4.heap.size + 1, 0, none⟩) (nn qs) lq)).drew.heap[D]? = some (.deferred (some [])) := (Below.heap_setCell V _ _ D (by dsimp only; omega)).trans hK
    refine ⟨by simp, .inl ⟨_, _, rfl, run_takeDeferred hK5, ?_⟩⟩
    have hc5 := cell_kept (show (V.setCell ⟨w.heap.size + 1, 0, none⟩ (.slice (some ⟨w4.heap.size + 1, 0, none⟩) (nn qs) lq)).drew.cell? ⟨w.heap.size + 1, 0, none⟩ = some (.slice (some ⟨w4.heap.size + 1, 0, none⟩) (nn qs) lq) from World.cell?_setCell_same' V _ _ (by rw [g4]; rfl)) (grownBy_putObj' _ D (.deferred none)) (fun r e => by cases e; exact ⟨_, hK5, rfl⟩)
    have hbl := belowK_b (n₀ := w4.heap.size + 3) (w := L) (by omega) _ D _ (.deferred none) (by omega) hK5 rfl rfl
    have hA6 := (HH.out.arr.far (p := ⟨w.heap.size + 1, 0, none⟩) (by dsimp only; omega) (.slice (some ⟨w4.heap.size + 1, 0, none⟩) (nn qs) lq)).drew.below hbl (by omega)
    have hR6 := (HH.out.row.far (p := ⟨w.heap.size + 1, 0, none⟩) (by dsimp only; omega) (.slice (some ⟨w4.heap.size + 1, 0, none⟩) (nn qs) lq)).drew.below hbl (by omega)
    refine ⟨.tuple #[.slice (some ⟨w4.heap.size + 1, 0, none⟩) (nn qs) lq, .slice (some ⟨G, 0, none⟩) (nn R) c2], by simp [results, Tryd.f69, go_sem, hc5], _, _, _, _, _, _, rfl, by omega, hnR, ?_, ?_, ?_, ?_⟩
    · rw [← E1.out, limbs_of HQD.out]
      exact (⟨Arr.own (base := w.heap.size) hA6 (by omega) HQL.out (by unfold maxLen; omega) hnq, HQD.out.take _⟩ : N.Own _ _ _ _ _ _)
    · rw [← E2.out, limbs_of HRD.out]
      exact (hR6.own (base := w.heap.size) (by omega) HRL.out (by omega) hG3 HRD.out).tr
    · intro g hg hg'
      cases hg
      injection hg' with hg'
      have h9 : G = w4.heap.size + 1 := hg'
      omega
    · exact ((HH.out.a.bl.setCell (p := ⟨w.heap.size + 1, 0, none⟩) (by dsimp only; omega) (.slice (some ⟨w4.heap.size + 1, 0, none⟩) (nn qs) lq)).drew).trans (hbl.mono (by omega))
  case stop =>
    rintro D c pre W _ _ h _
    exact h.elim
end Go.Proofs.YtbadbjmhmadbmaaDoor
