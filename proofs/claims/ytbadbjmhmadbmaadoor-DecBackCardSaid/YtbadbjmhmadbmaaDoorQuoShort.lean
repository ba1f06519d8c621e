/- What short of layer 3 answers, over this translation. -/
import Derived.Test.YtbadbjmhmadbmaaDoorQuoTake
import Derived.Test.YtbadbjmhmadbmaaDoorQuoRound
import Derived.Test.YtbadbjmhmadbmaaDoorNatRange
import Derived.Test.YtbadbjmhmadbmaaDoorNatCmp
import Derived.Test.YtbadbjmhmadbmaaDoorNatShr
import Derived.RangeFuncNested
import Derived.RangeFuncBound
import Derived.RegionIn
import Derived.Laws.EntriesVeiled
import Derived.Shelf.RegionOpen
import Derived.Deep.RegionWith
import Derived.Deep.RegionHeld3
import Derived.Outline
namespace Go.Proofs.YtbadbjmhmadbmaaDoor
open Go.RowKit Go.Shelf
set_option linter.unusedVariables false
set_option maxRecDepth 20000
open N
attribute [local go_sem] Oper.semAt_some
namespace N
theorem dn_length (len k : Nat) : (dn len k).length = k := upto_length _ _
theorem dn_split {len : Nat} {pre : List (Fin len)} {x : Fin len} (h : (pre ++ [x]).map Fin.val = dn len (pre.length + 1)) : pre.map Fin.val = dn len pre.length ∧ x.val = len - 1 - pre.length := by
  rw [dn_succ, List.map_append] at h
  obtain ⟨e1, e2⟩ := List.append_inj' h rfl
  exact ⟨e1, by simpa using e2⟩
theorem dn_full {len : Nat} {pre : List (Fin len)} {k : Nat} (h : pre.map Fin.val = dn len k) : pre.length = k := by
  have := congrArg List.length h
  rwa [List.length_map, dn_length] at this
theorem drop_one (b : Int) (xs : List Int) (i : Nat) : val b (xs.drop i) = lim xs i + b * val b (xs.drop (i + 1)) := by
  have h3 := val_split b (xs.drop i) 1
  rw [List.drop_drop, lo_succ, lo_zero, lim_drop, Q_zero, Nat.add_zero, show Q b 1 = b by rw [show (1 : Nat) = 0 + 1 from rfl, Q_succ, Q_zero, Int.one_mul]] at h3
  omega
/-- what holds when m rounds are over, from the highest place on -/
def SInv (xs : List Int) (d : Int) (ln m : Nat) (zs : List Int) (rest : Int) : Prop := val B (xs.drop (ln - m)) = val B (zs.drop (ln - m)) * d + rest
theorem SInv.start {xs : List Int} {d : Int} {ln : Nat} (h : xs.length = ln) : SInv xs d ln 0 (List.replicate ln 0) 0 := by
  unfold SInv
  rw [Nat.sub_zero, List.drop_of_length_le (by omega), List.drop_of_length_le (by simp)]
  show (0 : Int) = 0 * d + 0
  omega
theorem SInv.step {xs : List Int} {d : Int} {ln m : Nat} {zs : List Int} {rest : Int} (h : SInv xs d ln m zs rest) (hm : m < ln) (hl : zs.length = ln) (hd : 0 < d) :
    SInv xs d ln (m + 1) (zs.set (ln - 1 - m) (W.divQ rest (lim xs (ln - 1 - m)) d)) (W.divR rest (lim xs (ln - 1 - m)) d) := by
  unfold SInv at *
  rw [show ln - (m + 1) = ln - 1 - m by omega]
  rw [show ln - m = ln - 1 - m + 1 by omega] at h
  generalize hi : ln - 1 - m = i at *
  rw [drop_one, h, drop_one B (zs.set i _), lim_set _ _ _ _ (by omega), if_pos rfl]
  have e : val B ((zs.set i (W.divQ rest (lim xs i) d)).drop (i + 1)) = val B (zs.drop (i + 1)) := val_of_lim' B (fun j => by
    rw [lim_drop, lim_drop, lim_set _ _ _ _ (by omega), if_neg (by omega)])
  rw [e]
  have e2 := Int.mul_ediv_add_emod (rest * 18446744073709551616 + lim xs i) d
  unfold W.divQ W.divR
  generalize (rest * 18446744073709551616 + lim xs i) / d = q at *
  generalize (rest * 18446744073709551616 + lim xs i) % d = r at *
  rw [Int.add_mul, Int.mul_add, Int.mul_assoc B, Int.mul_comm q d]
  have : B * rest = rest * 18446744073709551616 := Int.mul_comm ..
  omega
end N
/-- the blocks of a division by one limb, from block S on -/
structure ShSt (w : World) (S ln : Nat) (d : Int) (zs : List Int) (rest : Int) (W : World) : Prop where
  db : W.cell? ⟨S, 0, none⟩ = some (.int .u64 d)
  qb : W.cell? ⟨S + 1, 0, none⟩ = some (.slice (some ⟨S + 1 + 1, 0, none⟩) ln ln)
  qf : W.frozen? ⟨S + 1, 0, none⟩ = false
  arr : Arr W (S + 1 + 1) zs
  rb : W.cell? ⟨S + 1 + 1 + 1, 0, none⟩ = some (.int .u64 rest)
  rf : W.frozen? ⟨S + 1 + 1 + 1, 0, none⟩ = false
  bl : Below S w W
  sz : S + 5 ≤ W.heap.size
theorem ShSt.below {w : World} {S ln : Nat} {d : Int} {zs : List Int} {rest : Int} {W W' : World} (h : ShSt w S ln d zs rest W) (hb : Below (S + 5) W W') : ShSt w S ln d zs rest W' :=
  ⟨(hb.cell (p := ⟨S, 0, none⟩) (by show S < S + 5; omega)).trans h.db, (hb.cell (p := ⟨S + 1, 0, none⟩) (by show S + 1 < S + 5; omega)).trans h.qb, (hb.frozen (p := ⟨S + 1, 0, none⟩) (by show S + 1 < S + 5; omega)).trans h.qf,
   h.arr.below hb (by omega), (hb.cell (p := ⟨S + 1 + 1 + 1, 0, none⟩) (by show S + 1 + 1 + 1 < S + 5; omega)).trans h.rb, (hb.frozen (p := ⟨S + 1 + 1 + 1, 0, none⟩) (by show S + 1 + 1 + 1 < S + 5; omega)).trans h.rf,
   h.bl.trans (hb.mono (by omega)), Nat.le_trans h.sz hb.size⟩
theorem ShSt.round {w : World} {S ln : Nat} {d : Int} {zs : List Int} {rest : Int} {W : World} (h : ShSt w S ln d zs rest W) (q k : Nat) (v r : Int) :
    ShSt w S ln d (zs.set k v) r (((W.drewN q).setCell ⟨S + 1 + 1, k, none⟩ (.int .u64 v)).setCell ⟨S + 1 + 1 + 1, 0, none⟩ (.int .u64 r)) := by
  have ne : ∀ b : Nat, b ≠ S + 1 + 1 → b ≠ S + 1 + 1 + 1 → ∀ u, W.cell? ⟨b, 0, none⟩ = some u → (((W.drewN q).setCell ⟨S + 1 + 1, k, none⟩ (.int .u64 v)).setCell ⟨S + 1 + 1 + 1, 0, none⟩ (.int .u64 r)).cell? ⟨b, 0, none⟩ = some u := fun b h1 h2 u hu =>
    (World.cell?_setCell_other _ _ _ _ (fun e => h2 (congrArg Addr.block e).symm)).trans ((World.cell?_setCell_other _ _ _ _ (fun e => h1 (congrArg Addr.block e).symm)).trans hu)
  refine ⟨ne _ (by omega) (by omega) _ h.db, ne _ (by omega) (by omega) _ h.qb, by rw [World.frozen?_setCell, World.frozen?_setCell]; exact h.qf, ((h.arr.drewN q).set k v).far (by show S + 1 + 1 ≠ S + 1 + 1 + 1; omega) _, ?_, by rw [World.frozen?_setCell, World.frozen?_setCell]; exact h.rf,
    ((bdn h.bl q).setCell (by show S ≤ S + 1 + 1; omega) _).setCell (by show S ≤ S + 1 + 1 + 1; omega) _, by rw [World.size_setCell, World.size_setCell]; exact h.sz⟩
  refine World.cell?_setCell_same' _ _ _ ?_
  rw [World.cell?_setCell_other _ _ _ _ (fun e => absurd (congrArg Addr.block e) (by show ¬ S + 1 + 1 = S + 1 + 1 + 1; omega))]
  show (W.cell? _).isSome = true
  rw [h.rb]; rfl
theorem ShSt.start (w : World) (ln : Nat) (d : Int) (V : Value) (L : World)
    (hL : L = ((((w.alloc (.cells #[.int .u64 d] 33)).alloc (.cells #[.slice (some ⟨w.heap.size + 1 + 1, 0, none⟩) ln ln] 23)).alloc (.cells (madeCells #[.int .u64 0] ln) 33)).alloc (.cells #[.int .u64 0] 33)).alloc (.cells #[V] 23)) :
    ShSt w w.heap.size ln d (List.replicate ln 0) 0 L ∧ L.cell? ⟨w.heap.size + 1 + 1 + 1 + 1, 0, none⟩ = some V ∧ L.heap.size = w.heap.size + 5 := by
  refine ⟨⟨?_, ?_, ?_, ?_, ?_, ?_, ?_, ?_⟩, ?_, ?_⟩
  · rw [hL]; go_simp
  · rw [hL]; go_simp
  · rw [hL]; go_simp
  · have := Arr.made ((w.alloc (.cells #[.int .u64 d] 33)).alloc (.cells #[.slice (some ⟨w.heap.size + 1 + 1, 0, none⟩) ln ln] 23)) ln
    rw [World.size_alloc, World.size_alloc] at this
    rw [hL]
    exact (this.alloc _).alloc _
  · rw [hL]; go_simp
  · rw [hL]; go_simp
  · rw [hL]; exact (((((Below.refl _ w).alloc (Nat.le_refl _) _).alloc (by simp) _).alloc (by simp; omega) _).alloc (by simp; omega) _).alloc (by simp; omega) _
  · rw [hL]; simp
  · rw [hL]; go_simp
  · rw [hL]; simp
/-- what a division tells: both naturals in memory of the call's own, in two blocks -/
def OutQ (W : World) (m1 m2 : Nat) (q r : Int) (e : Ending) (w' : World) : Prop :=
  ∃ A n c A' n' c', e = .returned (.tuple #[.slice A n c, .slice A' n' c']) ∧ n ≤ m1 ∧ n' ≤ m2 ∧ N.Own w' W.heap.size A n c (limbs q) ∧ N.Own w' W.heap.size A' n' c' (limbs r) ∧ (∀ g, rowOf A = some g → rowOf A' ≠ some g) ∧ Below W.heap.size W w'
set_option maxRecDepth 100000 in
set_option maxHeartbeats 2000000 in
theorem short_any (w : World) (A : Option Addr) (n c : Nat) (xs : List Int) (hx : Sl w A n c xs) (hn : n ≤ 1099511627776) (d : Int) (hd : W.Wd d) (hd0 : 0 < d) :
    Calls Tryd.prog 68 #[.slice A n c, .int .u64 d] w (OutQ w n 1 (val B xs / d) (val B xs % d)) := by
  have hmk : ∀ W : World, (Instr.makeSlice 23 (.int .i64 (n : Nat)) (.int .i64 (n : Nat))).run Tryd.prog W = .ok (.slice (some ⟨W.heap.size, 0, none⟩) n n) (W.alloc (.cells (madeCells #[.int .u64 0] n) 33)) := fun W => make_run _ slNat n (by omega) W
  have hro : Fence.wide.round = none := rfl
  refine calls_of_wp_q 6 Tryd.func68 rfl ?_
  simp only [Tryd.ntmps68, List.size_toArray, List.length_cons, List.length_nil, Nat.reduceAdd, Nat.reduceSub, Array.replicate_succ, Array.replicate_zero, List.push_toArray, List.append_toArray, List.nil_append, List.cons_append]
  go_wp2_with (first
    | (go_at_call 46; refine ((callsIn_wide (n := 5)).1 (back_in _ _ trivial rfl _ _ _ _)).mono ?_; rintro e w4 ⟨rfl, rfl⟩))
  obtain ⟨L, hL⟩ : ∃ L : World, L = ((((w.alloc (.cells #[.int .u64 d] 33)).alloc (.cells #[.slice (some ⟨w.heap.size + 1 + 1, 0, none⟩) n n] 23)).alloc (.cells (madeCells #[.int .u64 0] n) 33)).alloc (.cells #[.int .u64 0] 33)).alloc (.cells #[.slice A n c] 23) := ⟨_, rfl⟩
  obtain ⟨hst, hsv, hsz⟩ := ShSt.start w n d _ L hL
  rw [← hL]
  clear hL hmk
  refine (wpIn_wide (n := 6)).1 ?_
  refine wpIn_rangeFunc_ownG (F := Fence.wide) (n := 6) hro (by omega) (gf := 63) (lb := #[.pointer (some ⟨w.heap.size + 1 + 1 + 1 + 1, 0, none⟩)]) rfl trivial (enters_of Tryd.func63 (by kernel_rfl) rfl)
    (back_stops Fence.wide 5 trivial rfl (by omega) (w.heap.size + 1 + 1 + 1 + 1) w.heap.size A n c xs (by omega) L (by omega) hst.bl.size hsv (hx.rd.below hst.bl))
    KpB.trans (KpB.put hst.bl.size (by omega)) (Below.refl _ _) (fun _ => rfl)
    (fun pre W => ∃ zs rest, ShSt w w.heap.size n d zs rest W ∧ zs.length = n ∧ Dg B zs ∧ 0 ≤ rest ∧ rest < d ∧ (pre.map Fin.val = dn n pre.length → SInv xs d n pre.length zs rest))
    (fun _ _ _ => False)
    (ownFrom_of_below (fun s W W' h hb => by obtain ⟨zs, rest, h1, h2⟩ := h; exact ⟨zs, rest, h1.below (by rw [hsz] at hb; exact hb), h2⟩) (fun s W h => by obtain ⟨zs, rest, h1, h2⟩ := h; rw [hsz]; exact h1.sz))
    (fun _ _ _ _ _ hs _ _ => hs)
    ⟨_, _, hst, by simp, Dg.zeros (by decide) _, by omega, hd0, fun _ => SInv.start hx.len⟩
    (fun x => { tmps := #[.slice A n c, .int .u64 d, undef, .pointer (some ⟨w.heap.size, 0, none⟩), .pointer (some ⟨w.heap.size + 1, 0, none⟩), .slice none 0 0, .pointer (some ⟨w.heap.size + 1 + 1 + 1, 0, none⟩), .int .i64 ((x.val : Nat) : Int), .int .u64 (lim xs x.val),
      .slice A n c, .int .i64 n, .slice (some ⟨w.heap.size + 1 + 1, 0, none⟩) n n, .slice A n c, .func (.func 63) #[] #[.pointer (some ⟨w.heap.size + 1 + 1 + 1 + 1, 0, none⟩)], .int .i64 ((x.val : Nat) : Int), .int .u64 (lim xs x.val),
      undef, undef, undef, undef, undef, undef, undef, undef, undef, undef, undef, undef, undef, undef, undef], defers := [] }) ?assign ?body ?done ?stop
  case assign =>
    intro l x W K hK
    gi_wp2
    exact hK
  case body =>
    rintro l pre x V ⟨zs, rest, h, hzl, hzd, hr0, hr1, hI⟩ hpl
    have hxk : W.Wd (lim xs x.val) := hx.dg.lim (by decide) _
    have hrw : W.Wd rest := by unfold W.Wd at *; omega
    have hxl := x.2
    have h2 : 1 ≤ 6 - 1 - 1 := by omega
    have hmx : Tryd.prog.follows .mixedOrders = true := by kernel_rfl
    have hcell : V.cell? ⟨w.heap.size + 1 + 1, x.val, none⟩ = some (.int .u64 (lim zs x.val)) := h.arr.cell (by rw [hzl]; exact x.2)
    have hfz := h.arr.frozen x.val
    have g1 := h.db
    have g2 := h.qb
    have g3 := h.rb
    have g4 := h.rf
    have HC : Hid (∀ V1 : World, Calls Tryd.prog 74 #[.int .u64 rest, .int .u64 (lim xs x.val), .int .u64 d] V1 fun e w' => e = .returned (.tuple #[.int .u64 (W.divQ rest (lim xs x.val) d), .int .u64 (W.divR rest (lim xs x.val) d), .int .i64 0]) ∧ ∃ k, w' = V1.drewN k) :=
      Lib.hid (fun W => div_any rest (lim xs x.val) d hrw hxk hd hr1 W)
    have HH := Lib.hid h
    have HQ := Lib.hid (div_lt_B (T := rest * 18446744073709551616 + lim xs x.val) (v := d) (by unfold W.Wd at *; omega) (by unfold W.Wd at *; omega))
    have HI := Lib.hid hI
    have HZ := Lib.hid hzl
    have HP := Lib.hid hpl
    have HZD := Lib.hid hzd
    refine wpIn_mono (Q := fun e a w' => e = .normal ∧ ∃ q, w' = ((V.drewN q).setCell ⟨w.heap.size + 1 + 1, x.val, none⟩ (.int .u64 (W.divQ rest (lim xs x.val) d))).setCell ⟨w.heap.size + 1 + 1 + 1, 0, none⟩ (.int .u64 (W.divR rest (lim xs x.val) d))) ?_ ?_
    · skip
      clear hst hsv h hI hzl hpl hzd HH hsz hr0 hr1 hd hd0 hn hx
      generalize W.divQ rest (lim xs x.val) d = q0 at *
      generalize W.divR rest (lim xs x.val) d = r0 at *
      generalize lim xs x.val = x0 at *
      generalize lim zs x.val = z0 at *
      gi_wp2
      refine Rd.held_round (S := fun w' => w'.cell? ⟨w.heap.size, 0, none⟩ = some (.int .u64 d) ∧ w'.cell? ⟨w.heap.size + 1, 0, none⟩ = some (.slice (some ⟨w.heap.size + 1 + 1, 0, none⟩) n n)) hmx (by kernel_rfl) (by rintro ⟨_, _, h, _⟩; cases h) ⟨by simp [*], by simp [*]⟩ (fun hHeld => ?_)
      refine wpAnyH_take (i := 0) (oi := { dst := _, op := _, type := _, pos := _, after := _, guard := _ }) (v := ?_) rfl (by kernel_rfl) (by kernel_rfl) (by kernel_rfl) (fun _ _ _ h => h) (Or.inl ⟨by rfl, ?_⟩) (by assumption) ?_
      rotate_left 1
      · intro w1 hS1
        try dsimp only at hS1
        go_simp
        try with_reducible rfl
      try simp only [Act.put, List.setIfInBounds_toArray, List.set_cons_zero, List.set_cons_succ]
      refine wpAnyH_take (i := 1) (oi := { dst := _, op := _, type := _, pos := _, after := _, guard := _ }) (v := ?_) rfl (by kernel_rfl) (by kernel_rfl) (by kernel_rfl) (fun _ _ _ h => h) (Or.inl ⟨by rfl, ?_⟩) (by assumption) ?_
      rotate_left 1
      · intro w1 hS1
        try dsimp only at hS1
        go_simp
        try with_reducible rfl
      try simp only [Act.put, List.setIfInBounds_toArray, List.set_cons_zero, List.set_cons_succ]
      refine wpAnyH_take (i := 3) (oi := { dst := _, op := _, type := _, pos := _, after := _, guard := _ }) (v := ?_) rfl (by kernel_rfl) (by kernel_rfl) (by kernel_rfl) (fun _ _ _ h => h) (Or.inl ⟨by rfl, ?_⟩) (by assumption) ?_
      rotate_left 1
      · intro w1 hS1
        try dsimp only at hS1
        go_simp
        try with_reducible rfl
      try simp only [Act.put, List.setIfInBounds_toArray, List.set_cons_zero, List.set_cons_succ]
      refine wpAnyH_take (i := 4) (oi := { dst := _, op := _, type := _, pos := _, after := _, guard := _ }) (v := ?_) rfl (by kernel_rfl) (by kernel_rfl) (by kernel_rfl) (fun _ _ _ h => h) (Or.inl ⟨by rfl, ?_⟩) (by assumption) ?_
      rotate_left 1
      · intro w1 hS1
        try dsimp only at hS1
        go_simp
        try with_reducible rfl
      try simp only [Act.put, List.setIfInBounds_toArray, List.set_cons_zero, List.set_cons_succ]
      refine wpAnyH_ready (rs := [2]) (by kernel_rfl) (by simp) ?_
      refine AllReadyH.cons (o := { dst := _, op := _, type := _, pos := _, after := _, guard := _ }) rfl (fun K hK => ?_) AllReadyH.nil
      go_simp
      refine hK.out _ _ ?_ (fun hHeld => ?_)
      · refine ⟨?_, ?_⟩ <;> first | (simp [*]; done) | (rw [World.cell?_setCell_far _ _ _ _ (by dsimp only; omega)]; simp [*]; done) | (rw [World.cell?_setCell_far _ _ _ _ (by dsimp only; omega), World.cell?_setCell_far _ _ _ _ (by dsimp only; omega)]; simp [*]; done)
      clear hK K
      try simp only [Act.put, List.setIfInBounds_toArray, List.set_cons_zero, List.set_cons_succ]
      refine wpAnyH_ready (rs := [5]) (by kernel_rfl) (by simp) ?_
      refine AllReadyH.cons (o := { dst := _, op := _, type := _, pos := _, after := _, guard := _ }) rfl (fun K hK => ?_) AllReadyH.nil
      go_simp
      (go_at_call 74; refine (HC.out _).mono ?_; rintro e w4 ⟨rfl, q, rfl⟩)
      refine hK.out _ _ ?_ (fun hHeld => ?_)
      · refine ⟨?_, ?_⟩ <;> first | (simp [*]; done) | (rw [World.cell?_setCell_far _ _ _ _ (by dsimp only; omega)]; simp [*]; done) | (rw [World.cell?_setCell_far _ _ _ _ (by dsimp only; omega), World.cell?_setCell_far _ _ _ _ (by dsimp only; omega)]; simp [*]; done)
      clear hK K
      try simp only [Act.put, List.setIfInBounds_toArray, List.set_cons_zero, List.set_cons_succ]
      refine wpAnyH_take (i := 6) (oi := { dst := _, op := _, type := _, pos := _, after := _, guard := _ }) (v := ?_) rfl (by kernel_rfl) (by kernel_rfl) (by kernel_rfl) (fun _ _ _ h => h) (Or.inl ⟨by rfl, ?_⟩) (by assumption) ?_
      rotate_left 1
      · intro w1 hS1
        try dsimp only at hS1
        go_simp
        try with_reducible rfl
      try simp only [Act.put, List.setIfInBounds_toArray, List.set_cons_zero, List.set_cons_succ]
      refine wpAnyH_take (i := 7) (oi := { dst := _, op := _, type := _, pos := _, after := _, guard := _ }) (v := ?_) rfl (by kernel_rfl) (by kernel_rfl) (by kernel_rfl) (fun _ _ _ h => h) (Or.inl ⟨by rfl, ?_⟩) (by assumption) ?_
      rotate_left 1
      · intro w1 hS1
        try dsimp only at hS1
        go_simp
        try with_reducible rfl
      try simp only [Act.put, List.setIfInBounds_toArray, List.set_cons_zero, List.set_cons_succ]
      refine wpAnyH_take (i := 8) (oi := { dst := _, op := _, type := _, pos := _, after := _, guard := _ }) (v := ?_) rfl (by kernel_rfl) (by kernel_rfl) (by kernel_rfl) (fun _ _ _ h => h) (Or.inl ⟨by rfl, ?_⟩) (by assumption) ?_
      rotate_left 1
      · intro w1 hS1
        try dsimp only at hS1
        go_simp
        try with_reducible rfl
      try simp only [Act.put, List.setIfInBounds_toArray, List.set_cons_zero, List.set_cons_succ]
      refine wpAnyH_take (i := 9) (oi := { dst := _, op := _, type := _, pos := _, after := _, guard := _ }) (v := ?_) rfl (by kernel_rfl) (by kernel_rfl) (by kernel_rfl) (fun _ _ _ h => h) (Or.inl ⟨by rfl, ?_⟩) (by assumption) ?_
      rotate_left 1
      · intro w1 hS1
        try dsimp only at hS1
        go_simp
        try with_reducible rfl
      try simp only [Act.put, List.setIfInBounds_toArray, List.set_cons_zero, List.set_cons_succ]
      refine wpAnyH_take (i := 10) (oi := { dst := _, op := _, type := _, pos := _, after := _, guard := _ }) (v := ?_) rfl (by kernel_rfl) (by kernel_rfl) (by kernel_rfl) (fun _ _ _ h => h) (Or.inl ⟨by rfl, ?_⟩) (by assumption) ?_
      rotate_left 1
      · intro w1 hS1
        try dsimp only at hS1
        go_simp
        try with_reducible rfl
      try simp only [Act.put, List.setIfInBounds_toArray, List.set_cons_zero, List.set_cons_succ]
      refine wpAnyH_ready (rs := [11]) (by kernel_rfl) (by simp) ?_
      refine AllReadyH.cons (o := { dst := _, op := _, type := _, pos := _, after := _, guard := _ }) rfl (fun K hK => ?_) AllReadyH.nil
      go_simp
      refine hK.out _ _ ?_ (fun hHeld => ?_)
      · refine ⟨?_, ?_⟩ <;> first | (simp [*]; done) | (rw [World.cell?_setCell_far _ _ _ _ (by dsimp only; omega)]; simp [*]; done) | (rw [World.cell?_setCell_far _ _ _ _ (by dsimp only; omega), World.cell?_setCell_far _ _ _ _ (by dsimp only; omega)]; simp [*]; done)
      clear hK K
      try simp only [Act.put, List.setIfInBounds_toArray, List.set_cons_zero, List.set_cons_succ]
      refine wpAnyH_ready (rs := [12]) (by kernel_rfl) (by simp) ?_
      refine AllReadyH.cons (o := { dst := _, op := _, type := _, pos := _, after := _, guard := _ }) rfl (fun K hK => ?_) AllReadyH.nil
      go_simp
      refine hK.out _ _ ?_ (fun hHeld => ?_)
      · refine ⟨?_, ?_⟩ <;> first | (simp [*]; done) | (rw [World.cell?_setCell_far _ _ _ _ (by dsimp only; omega)]; simp [*]; done) | (rw [World.cell?_setCell_far _ _ _ _ (by dsimp only; omega), World.cell?_setCell_far _ _ _ _ (by dsimp only; omega)]; simp [*]; done)
      clear hK K
      try simp only [Act.put, List.setIfInBounds_toArray, List.set_cons_zero, List.set_cons_succ]
      exact wpAnyH_done (by kernel_rfl) ⟨rfl, _, rfl⟩ _
    · skip
      rintro e a w' ⟨rfl, q, rfl⟩
      have hQ := HQ.out
      refine ⟨KeepsOthers.from ((⟨Nat.le_refl _, fun _ _ h _ => h⟩ : KeepsOthers V (V.drewN q)).trans ((KeepsOthers.setCell _ _ _).trans (KeepsOthers.setCell _ _ _))) _,
        KpB.trans (⟨⟨rfl, rfl, rfl, Nat.le_refl _, fun _ _ => rfl⟩, rfl⟩ : KpB _ _ V (V.drewN q)) (KpB.trans (KpB.set _ (by dsimp only; omega) (by dsimp only; omega) _) (KpB.set _ (by dsimp only; omega) (by dsimp only; omega) _)),
        zs.set x.val (W.divQ rest (lim xs x.val) d), W.divR rest (lim xs x.val) d, HH.out.round q x.val _ _, by rw [List.length_set]; exact HZ.out, HZD.out.set _ hQ.2.1 hQ.2.2.1, hQ.2.2.2.1, hQ.2.2.2.2, fun ho => ?_⟩
      rw [List.length_append] at ho ⊢
      obtain ⟨o1, o2⟩ := dn_split ho
      have := (HI.out o1).step (by have := HP.out; omega) HZ.out hd0
      rw [← o2] at this
      exact this
  case done =>
    rintro D pre V hD hS ⟨zs, rest, h, hzl, hzd, hr0, hr1, hI⟩ hK
    have hp := dn_full hS
    have hI := hI (by rw [hp]; exact hS)
    rw [hp] at hI
    unfold SInv at hI
    rw [Nat.sub_self, List.drop_zero, List.drop_zero] at hI
    have e1 : val B zs = val B xs / d := by rw [hI, Int.add_comm, Int.add_mul_ediv_right _ _ (by omega), Int.ediv_eq_zero_of_lt hr0 hr1]; omega
    have e2 : rest = val B xs % d := by rw [hI, Int.add_comm, Int.add_mul_emod_self_right, Int.emod_eq_of_lt hr0 hr1]
    have hrw : W.Wd rest := by unfold W.Wd at *; omega
    have hmax := hx.max
    have hcap := hx.cap
    unfold maxLen at hmax
    have hSl := h.arr.sl hzl (by unfold maxLen; omega) hzd
    have hnz := nn_le zs
    rw [hzl] at hnz
    have hsV := h.sz
    have E1 := Lib.hid e1
    have E2 := Lib.hid e2
    have HH := Lib.hid h
    have HZ := Lib.hid hzl
    have HZD := Lib.hid hzd
    have g2 := h.qb
    have g3 := h.rb
    have g4 := h.qf
    clear hI hst hsv hzl hzd hS h e1 e2
    go_wp2
    refine wp_region_held_drew (S := fun w' => w'.cell? ⟨w.heap.size + 1 + 1 + 1, 0, none⟩ = some (.int .u64 rest)) (by kernel_rfl) g3 (fun hHeld => ?_)
    refine wpAnyH_take (i := 2) (oi := { dst := _, op := _, type := _, pos := _, after := _, guard := _ }) (v := ?_) rfl (by kernel_rfl) (by kernel_rfl) (by kernel_rfl) (fun _ _ _ h => h) (Or.inl ⟨by rfl, ?_⟩) (by assumption) ?_
    rotate_left 1
    · intro w1 hS1
      try dsimp only at hS1
      go_simp
      try with_reducible rfl
    try simp only [Act.put, List.setIfInBounds_toArray, List.set_cons_zero, List.set_cons_succ]
    refine wpAnyH_ready (rs := [0]) (by kernel_rfl) (by simp) ?_
    refine AllReadyH.cons (o := { dst := _, op := _, type := _, pos := _, after := _, guard := _ }) rfl (fun K hK => ?_) AllReadyH.nil
    go_simp
    refine hK.out _ _ ?_ (fun hHeld => ?_)
    · simp [*]
    clear hK K
    try simp only [Act.put, List.setIfInBounds_toArray, List.set_cons_zero, List.set_cons_succ]
    refine wpAnyH_ready (rs := [1]) (by kernel_rfl) (by simp) ?_
    refine AllReadyH.cons (o := { dst := _, op := _, type := _, pos := _, after := _, guard := _ }) rfl (fun K hK => ?_) AllReadyH.nil
    go_simp
    (go_at_call 67; refine (qbare_any _ _ _ _ zs hSl.drew hn).mono ?_; rintro e w3 ⟨rfl, rfl⟩)
    refine hK.out _ _ ?_ (fun hHeld => ?_)
    · simp [*]
    clear hK K
    try simp only [Act.put, List.setIfInBounds_toArray, List.set_cons_zero, List.set_cons_succ]
    refine wpAnyH_ready (rs := [3]) (by kernel_rfl) (by simp) ?_
    refine AllReadyH.cons (o := { dst := _, op := _, type := _, pos := _, after := _, guard := _ }) rfl (fun K hK => ?_) AllReadyH.nil
    go_simp
    (go_at_call 29; refine (of_any _ rest hrw).mono ?_; rintro e w3 ⟨Ar, nr, cr, rfl, hnr, hor, hbr⟩)
    have k1 : w3.cell? ⟨w.heap.size + 1 + 1 + 1, 0, none⟩ = some (.int .u64 rest) := (hbr.cell (p := ⟨w.heap.size + 1 + 1 + 1, 0, none⟩) (by show w.heap.size + 1 + 1 + 1 < V.heap.size; omega)).trans g3
    have k2 := (hbr.cell (p := ⟨w.heap.size + 1, 0, none⟩) (by show w.heap.size + 1 < V.heap.size; omega)).trans g2
    have k3 := (hbr.frozen (p := ⟨w.heap.size + 1, 0, none⟩) (by show w.heap.size + 1 < V.heap.size; omega)).trans g4
    have HB := Lib.hid hbr
    have HO := Lib.hid hor
    clear hbr hor
    refine hK.out _ _ ?_ (fun hHeld => ?_)
    · exact k1
    clear hK K
    try simp only [Act.put, List.setIfInBounds_toArray, List.set_cons_zero, List.set_cons_succ]
    refine wpAnyH_ready (rs := [4]) (by kernel_rfl) (by simp) ?_
    refine AllReadyH.cons (o := { dst := _, op := _, type := _, pos := _, after := _, guard := _ }) rfl (fun K hK => ?_) AllReadyH.nil
    go_simp
    refine hK.out _ _ ?_ (fun hHeld => ?_)
    · rw [World.cell?_setCell_far _ _ _ _ (by dsimp only; omega)]; exact k1
    clear hK K
    try simp only [Act.put, List.setIfInBounds_toArray, List.set_cons_zero, List.set_cons_succ]
    refine wpAnyH_take (i := 5) (oi := { dst := _, op := _, type := _, pos := _, after := _, guard := _ }) (v := ?_) rfl (by kernel_rfl) (by kernel_rfl) (by kernel_rfl) (fun _ _ _ h => h) (Or.inl ⟨by rfl, ?_⟩) (by assumption) ?_
    rotate_left 1
    · intro w1 hS1
      try dsimp only at hS1
      go_simp
      try with_reducible rfl
    try simp only [Act.put, List.setIfInBounds_toArray, List.set_cons_zero, List.set_cons_succ]
    refine wpAnyH_done (by kernel_rfl) ?_ _
    go_wp2
    have hDV : D < V.heap.size := (Array.getElem?_eq_some_iff.1 hK).1
    rw [hsz] at hD
    have hK3 : w3.heap[D]? = some (.deferred (some [])) := (HB.out.block D hDV).trans hK
    have hK5 : (w3.setCell ⟨w.heap.size + 1, 0, none⟩ (.slice (some ⟨w.heap.size + 1 + 1, 0, none⟩) (nn zs) n)).heap[D]? = some (.deferred (some [])) := (Below.heap_setCell w3 _ _ D (by dsimp only; omega)).trans hK3
    refine ⟨by simp, .inl ⟨_, _, rfl, run_takeDeferred hK5, ?_⟩⟩
    have hc5 := cell_kept (World.cell?_setCell_same' w3 ⟨w.heap.size + 1, 0, none⟩ (.slice (some ⟨w.heap.size + 1 + 1, 0, none⟩) (nn zs) n) (by rw [k2]; rfl)) (grownBy_putObj' _ D (.deferred none)) (fun r e => by cases e; exact ⟨_, hK5, rfl⟩)
    have hg1 := grow_set w3 (w.heap.size + 1) 0 (.slice (some ⟨w.heap.size + 1 + 1, 0, none⟩) (nn zs) n)
    have hg2 := grownBy_putObj' (w3.setCell ⟨w.heap.size + 1, 0, none⟩ (.slice (some ⟨w.heap.size + 1 + 1, 0, none⟩) (nn zs) n)) D (.deferred none)
    have hA3 : Arr w3 (w.heap.size + 1 + 1) zs := HH.out.arr.drew.below HB.out (by show w.heap.size + 1 + 1 < V.heap.size; omega)
    have hbl := belowK_b (n₀ := w.heap.size + 5) (w := L) (by omega) _ D _ (.deferred none) (by omega) hK5 rfl rfl
    refine ⟨.tuple #[.slice (some ⟨w.heap.size + 1 + 1, 0, none⟩) (nn zs) n, .slice Ar nr cr], by simp [results, Tryd.f68, go_sem, hc5], _, _, _, _, _, _, rfl, hnz, hnr, ?_, ?_, ?_, ?_⟩
    · rw [← E1.out, limbs_of HZD.out]
      refine (⟨Arr.own (base := w.heap.size) (((hA3.far (by dsimp only; omega) _)).below hbl (by omega)) (by omega) HZ.out (by unfold maxLen; omega) hnz, HZD.out.take _⟩ : N.Own _ _ _ _ _ _)
    · rw [← E2.out]
      exact ((HO.out.keep hg1 (fun k e => by cases e; show w.heap.size + 1 < V.heap.size; omega)).keep hg2 (fun k e => by cases e; exact hDV)).mono (by show w.heap.size ≤ V.heap.size; omega)
    · intro g hg hg'
      cases hg
      have := (HO.out.row.lt _ (by rw [ownBlock_eq]; exact hg')).1
      have h9 : V.heap.size ≤ w.heap.size + 1 + 1 := this
      omega
    · exact ((HH.out.bl.drew.trans (HB.out.mono (by show w.heap.size ≤ V.heap.size; omega))).setCell (by dsimp only; omega) _).trans (hbl.mono (by omega))
  case stop =>
    rintro D c pre W _ _ h _
    exact h.elim
end Go.Proofs.YtbadbjmhmadbmaaDoor
