/- What Shr of layer 2 answers, over this translation. -/
import Derived.Test.YtbjhfnkdflnnoaaNatShl
import Derived.Test.YtbjhfnkdflnnoaaNatRange
import Derived.Test.YtbjhfnkdflnnoaaNatCmp
import Derived.Test.YtbjhfnkdflnnoaaNatShrMath
import Derived.RangeFuncNested
import Derived.RangeFuncBound
import Derived.RegionIn
import Derived.Laws.EntriesVeiled
import Derived.Shelf.RegionOpen
import Derived.Deep.RegionWith
namespace Go.Proofs.Ytbjhfnkdflnnoaa
open Go.RowKit Go.Shelf
set_option linter.unusedVariables false
open N
attribute [local go_sem] Oper.semAt_some
theorem shr1_any (w : World) (br : Nat) (x y c r : Int) (hx : W.Wd x) (hc : W.Wd c) (h0 : 0 ≤ r) (h1 : r < 64) (h : w.cell? ⟨br, 0, none⟩ = some (.int .i64 r)) :
    Calls Try.prog 64 #[.int .u64 x, .int .u64 y, .int .u64 c, .pointer (some ⟨br, 0, none⟩)] w fun e w' =>
      e = .returned (.tuple #[.int .u64 (W.shr c x r), .int .u64 x]) ∧ ∃ k, w' = w.drewN k := by
  go_enter Try.func64, Try.ntmps64
  go_wp2_with (go_at_call 65; refine (shr_yes _ _ _ hc hx h0 (by omega) _).mono ?_; rintro e w' ⟨rfl, k, rfl⟩)
  go_ret2
  exact ⟨rfl, _, rfl⟩
theorem carry_shr (w : World) (b1 b2 br : Nat) (x y c r : Int) (hx : W.Wd x) (hc : W.Wd c) (h0 : 0 ≤ r) (h1 : r < 64)
    (h : w.cell? ⟨br, 0, none⟩ = some (.int .i64 r)) (g1 : w.cell? ⟨b1, 0, none⟩ = some (.func (.func 64) #[] #[.pointer (some ⟨br, 0, none⟩)])) (g2 : w.cell? ⟨b2, 0, none⟩ = some (.int .u64 c)) (hf : w.frozen? ⟨b2, 0, none⟩ = false) :
    Calls Try.prog 75 #[.int .u64 x, .int .u64 y, .pointer (some ⟨b1, 0, none⟩), .pointer (some ⟨b2, 0, none⟩)] w fun e w' =>
      e = .returned (.int .u64 (W.shr c x r)) ∧ ∃ k, w' = (w.setCell ⟨b2, 0, none⟩ (.int .u64 x)).drewN k := by
  go_enter Try.func75, Try.ntmps75
  go_wp2_with (go_at_call 64; refine (shr1_any _ br x y c r hx hc h0 h1 h).mono ?_; rintro e w' ⟨rfl, k, rfl⟩)
  go_ret
  exact ⟨rfl, k, rfl⟩
abbrev ShrF (S : Nat) : Value := .func (.func 64) #[] #[.pointer (some ⟨S, 0, none⟩)]
abbrev ShrK (S : Nat) : Value := .func (.func 75) #[] #[.pointer (some ⟨S + 1 + 1 + 1, 0, none⟩), .pointer (some ⟨S + 1 + 1 + 1 + 1, 0, none⟩)]
/-- the blocks of a shift to the right, from block S on -/
structure ShrSt (w : World) (S ln r : Nat) (zs : List Int) (c : Int) (W : World) : Prop where
  arr : Arr W (S + 1) zs
  rb : W.cell? ⟨S, 0, none⟩ = some (.int .i64 r)
  sb : W.cell? ⟨S + 1 + 1, 0, none⟩ = some (.slice (some ⟨S + 1, 0, none⟩) ln ln)
  fb : W.cell? ⟨S + 1 + 1 + 1, 0, none⟩ = some (ShrF S)
  cb : W.cell? ⟨S + 1 + 1 + 1 + 1, 0, none⟩ = some (.int .u64 c)
  fz : W.frozen? ⟨S + 1 + 1 + 1 + 1, 0, none⟩ = false
  kb : W.cell? ⟨S + 1 + 1 + 1 + 1 + 1, 0, none⟩ = some (ShrK S)
  bl : Below S w W
  sz : S + 7 ≤ W.heap.size
theorem ShrSt.below {w : World} {S ln r : Nat} {zs : List Int} {c : Int} {W W' : World} (h : ShrSt w S ln r zs c W) (hb : Below (S + 7) W W') : ShrSt w S ln r zs c W' :=
  ⟨h.arr.below hb (by omega), (hb.cell (p := ⟨S, 0, none⟩) (by show S < S + 7; omega)).trans h.rb, (hb.cell (p := ⟨S + 1 + 1, 0, none⟩) (by show S + 1 + 1 < S + 7; omega)).trans h.sb,
   (hb.cell (p := ⟨S + 1 + 1 + 1, 0, none⟩) (by show S + 1 + 1 + 1 < S + 7; omega)).trans h.fb, (hb.cell (p := ⟨S + 1 + 1 + 1 + 1, 0, none⟩) (by show S + 1 + 1 + 1 + 1 < S + 7; omega)).trans h.cb,
   (hb.frozen (p := ⟨S + 1 + 1 + 1 + 1, 0, none⟩) (by show S + 1 + 1 + 1 + 1 < S + 7; omega)).trans h.fz, (hb.cell (p := ⟨S + 1 + 1 + 1 + 1 + 1, 0, none⟩) (by show S + 1 + 1 + 1 + 1 + 1 < S + 7; omega)).trans h.kb,
   h.bl.trans (hb.mono (by omega)), Nat.le_trans h.sz hb.size⟩
theorem ShrSt.carry {w : World} {S ln r : Nat} {zs : List Int} {c : Int} {W : World} (h : ShrSt w S ln r zs c W) (c' : Int) : ShrSt w S ln r zs c' (W.setCell ⟨S + 1 + 1 + 1 + 1, 0, none⟩ (.int .u64 c')) := by
  have ne : ∀ b : Nat, b ≠ S + 1 + 1 + 1 + 1 → ∀ v, W.cell? ⟨b, 0, none⟩ = some v → (W.setCell ⟨S + 1 + 1 + 1 + 1, 0, none⟩ (.int .u64 c')).cell? ⟨b, 0, none⟩ = some v := fun b hb v hv =>
    (World.cell?_setCell_other _ _ _ _ (fun e => hb (congrArg Addr.block e).symm)).trans hv
  exact ⟨h.arr.far (by show S + 1 ≠ S + 1 + 1 + 1 + 1; omega) _, ne _ (by omega) _ h.rb, ne _ (by omega) _ h.sb, ne _ (by omega) _ h.fb, World.cell?_setCell_same' _ _ _ (by rw [h.cb]; rfl), by rw [World.frozen?_setCell]; exact h.fz,
    ne _ (by omega) _ h.kb, h.bl.setCell (by show S ≤ S + 1 + 1 + 1 + 1; omega) _, by rw [World.size_setCell]; exact h.sz⟩
theorem ShrSt.store {w : World} {S ln r : Nat} {zs : List Int} {c : Int} {W : World} (h : ShrSt w S ln r zs c W) (k : Nat) (v : Int) : ShrSt w S ln r (zs.set k v) c (W.setCell ⟨S + 1, k, none⟩ (.int .u64 v)) := by
  have ne : ∀ b : Nat, b ≠ S + 1 → ∀ u, W.cell? ⟨b, 0, none⟩ = some u → (W.setCell ⟨S + 1, k, none⟩ (.int .u64 v)).cell? ⟨b, 0, none⟩ = some u := fun b hb u hu =>
    (World.cell?_setCell_other _ _ _ _ (fun e => hb (congrArg Addr.block e).symm)).trans hu
  exact ⟨h.arr.set k v, ne _ (by omega) _ h.rb, ne _ (by omega) _ h.sb, ne _ (by omega) _ h.fb, ne _ (by omega) _ h.cb, by rw [World.frozen?_setCell]; exact h.fz,
    ne _ (by omega) _ h.kb, h.bl.setCell (by show S ≤ S + 1; omega) _, by rw [World.size_setCell]; exact h.sz⟩
theorem ShrSt.drewN {w : World} {S ln r : Nat} {zs : List Int} {c : Int} {W : World} (h : ShrSt w S ln r zs c W) (k : Nat) : ShrSt w S ln r zs c (W.drewN k) := ⟨h.arr, h.rb, h.sb, h.fb, h.cb, h.fz, h.kb, ⟨h.bl.os, h.bl.tape, h.bl.output, h.bl.size, h.bl.block⟩, h.sz⟩
theorem ShrSt.drew {w : World} {S ln r : Nat} {zs : List Int} {c : Int} {W : World} (h : ShrSt w S ln r zs c W) : ShrSt w S ln r zs c W.drew := ⟨h.arr, h.rb, h.sb, h.fb, h.cb, h.fz, h.kb, h.bl.drew, h.sz⟩
theorem keeps_two (V : World) (p p' : Addr) (u u' : Value) (k : Nat) : KeepsOthers V (((V.setCell p u).drewN k).setCell p' u') :=
  (KeepsOthers.setCell V p u).trans (KeepsOthers.trans (⟨Nat.le_refl _, fun _ _ h _ => h⟩ : KeepsOthers (V.setCell p u) ((V.setCell p u).drewN k)) (KeepsOthers.setCell _ _ _))
theorem KpB.two {n₀ Bs : Nat} (V : World) {p p' : Addr} (h : n₀ ≤ p.block) (hB : Bs ≠ p.block) (h' : n₀ ≤ p'.block) (hB' : Bs ≠ p'.block) (u u' : Value) (k : Nat) : KpB n₀ Bs V (((V.setCell p u).drewN k).setCell p' u') :=
  (KpB.set V h hB u).trans (KpB.trans (⟨⟨rfl, rfl, rfl, Nat.le_refl _, fun _ _ => rfl⟩, rfl⟩ : KpB n₀ Bs (V.setCell p u) ((V.setCell p u).drewN k)) (KpB.set _ h' hB' u'))
theorem ownFrom_of_below {β : Type} {B : Nat} {I : β → World → Prop} (h : ∀ s W W', I s W → Below B W W' → I s W') (hs : ∀ s W, I s W → B ≤ W.heap.size) : OwnFrom B I :=
  fun s W W' row hi hg hr => h s W W' hi ⟨hg.os, hg.tape, hg.output, hg.size, fun k hk => hg.block k (Nat.lt_of_lt_of_le hk (hs s W hi)) (fun e => by have := (hr k e.symm).1; omega)⟩
theorem ShrSt.start (w : World) (ln r : Nat) (V : Value) (L : World)
    (hL : L = ((((((w.alloc (.cells #[.int .i64 r] 3)).alloc (.cells (madeCells #[.int .u64 0] ln) 40)).alloc (.cells #[.slice (some ⟨w.heap.size + 1, 0, none⟩) ln ln] 23)).alloc (.cells #[ShrF w.heap.size] 62)).alloc
      (.cells #[.int .u64 0] 40)).alloc (.cells #[ShrK w.heap.size] 58)).alloc (.cells #[V] 23)) :
    ShrSt w w.heap.size ln r (List.replicate ln 0) 0 L ∧ L.cell? ⟨w.heap.size + 1 + 1 + 1 + 1 + 1 + 1, 0, none⟩ = some V ∧ L.heap.size = w.heap.size + 7 := by
  refine ⟨⟨?_, ?_, ?_, ?_, ?_, ?_, ?_, ?_, ?_⟩, ?_, ?_⟩
  · have := Arr.made (w.alloc (.cells #[.int .i64 r] 3)) ln
    rw [World.size_alloc] at this
    rw [hL]
    exact ((((this.alloc _).alloc _).alloc _).alloc _).alloc _
  all_goals first
    | (rw [hL]; simp; done)
    | (rw [hL]; go_simp; done)
    | (rw [hL]; exact (((((((Below.refl _ w).alloc (Nat.le_refl _) _).alloc (by simp) _).alloc (by simp; omega) _).alloc (by simp; omega) _).alloc (by simp; omega) _).alloc (by simp; omega) _).alloc (by simp; omega) _)
set_option maxRecDepth 100000 in
set_option maxHeartbeats 2000000 in
theorem nshr_any (w : World) (A : Option Addr) (n c : Nat) (xs : List Int) (hx : Sl w A n c xs) (hn : n ≤ 1099511627776) (m : Int) (h0 : 0 ≤ m) (h1 : m ≤ 65536) :
    Calls Try.prog 34 #[.slice A n c, .int .i64 m] w (Out2 w n (val B xs / 2 ^ m.toNat) 0) := by
  have hnx := nn_le xs
  rw [hx.len] at hnx
  obtain ⟨wh, hwh⟩ : ∃ wh : Nat, m / 64 = (wh : Int) := ⟨(m / 64).toNat, by omega⟩
  obtain ⟨r, hr⟩ : ∃ r : Nat, m % 64 = (r : Int) := ⟨(m % 64).toNat, by omega⟩
  have hr64 : r < 64 := by omega
  have hwl : wh ≤ 1024 := by omega
  have HM := Lib.hid (by omega : m = 64 * wh + r)
  by_cases hle : nn xs ≤ wh
  · have e0 := val_lt_nn hx.dg hle
    have e1 : val B xs / 2 ^ m.toNat = 0 := by
      refine Int.ediv_eq_zero_of_lt (val_nonneg (by decide) hx.dg) ?_
      rw [Q_two] at e0
      have e2 : (2 : Int) ^ (64 * wh) ≤ 2 ^ m.toNat := by rw [← W.cast_pow, ← W.cast_pow]; exact Int.ofNat_le.2 (Nat.pow_le_pow_right (by omega) (by have := HM.out; omega))
      omega
    have HE := Lib.hid e1
    clear e0 e1
    go_enter Try.func34, Try.ntmps34
    go_wp2_with (first
      | (go_at_call 58; refine (nwithin_yes _ h0 h1 _).mono ?_; rintro e w' ⟨rfl, rfl⟩)
      | (go_at_call 50; refine (bare_any _ _ _ _ xs hx).mono ?_; rintro e w' ⟨rfl, rfl⟩))
    go_ret2
    refine ⟨none, 0, 0, rfl, by omega, ?_, (Below.refl _ _).alloc (Nat.le_refl _) _⟩
    rw [HE.out, limbs_zero]
    exact Own.nil_ _ _
  · obtain ⟨ln, hln⟩ : ∃ ln : Nat, nn xs - wh = ln := ⟨_, rfl⟩
    have hcap := hx.cap
    have hmax := hx.max
    unfold maxLen at hmax
    obtain ⟨ad, rfl, _, _⟩ := hx.cell (k := wh) (by omega)
    have hmk : ∀ W : World, (Instr.makeSlice 23 (.int .i64 (ln : Nat)) (.int .i64 (ln : Nat))).run Try.prog W = .ok (.slice (some ⟨W.heap.size, 0, none⟩) ln ln) (W.alloc (.cells (madeCells #[.int .u64 0] ln) 40)) := fun W => make_run _ slNat ln (by omega) W
    have hro : Fence.wide.round = none := rfl
    refine calls_of_wp_q 6 Try.func34 rfl ?_
    simp only [Try.ntmps34, List.size_toArray, List.length_cons, List.length_nil, Nat.reduceAdd, Nat.reduceSub, Array.replicate_succ, Array.replicate_zero, List.push_toArray, List.append_toArray, List.nil_append, List.cons_append]
    go_wp2_with (first
      | (go_at_call 58; refine (nwithin_yes _ h0 h1 _).mono ?_; rintro e w' ⟨rfl, rfl⟩)
      | (go_at_call 50; refine (bare_any _ _ _ _ xs hx).mono ?_; rintro e w' ⟨rfl, rfl⟩)
      | (go_at_call 54; refine (carrying_any _ _ _).mono ?_; rintro e w2 ⟨rfl, rfl⟩)
      | (go_at_call 52; refine ((callsIn_wide (n := 5)).1 (back_in _ _ trivial rfl _ _ _ _)).mono ?_; rintro e w4 ⟨rfl, rfl⟩))
    obtain ⟨L, hL⟩ : ∃ L : World, L = ((((((w'.alloc (.cells #[.int .i64 r] 3)).alloc (.cells (madeCells #[.int .u64 0] ln) 40)).alloc (.cells #[.slice (some ⟨w'.heap.size + 1, 0, none⟩) ln ln] 23)).alloc (.cells #[ShrF w'.heap.size] 62)).alloc
      (.cells #[.int .u64 0] 40)).alloc (.cells #[ShrK w'.heap.size] 58)).alloc (.cells #[.slice (some (ad.add wh)) ln (c - wh)] 23) := ⟨_, rfl⟩
    obtain ⟨hst, hsv, hsz⟩ := ShrSt.start w' ln r _ L hL
    rw [← hL]
    have HLn := Lib.hid hln
    clear hln hL hmk
    have hRd : Rd w'.heap.size w' (some (ad.add wh)) ln (xs.drop wh) := fun k hk => by
      have e0 := HLn.out
      obtain ⟨ad', e1, e2, e3⟩ := hx.cell (k := wh + k) (by omega)
      cases e1
      exact ⟨_, rfl, by rw [add_block]; exact e2, by rw [add_add, lim_drop]; exact e3⟩
    have hDy : Dg B (xs.drop wh) := hx.dg.drop wh
    refine (wpIn_wide (n := 6)).1 ?_
    refine wpIn_rangeFunc_ownG (F := Fence.wide) (n := 6) hro (by omega) (gf := 73) (lb := #[.pointer (some ⟨w'.heap.size + 1 + 1 + 1 + 1 + 1 + 1, 0, none⟩)]) rfl trivial (enters_of Try.func73 (by kernel_rfl) rfl)
      (back_stops Fence.wide 5 trivial rfl (by omega) (w'.heap.size + 1 + 1 + 1 + 1 + 1 + 1) w'.heap.size (some (ad.add wh)) ln (c - wh) (xs.drop wh) (by have := HLn.out; omega) L (by omega) hst.bl.size hsv (hRd.below hst.bl))
      KpB.trans (KpB.put hst.bl.size (by omega)) (Below.refl _ _) (fun _ => rfl)
      (fun pre W => ShrSt w' w'.heap.size ln r (st (xs.drop wh) r ln pre).1 (st (xs.drop wh) r ln pre).2 W)
      (fun _ _ _ => False)
      (ownFrom_of_below (fun s W W' h hb => h.below (by rw [hsz] at hb; exact hb)) (fun s W h => by rw [hsz]; exact h.sz))
      (fun _ _ _ _ _ hs _ _ => hs)
      hst
      (fun x => { tmps := #[.slice (some (ad.add wh)) ln (c - wh), .int .i64 m, undef, undef, .slice none 0 0, .int .i64 0, .int .i64 wh, .pointer (some ⟨w'.heap.size, 0, none⟩), .pointer (some ⟨w'.heap.size + 1 + 1, 0, none⟩), .pointer (some ⟨w'.heap.size + 1 + 1 + 1 + 1 + 1, 0, none⟩),
        .int .i64 ((x.val : Nat) : Int), .int .u64 (lim (xs.drop wh) x.val), .int .i64 m, .bool true, .bool false, .slice (some ad) n c, .slice (some ad) (nn xs) c, .int .i64 m, .int .i64 wh, .int .i64 m, .int .i64 r, .int .i64 wh, .slice (some ad) (nn xs) c, .int .i64 (nn xs : Nat), .bool false,
        .slice (some ad) (nn xs) c, .int .i64 wh, .slice (some (ad.add wh)) ln (c - wh), .slice (some (ad.add wh)) ln (c - wh), .int .i64 ln, .slice (some ⟨w'.heap.size + 1, 0, none⟩) ln ln, ShrF w'.heap.size, ShrK w'.heap.size, .slice (some (ad.add wh)) ln (c - wh),
        .func (.func 73) #[] #[.pointer (some ⟨w'.heap.size + 1 + 1 + 1 + 1 + 1 + 1, 0, none⟩)], .int .i64 ((x.val : Nat) : Int), .int .u64 (lim (xs.drop wh) x.val), undef, undef, undef, undef, undef, undef, undef, undef], defers := [] }) ?assign ?body ?done ?stop
    case assign =>
      intro l x W K hK
      gi_wp2
      exact hK
    case body =>
      rintro l pre x V h _
      have hok := st_ok' hDy r ln pre
      have hxk : W.Wd (lim (xs.drop wh) x.val) := hDy.lim (by decide) _
      have hck := hok.2.2
      have hxl := x.2
      have h2 : 1 ≤ 6 - 1 - 1 := by omega
      have hmx : Try.prog.follows .mixedOrders = true := by kernel_rfl
      have hcell : V.cell? ⟨w'.heap.size + 1, x.val, none⟩ = some (.int .u64 (lim (st (xs.drop wh) r ln pre).1 x.val)) := h.arr.cell (by rw [hok.1]; exact x.2)
      have C1 := h.carry (lim (xs.drop wh) x.val)
      have hcell1 := C1.arr.cell (k := x.val) (by rw [hok.1]; exact x.2)
      have hfz1 := C1.arr.frozen x.val
      have g1 := h.rb
      have g2 := h.sb
      have g3 := h.fb
      have g4 := h.cb
      have g5 := h.fz
      have g6 := h.kb
      have HO := Lib.hid hok
      clear hok
      have HC := Lib.hid (carry_shr V.drew (w'.heap.size + 1 + 1 + 1) (w'.heap.size + 1 + 1 + 1 + 1) w'.heap.size (lim (xs.drop wh) x.val) 0 (st (xs.drop wh) r ln pre).2 r hxk hck (by omega) (by omega) g1 g3 g4 g5)
      clear hRd hst hsv h hwh hr hle hxl
      gi_wp2
      gi_region_with_o ((with_reducible refine And.intro ?_ ?_); exact trivial; gi_at_call 75; with_reducible refine (CallsIn.inRound l (callsIn_wide.2 HC.out)).mono ?_; rintro e w4 ⟨rfl, q, rfl⟩)
      all_goals gi_wp2
      all_goals
        have hf := ((C1.drewN (1 + q)).store x.val (W.shr (st (xs.drop wh) r ln pre).2 (lim (xs.drop wh) x.val) r))
        refine ⟨KeepsOthers.from ?_ _, ?_, by show ShrSt _ _ _ _ (st (xs.drop wh) r ln (pre ++ [x])).1 (st (xs.drop wh) r ln (pre ++ [x])).2 _; rw [st_snoc]; exact hf⟩
        · exact keeps_two V _ _ _ _ _
        · exact KpB.two V (p := ⟨w'.heap.size + 1 + 1 + 1 + 1, 0, none⟩) (p' := ⟨w'.heap.size + 1, x.val, none⟩) (by show w'.heap.size ≤ w'.heap.size + 1 + 1 + 1 + 1; omega) (by show w'.heap.size + 1 + 1 + 1 + 1 + 1 + 1 ≠ w'.heap.size + 1 + 1 + 1 + 1; omega) (by show w'.heap.size ≤ w'.heap.size + 1; omega) (by show w'.heap.size + 1 + 1 + 1 + 1 + 1 + 1 ≠ w'.heap.size + 1; omega) _ _ _
    case done =>
      rintro D zs' V hD hS h hK
      have hok := st_ok' hDy r ln zs'
      have hE := shr_done hDy r hr64 ln (fun j hj => by rw [lim_drop]; exact nn_zero xs _ (by have := HLn.out; omega)) zs' hS
      rw [← (val_div (by decide) hx.dg wh).1, Q_two, Int.ediv_ediv_of_nonneg (Int.le_of_lt (W.pow_pos _)), ← Int.pow_add, show 64 * wh + r = m.toNat by have := HM.out; omega] at hE
      have hSl := h.arr.sl hok.1 (by unfold maxLen; have := HLn.out; omega) hok.2.1
      have hnz := nn_le (st (xs.drop wh) r ln zs').1
      rw [hok.1] at hnz
      have HE := Lib.hid hE
      have HO := Lib.hid hok
      have HS := Lib.hid hS
      have g2 := h.sb
      clear hE hok hS
      go_wp2_with (go_at_call 50; refine (bare_any _ _ _ _ _ hSl).mono ?_; rintro e w3 ⟨rfl, rfl⟩)
      refine ⟨by simp, .inl ⟨_, _, rfl, run_takeDeferred hK, ?_⟩⟩
      have hbl := belowK_b (n₀ := L.heap.size) (w := L) (Nat.le_refl _) _ D _ (.deferred none) hD hK rfl rfl
      have h' := h.below (by rw [hsz] at hbl; exact hbl)
      refine ⟨_, results_tmp2 rfl _ _ _, ⟨_, _, _, rfl, by have := HLn.out; omega, ?_, h'.bl⟩⟩
      rw [← HE.out, limbs_of HO.out.2.1]
      exact ⟨h'.arr.own (by omega) HO.out.1 (by unfold maxLen; have := HLn.out; omega) hnz, HO.out.2.1.take _⟩
    case stop =>
      rintro D c pre W _ _ h _
      exact h.elim
end Go.Proofs.Ytbjhfnkdflnnoaa
