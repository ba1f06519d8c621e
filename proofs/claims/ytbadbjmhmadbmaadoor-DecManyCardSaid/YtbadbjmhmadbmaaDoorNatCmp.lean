/- What Cmp of layer 2 answers, over this translation. -/
import Derived.Test.YtbadbjmhmadbmaaDoorNatRange
import Derived.Test.YtbadbjmhmadbmaaDoorNatBare
import Derived.Test.YtbadbjmhmadbmaaDoorNatMath2
import Derived.Test.YtbadbjmhmadbmaaDoorNatCompare
import Derived.RangeFuncNested
import Derived.RangeFuncBound
import Derived.Deep.RegionWith
import Derived.Outline
namespace Go.Proofs.YtbadbjmhmadbmaaDoor
open Go.RowKit Go.Shelf
set_option linter.unusedVariables false
set_option maxRecDepth 20000
open N
namespace N
theorem val_of_lim (b : Int) {xs ys : List Int} (h : ∀ j, lim xs j = lim ys j) : val b xs = val b ys := by
  rw [← val_tr b xs, ← val_tr b ys]
  congr 1
  apply ext_lim
  · rw [tr_length, tr_length, nn_of_lim h]
  · intro j; rw [lim_tr, lim_tr]; exact h j
theorem lt_of_nn {xs ys : List Int} (hx : Dg B xs) (hy : Dg B ys) (h : nn xs < nn ys) : val B xs < val B ys := by
  have h1 := (limbs_len_le (val_nonneg (by decide) hx) (nn xs)).1 (by rw [← nn_limbs hx]; exact Nat.le_refl _)
  have h2 := (limbs_len_le (val_nonneg (by decide) hy) (nn xs))
  rw [← nn_limbs hy] at h2
  omega
theorem lt_of_place {b : Int} (hb : 0 < b) {xs ys : List Int} (hx : Dg b xs) (hy : Dg b ys) (i : Nat) (h : ∀ j, i < j → lim xs j = lim ys j) (hi : lim xs i < lim ys i) : val b xs < val b ys := by
  rw [val_split b xs (i + 1), val_split b ys (i + 1), lo_succ, lo_succ]
  have e : val b (xs.drop (i + 1)) = val b (ys.drop (i + 1)) := val_of_lim b (fun j => by rw [lim_drop, lim_drop]; exact h _ (by omega))
  rw [e]
  have h1 := lo_lt hb hx i
  have h2 := lo_lt hb hy i
  have h3 : (lim xs i + 1) * Q b i ≤ lim ys i * Q b i := Int.mul_le_mul_of_nonneg_right (by omega) (Int.le_of_lt (Q_pos hb i))
  rw [Int.add_mul, Int.one_mul] at h3
  omega
end N
attribute [local go_sem] Oper.semAt_some
theorem bare_in (n : Nat) (w : World) (A : Option Addr) (k c : Nat) (xs : List Int) (h : Sl w A k c xs) :
    CallsIn Fence.wide n Tryd.prog 40 #[.slice A k c] w fun e w' => e = .returned (.slice A (nn xs) c) ∧ w' = w := callsIn_wide.2 (bare_any w A k c xs h)
set_option maxRecDepth 100000 in
set_option maxHeartbeats 2000000 in
theorem ncmp_any (w : World) (A A' : Option Addr) (n c m d : Nat) (xs ys : List Int) (hx : Sl w A n c xs) (hy : Sl w A' m d ys) (hn : n ≤ 1099511627776) (hm : m ≤ 1099511627776) :
    Calls Tryd.prog 28 #[.slice A n c, .slice A' m d] w fun e w' => e = .returned (.int .i64 (cmpI (val B xs) (val B ys))) ∧ Below w.heap.size w w' := by
  have hro : Fence.wide.round = none := rfl
  have hfn : ∀ k, Fence.wide.fn k := fun _ => trivial
  refine calls_of_wp_q 6 Tryd.func28 rfl ?_
  simp only [Tryd.ntmps28, List.size_toArray, List.length_cons, List.length_nil, Nat.reduceAdd, Nat.reduceSub, Array.replicate_succ, Array.replicate_zero, List.push_toArray, List.append_toArray, List.nil_append, List.cons_append]
  have hX : Sl ((w.alloc (.cells #[.slice A' m d] 23)).alloc (.cells #[.int .i64 0] 3)) A n c xs := hx.below (((Below.refl _ w).alloc (Nat.le_refl _) _).alloc (by simp) _)
  have hY : Sl ((w.alloc (.cells #[.slice A' m d] 23)).alloc (.cells #[.int .i64 0] 3)) A' m d ys := hy.below (((Below.refl _ w).alloc (Nat.le_refl _) _).alloc (by simp) _)
  by_cases hne : nn xs = nn ys
  · have h5 : (((nn xs : Nat) : Int) != ((nn ys : Nat) : Int)) = false := by simp [hne]
    have HE := Lib.hid hne
    clear hne
    go_wp2
    go_region_with (first
      | (go_at_call_of 40 (Value.slice A n c); refine (bare_any _ A n c xs hX.drew).mono ?_; rintro e w3 ⟨rfl, rfl⟩)
      | (go_at_call_of 40 (Value.slice A' m d); refine (bare_any _ A' m d ys hY.drew).mono ?_; rintro e w3 ⟨rfl, rfl⟩))
    all_goals go_wp2_with (go_at_call 46; refine ((callsIn_wide (n := 5)).1 (back_in _ _ trivial rfl _ _ _ _)).mono ?_; rintro e w4 ⟨rfl, rfl⟩)
    all_goals
      obtain ⟨L, hL⟩ : ∃ L : World, L = (((w.alloc (.cells #[.slice A' (nn ys) d] 23)).alloc (.cells #[.int .i64 0] 3)).alloc (.cells #[.slice A (nn xs) c] 23)).drew := ⟨_, rfl⟩
      have hsz : L.heap.size = w.heap.size + 1 + 1 + 1 := by rw [hL]; simp
      have hBL : Below w.heap.size w L := by rw [hL]; exact ((((Below.refl _ w).alloc (Nat.le_refl _) _).alloc (by simp) _).alloc (by simp; omega) _).drew
      have c1 : L.cell? ⟨w.heap.size, 0, none⟩ = some (.slice A' (nn ys) d) ∧ L.cell? ⟨w.heap.size + 1, 0, none⟩ = some (.int .i64 0) ∧ L.frozen? ⟨w.heap.size + 1, 0, none⟩ = false ∧ L.cell? ⟨w.heap.size + 1 + 1, 0, none⟩ = some (.slice A (nn xs) c) := by
        rw [hL]; refine ⟨?_, ?_, ?_, ?_⟩ <;> go_simp
      rw [← hL]
      refine (wpIn_wide (n := 6)).1 ?_
      refine wpIn_rangeFunc_ownG (F := Fence.wide) (n := 6) hro (by omega) (gf := 63) (lb := #[.pointer (some ⟨w.heap.size + 1 + 1, 0, none⟩)]) rfl trivial (enters_of Tryd.func63 (by kernel_rfl) rfl)
        (back_stops Fence.wide 5 trivial rfl (by omega) (w.heap.size + 1 + 1) w.heap.size A (nn xs) c xs (by have := nn_le xs; have := hx.len; omega) L (by omega) hBL.size c1.2.2.2 ((hx.rd.below hBL).tr (by have := nn_le xs; have := hx.len; omega)))
        KpB.trans (KpB.put hBL.size (by omega)) (Below.refl _ _) (fun _ => rfl)
        (fun pre W => ((∀ p ∈ pre, lim ys p.val = lim xs p.val) ∧ W.cell? ⟨w.heap.size, 0, none⟩ = some (.slice A' (nn ys) d) ∧ W.cell? ⟨w.heap.size + 1, 0, none⟩ = some (.int .i64 0) ∧ W.frozen? ⟨w.heap.size + 1, 0, none⟩ = false) ∧ Below w.heap.size w W)
        (fun c pre W => (c = .ret ∧ ∃ ini last, pre = ini ++ [last] ∧ (∀ p ∈ ini, lim ys p.val = lim xs p.val) ∧ lim xs last.val ≠ lim ys last.val ∧ W.cell? ⟨w.heap.size + 1, 0, none⟩ = some (.int .i64 (cmpI (lim xs last.val) (lim ys last.val)))) ∧ Below w.heap.size w W)
        (OwnFrom.and (Own.from (fun s A B row hs hg hr => ⟨hs.1, cell_kept hs.2.1 hg hr, cell_kept hs.2.2.1 hg hr, (frozen_kept hs.2.2.1 hg hr).trans hs.2.2.2⟩) _) (ownFrom_below (Nat.le_refl _) (by omega)))
        (fun c => OwnFrom.and (Own.from (fun s A B row hs hg hr => by obtain ⟨hc, ini, last, e1, e2, e3, e4⟩ := hs; exact ⟨hc, ini, last, e1, e2, e3, cell_kept e4 hg hr⟩) _) (ownFrom_below (Nat.le_refl _) (by omega)))
        ⟨⟨by simp, c1.1, c1.2.1, c1.2.2.1⟩, hBL⟩
        (fun x => { tmps := #[.slice A (nn xs) c, .slice A' m d, undef, .pointer (some ⟨w.heap.size, 0, none⟩), .pointer (some ⟨w.heap.size + 1, 0, none⟩), .int .i64 ((x.val : Nat) : Int), .int .u64 (lim xs x.val), .slice A n c, .slice A (nn xs) c, .slice A' m d, .slice A' (nn ys) d,
          .slice A (nn xs) c, .int .i64 (nn xs : Nat), .slice A' (nn ys) d, .int .i64 (nn ys : Nat), .bool false, undef, undef, undef, undef, undef, .slice A (nn xs) c, .func (.func 63) #[] #[.pointer (some ⟨w.heap.size + 1 + 1, 0, none⟩)],
          .int .i64 ((x.val : Nat) : Int), .int .u64 (lim xs x.val), undef, undef, undef, undef, undef, undef, undef, undef, undef, undef, undef, undef], defers := [] }) ?assign ?body ?done ?stop
      case assign =>
        intro l x W K hK
        gi_wp2
        exact hK
      case body =>
        rintro l pre x W ⟨⟨hp, hcb, hcr, hfr⟩, hB⟩ _
        have hlen := hy.len
        have hcap := hy.cap
        have hnn := nn_le ys
        have hxl := x.2
        obtain ⟨ad, hA', _, hcy⟩ := (hy.rd.below hB) x.val (by have := HE.out; omega)
        have hxy : x.val < nn ys := by have := HE.out; omega
        have h1 : 1 ≤ 6 - 1 - 1 := by omega
        have HLn := Lib.hid hlen
        clear hlen
        rw [hA'] at hcb
        have HA := Lib.hid hA'
        clear hA'
        by_cases hq : lim xs x.val = lim ys x.val
        · have h6 : (lim xs x.val != lim ys x.val) = false := by simp [hq]
          have HQ := Lib.hid hq
          clear hq
          gi_wp2
          exact ⟨KeepsFrom.refl _ _, KpB.refl _ _ _, ⟨fun p hp' => (List.mem_append.1 hp').elim (hp p) (fun e => by simp at e; subst e; exact HQ.out.symm), by rw [HA.out]; exact hcb, hcr, hfr⟩, hB⟩
        · have h6 : (lim xs x.val != lim ys x.val) = true := by simp [hq]
          have HQ := Lib.hid hq
          clear hq
          gi_wp2_with (gi_at_call 47; refine (CallsIn.inRound l (callsIn_wide.2 (cmpU_any _ _ _))).mono ?_; rintro e w4 ⟨rfl, rfl⟩)
          exact ⟨(KeepsOthers.setCell _ _ _).from _, ⟨rfl, pre, x, rfl, hp, HQ.out, World.cell?_setCell_same' _ _ _ (by rw [hcr]; rfl)⟩, hB.setCell (p := ⟨w.heap.size + 1, 0, none⟩) (by simp) _⟩
      case done =>
        rintro D zs W hD hS ⟨⟨hall, hcb, hcr, hfr⟩, hB⟩ hK
        have HS := Lib.hid hS
        clear hS
        go_wp2
        have hK' := (KeepsOthers.setCell W ⟨w.heap.size + 1, 0, none⟩ (.int .i64 0)).same D _ hK rfl
        refine ⟨by simp, .inl ⟨_, _, rfl, run_takeDeferred hK', ?_⟩⟩
        have hc5 := cell_kept (World.cell?_setCell_same' W ⟨w.heap.size + 1, 0, none⟩ (.int .i64 0) (by rw [hcr]; rfl)) (grownBy_putObj' _ D (.deferred none)) (fun r e => by cases e; exact ⟨_, hK', rfl⟩)
        refine ⟨.int .i64 0, by simp [results, Tryd.f28, go_sem, hc5], ?_, (hB.setCell (p := ⟨w.heap.size + 1, 0, none⟩) (by simp) _).trans (belowK_b (w := w) (Nat.le_refl _) _ D _ _ (by omega) hK' rfl rfl)⟩
        have e : val B xs = val B ys := val_of_lim B (fun j => by
          by_cases hj : j < nn xs
          · obtain ⟨p, hp, e⟩ := of_dn HS.out (by omega) hj
            rw [← e]; exact (hall p hp).symm
          · rw [nn_zero xs j (by omega), nn_zero ys j (by have := HE.out; omega)])
        rw [cmpI_eq e]
      case stop =>
        rintro D c pre W hD ⟨k, hk, hS⟩ ⟨⟨rfl, ini, last, rfl, hall, hne, hcr⟩, hB⟩ hK
        have HS := Lib.hid hS
        clear hS
        gi_wp2
        refine ⟨by simp, .inl ⟨_, _, rfl, run_takeDeferred hK, ?_⟩⟩
        have hc5 := cell_kept hcr (grownBy_putObj' _ D (.deferred none)) (fun r e => by cases e; exact ⟨_, hK, rfl⟩)
        refine ⟨.int .i64 (cmpI (lim xs last.val) (lim ys last.val)), by simp [results, Tryd.f28, go_sem, hc5], ?_, hB.trans (belowK_b (w := w) (Nat.le_refl _) W D _ _ (by omega) hK rfl rfl)⟩
        have heq : ∀ j, last.val < j → lim xs j = lim ys j := fun j hj => by
          by_cases hjl : j < nn xs
          · obtain ⟨p, hp, e⟩ := dn_snoc HS.out hj hjl
            rw [← e]; exact (hall p hp).symm
          · rw [nn_zero xs j (by omega), nn_zero ys j (by have := HE.out; omega)]
        rcases Int.lt_or_gt_of_ne hne with h | h
        · rw [cmpI_lt h, cmpI_lt (lt_of_place (by decide) hx.dg hy.dg last.val heq h)]
        · rw [cmpI_gt h, cmpI_gt (lt_of_place (by decide) hy.dg hx.dg last.val (fun j hj => (heq j hj).symm) h)]
  · have h5 : (((nn xs : Nat) : Int) != ((nn ys : Nat) : Int)) = true := by simp; omega
    have HE := Lib.hid hne
    clear hne
    go_wp2
    go_region_with (first
      | (go_at_call_of 40 (Value.slice A n c); refine (bare_any _ A n c xs hX.drew).mono ?_; rintro e w3 ⟨rfl, rfl⟩)
      | (go_at_call_of 40 (Value.slice A' m d); refine (bare_any _ A' m d ys hY.drew).mono ?_; rintro e w3 ⟨rfl, rfl⟩))
    all_goals go_wp2_with (go_at_call 45; refine (cmpInt_any _ _ _).mono ?_; rintro e w4 ⟨rfl, rfl⟩)
    all_goals
      refine leave_q rfl (.int .i64 (cmpI (nn xs : Nat) (nn ys : Nat))) (by simp [results, Tryd.f28, go_sem]) ⟨?_, (((Below.refl _ w).alloc (Nat.le_refl _) _).alloc (by simp) _).drew⟩
      rcases Nat.lt_or_gt_of_ne HE.out with h | h
      · rw [cmpI_lt (by omega), cmpI_lt (lt_of_nn hx.dg hy.dg h)]
      · rw [cmpI_gt (by omega), cmpI_gt (lt_of_nn hy.dg hx.dg h)]
end Go.Proofs.YtbadbjmhmadbmaaDoor
