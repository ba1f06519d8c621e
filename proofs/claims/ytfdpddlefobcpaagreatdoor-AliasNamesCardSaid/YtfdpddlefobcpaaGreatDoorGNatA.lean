/- Gathered: NatTell, NatSame, NatCarry, NatAdd, NatRange, NatCompare, NatCmp. -/
import Derived.Test.YtfdpddlefobcpaaGreatDoorGMem
import Derived.Test.YtfdpddlefobcpaaGreatDoorGMath
import Derived.Deep.QuietTactic
import Derived.BigQuiet
import Derived.RangeFuncBox
import Derived.RangeFuncLeaves
import Derived.RangeFuncFrom
import Derived.RangeFuncWrites
import Derived.RangeFuncCalls
import Derived.Shelf.Abstract
import Derived.Shelf.RegionOpen
import Derived.WalkKit
import Derived.OwnWalkIn
import Derived.TacticsInMore
import Derived.LoopNIn
import Derived.LoopIn
import Derived.RangeFuncNested
import Derived.RangeFuncBound
import Derived.Deep.RegionWith
import Derived.Outline
/- What Trim, Of, Small, Zero, Len and Bit of layer 2 answer, over this translation. -/
namespace Go.Proofs.YtfdpddlefobcpaaGreatDoor
open Go.RowKit
set_option linter.unusedVariables false
set_option maxRecDepth 20000
open N
theorem trim_any (w : World) (A : Option Addr) (n c : Nat) (xs : List Int) (h : Sl w A n c xs) (hn : n ≤ 1099511627776) :
    Calls Tryz.prog 82 #[.slice A n c] w (Out w n (val B xs)) := by
  have hnn := nn_le xs
  have HL := Lib.hid h.len
  rw [h.len] at hnn
  go_enter Tryz.func82, Tryz.ntmps82
  go_wp2_with (first
    | (go_at_call 95; refine (bare_any _ _ _ _ xs h).mono ?_; rintro e w' ⟨rfl, rfl⟩)
    | (at_builtin; refine wp_app rfl _ _ _ rfl slNat w'.heap.size rfl (Own.nil_ _ _) rfl h.tr (by omega) (by omega) (Nat.le_refl _) ?_; intro A2 c2 w2 hown _ _ hb))
  go_ret
  refine ⟨A2, _, c2, rfl, by omega, ?_, hb⟩
  rw [limbs_of h.dg]
  simpa using hown
theorem Out.lift {W W' : World} {m : Nat} {r : Int} (hb : Below W.heap.size W W') {e : Ending} {w' : World} (h : Out W' m r e w') : Out W m r e w' := by
  obtain ⟨A, n, c, he, hn, ho, hb'⟩ := h
  exact ⟨A, n, c, he, hn, ho.mono hb.size, hb.trans (hb'.mono hb.size)⟩
theorem Out2.lift {W W' : World} {m : Nat} {r k : Int} (hb : Below W.heap.size W W') {e : Ending} {w' : World} (h : Out2 W' m r k e w') : Out2 W m r k e w' := by
  obtain ⟨A, n, c, he, hn, ho, hb'⟩ := h
  exact ⟨A, n, c, he, hn, ho.mono hb.size, hb.trans (hb'.mono hb.size)⟩
theorem Sl.lit (w : World) (xs : List Int) (cs : Array Value) (n : Nat) (h : cs = (uv xs).toArray) (hd : Dg B xs) (hn : xs.length = n) (hm : n ≤ 1099511627776) : Sl (w.alloc (.cells cs 72)) (some ⟨w.heap.size, 0, none⟩) n n xs :=
  (Arr.lit w xs cs h).sl hn (by unfold maxLen; omega) hd
theorem of_any (w : World) (x : Int) (hx : W.Wd x) :
    Calls Tryz.prog 56 #[.int .u64 x] w (Out w 1 x) := by
  have hs := Sl.lit w [x] #[.int .u64 x] 1 rfl (Dg.one hx.1 hx.2) rfl (by omega)
  go_enter Tryz.func56, Tryz.ntmps56
  go_wp2_with (go_at_call 82; refine (trim_any _ _ _ _ _ hs (by omega)).mono ?_; rintro e w' ⟨A, n, c, rfl, hn, ho, hb⟩)
  go_ret
  refine Out.lift ((Below.refl _ w).alloc (Nat.le_refl _) _) ⟨A, n, c, rfl, hn, ?_, hb⟩
  simpa [val] using ho
theorem zero_yes (w : World) (A : Option Addr) (n c : Nat) (xs : List Int) (h : Sl w A n c xs) (hv : val B xs = 0) :
    Calls Tryz.prog 79 #[.slice A n c] w fun e w' => e = .returned (.bool true) ∧ w' = w := by
  have h1 := (nn_zero_iff h.dg).2 hv
  have HV := Lib.hid hv
  clear hv
  have h2 : (((nn xs : Nat) : Int) == 0) = true := by simp [h1]
  have H1 := Lib.hid h1
  clear h1
  go_enter Tryz.func79, Tryz.ntmps79
  go_wp2_with (first
    | (go_at_call 95; refine (bare_any _ _ _ _ xs h).mono ?_; rintro e w' ⟨rfl, rfl⟩))
  go_ret
  exact ⟨retb (by simp), rfl⟩
theorem zero_no (w : World) (A : Option Addr) (n c : Nat) (xs : List Int) (h : Sl w A n c xs) (hv : 0 < val B xs) :
    Calls Tryz.prog 79 #[.slice A n c] w fun e w' => e = .returned (.bool false) ∧ w' = w := by
  have h1 : 0 < nn xs := by have := nn_zero_iff h.dg; omega
  go_enter Tryz.func79, Tryz.ntmps79
  go_wp2_with (first
    | (go_at_call 95; refine (bare_any _ _ _ _ xs h).mono ?_; rintro e w' ⟨rfl, rfl⟩))
  go_ret
  exact ⟨retb (by simp; omega), rfl⟩
theorem nlen_any (w : World) (A : Option Addr) (n c : Nat) (xs : List Int) (h : Sl w A n c xs) (hn : n ≤ 1099511627776) :
    Calls Tryz.prog 140 #[.slice A n c] w fun e w' => e = .returned (.int .i64 (W.len (val B xs))) ∧ w' = w := by
  have hnn := nn_le xs
  have HL := Lib.hid h.len
  rw [h.len] at hnn
  have hcap := h.cap
  have hmx := h.max
  unfold maxLen at hmx
  by_cases h0 : nn xs = 0
  · have H2 := Lib.hid (by rw [(nn_zero_iff h.dg).1 h0]; exact len_0 : W.len (val B xs) = 0)
    have h2 : (((nn xs : Nat) : Int) == 0) = true := by simp [h0]
    have H1 := Lib.hid h0
    clear h0
    go_enter Tryz.func140, Tryz.ntmps140
    go_wp2_with (go_at_call 95; refine (bare_any _ _ _ _ xs h).mono ?_; rintro e w' ⟨rfl, rfl⟩)
    all_goals go_ret
    all_goals exact ⟨ret1 H2.out.symm, rfl⟩
  · have H2 := Lib.hid (len_top h.dg (by omega))
    have h2 : (((nn xs : Nat) : Int) == 0) = false := by simp [h0]
    obtain ⟨ad, rfl, _, hcell⟩ := h.cell (k := nn xs - 1) (by omega)
    have hw : W.Wd (lim xs (nn xs - 1)) := h.dg.lim (by decide) _
    have hlen := len_spec _ hw.1
    have hl0 := len_nonneg (lim xs (nn xs - 1))
    have hl1 : W.len (lim xs (nn xs - 1)) ≤ 64 := by
      obtain ⟨k, e1, e2, e3⟩ := hlen
      rw [e1]
      apply Classical.byContradiction; intro hk
      have e4 : 2 ^ (k - 1) ≤ lim xs (nn xs - 1) := by rcases e3 with e3 | e3; omega; exact e3
      have e5 : (2 : Int) ^ 64 ≤ 2 ^ (k - 1) := by rw [← W.cast_pow, ← W.cast_pow]; exact Int.ofNat_le.2 (Nat.pow_le_pow_right (by omega) (by omega))
      have := hw.2
      omega
    clear hlen
    have e1 : (((nn xs : Nat) : Int) - 1).toNat = nn xs - 1 := by omega
    go_enter Tryz.func140, Tryz.ntmps140
    go_wp2_with (first
      | (go_at_call 95; refine (bare_any _ _ _ _ xs h).mono ?_; rintro e w' ⟨rfl, rfl⟩)
      | (go_at_call 75; refine (len_any _ hw _).mono ?_; rintro e w' ⟨rfl, rfl⟩))
    all_goals go_ret
    all_goals exact ⟨ret1 (by rw [H2.out]; omega), rfl⟩
end Go.Proofs.YtfdpddlefobcpaaGreatDoor
/- What the statements' own helpers Same, Long, spoil answer, over this translation. -/
namespace Go.Proofs.YtfdpddlefobcpaaGreatDoor
open Go.RowKit
set_option linter.unusedVariables false
set_option maxRecDepth 20000
open N
theorem same_len (w : World) (A A' : Option Addr) (n c m d : Nat) (hne : n ≠ m) :
    Calls Tryz.prog 43 #[.slice A n c, .slice A' m d] w fun e w' => e = .returned (.bool false) ∧ ∃ k, w' = w.drewN k := by
  have h5 : ((n : Int) != (m : Int)) = true := by simp; omega
  have HN := Lib.hid hne
  clear hne
  go_enter Tryz.func43, Tryz.ntmps43
  go_wp2
  all_goals go_ret
  all_goals exact ⟨rfl, 0, rfl⟩
set_option maxHeartbeats 1000000 in
theorem same_any (w : World) (A A' : Option Addr) (n c m d : Nat) (xs ys : List Int) (hx : Sl w A n c xs) (hy : Sl w A' m d ys) :
    Calls Tryz.prog 43 #[.slice A n c, .slice A' m d] w fun e w' => e = .returned (.bool (decide (xs = ys))) ∧ ∃ k, w' = w.drewN k := by
  have hcx := hx.cap
  have hmx := hx.max
  have hcy := hy.cap
  unfold maxLen at hmx
  by_cases hne : n = m
  · subst hne
    have h5 : ((n : Int) != (n : Int)) = false := by simp
    have HX := Lib.hid hx
    have HY := Lib.hid hy
    clear hx hy
    go_enter Tryz.func43, Tryz.ntmps43
    go_wp2
    go_loopw [5] (fun i wr => ∃ (k q : Nat), k ≤ n ∧ i = .int .i64 k ∧ (∀ j, j < k → lim xs j = lim ys j) ∧ wr = w.drewN q) (fun i _ => n - (intOf i).toNat)
    case atStart => exact ⟨0, 0, Nat.zero_le _, rfl, fun j hj => by omega, rfl⟩
    case round =>
      obtain ⟨k, q, hk, rfl, hj, rfl⟩ := hrel
      have HJ := Lib.hid hj
      clear hj
      by_cases hlt : k < n
      · obtain ⟨ad, rfl, _, h1⟩ := HX.out.cell hlt
        obtain ⟨ad', rfl, _, h2⟩ := HY.out.cell hlt
        by_cases hq : lim xs k = lim ys k
        · have h6 : (lim xs k != lim ys k) = false := by simp [hq]
          have HQ := Lib.hid hq
          clear hq
          go_wp2
          go_quiet (fail)
          go_wp2
          go_roundw
          case rel => exact ⟨k + 1, _, by omega, by go_num, fun j hj' => by
            by_cases hjk : j = k
            · rw [hjk]; exact HQ.out
            · exact HJ.out j (by omega), rfl⟩
          case measure => simp [intOf]; omega
        · have h6 : (lim xs k != lim ys k) = true := by simp [hq]
          have HQ := Lib.hid hq
          clear hq
          go_wp2
          go_quiet (fail)
          go_wp2
          go_ret
          refine ⟨retb ?_, q + nq, by rw [World.drewN_drewN]⟩
          symm
          exact decide_eq_false (fun e => HQ.out (by rw [e]))
      · obtain rfl : k = n := by omega
        go_wp2
        go_ret
        refine ⟨retb ?_, _, rfl⟩
        symm
        refine decide_eq_true (ext_lim (by rw [HX.out.len, HY.out.len]) (fun j => ?_))
        by_cases hjk : j < k
        · exact HJ.out j hjk
        · rw [lim_over xs j (by rw [HX.out.len]; omega), lim_over ys j (by rw [HY.out.len]; omega)]
  · refine (same_len w A A' n c m d hne).mono fun e w' ⟨h1, h2⟩ => ⟨?_, h2⟩
    rw [h1]
    refine retb ?_
    symm
    refine decide_eq_false (fun e => hne ?_)
    rw [← hx.len, ← hy.len, e]
/-- the slice of slices that a call with any number of naturals makes -/
def Nats (w : World) (g : Nat) (l : List (Option Addr × Nat × Nat)) : Prop := ∀ k, k < l.length → ∃ A n c, l[k]? = some (A, n, c) ∧ w.cell? ⟨g, k, none⟩ = some (.slice A n c)
end Go.Proofs.YtfdpddlefobcpaaGreatDoor
/- The closure that keeps the carry (carrying), and the steps that it is made of, over this translation. -/
namespace Go.Proofs.YtfdpddlefobcpaaGreatDoor
open Go.RowKit
set_option linter.unusedVariables false
set_option maxRecDepth 20000
open N
theorem carrying_any (w : World) (k : FuncId) (caps : Array Value) :
    Calls Tryz.prog 96 #[.func (.func k) #[] caps] w fun e w' =>
      e = .returned (.func (.func 112) #[] #[.pointer (some ⟨w.heap.size, 0, none⟩), .pointer (some ⟨w.heap.size + 1, 0, none⟩)]) ∧
      w' = (w.alloc (.cells #[.func (.func k) #[] caps] 152)).alloc (.cells #[.int .u64 0] 72) := by
  go_enter Tryz.func96, Tryz.ntmps96
  go_wp2
  go_ret
  exact ⟨rfl, rfl⟩
theorem carry_add (w : World) (b1 b2 : Nat) (x y c : Int) (hx : W.Wd x) (hy : W.Wd y) (hc : W.Wd c)
    (h1 : w.cell? ⟨b1, 0, none⟩ = some (.func (.func 130) #[] #[])) (h2 : w.cell? ⟨b2, 0, none⟩ = some (.int .u64 c)) (hf : w.frozen? ⟨b2, 0, none⟩ = false) :
    Calls Tryz.prog 112 #[.int .u64 x, .int .u64 y, .pointer (some ⟨b1, 0, none⟩), .pointer (some ⟨b2, 0, none⟩)] w fun e w' =>
      e = .returned (.int .u64 (W.addS x y c)) ∧ w' = w.setCell ⟨b2, 0, none⟩ (.int .u64 (W.addC x y c)) := by
  go_enter Tryz.func112, Tryz.ntmps112
  go_wp2_with (go_at_call 130; refine (add_any _ _ _ hx hy hc _).mono ?_; rintro e w' ⟨rfl, rfl⟩)
  go_ret
  exact ⟨rfl, rfl⟩
theorem carry_sub (w : World) (b1 b2 : Nat) (x y c : Int) (hx : W.Wd x) (hy : W.Wd y) (hc : W.Wd c)
    (h1 : w.cell? ⟨b1, 0, none⟩ = some (.func (.func 149) #[] #[])) (h2 : w.cell? ⟨b2, 0, none⟩ = some (.int .u64 c)) (hf : w.frozen? ⟨b2, 0, none⟩ = false) :
    Calls Tryz.prog 112 #[.int .u64 x, .int .u64 y, .pointer (some ⟨b1, 0, none⟩), .pointer (some ⟨b2, 0, none⟩)] w fun e w' =>
      e = .returned (.int .u64 (W.subS x y c)) ∧ w' = w.setCell ⟨b2, 0, none⟩ (.int .u64 (W.subC x y c)) := by
  go_enter Tryz.func112, Tryz.ntmps112
  go_wp2_with (go_at_call 149; refine (sub_any _ _ _ hx hy hc _).mono ?_; rintro e w' ⟨rfl, rfl⟩)
  go_ret
  exact ⟨rfl, rfl⟩
/-- a place of a natural without its 0s at the end -/
theorem limb_tr (w : World) (A : Option Addr) (n c : Nat) (xs : List Int) (h : Sl w A n c xs) (i : Nat) (hi : i ≤ 9223372036854775807) :
    Calls Tryz.prog 99 #[.slice A (nn xs) c, .int .i64 i] w fun e w' => e = .returned (.int .u64 (lim xs i)) ∧ w' = w :=
  (limb_any w A (nn xs) c (tr xs) h.tr i hi).mono fun e w' ⟨h1, h2⟩ => ⟨by rw [h1, lim_tr], h2⟩
/-- the row gs that is filled, the step in the box b1, the carry in the box b2 -/
structure Cry (w : World) (gs b1 b2 : Nat) (F : Value) (zs : List Int) (c : Int) (wr : World) : Prop where
  arr : Arr wr gs zs
  fn : wr.cell? ⟨b1, 0, none⟩ = some F
  cy : wr.cell? ⟨b2, 0, none⟩ = some (.int .u64 c)
  fz : wr.frozen? ⟨b2, 0, none⟩ = false
  bl : Below w.heap.size w wr
theorem Cry.start (w : World) (Nn : Nat) (F : Value) (t : TypeId) :
    Cry w w.heap.size (w.heap.size + 1) (w.heap.size + 1 + 1) F (List.replicate Nn 0) 0 (((w.alloc (.cells (madeCells #[.int .u64 0] Nn) 72)).alloc (.cells #[F] t)).alloc (.cells #[.int .u64 0] 72)) := by
  have ha := Arr.made w Nn
  generalize hw1 : w.alloc (.cells (madeCells #[.int .u64 0] Nn) 72) = w1 at *
  have e1 : w1.heap.size = w.heap.size + 1 := by rw [← hw1]; exact World.size_alloc ..
  have b1 : Below w.heap.size w w1 := by rw [← hw1]; exact (Below.refl _ w).alloc (Nat.le_refl _) _
  have h2 := heap_alloc_new w1 (.cells #[F] t)
  have b2 := b1.alloc (by omega) (.cells #[F] t)
  generalize hw2 : w1.alloc (.cells #[F] t) = w2 at *
  have e2 : w2.heap.size = w.heap.size + 1 + 1 := by rw [← hw2, ← e1]; exact World.size_alloc ..
  have h3 := heap_alloc_new w2 (.cells #[.int .u64 0] 72)
  have h2' := (Below.heap_alloc w2 (.cells #[.int .u64 0] 72) w1.heap.size (by omega)).trans h2
  rw [e1] at h2'
  rw [e2] at h3
  refine ⟨?_, ?_, ?_, ?_, b2.alloc (by omega) _⟩
  · have : Arr w2 w.heap.size (List.replicate Nn 0) := by rw [← hw2]; exact ha.alloc _
    exact this.alloc _
  · rw [cell_of_row _ _ 0 _ _ _ h2']; rfl
  · rw [cell_of_row _ _ 0 _ _ _ h3]; rfl
  · simp [World.frozen?, h3]
theorem Cry.carry {w : World} {gs b1 b2 : Nat} {F : Value} {zs : List Int} {c : Int} {wr : World} (h : Cry w gs b1 b2 F zs c wr) (h1 : gs ≠ b2) (h2 : b1 ≠ b2) (hb : w.heap.size ≤ b2) (c' : Int) :
    Cry w gs b1 b2 F zs c' (wr.setCell ⟨b2, 0, none⟩ (.int .u64 c')) :=
  ⟨h.arr.far h1 _, by rw [World.cell?_setCell_other _ _ _ _ (fun e => h2 (congrArg Addr.block e).symm)]; exact h.fn,
   World.cell?_setCell_same' _ _ _ (by rw [h.cy]; rfl), by rw [World.frozen?_setCell]; exact h.fz, h.bl.setCell hb _⟩
theorem Cry.store {w : World} {gs b1 b2 : Nat} {F : Value} {zs : List Int} {c : Int} {wr : World} (h : Cry w gs b1 b2 F zs c wr) (h1 : gs ≠ b2) (h2 : gs ≠ b1) (hb : w.heap.size ≤ gs) (k : Nat) (v : Int) :
    Cry w gs b1 b2 F (zs.set k v) c (wr.setCell ⟨gs, k, none⟩ (.int .u64 v)) :=
  ⟨h.arr.set k v, by rw [World.cell?_setCell_other _ _ _ _ (fun e => h2 (congrArg Addr.block e))]; exact h.fn,
   by rw [World.cell?_setCell_other _ _ _ _ (fun e => h1 (congrArg Addr.block e))]; exact h.cy, by rw [World.frozen?_setCell]; exact h.fz, h.bl.setCell hb _⟩
theorem Cry.drew {w : World} {gs b1 b2 : Nat} {F : Value} {zs : List Int} {c : Int} {wr : World} (h : Cry w gs b1 b2 F zs c wr) : Cry w gs b1 b2 F zs c wr.drew := ⟨h.arr, h.fn, h.cy, h.fz, h.bl.drew⟩
theorem Cry.drewN {w : World} {gs b1 b2 : Nat} {F : Value} {zs : List Int} {c : Int} {wr : World} (h : Cry w gs b1 b2 F zs c wr) (k : Nat) : Cry w gs b1 b2 F zs c (wr.drewN k) := ⟨h.arr, h.fn, h.cy, h.fz, ⟨h.bl.os, h.bl.tape, h.bl.output, h.bl.size, h.bl.block⟩⟩
end Go.Proofs.YtfdpddlefobcpaaGreatDoor
/- What Add of layer 2 answers, over this translation. -/
namespace Go.Proofs.YtfdpddlefobcpaaGreatDoor
open Go.RowKit
set_option linter.unusedVariables false
set_option maxRecDepth 20000
open N
namespace N
theorem add_step {xs ys zs : List Int} {c : Int} {k : Nat} (hx : Dg B xs) (hy : Dg B ys) (hk : k < zs.length) (hz : lim zs k = 0) (h0 : 0 ≤ c) (h1 : c ≤ 1)
    (h : val B zs + c * Q B k = lo B xs k + lo B ys k) :
    val B (zs.set k (W.addS (lim xs k) (lim ys k) c)) + W.addC (lim xs k) (lim ys k) c * Q B (k + 1) = lo B xs (k + 1) + lo B ys (k + 1) := by
  have ha := hx.lim (by decide) k
  have hb := hy.lim (by decide) k
  rw [val_set B zs k _ hk, hz, lo_succ, lo_succ, Q_succ]
  have e : W.addS (lim xs k) (lim ys k) c + W.addC (lim xs k) (lim ys k) c * B = lim xs k + lim ys k + c := by
    unfold W.addS W.addC; rw [Int.min_eq_left h1]; show _ + _ * (18446744073709551616 : Int) = _; omega
  generalize W.addS (lim xs k) (lim ys k) c = s at *
  generalize W.addC (lim xs k) (lim ys k) c = t at *
  have e2 : (s - 0) * Q B k + t * (Q B k * B) = (lim xs k + lim ys k + c) * Q B k := by
    rw [← e, Int.sub_zero, Int.add_mul, Int.mul_right_comm t, Int.mul_assoc t]
  rw [Int.add_mul, Int.add_mul] at e2
  omega
theorem val_lt_nn {xs : List Int} (h : Dg B xs) {k : Nat} (hk : nn xs ≤ k) : val B xs < Q B k := by
  have := (limbs_len_le (val_nonneg (by decide) h) k).1
  rw [← nn_limbs h] at this
  exact this hk
theorem lo_all_nn {xs : List Int} (h : Dg B xs) {k : Nat} (hk : nn xs ≤ k) : lo B xs k = val B xs := by
  rw [← (val_div (by decide) h k).2]
  exact Int.emod_eq_of_lt (val_nonneg (by decide) h) (val_lt_nn h hk)
theorem add_last {xs ys zs : List Int} {c : Int} {k : Nat} (hx : Dg B xs) (hy : Dg B ys) (hz : Dg B zs) (h1 : nn xs < k) (h2 : nn ys < k) (hc : 0 ≤ c) (h : val B zs + c * Q B k = lo B xs k + lo B ys k) :
    val B zs = val B xs + val B ys := by
  rw [lo_all_nn hx (by omega), lo_all_nn hy (by omega)] at h
  have e1 := val_lt_nn hx (show nn xs ≤ k - 1 by omega)
  have e2 := val_lt_nn hy (show nn ys ≤ k - 1 by omega)
  have e3 : Q B k = Q B (k - 1) * 18446744073709551616 := by rw [← Q_succ, show k - 1 + 1 = k by omega]
  have e4 := Q_pos (b := B) (by decide) k
  have e5 := val_nonneg (b := B) (by decide) hz
  have : c = 0 := by
    apply Classical.byContradiction; intro hne
    have e6 : 1 * Q B k ≤ c * Q B k := Int.mul_le_mul_of_nonneg_right (by omega) (by omega)
    omega
  subst this
  omega
theorem lim_set_beyond {zs : List Int} {k : Nat} {v : Int} (hk : k < zs.length) (h : ∀ j, k ≤ j → lim zs j = 0) : ∀ j, k + 1 ≤ j → lim (zs.set k v) j = 0 := by
  intro j hj
  rw [lim_set _ _ _ _ hk, if_neg (by omega)]
  exact h j (by omega)
end N
def AddRel (w : World) (xs ys : List Int) (Nn gs b1 b2 : Nat) (F : Value) (i : Value) (wr : World) : Prop :=
  ∃ (k : Nat) (zs : List Int) (c : Int), i = .int .i64 k ∧ k ≤ Nn ∧ zs.length = Nn ∧ Dg B zs ∧ 0 ≤ c ∧ c ≤ 1 ∧ (∀ j, k ≤ j → lim zs j = 0) ∧ val B zs + c * Q B k = lo B xs k + lo B ys k ∧ Cry w gs b1 b2 F zs c wr
theorem nadd_any (w : World) (A A' : Option Addr) (n c m d : Nat) (xs ys : List Int) (hx : Sl w A n c xs) (hy : Sl w A' m d ys) (hn : n ≤ 1099511627776) (hm : m ≤ 1099511627776) :
    Calls Tryz.prog 118 #[.slice A n c, .slice A' m d] w (Out w (n + m + 1) (val B xs + val B ys)) := by
  have hnx := nn_le xs
  have hny := nn_le ys
  rw [hx.len] at hnx
  rw [hy.len] at hny
  obtain ⟨Nn, hN1, hN2, hN3, hN4⟩ : ∃ Nn : Nat, nn xs < Nn ∧ nn ys < Nn ∧ Nn ≤ n + m + 1 ∧ (max (nn xs : Int) (nn ys : Int) + 1) = (Nn : Int) := ⟨max (nn xs) (nn ys) + 1, by omega, by omega, by omega, by omega⟩
  have hmk : ∀ W : World, (Instr.makeSlice 58 (.int .i64 (max (nn xs : Int) (nn ys : Int) + 1)) (.int .i64 (max (nn xs : Int) (nn ys : Int) + 1))).run Tryz.prog W = .ok (.slice (some ⟨W.heap.size, 0, none⟩) Nn Nn) (W.alloc (.cells (madeCells #[.int .u64 0] Nn) 72)) := by
    intro W; rw [hN4]; exact make_run _ slNat Nn (by omega) W
  clear hN4
  go_enter Tryz.func118, Tryz.ntmps118
  go_wp2_with (first
      | (go_at_call_of 95 (Value.slice A n c); refine (bare_any _ _ _ _ xs hx).mono ?_; rintro e w' ⟨rfl, rfl⟩)
      | (go_at_call_of 95 (Value.slice A' m d); refine (bare_any _ _ _ _ ys hy).mono ?_; rintro e w' ⟨rfl, rfl⟩)
      | (go_at_call 96; refine (carrying_any _ _ _).mono ?_; rintro e w2 ⟨rfl, rfl⟩))
  have HX := Lib.hid hx
  have HY := Lib.hid hy
  clear hx hy hmk
  go_loopw [22] (fun i wr => AddRel w' xs ys Nn w'.heap.size (w'.heap.size + 1) (w'.heap.size + 1 + 1) (.func (.func 130) #[] #[]) i wr) (fun i _ => Nn - (intOf i).toNat)
  case atStart =>
    refine ⟨0, List.replicate Nn 0, 0, rfl, Nat.zero_le _, by simp, Dg.zeros (by decide) _, by omega, by omega, fun j _ => lim_zeros _ _, by rw [val_zeros, lo_zero, lo_zero]; omega, ?_⟩
    exact Cry.start w' Nn _ _
  case round =>
    obtain ⟨k, zs, c', rfl, hk, hl, hd, h0, h1, hz, hv, hC⟩ := hrel
    obtain ⟨wo, rfl⟩ : ∃ wo : World, wo = wr := ⟨_, rfl⟩
    by_cases hlt : k < Nn
    · have hxk := HX.out.dg.lim (b := B) (by decide) k
      have hyk := HY.out.dg.lim (b := B) (by decide) k
      have hs := Lib.hid (add_step HX.out.dg HY.out.dg (by omega : k < zs.length) (hz k (Nat.le_refl _)) h0 h1 hv)
      have HZ' := Lib.hid (lim_set_beyond (v := W.addS (lim xs k) (lim ys k) c') (by omega : k < zs.length) hz)
      have hw := W.wd_addS (lim xs k) (lim ys k) c'
      have hc' := W.addC_le (a := lim xs k) (b := lim ys k) (c := c') hxk hyk ⟨h0, by omega⟩
      have hX := HX.out.below hC.bl
      have hY := HY.out.below hC.bl
      have C1 := hC.carry (by omega) (by omega) (by omega) (W.addC (lim xs k) (lim ys k) c')
      have hcell : wo.cell? ⟨w'.heap.size, k, none⟩ = some (.int .u64 (lim zs k)) := hC.arr.cell (by omega)
      have hfz : wo.frozen? ⟨w'.heap.size, k, none⟩ = false := hC.arr.frozen k
      have hcell1 := C1.arr.cell (k := k) (by omega)
      have hfz1 := C1.arr.frozen k
      have f1 := hC.fn
      have f2 := hC.cy
      have f3 := hC.fz
      have HV := Lib.hid hv
      have HZ := Lib.hid hz
      have HLn := Lib.hid hl
      clear hv hz hl
      go_wp2_with (first
        | (go_at_call_of 99 (Value.slice A (nn xs) c); refine (limb_tr _ _ _ _ xs hX k (by omega)).mono ?_; rintro e w3 ⟨rfl, rfl⟩)
        | (go_at_call_of 99 (Value.slice A' (nn ys) d); refine (limb_tr _ _ _ _ ys hY k (by omega)).mono ?_; rintro e w3 ⟨rfl, rfl⟩)
        | (go_at_call 112; refine (carry_add _ _ _ _ _ c' hxk hyk ⟨h0, by omega⟩ f1 f2 f3).mono ?_; rintro e w3 ⟨rfl, rfl⟩))
      go_roundw
      case rel => exact ⟨k + 1, _, _, by go_num, by omega, by rw [List.length_set]; exact HLn.out, hd.set k hw.1 hw.2, hc'.1, hc'.2, HZ'.out, hs.out, C1.store (by omega) (by omega) (by omega) k _⟩
      case measure => simp [intOf]; omega
    · obtain rfl : k = Nn := by omega
      have hS := hC.arr.sl hl (by unfold maxLen; omega) hd
      have hE := Lib.hid (add_last HX.out.dg HY.out.dg hd hN1 hN2 h0 hv)
      have hnz := nn_le zs
      rw [hl] at hnz
      have HLn := Lib.hid hl
      clear hv hz hl
      go_wp2_with (first
        | (go_at_call 95; refine (bare_any _ _ _ _ zs hS).mono ?_; rintro e w3 ⟨rfl, rfl⟩))
      go_ret
      refine ⟨_, _, _, rfl, by omega, ?_, hC.bl⟩
      rw [← hE.out, limbs_of hd]
      exact ⟨hC.arr.own (Nat.le_refl _) HLn.out (by unfold maxLen; omega) hnz, hd.take _⟩
end Go.Proofs.YtfdpddlefobcpaaGreatDoor
/- slices.Backward over a natural: what it hands its loop, over this translation. -/
namespace Go.Proofs.YtfdpddlefobcpaaGreatDoor
open Go.RowKit Go.Shelf
set_option linter.unusedVariables false
set_option maxRecDepth 20000
open N
/-- what a body must come to that does not panic, marks and all -/
def bodyPostQ (n : Nat) (P : Program) (fn : Func) (R : Ending → World → Prop) : Exit → Act → World → Prop
  | .normal, a, w | .ret, a, w => LeavesInM Fence.wide n P fn a.tmps R a.defers .returning w
  | .outgrown, _, w => R .outgrown w
  | _, _, _ => False
theorem calls_of_wp_q (n : Nat) {P : Program} {f : FuncId} {fn : Func} {c : Code} {args : Array Value} {w : World} {R : Ending → World → Prop} (hf : P.funcs[f]? = some fn) (hb : fn.body = some c)
    (h : c.wp P (bodyPostQ n P fn R) { tmps := args ++ Array.replicate (fn.ntmps - args.size) undef, defers := [] } w) : Calls P f args w R := by
  refine (callsIn_wide (n := n)).1 (callsIn_of_wp_marks hf hb trivial (wpIn_mono (wpIn_wide.2 h) ?_) rfl)
  intro e a w hq
  cases e <;> first | exact hq | exact hq.elim
theorem leave_q {n : Nat} {P : Program} {fn : Func} {R : Ending → World → Prop} {a : Act} {w : World} (hd : a.defers = []) (v : Value) (hr : (results fn a.tmps).run P w = .ok v w) (h : R (.returned v) w) : bodyPostQ n P fn R .ret a w := by
  show LeavesInM Fence.wide n P fn a.tmps R a.defers .returning w
  rw [hd]
  exact ⟨v, hr, h⟩
attribute [local go_sem] Oper.semAt_some
namespace N
/-- what has come when k rounds are over: f 0, .., f (k - 1) -/
def upto {α : Type} (f : Nat → α) (k : Nat) : List α := (List.range k).map f
theorem upto_succ {α : Type} (f : Nat → α) (k : Nat) : upto f (k + 1) = upto f k ++ [f k] := by simp [upto, List.range_succ]
theorem upto_length {α : Type} (f : Nat → α) (k : Nat) : (upto f k).length = k := by simp [upto]
/-- the places in the row in which they come: from the end -/
def dn (len : Nat) (k : Nat) : List Nat := upto (fun m => len - 1 - m) k
theorem dn_succ (len k : Nat) : dn len (k + 1) = dn len k ++ [len - 1 - k] := upto_succ _ _
theorem mem_dn {len k j : Nat} (h1 : len ≤ j + k) (h2 : j < len) : j ∈ dn len k := by
  unfold dn upto
  exact List.mem_map.2 ⟨len - 1 - j, by simp; omega, by omega⟩
theorem of_dn {len k : Nat} {l : List (Fin len)} (h : l.map Fin.val = dn len k) {j : Nat} (h1 : len ≤ j + k) (h2 : j < len) : ∃ p ∈ l, p.val = j := by
  have := mem_dn h1 h2
  rw [← h] at this
  exact List.mem_map.1 this
theorem dn_snoc {len k : Nat} {ini : List (Fin len)} {last : Fin len} (h : (ini ++ [last]).map Fin.val = dn len k) {j : Nat} (h1 : last.val < j) (h2 : j < len) : ∃ p ∈ ini, p.val = j := by
  have hl : ini.length + 1 = k := by
    have := congrArg List.length h
    rw [dn, upto_length] at this; simpa using this
  subst hl
  rw [dn_succ, List.map_append] at h
  obtain ⟨e1, e2⟩ := List.append_inj' h rfl
  have e3 : last.val = len - 1 - ini.length := by simpa using e2
  exact of_dn e1 (by omega) h2
/-- the places of the slice A, below block n₀ -/
def Rd (n₀ : Nat) (W : World) (A : Option Addr) (len : Nat) (xs : List Int) : Prop :=
  ∀ k, k < len → ∃ ad, A = some ad ∧ ad.block < n₀ ∧ W.cell? (ad.add k) = some (.int .u64 (lim xs k))
theorem Rd.below {n₀ : Nat} {W W' : World} {A : Option Addr} {len : Nat} {xs : List Int} (h : Rd n₀ W A len xs) (hb : Below n₀ W W') : Rd n₀ W' A len xs := fun k hk => by
  obtain ⟨ad, e, hlt, hc⟩ := h k hk
  exact ⟨ad, e, hlt, by rw [hb.cell (by rw [add_block]; exact hlt)]; exact hc⟩
theorem Rd.tr {n₀ : Nat} {W : World} {A : Option Addr} {len : Nat} {xs : List Int} (h : Rd n₀ W A len xs) (hl : nn xs ≤ len) : Rd n₀ W A (nn xs) xs := fun k hk => h k (by omega)
theorem Sl.rd {W : World} {A : Option Addr} {n c : Nat} {xs : List Int} (h : Sl W A n c xs) : Rd W.heap.size W A n xs := fun k hk => h.cell hk
/-- what a round keeps: what lay below block n₀, and block Bs -/
def KpB (n₀ Bs : Nat) (W W' : World) : Prop := Below n₀ W W' ∧ W'.heap[Bs]? = W.heap[Bs]?
theorem KpB.refl (n₀ Bs : Nat) (W : World) : KpB n₀ Bs W W := ⟨Below.refl _ _, rfl⟩
theorem KpB.trans {n₀ Bs : Nat} {A C D : World} (h : KpB n₀ Bs A C) (k : KpB n₀ Bs C D) : KpB n₀ Bs A D := ⟨h.1.trans k.1, k.2.trans h.2⟩
theorem KpB.put {n₀ Bs : Nat} {w : World} (hn : n₀ ≤ w.heap.size) (hB : Bs < w.heap.size) (W : World) (l : Nat) (o o' : Obj) (hl : w.heap.size ≤ l) (h : W.heap[l]? = some o) (h1 : o.isCells = false) (h2 : o.isWalk = false) :
    KpB n₀ Bs W (W.putObj l o') :=
  ⟨belowK_b hn W l o o' hl h h1 h2, (grownBy_putObj' W l o').block Bs (by have := (Array.getElem?_eq_some_iff.1 h).1; omega) (fun e => by cases e; omega)⟩
theorem KpB.set {n₀ Bs : Nat} (W : World) {p : Addr} (h : n₀ ≤ p.block) (hB : Bs ≠ p.block) (u : Value) : KpB n₀ Bs W (W.setCell p u) :=
  ⟨(Below.refl n₀ W).setCell h u, Below.heap_setCell W p u Bs hB⟩
theorem KpB.cell {n₀ Bs : Nat} {W W' : World} (h : KpB n₀ Bs W W') : W'.cell? ⟨Bs, 0, none⟩ = W.cell? ⟨Bs, 0, none⟩ := World.cell?_of_block (w := W) h.2
end N
set_option maxRecDepth 100000 in
set_option maxHeartbeats 2000000 in
theorem back1_in (F : Fence) (n : Nat) (h7 : F.fn 155) (hro : F.round = none) (hn : 1 ≤ n) (l Bs n₀ : Nat) (A : Option Addr) (len cap : Nat) (xs : List Int) (hreach : len ≤ 1099511627776) (J Jx : List (Fin len) → World → Prop)
    (hY : ∀ pre x W, J pre W → pre.length < len → YieldAt F (n - 1) Tryz.prog l #[.int .i64 ((x.val : Nat) : Int), .int .u64 (lim xs x.val)] W fun e W' =>
      (e = .returned (.bool true) ∧ J (pre ++ [x]) W' ∧ KpB n₀ Bs W W') ∨ (e = .returned (.bool false) ∧ Jx (pre ++ [x]) W'))
    (W : World) (hBs : W.cell? ⟨Bs, 0, none⟩ = some (.slice A len cap)) (hc : Rd n₀ W A len xs) (h0 : J [] W) :
    CallsIn F n Tryz.prog 155 #[.func (.yield l) #[] #[], .pointer (some ⟨Bs, 0, none⟩)] W fun e W' => (∃ v, e = .returned v) ∧
      ((∃ ys, ys.map Fin.val = dn len len ∧ J ys W') ∨ (∃ pre, (∃ k, k ≤ len ∧ pre.map Fin.val = dn len k) ∧ Jx pre W')) := by
  refine callsIn_of_wp Tryz.func155 rfl h7 ?_ hro
  simp only [Tryz.ntmps155, List.size_toArray, List.length_cons, List.length_nil, Nat.reduceAdd, Nat.reduceSub, Array.replicate_succ, Array.replicate_zero, List.push_toArray, List.append_toArray, List.nil_append, List.cons_append]
  gi_wp2
  gi_loopw [3] (fun i wr => ∃ (m : Nat) (pre : List (Fin len)), m ≤ len ∧ pre.map Fin.val = dn len m ∧ i = .int .i64 ((len : Int) - 1 - m) ∧ J pre wr ∧ KpB n₀ Bs W wr)
    (fun i _ => (intOf i + 1).toNat)
  case atStart => exact ⟨0, [], Nat.zero_le _, rfl, by simp, h0, KpB.refl _ _ _⟩
  case round =>
    obtain ⟨m, pre, hm, hpre, rfl, hJs, hnx⟩ := hrel
    have hBs' : wr.cell? ⟨Bs, 0, none⟩ = some (.slice A len cap) := hnx.cell.trans hBs
    have HP := Lib.hid hpre
    have hpl : pre.length = m := by rw [← List.length_map (f := Fin.val), hpre]; exact upto_length _ _
    clear hpre
    by_cases hlt : m < len
    · obtain ⟨r, hr⟩ : ∃ r : Nat, (len : Int) - 1 - m = r := ⟨len - 1 - m, by omega⟩
      have hrl : r < len := by omega
      obtain ⟨ad, rfl, hlb, hcx⟩ := hc.below hnx.1 r hrl
      obtain ⟨fn, tmps, assign, body, hy, hR⟩ := hY pre ⟨r, hrl⟩ wr hJs (by rw [hpl]; exact hlt)
      dsimp only at hy
      have HL := Lib.hid hpl
      have HR := Lib.hid hr
      rw [hr]
      clear hr hpl
      gi_wp2
      refine hR.mono ?_
      rintro e W3 (⟨rfl, hJ3, hk3⟩ | ⟨rfl, hJx3⟩)
      · gi_wp2
        go_roundw
        case rel => exact ⟨m + 1, pre ++ [⟨r, hrl⟩], by omega, by
          have := HR.out
          rw [List.map_append, HP.out]; unfold dn; rw [upto_succ]; simp; omega, by have := HR.out; congr 1; omega, hJ3, hnx.trans hk3⟩
        case measure => simp [intOf]
      · gi_wp2
        refine bodyPost_ret (results_none rfl _ _ _) rfl ?_
        exact ⟨⟨_, rfl⟩, .inr ⟨_, ⟨m + 1, by omega, by
          have := HR.out
          rw [List.map_append, HP.out]; unfold dn; rw [upto_succ]; simp; omega⟩, hJx3⟩⟩
    · obtain rfl : m = len := by omega
      gi_wp2
      go_end0
      exact ⟨⟨_, rfl⟩, .inl ⟨_, HP.out, hJs⟩⟩
set_option maxHeartbeats 1000000 in
theorem back_in (F : Fence) (n : Nat) (h5 : F.fn 142) (hro : F.round = none) (A : Option Addr) (len cap : Nat) (w : World) :
    CallsIn F n Tryz.prog 142 #[.slice A len cap] w fun e w' =>
      e = .returned (.func (.func 155) #[] #[.pointer (some ⟨w.heap.size, 0, none⟩)]) ∧ w' = w.alloc (.cells #[.slice A len cap] 58) := by
  refine callsIn_of_wp Tryz.func142 rfl h5 ?_ hro
  simp only [Tryz.ntmps142, List.size_toArray, List.length_cons, List.length_nil, Nat.reduceAdd, Nat.reduceSub, Array.replicate_succ, Array.replicate_zero, List.push_toArray, List.append_toArray, List.nil_append, List.cons_append]
  gi_wp2
  go_ret
  exact ⟨rfl, rfl⟩
theorem back_stops (F : Fence) (n : Nat) (h7 : F.fn 155) (hro : F.round = none) (hn : 1 ≤ n) (Bs n₀ : Nat) (A : Option Addr) (len cap : Nat) (xs : List Int) (hreach : len ≤ 1099511627776) (w : World)
    (hBn : Bs < w.heap.size) (hn₀ : n₀ ≤ w.heap.size) (hc : w.cell? ⟨Bs, 0, none⟩ = some (.slice A len cap)) (hI : Rd n₀ w A len xs) :
    SeqStopsK F n Tryz.prog 155 #[.pointer (some ⟨Bs, 0, none⟩)] (fun x : Fin len => #[Value.int .i64 ((x.val : Nat) : Int), Value.int .u64 (lim xs x.val)]) (KpB n₀ Bs) (fun ys => ys.map Fin.val = dn len len)
      (fun pre => ∃ k, k ≤ len ∧ pre.map Fin.val = dn len k) len w := fun l J Jx W hW _ _ hY h0 =>
  back1_in F n h7 hro hn l Bs n₀ A len cap xs hreach J Jx hY W ((hW.cell (p := ⟨Bs, 0, none⟩) hBn).trans hc) (hI.below (hW.mono hn₀)) h0
end Go.Proofs.YtfdpddlefobcpaaGreatDoor
/- cmp.Compare over ints and words, over this translation. -/
namespace Go.Proofs.YtfdpddlefobcpaaGreatDoor
open Go.RowKit
set_option linter.unusedVariables false
set_option maxRecDepth 20000
open N
namespace N
def cmpI (a b : Int) : Int := if a < b then -1 else if b < a then 1 else 0
theorem cmpI_lt {a b : Int} (h : a < b) : cmpI a b = -1 := by unfold cmpI; rw [if_pos h]
theorem cmpI_gt {a b : Int} (h : b < a) : cmpI a b = 1 := by unfold cmpI; rw [if_neg (by omega), if_pos h]
theorem cmpI_eq {a b : Int} (h : a = b) : cmpI a b = 0 := by unfold cmpI; rw [if_neg (by omega), if_neg (by omega)]
end N
theorem isNaNU (x : Int) (w : World) :
    Calls Tryz.prog 156 #[.int .u64 x] w fun e w' => e = .returned (.bool false) ∧ w' = w := by
  go_enter Tryz.func156, Tryz.ntmps156
  go_wp2
  go_ret
  exact ⟨retb (by simp), rfl⟩
theorem isNaNI (x : Int) (w : World) :
    Calls Tryz.prog 154 #[.int .i64 x] w fun e w' => e = .returned (.bool false) ∧ w' = w := by
  go_enter Tryz.func154, Tryz.ntmps154
  go_wp2
  go_ret
  exact ⟨retb (by simp), rfl⟩
theorem cmpU_any (x y : Int) (w : World) :
    Calls Tryz.prog 143 #[.int .u64 x, .int .u64 y] w fun e w' => e = .returned (.int .i64 (cmpI x y)) ∧ w' = w := by
  rcases Int.lt_trichotomy x y with h | h | h
  · have H := Lib.hid (cmpI_lt h)
    have h2 : decide (y < x) = false := by simp; omega
    go_enter Tryz.func143, Tryz.ntmps143
    go_wp2_with (go_at_call 156; refine (isNaNU _ _).mono ?_; rintro e w' ⟨rfl, rfl⟩)
    all_goals go_ret
    all_goals exact ⟨ret1 (by rw [H.out]), rfl⟩
  · have H := Lib.hid (cmpI_eq h)
    subst h
    have h2 : decide (x < x) = false := by simp
    go_enter Tryz.func143, Tryz.ntmps143
    go_wp2_with (go_at_call 156; refine (isNaNU _ _).mono ?_; rintro e w' ⟨rfl, rfl⟩)
    all_goals go_ret
    all_goals exact ⟨ret1 (by rw [H.out]), rfl⟩
  · have H := Lib.hid (cmpI_gt h)
    have h2 : decide (x < y) = false := by simp; omega
    go_enter Tryz.func143, Tryz.ntmps143
    go_wp2_with (go_at_call 156; refine (isNaNU _ _).mono ?_; rintro e w' ⟨rfl, rfl⟩)
    all_goals go_ret
    all_goals exact ⟨ret1 (by rw [H.out]), rfl⟩
theorem cmpInt_any (x y : Int) (w : World) :
    Calls Tryz.prog 141 #[.int .i64 x, .int .i64 y] w fun e w' => e = .returned (.int .i64 (cmpI x y)) ∧ w' = w := by
  rcases Int.lt_trichotomy x y with h | h | h
  · have H := Lib.hid (cmpI_lt h)
    have h2 : decide (y < x) = false := by simp; omega
    go_enter Tryz.func141, Tryz.ntmps141
    go_wp2_with (go_at_call 154; refine (isNaNI _ _).mono ?_; rintro e w' ⟨rfl, rfl⟩)
    all_goals go_ret
    all_goals exact ⟨ret1 (by rw [H.out]), rfl⟩
  · have H := Lib.hid (cmpI_eq h)
    subst h
    have h2 : decide (x < x) = false := by simp
    go_enter Tryz.func141, Tryz.ntmps141
    go_wp2_with (go_at_call 154; refine (isNaNI _ _).mono ?_; rintro e w' ⟨rfl, rfl⟩)
    all_goals go_ret
    all_goals exact ⟨ret1 (by rw [H.out]), rfl⟩
  · have H := Lib.hid (cmpI_gt h)
    have h2 : decide (x < y) = false := by simp; omega
    go_enter Tryz.func141, Tryz.ntmps141
    go_wp2_with (go_at_call 154; refine (isNaNI _ _).mono ?_; rintro e w' ⟨rfl, rfl⟩)
    all_goals go_ret
    all_goals exact ⟨ret1 (by rw [H.out]), rfl⟩
end Go.Proofs.YtfdpddlefobcpaaGreatDoor
/- What Cmp of layer 2 answers, over this translation. -/
namespace Go.Proofs.YtfdpddlefobcpaaGreatDoor
open Go.RowKit Go.Shelf
set_option linter.unusedVariables false
set_option maxRecDepth 20000
open N
namespace N
theorem val_of_lim (b : Int) {xs ys : List Int} (h : ∀ j, lim xs j = lim ys j) : val b xs = val b ys := by
  rw [← val_tr b xs, ← val_tr b ys]
  congr 1
  apply ext_lim
  · rw [tr_length, tr_length, nn_of_lim h]
  · intro j; rw [lim_tr, lim_tr]; exact h j
theorem lt_of_nn {xs ys : List Int} (hx : Dg B xs) (hy : Dg B ys) (h : nn xs < nn ys) : val B xs < val B ys := by
  have h1 := (limbs_len_le (val_nonneg (by decide) hx) (nn xs)).1 (by rw [← nn_limbs hx]; exact Nat.le_refl _)
  have h2 := (limbs_len_le (val_nonneg (by decide) hy) (nn xs))
  rw [← nn_limbs hy] at h2
  omega
theorem lt_of_place {b : Int} (hb : 0 < b) {xs ys : List Int} (hx : Dg b xs) (hy : Dg b ys) (i : Nat) (h : ∀ j, i < j → lim xs j = lim ys j) (hi : lim xs i < lim ys i) : val b xs < val b ys := by
  rw [val_split b xs (i + 1), val_split b ys (i + 1), lo_succ, lo_succ]
  have e : val b (xs.drop (i + 1)) = val b (ys.drop (i + 1)) := val_of_lim b (fun j => by rw [lim_drop, lim_drop]; exact h _ (by omega))
  rw [e]
  have h1 := lo_lt hb hx i
  have h2 := lo_lt hb hy i
  have h3 : (lim xs i + 1) * Q b i ≤ lim ys i * Q b i := Int.mul_le_mul_of_nonneg_right (by omega) (Int.le_of_lt (Q_pos hb i))
  rw [Int.add_mul, Int.one_mul] at h3
  omega
end N
attribute [local go_sem] Oper.semAt_some
theorem bare_in (n : Nat) (w : World) (A : Option Addr) (k c : Nat) (xs : List Int) (h : Sl w A k c xs) :
    CallsIn Fence.wide n Tryz.prog 95 #[.slice A k c] w fun e w' => e = .returned (.slice A (nn xs) c) ∧ w' = w := callsIn_wide.2 (bare_any w A k c xs h)
set_option maxRecDepth 100000 in
set_option maxHeartbeats 2000000 in
theorem ncmp_any (w : World) (A A' : Option Addr) (n c m d : Nat) (xs ys : List Int) (hx : Sl w A n c xs) (hy : Sl w A' m d ys) (hn : n ≤ 1099511627776) (hm : m ≤ 1099511627776) :
    Calls Tryz.prog 126 #[.slice A n c, .slice A' m d] w fun e w' => e = .returned (.int .i64 (cmpI (val B xs) (val B ys))) ∧ Below w.heap.size w w' := by
  have hro : Fence.wide.round = none := rfl
  have hfn : ∀ k, Fence.wide.fn k := fun _ => trivial
  refine calls_of_wp_q 6 Tryz.func126 rfl ?_
  simp only [Tryz.ntmps126, List.size_toArray, List.length_cons, List.length_nil, Nat.reduceAdd, Nat.reduceSub, Array.replicate_succ, Array.replicate_zero, List.push_toArray, List.append_toArray, List.nil_append, List.cons_append]
  have hX : Sl ((w.alloc (.cells #[.slice A' m d] 58)).alloc (.cells #[.int .i64 0] 3)) A n c xs := hx.below (((Below.refl _ w).alloc (Nat.le_refl _) _).alloc (by simp) _)
  have hY : Sl ((w.alloc (.cells #[.slice A' m d] 58)).alloc (.cells #[.int .i64 0] 3)) A' m d ys := hy.below (((Below.refl _ w).alloc (Nat.le_refl _) _).alloc (by simp) _)
  by_cases hne : nn xs = nn ys
  · have h5 : (((nn xs : Nat) : Int) != ((nn ys : Nat) : Int)) = false := by simp [hne]
    have HE := Lib.hid hne
    clear hne
    go_wp2
    go_region_with (first
      | (go_at_call_of 95 (Value.slice A n c); refine (bare_any _ A n c xs hX.drew).mono ?_; rintro e w3 ⟨rfl, rfl⟩)
      | (go_at_call_of 95 (Value.slice A' m d); refine (bare_any _ A' m d ys hY.drew).mono ?_; rintro e w3 ⟨rfl, rfl⟩))
    all_goals go_wp2_with (go_at_call 142; refine ((callsIn_wide (n := 5)).1 (back_in _ _ trivial rfl _ _ _ _)).mono ?_; rintro e w4 ⟨rfl, rfl⟩)
    all_goals
      obtain ⟨L, hL⟩ : ∃ L : World, L = (((w.alloc (.cells #[.slice A' (nn ys) d] 58)).alloc (.cells #[.int .i64 0] 3)).alloc (.cells #[.slice A (nn xs) c] 58)).drew := ⟨_, rfl⟩
      have hsz : L.heap.size = w.heap.size + 1 + 1 + 1 := by rw [hL]; simp
      have hBL : Below w.heap.size w L := by rw [hL]; exact ((((Below.refl _ w).alloc (Nat.le_refl _) _).alloc (by simp) _).alloc (by simp; omega) _).drew
      have c1 : L.cell? ⟨w.heap.size, 0, none⟩ = some (.slice A' (nn ys) d) ∧ L.cell? ⟨w.heap.size + 1, 0, none⟩ = some (.int .i64 0) ∧ L.frozen? ⟨w.heap.size + 1, 0, none⟩ = false ∧ L.cell? ⟨w.heap.size + 1 + 1, 0, none⟩ = some (.slice A (nn xs) c) := by
        rw [hL]; refine ⟨?_, ?_, ?_, ?_⟩ <;> go_simp
      rw [← hL]
      refine (wpIn_wide (n := 6)).1 ?_
      refine wpIn_rangeFunc_ownG (F := Fence.wide) (n := 6) hro (by omega) (gf := 155) (lb := #[.pointer (some ⟨w.heap.size + 1 + 1, 0, none⟩)]) rfl trivial (enters_of Tryz.func155 (by kernel_rfl) rfl)
        (back_stops Fence.wide 5 trivial rfl (by omega) (w.heap.size + 1 + 1) w.heap.size A (nn xs) c xs (by have := nn_le xs; have := hx.len; omega) L (by omega) hBL.size c1.2.2.2 ((hx.rd.below hBL).tr (by have := nn_le xs; have := hx.len; omega)))
        KpB.trans (KpB.put hBL.size (by omega)) (Below.refl _ _) (fun _ => rfl)
        (fun pre W => ((∀ p ∈ pre, lim ys p.val = lim xs p.val) ∧ W.cell? ⟨w.heap.size, 0, none⟩ = some (.slice A' (nn ys) d) ∧ W.cell? ⟨w.heap.size + 1, 0, none⟩ = some (.int .i64 0) ∧ W.frozen? ⟨w.heap.size + 1, 0, none⟩ = false) ∧ Below w.heap.size w W)
        (fun c pre W => (c = .ret ∧ ∃ ini last, pre = ini ++ [last] ∧ (∀ p ∈ ini, lim ys p.val = lim xs p.val) ∧ lim xs last.val ≠ lim ys last.val ∧ W.cell? ⟨w.heap.size + 1, 0, none⟩ = some (.int .i64 (cmpI (lim xs last.val) (lim ys last.val)))) ∧ Below w.heap.size w W)
        (OwnFrom.and (Own.from (fun s A B row hs hg hr => ⟨hs.1, cell_kept hs.2.1 hg hr, cell_kept hs.2.2.1 hg hr, (frozen_kept hs.2.2.1 hg hr).trans hs.2.2.2⟩) _) (ownFrom_below (Nat.le_refl _) (by omega)))
        (fun c => OwnFrom.and (Own.from (fun s A B row hs hg hr => by obtain ⟨hc, ini, last, e1, e2, e3, e4⟩ := hs; exact ⟨hc, ini, last, e1, e2, e3, cell_kept e4 hg hr⟩) _) (ownFrom_below (Nat.le_refl _) (by omega)))
        ⟨⟨by simp, c1.1, c1.2.1, c1.2.2.1⟩, hBL⟩
        (fun x => { tmps := #[.slice A (nn xs) c, .slice A' m d, undef, .pointer (some ⟨w.heap.size, 0, none⟩), .pointer (some ⟨w.heap.size + 1, 0, none⟩), .int .i64 ((x.val : Nat) : Int), .int .u64 (lim xs x.val), .slice A n c, .slice A (nn xs) c, .slice A' m d, .slice A' (nn ys) d,
          .slice A (nn xs) c, .int .i64 (nn xs : Nat), .slice A' (nn ys) d, .int .i64 (nn ys : Nat), .bool false, undef, undef, undef, undef, undef, .slice A (nn xs) c, .func (.func 155) #[] #[.pointer (some ⟨w.heap.size + 1 + 1, 0, none⟩)],
          .int .i64 ((x.val : Nat) : Int), .int .u64 (lim xs x.val), undef, undef, undef, undef, undef, undef, undef, undef, undef, undef, undef, undef], defers := [] }) ?assign ?body ?done ?stop
      case assign =>
        intro l x W K hK
        gi_wp2
        exact hK
      case body =>
        rintro l pre x W ⟨⟨hp, hcb, hcr, hfr⟩, hB⟩ _
        have hlen := hy.len
        have hcap := hy.cap
        have hnn := nn_le ys
        have hxl := x.2
        obtain ⟨ad, hA', _, hcy⟩ := (hy.rd.below hB) x.val (by have := HE.out; omega)
        have hxy : x.val < nn ys := by have := HE.out; omega
        have h1 : 1 ≤ 6 - 1 - 1 := by omega
        have HLn := Lib.hid hlen
        clear hlen
        rw [hA'] at hcb
        have HA := Lib.hid hA'
        clear hA'
        by_cases hq : lim xs x.val = lim ys x.val
        · have h6 : (lim xs x.val != lim ys x.val) = false := by simp [hq]
          have HQ := Lib.hid hq
          clear hq
          gi_wp2
          exact ⟨KeepsFrom.refl _ _, KpB.refl _ _ _, ⟨fun p hp' => (List.mem_append.1 hp').elim (hp p) (fun e => by simp at e; subst e; exact HQ.out.symm), by rw [HA.out]; exact hcb, hcr, hfr⟩, hB⟩
        · have h6 : (lim xs x.val != lim ys x.val) = true := by simp [hq]
          have HQ := Lib.hid hq
          clear hq
          gi_wp2_with (gi_at_call 143; refine (CallsIn.inRound l (callsIn_wide.2 (cmpU_any _ _ _))).mono ?_; rintro e w4 ⟨rfl, rfl⟩)
          exact ⟨(KeepsOthers.setCell _ _ _).from _, ⟨rfl, pre, x, rfl, hp, HQ.out, World.cell?_setCell_same' _ _ _ (by rw [hcr]; rfl)⟩, hB.setCell (p := ⟨w.heap.size + 1, 0, none⟩) (by simp) _⟩
      case done =>
        rintro D zs W hD hS ⟨⟨hall, hcb, hcr, hfr⟩, hB⟩ hK
        have HS := Lib.hid hS
        clear hS
        go_wp2
        have hK' := (KeepsOthers.setCell W ⟨w.heap.size + 1, 0, none⟩ (.int .i64 0)).same D _ hK rfl
        refine ⟨by simp, .inl ⟨_, _, rfl, run_takeDeferred hK', ?_⟩⟩
        have hc5 := cell_kept (World.cell?_setCell_same' W ⟨w.heap.size + 1, 0, none⟩ (.int .i64 0) (by rw [hcr]; rfl)) (grownBy_putObj' _ D (.deferred none)) (fun r e => by cases e; exact ⟨_, hK', rfl⟩)
        refine ⟨.int .i64 0, by simp [results, Tryz.f126, go_sem, hc5], ?_, (hB.setCell (p := ⟨w.heap.size + 1, 0, none⟩) (by simp) _).trans (belowK_b (w := w) (Nat.le_refl _) _ D _ _ (by omega) hK' rfl rfl)⟩
        have e : val B xs = val B ys := val_of_lim B (fun j => by
          by_cases hj : j < nn xs
          · obtain ⟨p, hp, e⟩ := of_dn HS.out (by omega) hj
            rw [← e]; exact (hall p hp).symm
          · rw [nn_zero xs j (by omega), nn_zero ys j (by have := HE.out; omega)])
        rw [cmpI_eq e]
      case stop =>
        rintro D c pre W hD ⟨k, hk, hS⟩ ⟨⟨rfl, ini, last, rfl, hall, hne, hcr⟩, hB⟩ hK
        have HS := Lib.hid hS
        clear hS
        gi_wp2
        refine ⟨by simp, .inl ⟨_, _, rfl, run_takeDeferred hK, ?_⟩⟩
        have hc5 := cell_kept hcr (grownBy_putObj' _ D (.deferred none)) (fun r e => by cases e; exact ⟨_, hK, rfl⟩)
        refine ⟨.int .i64 (cmpI (lim xs last.val) (lim ys last.val)), by simp [results, Tryz.f126, go_sem, hc5], ?_, hB.trans (belowK_b (w := w) (Nat.le_refl _) W D _ _ (by omega) hK rfl rfl)⟩
        have heq : ∀ j, last.val < j → lim xs j = lim ys j := fun j hj => by
          by_cases hjl : j < nn xs
          · obtain ⟨p, hp, e⟩ := dn_snoc HS.out hj hjl
            rw [← e]; exact (hall p hp).symm
          · rw [nn_zero xs j (by omega), nn_zero ys j (by have := HE.out; omega)]
        rcases Int.lt_or_gt_of_ne hne with h | h
        · rw [cmpI_lt h, cmpI_lt (lt_of_place (by decide) hx.dg hy.dg last.val heq h)]
        · rw [cmpI_gt h, cmpI_gt (lt_of_place (by decide) hy.dg hx.dg last.val (fun j hj => (heq j hj).symm) h)]
  · have h5 : (((nn xs : Nat) : Int) != ((nn ys : Nat) : Int)) = true := by simp; omega
    have HE := Lib.hid hne
    clear hne
    go_wp2
    go_region_with (first
      | (go_at_call_of 95 (Value.slice A n c); refine (bare_any _ A n c xs hX.drew).mono ?_; rintro e w3 ⟨rfl, rfl⟩)
      | (go_at_call_of 95 (Value.slice A' m d); refine (bare_any _ A' m d ys hY.drew).mono ?_; rintro e w3 ⟨rfl, rfl⟩))
    all_goals go_wp2_with (go_at_call 141; refine (cmpInt_any _ _ _).mono ?_; rintro e w4 ⟨rfl, rfl⟩)
    all_goals
      refine leave_q rfl (.int .i64 (cmpI (nn xs : Nat) (nn ys : Nat))) (by simp [results, Tryz.f126, go_sem]) ⟨?_, (((Below.refl _ w).alloc (Nat.le_refl _) _).alloc (by simp) _).drew⟩
      rcases Nat.lt_or_gt_of_ne HE.out with h | h
      · rw [cmpI_lt (by omega), cmpI_lt (lt_of_nn hx.dg hy.dg h)]
      · rw [cmpI_gt (by omega), cmpI_gt (lt_of_nn hy.dg hx.dg h)]
end Go.Proofs.YtfdpddlefobcpaaGreatDoor
