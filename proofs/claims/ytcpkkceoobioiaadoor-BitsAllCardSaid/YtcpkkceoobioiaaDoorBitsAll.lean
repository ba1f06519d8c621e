/-
  PROVED: the statement BitsAll (tombolalaw07.BitsAll) about the landed commit: for every input the law returns true and leaves its arguments as they were. Conditions: none beyond those that the given row itself prints.
-/
import Derived.Test.YtcpkkceoobioiaaDoorCards
import Derived.Test.YtcpkkceoobioiaaDoorTie
import Derived.LaidMore
import Derived.Lay
import Derived.SevenTiedAt
import Derived.Stop.Joined
import Derived.Test.YtcpkkceoobioiaaDoorRows
import Derived.WalkKit
import Derived.ProofKit
import Derived.OpenShut
import Derived.RowKit3
import Derived.Test.YtcpkkceoobioiaaDoorGFrame
import Derived.Test.YtcpkkceoobioiaaDoorBitAwake
import Derived.Test.YtcpkkceoobioiaaDoorBitRefAll
namespace Go.Proofs.YtcpkkceoobioiaaDoor.bitsAll
open Go.ChangeShapes Go.WideShapes Go.ChangeAt Go.RowKit
set_option linter.unusedVariables false
set_option linter.unusedSimpArgs false
set_option maxRecDepth 20000
open N
theorem own : ownKnob Tryd.prog.godebug = none := by kernel_rfl
/-- what lies in the cells of the law; s0: the bound, what is told; C: the list of the document, C + 1: the number, M: the round, M + 1: how many have come -/
structure AllC (n : Int) (lf s0 C M r i : Nat) (A : Option Addr) (cp : Nat) (W : World) : Prop where
  a : W.cell? ⟨s0, 0, none⟩ = some (.int .u16 (lf : Int))
  b : W.cell? ⟨s0 + 1, 0, none⟩ = some (.bool false)
  c : W.frozen? ⟨s0 + 1, 0, none⟩ = false
  d : W.cell? ⟨C, 0, none⟩ = some (.slice A (allL n).length cp)
  e : W.cell? ⟨C + 1, 0, none⟩ = some (.int .i64 n)
  f : W.cell? ⟨M, 0, none⟩ = some (.int .i64 (r : Int))
  g : W.cell? ⟨M + 1, 0, none⟩ = some (.int .i64 (i : Int))
  h : W.frozen? ⟨M + 1, 0, none⟩ = false
  o : OwnS W (s0 + 2) (.slice A (allL n).length cp) (allL n).length (allL n)
  k : ∀ k, (Value.slice A (allL n).length cp).ownBlock = some k → k < C
theorem owns_belowC {W W' : World} {B C : Nat} {v : Value} {n : Nat} {L : List (List UInt8)} (h : OwnS W B v n L) (hb : Below C W W') (hlt : ∀ k, v.ownBlock = some k → k < C) : OwnS W' B v n L := by
  rcases h.2 with h1 | ⟨g, cap, cur, e, hB, hh, r⟩
  · exact ⟨h.1, .inl h1⟩
  · exact ⟨h.1, .inr ⟨g, cap, cur, e, hB, (hb.block g (hlt g (by rw [e]; rfl))).trans hh, r⟩⟩
/-- what of it stays when the round and the count lie anew -/
theorem AllC.move {n : Int} {lf s0 C M r i M' r' i' cp B : Nat} {A : Option Addr} {W W' : World} (h : AllC n lf s0 C M r i A cp W) (hb : Below B W W') (h1 : s0 + 2 ≤ C) (h2 : C + 2 ≤ B)
    (f : W'.cell? ⟨M', 0, none⟩ = some (.int .i64 (r' : Int))) (g : W'.cell? ⟨M' + 1, 0, none⟩ = some (.int .i64 (i' : Int))) (hz : W'.frozen? ⟨M' + 1, 0, none⟩ = false) : AllC n lf s0 C M' r' i' A cp W' :=
  ⟨(hb.cell (p := ⟨s0, 0, none⟩) (by show s0 < _; omega)).trans h.a, (hb.cell (p := ⟨s0 + 1, 0, none⟩) (by show s0 + 1 < _; omega)).trans h.b, (hb.frozen (p := ⟨s0 + 1, 0, none⟩) (by show s0 + 1 < _; omega)).trans h.c,
   (hb.cell (p := ⟨C, 0, none⟩) (by show C < _; omega)).trans h.d, (hb.cell (p := ⟨C + 1, 0, none⟩) (by show C + 1 < _; omega)).trans h.e, f, g, hz, owns_belowC h.o hb (fun k hk => by have := h.k k hk; omega), h.k⟩
theorem AllC.below {n : Int} {lf s0 C M r i cp B : Nat} {A : Option Addr} {W W' : World} (h : AllC n lf s0 C M r i A cp W) (hb : Below B W W') (h1 : s0 + 2 ≤ C) (h2 : C + 2 ≤ M) (h3 : M + 2 ≤ B) : AllC n lf s0 C M r i A cp W' :=
  h.move hb h1 (by omega) ((hb.cell (p := ⟨M, 0, none⟩) (by show M < _; omega)).trans h.f) ((hb.cell (p := ⟨M + 1, 0, none⟩) (by show M + 1 < _; omega)).trans h.g) ((hb.frozen (p := ⟨M + 1, 0, none⟩) (by show M + 1 < _; omega)).trans h.h)
theorem below_set (W : World) (p : Addr) (u : Value) : Below p.block W (W.setCell p u) := (Below.refl p.block W).setCell (Nat.le_refl _) u
theorem AllC.step {n : Int} {lf s0 C M r i cp : Nat} {A : Option Addr} {W : World} (h : AllC n lf s0 C M r i A cp W) (h1 : s0 + 2 ≤ C) (h2 : C + 2 ≤ M) : AllC n lf s0 C M r (i + 1) A cp (W.setCell ⟨M + 1, 0, none⟩ (.int .i64 ((i : Int) + 1))) := by
  refine h.move (below_set W ⟨M + 1, 0, none⟩ _) h1 (by show C + 2 ≤ M + 1; omega) (((below_set W ⟨M + 1, 0, none⟩ _).cell (p := ⟨M, 0, none⟩) (by show M < M + 1; omega)).trans h.f) ?_ (by rw [World.frozen?_setCell]; exact h.h)
  rw [World.cell?_setCell_same' W ⟨M + 1, 0, none⟩ (.int .i64 ((i : Int) + 1)) (by rw [h.g]; rfl)]; congr 2
theorem iter_any (n : Int) (Bn : Nat) (w : World) (hlt : Bn < w.heap.size) (hc : w.cell? ⟨Bn, 0, none⟩ = some (.int .i64 n)) :
    IterOf Tryd.prog 43 #[.pointer (some ⟨Bn, 0, none⟩)] encS (allL n) w := by
  by_cases h : 0 ≤ n ∧ n ≤ 12
  · obtain ⟨h0, h1⟩ := h
    obtain ⟨m, rfl⟩ := Int.eq_ofNat_of_zero_le h0
    have hL : allL (m : Int) = allS m := by unfold allL; rw [if_pos ⟨h0, h1⟩]; rfl
    rw [hL]
    exact all_iter m (by omega) Bn w hlt hc
  · have hL : allL n = [] := by unfold allL; rw [if_neg h]
    rw [hL]
    exact all_none n (by omega) Bn w hlt hc
theorem allL_len (n : Int) : (allL n).length ≤ 4096 := by
  unfold allL
  by_cases h : 0 ≤ n ∧ n ≤ 12
  · rw [if_pos h, allS_length]; exact Nat.pow_le_pow_right (n := 2) (by decide) (show n.toNat ≤ 12 by omega)
  · rw [if_neg h]; decide
theorem gen_c {P : Program} {f : FuncId} {args : Array Value} {w : World} {R : Ending → World → Prop} (h : ∀ X, X = w → Calls P f args X R) : Calls P f args w R := h w rfl
attribute [local go_sem] Oper.semAt_some
set_option maxRecDepth 100000 in
set_option maxHeartbeats 40000000 in
set_option maxRecDepth 100000 in
set_option maxHeartbeats 40000000 in
theorem walk (w : World) (a0 : Int) (w0 : (Lit.int .i64 a0).wf = true) (a1 : Int) (w1 : (Lit.int .u16 a1).wf = true) :
    Calls Tryd.prog 5 #[.int .i64 a0, .int .u16 a1] w fun e w' => e = .returned (.bool true) ∧ Below w.heap.size w w' := by
  have bl := bounds_u16 w1
  have wa := bounds_i64 w0
  obtain ⟨lf, rfl⟩ := Int.eq_ofNat_of_zero_le bl.1
  have hnf : ∀ (f : Fn) (a b : Array Value) (W : World), (binOp .eql 41 (.func f a b) .nilFunc).run Tryd.prog W = .ok (.bool false) W := fun f a b W => eql_nilFunc Tryd.underlying41 f a b W
  refine calls_of_wp_z 6 Tryd.func5 rfl ?_
  simp only [Tryd.ntmps5, List.size_toArray, List.length_cons, List.length_nil, Nat.reduceAdd, Nat.reduceSub, Array.replicate_succ, Array.replicate_zero, List.push_toArray, List.append_toArray, List.nil_append, List.cons_append]
  go_wp2_with fail
  go_at_call 30
  have hc0 : ((w.alloc (.cells #[.int .u16 (lf : Int)] 37)).alloc (.cells #[.bool false] 4)).cell? ⟨w.heap.size, 0, none⟩ = some (.int .u16 (lf : Int)) ∧ ((w.alloc (.cells #[.int .u16 (lf : Int)] 37)).alloc (.cells #[.bool false] 4)).cell? ⟨w.heap.size + 1, 0, none⟩ = some (.bool false) ∧ ((w.alloc (.cells #[.int .u16 (lf : Int)] 37)).alloc (.cells #[.bool false] 4)).frozen? ⟨w.heap.size + 1, 0, none⟩ = false := by
    refine ⟨?_, ?_, ?_⟩ <;> go_simp
  obtain ⟨W0, hW0⟩ : ∃ x, (w.alloc (.cells #[.int .u16 (lf : Int)] 37)).alloc (.cells #[.bool false] 4) = x := ⟨_, rfl⟩
  rw [hW0]
  have hs0 : W0.heap.size = w.heap.size + 2 := by rw [← hW0]; simp
  rw [hW0] at hc0
  have hb0 : Below w.heap.size w W0 := by rw [← hW0]; exact ((Below.refl _ w).alloc (Nat.le_refl _) _).alloc (by simp) _
  refine (rall_any W0 a0).mono ?_
  rintro e w1 ⟨A, c, rfl, hO, hb⟩
  rw [hs0] at hO
  have hs1 : w.heap.size + 2 ≤ w1.heap.size := by have := hb.size; omega
  have hc1 : w1.cell? ⟨w.heap.size, 0, none⟩ = some (.int .u16 (lf : Int)) ∧ w1.cell? ⟨w.heap.size + 1, 0, none⟩ = some (.bool false) ∧ w1.frozen? ⟨w.heap.size + 1, 0, none⟩ = false :=
    ⟨(hb.cell (p := ⟨w.heap.size, 0, none⟩) (by show w.heap.size < _; omega)).trans hc0.1, (hb.cell (p := ⟨w.heap.size + 1, 0, none⟩) (by show w.heap.size + 1 < _; omega)).trans hc0.2.1, (hb.frozen (p := ⟨w.heap.size + 1, 0, none⟩) (by show w.heap.size + 1 < _; omega)).trans hc0.2.2⟩
  have hbw : Below w.heap.size w w1 := hb0.trans (hb.mono hb0.size)
  clear hW0 hs0 hc0 hb0 hb
  have HC1 := Lib.hid hc1
  have HBW := Lib.hid hbw
  have HO := Lib.hid hO
  clear hc1 hbw hO
  go_wp2_with (go_at_call 31; refine (all_any _ _).mono ?_; rintro e w2 ⟨rfl, rfl⟩)
  refine wp_loop_rounds 3 ?_
  rw [rounds_succ]
  go_wp2_with fail
  refine (wpIn_wide (n := 6)).1 ?_
  refine gen_w fun L hL => ?_
  obtain ⟨C, hC⟩ : ∃ C, w1.heap.size = C := ⟨_, rfl⟩
  obtain ⟨s0, hs0⟩ : ∃ s, w.heap.size = s := ⟨_, rfl⟩
  have hbL : Below w1.heap.size w1 L := by rw [hL]; exact (((((Below.refl _ w1).alloc (Nat.le_refl _) _).alloc (by simp) _).alloc (by simp; omega) _).alloc (by simp; omega) _)
  have hsL : L.heap.size = w1.heap.size + 4 := by rw [hL]; simp
  have hnew : L.cell? ⟨w1.heap.size, 0, none⟩ = some (.slice A (allL a0).length c) ∧ L.cell? ⟨w1.heap.size + 1, 0, none⟩ = some (.int .i64 a0) ∧ L.cell? ⟨w1.heap.size + 2, 0, none⟩ = some (.int .i64 ((0 : Nat) : Int)) ∧ L.cell? ⟨w1.heap.size + 2 + 1, 0, none⟩ = some (.int .i64 ((0 : Nat) : Int)) ∧ L.frozen? ⟨w1.heap.size + 2 + 1, 0, none⟩ = false := by
    rw [hL]; refine ⟨?_, ?_, ?_, ?_, ?_⟩ <;> go_simp
  clear hL
  have hkk : ∀ k, (Value.slice A (allL a0).length c).ownBlock = some k → k < w1.heap.size := fun k hk => (World.ownsRow.lt HO.out k hk).2
  have hR0 : AllC a0 lf s0 C (C + 2) 0 0 A c L := by
    rw [← hC, ← hs0]
    exact ⟨(hbL.cell (p := ⟨w.heap.size, 0, none⟩) (by show w.heap.size < _; omega)).trans HC1.out.1, (hbL.cell (p := ⟨w.heap.size + 1, 0, none⟩) (by show w.heap.size + 1 < _; omega)).trans HC1.out.2.1, (hbL.frozen (p := ⟨w.heap.size + 1, 0, none⟩) (by show w.heap.size + 1 < _; omega)).trans HC1.out.2.2, hnew.1, hnew.2.1, hnew.2.2.1, hnew.2.2.2.1, hnew.2.2.2.2, owns_belowC HO.out hbL hkk, hkk⟩
  have hb0 : Below s0 w L := by rw [← hs0]; exact HBW.out.trans (hbL.mono HBW.out.size)
  have hsC : s0 + 2 ≤ C := by omega
  have hCM0 : C + 2 ≤ C + 2 := Nat.le_refl _
  rw [hC] at hsL ⊢
  rw [hs0] at ⊢
  clear hnew HC1 HBW HO hbL hkk
  have hfar0 : Far L.heap.size (fun (pre : List (List UInt8)) (W : World) => AllC a0 lf s0 C (C + 2) 0 pre.length A c W ∧ Below s0 w W) := fun s X Y hs hb =>
    ⟨hs.1.below hb hsC hCM0 (by omega), hs.2.trans (hb.mono (by omega))⟩
  have hfarx0 : ∀ q : Code, Far L.heap.size ((fun (q : Code) (pre : List (List UInt8)) (W : World) => q = .exit 2 ∧ AllC a0 lf s0 C (C + 2) 0 pre.length A c W ∧ Below s0 w W) q) := fun q s X Y hs hb =>
    ⟨hs.1, hs.2.1.below hb hsC hCM0 (by omega), hs.2.2.trans (hb.mono (by omega))⟩
  refine wp_range1 (gf := 43) (lb := #[.pointer (some ⟨C + 1, 0, none⟩)]) rfl (enters_of Tryd.func43 (by kernel_rfl) rfl) (enc := fun l : List UInt8 => .string ⟨l.toArray⟩)
    (iter_any a0 (C + 1) L (by omega) hR0.e) (Below.refl _ _) _ _ hfar0 hfarx0 ⟨hR0, hb0⟩ (of_decide_eq_true rfl) ?body0 ?done0 ?stop0
  case body0 =>
    rintro l pre x W ⟨hR, hb⟩ ⟨post, hall⟩ hsz
    have hx : (allL a0)[pre.length]? = some x := by rw [hall]; simp
    have hN := allL_len a0
    have hlt : pre.length < (allL a0).length := (List.getElem?_eq_some_iff.1 hx).1
    have hil : (pre ++ [x]).length = pre.length + 1 := by simp
    obtain ⟨g, c', hA, _, _, hNc⟩ := hR.o.form (by omega)
    cases hA
    have hcell := hR.o.at' hx
    have HR2 := Lib.hid (hR.step hsC hCM0)
    have HA := Lib.hid (Above.set (B := C + 4) W (p := ⟨(C + 2) + 1, 0, none⟩) (.int .i64 ((pre.length : Int) + 1)) (by show (C + 2) + 1 < _; omega))
    have HB := Lib.hid (hb.setCell (p := ⟨(C + 2) + 1, 0, none⟩) (by show s0 ≤ (C + 2) + 1; omega) (.int .i64 ((pre.length : Int) + 1)))
    obtain ⟨c1, c2, c3, c4, c5, c6, c7, c8, _, _⟩ := hR
    obtain ⟨N, hNe⟩ : ∃ N, (allL a0).length = N := ⟨_, rfl⟩
    obtain ⟨i, hie⟩ : ∃ i, pre.length = i := ⟨_, rfl⟩
    have HIL := Lib.hid hil
    rw [hie] at HIL HA HB HR2 c7 hcell hlt
    rw [hNe] at c4 hlt hN hNc
    clear hall hx hil hb hNe hie
    by_cases hbr : lf < i + 1
    · have hbr2 : (lf : Int) < (i : Int) + 1 := by omega
      gi_wp2
      exact ⟨HA.out, rfl, by rw [HIL.out]; exact HR2.out, HB.out⟩
    · have hbr2 : ¬ ((lf : Int) < (i : Int) + 1) := by omega
      gi_wp2
      exact ⟨HA.out, by rw [HIL.out]; exact HR2.out, HB.out⟩
  case done0 =>
    rintro D Wd hD ⟨hR, hb⟩ hK
    have hRR := hR
    obtain ⟨c1, c2, c3, c4, c5, c6, c7, c8, _, _⟩ := hR
    have HR := Lib.hid hRR
    have HB := Lib.hid hb
    have HK := Lib.hid hK
    have hDlt := (Array.getElem?_eq_some_iff.1 hK).1
    clear hb hK hRR
    go_wp2_with fail
    rw [rounds_succ]
    go_wp2_with fail
    refine (wpIn_wide (n := 6)).1 ?_
    refine gen_w fun L2 hL2 => ?_
    obtain ⟨M2, hM2⟩ : ∃ M, Wd.heap.size = M := ⟨_, rfl⟩
    have hbL2 : Below Wd.heap.size Wd L2 := by rw [hL2]; exact ((Below.refl _ Wd).alloc (Nat.le_refl _) _).alloc (by simp) _
    have hsL2 : L2.heap.size = Wd.heap.size + 2 := by rw [hL2]; simp
    have hnew : L2.cell? ⟨Wd.heap.size, 0, none⟩ = some (.int .i64 ((1 : Nat) : Int)) ∧ L2.cell? ⟨Wd.heap.size + 1, 0, none⟩ = some (.int .i64 ((0 : Nat) : Int)) ∧ L2.frozen? ⟨Wd.heap.size + 1, 0, none⟩ = false := by
      rw [hL2]; refine ⟨?_, ?_, ?_⟩ <;> go_simp
    clear hL2
    have hR1 : AllC a0 lf s0 C Wd.heap.size 1 0 A c L2 := HR.out.move hbL2 hsC (by omega) hnew.1 hnew.2.1 hnew.2.2
    have hb1 : Below s0 w L2 := HB.out.trans (hbL2.mono (by omega))
    have hKD : L2.heap[D]? = some (.deferred (some [])) := (hbL2.block D hDlt).trans HK.out
    have hCM1 : C + 2 ≤ M2 := by omega
    rw [hM2] at hsL2 hR1 hDlt ⊢
    clear hnew hbL2 HR HB HK c1 c2 c3 c4 c5 c6 c7 c8
    have hfar1 : Far L2.heap.size (fun (pre : List (List UInt8)) (W : World) => AllC a0 lf s0 C M2 1 pre.length A c W ∧ Below s0 w W ∧ W.heap[D]? = some (.deferred (some []))) := fun s X Y hs hb =>
      ⟨hs.1.below hb hsC hCM1 (by omega), hs.2.1.trans (hb.mono (by omega)), (hb.block D (by omega)).trans hs.2.2⟩
    have hfarx1 : ∀ q : Code, Far L2.heap.size ((fun (_ : Code) (_ : List (List UInt8)) (_ : World) => False) q) := fun q s X Y hs hb =>
      hs
    refine wp_range1 (gf := 43) (lb := #[.pointer (some ⟨C + 1, 0, none⟩)]) rfl (enters_of Tryd.func43 (by kernel_rfl) rfl) (enc := fun l : List UInt8 => .string ⟨l.toArray⟩)
      (iter_any a0 (C + 1) L2 (by omega) hR1.e) (Below.refl _ _) _ _ hfar1 hfarx1 ⟨hR1, hb1, hKD⟩ (of_decide_eq_true rfl) ?body1 ?done1 ?stop1
    case body1 =>
      rintro l pre x W ⟨hR, hb, hKW⟩ ⟨post, hall⟩ hsz
      have hx : (allL a0)[pre.length]? = some x := by rw [hall]; simp
      have hN := allL_len a0
      have hlt : pre.length < (allL a0).length := (List.getElem?_eq_some_iff.1 hx).1
      have hil : (pre ++ [x]).length = pre.length + 1 := by simp
      obtain ⟨g, c', hA, _, _, hNc⟩ := hR.o.form (by omega)
      cases hA
      have hcell := hR.o.at' hx
      have HR2 := Lib.hid (hR.step hsC hCM1)
      have HA := Lib.hid (Above.set (B := M2 + 2) W (p := ⟨M2 + 1, 0, none⟩) (.int .i64 ((pre.length : Int) + 1)) (by show M2 + 1 < _; omega))
      have HB := Lib.hid (hb.setCell (p := ⟨M2 + 1, 0, none⟩) (by show s0 ≤ M2 + 1; omega) (.int .i64 ((pre.length : Int) + 1)))
      have HK2 := Lib.hid (show (W.setCell ⟨M2 + 1, 0, none⟩ (.int .i64 ((pre.length : Int) + 1))).heap[D]? = _ from (Below.heap_setCell W ⟨M2 + 1, 0, none⟩ _ D (by show D ≠ M2 + 1; omega)).trans hKW)
      clear hKW
      obtain ⟨c1, c2, c3, c4, c5, c6, c7, c8, _, _⟩ := hR
      obtain ⟨N, hNe⟩ : ∃ N, (allL a0).length = N := ⟨_, rfl⟩
      obtain ⟨i, hie⟩ : ∃ i, pre.length = i := ⟨_, rfl⟩
      have HIL := Lib.hid hil
      rw [hie] at HIL HA HB HK2 HR2 c7 hcell hlt
      rw [hNe] at c4 hlt hN hNc
      clear hall hx hil hb hNe hie
      gi_wp2
      exact ⟨HA.out, by rw [HIL.out]; exact HR2.out, HB.out, HK2.out⟩
    case done1 =>
      rintro D2 Wd2 hD2 ⟨hR, hb, hK1⟩ hK2
      obtain ⟨c1, c2, c3, c4, c5, c6, c7, c8, _, _⟩ := hR
      have HB := Lib.hid hb
      have HK1 := Lib.hid hK1
      have HK2 := Lib.hid hK2
      have HC2 := Lib.hid c2
      have HC3 := Lib.hid c3
      have hs2 : s0 + 2 ≤ Wd2.heap.size := by have := (Array.getElem?_eq_some_iff.1 hK2).1; omega
      have hDD : D ≠ D2 := by omega
      clear hb hK1 hK2
      go_wp2_with fail
      rw [rounds_succ]
      go_wp2_with fail
      refine gen_c fun X hX => ?_
      have hbX : Below Wd2.heap.size Wd2 X := by rw [hX]; exact (Below.refl _ Wd2).alloc (Nat.le_refl _) _
      clear hX
      refine (bawake X).mono ?_
      rintro e X2 ⟨rfl, hbY⟩
      have hb2 : Below Wd2.heap.size Wd2 X2 := hbX.trans (hbY.mono hbX.size)
      have d2 := (hb2.cell (p := ⟨s0 + 1, 0, none⟩) (by show s0 + 1 < _; omega)).trans HC2.out
      have d3 := (hb2.frozen (p := ⟨s0 + 1, 0, none⟩) (by show s0 + 1 < _; omega)).trans HC3.out
      have k1 := (hb2.block D (Array.getElem?_eq_some_iff.1 HK1.out).1).trans HK1.out
      have k2 := (hb2.block D2 (Array.getElem?_eq_some_iff.1 HK2.out).1).trans HK2.out
      have k2' : (X2.setCell ⟨s0 + 1, 0, none⟩ (.bool true)).heap[D2]? = some (.deferred (some [])) := (Below.heap_setCell X2 ⟨s0 + 1, 0, none⟩ _ D2 (by show D2 ≠ s0 + 1; omega)).trans k2
      have k1' : ((X2.setCell ⟨s0 + 1, 0, none⟩ (.bool true)).putObj D2 (.deferred none)).heap[D]? = some (.deferred (some [])) := (World.putObj_heap_other (by omega)).trans ((Below.heap_setCell X2 ⟨s0 + 1, 0, none⟩ _ D (by show D ≠ s0 + 1; omega)).trans k1)
      have hc5 : (((X2.setCell ⟨s0 + 1, 0, none⟩ (.bool true)).putObj D2 (.deferred none)).putObj D (.deferred none)).cell? ⟨s0 + 1, 0, none⟩ = some (.bool true) :=
        (World.cell?_of_block (a := ⟨s0 + 1, 0, none⟩) ((World.putObj_heap_other (by first | (show s0 + 1 ≠ D; omega) | (show D ≠ s0 + 1; omega))).trans (World.putObj_heap_other (by first | (show s0 + 1 ≠ D2; omega) | (show D2 ≠ s0 + 1; omega))))).trans (World.cell?_setCell_same' X2 ⟨s0 + 1, 0, none⟩ (.bool true) (by rw [d2]; rfl))
      have hbw : Below s0 w (((X2.setCell ⟨s0 + 1, 0, none⟩ (.bool true)).putObj D2 (.deferred none)).putObj D (.deferred none)) :=
        (((HB.out.trans (hb2.mono (by omega))).setCell (p := ⟨s0 + 1, 0, none⟩) (by show s0 ≤ s0 + 1; omega) _).trans (below_put _ _ (by omega))).trans (below_put _ _ (by omega))
      have HBW := Lib.hid hbw
      have HC5 := Lib.hid hc5
      have HK1' := Lib.hid k1'
      have HK2' := Lib.hid k2'
      clear hbw hc5 k1' k2' k1 k2 hb2 hbY hbX c1 c2 c3 c4 c5 c6 c7 c8
      go_wp2
      refine ⟨by simp, .inl ⟨_, _, rfl, run_takeDeferred HK2'.out, ?_⟩⟩
      refine ⟨by simp, .inl ⟨_, _, rfl, run_takeDeferred HK1'.out, ?_⟩⟩
      have hc6 := HC5.out
      exact ⟨.bool true, by simp [results, Tryd.f5, go_sem, hc6], rfl, by rw [hs0]; exact HBW.out⟩
    case stop1 =>
      rintro D2 q pre x post Wd2 hD2 hall h hK
      exact h.elim
  case stop0 =>
    rintro D q pre x post Wd hD hall ⟨rfl, hR, hb⟩ hK
    have hRR := hR
    clear hall
    obtain ⟨c1, c2, c3, c4, c5, c6, c7, c8, _, _⟩ := hR
    have HR := Lib.hid hRR
    have HB := Lib.hid hb
    have HK := Lib.hid hK
    have hDlt := (Array.getElem?_eq_some_iff.1 hK).1
    clear hb hK hRR
    gi_wp2_with fail
    go_wp2_with fail
    rw [rounds_succ]
    go_wp2_with fail
    refine (wpIn_wide (n := 6)).1 ?_
    refine gen_w fun L2 hL2 => ?_
    obtain ⟨M2, hM2⟩ : ∃ M, Wd.heap.size = M := ⟨_, rfl⟩
    have hbL2 : Below Wd.heap.size Wd L2 := by rw [hL2]; exact ((Below.refl _ Wd).alloc (Nat.le_refl _) _).alloc (by simp) _
    have hsL2 : L2.heap.size = Wd.heap.size + 2 := by rw [hL2]; simp
    have hnew : L2.cell? ⟨Wd.heap.size, 0, none⟩ = some (.int .i64 ((1 : Nat) : Int)) ∧ L2.cell? ⟨Wd.heap.size + 1, 0, none⟩ = some (.int .i64 ((0 : Nat) : Int)) ∧ L2.frozen? ⟨Wd.heap.size + 1, 0, none⟩ = false := by
      rw [hL2]; refine ⟨?_, ?_, ?_⟩ <;> go_simp
    clear hL2
    have hR1 : AllC a0 lf s0 C Wd.heap.size 1 0 A c L2 := HR.out.move hbL2 hsC (by omega) hnew.1 hnew.2.1 hnew.2.2
    have hb1 : Below s0 w L2 := HB.out.trans (hbL2.mono (by omega))
    have hKD : L2.heap[D]? = some (.deferred (some [])) := (hbL2.block D hDlt).trans HK.out
    have hCM1 : C + 2 ≤ M2 := by omega
    rw [hM2] at hsL2 hR1 hDlt ⊢
    clear hnew hbL2 HR HB HK c1 c2 c3 c4 c5 c6 c7 c8
    have hfar1 : Far L2.heap.size (fun (pre : List (List UInt8)) (W : World) => AllC a0 lf s0 C M2 1 pre.length A c W ∧ Below s0 w W ∧ W.heap[D]? = some (.deferred (some []))) := fun s X Y hs hb =>
      ⟨hs.1.below hb hsC hCM1 (by omega), hs.2.1.trans (hb.mono (by omega)), (hb.block D (by omega)).trans hs.2.2⟩
    have hfarx1 : ∀ q : Code, Far L2.heap.size ((fun (_ : Code) (_ : List (List UInt8)) (_ : World) => False) q) := fun q s X Y hs hb =>
      hs
    refine wp_range1 (gf := 43) (lb := #[.pointer (some ⟨C + 1, 0, none⟩)]) rfl (enters_of Tryd.func43 (by kernel_rfl) rfl) (enc := fun l : List UInt8 => .string ⟨l.toArray⟩)
      (iter_any a0 (C + 1) L2 (by omega) hR1.e) (Below.refl _ _) _ _ hfar1 hfarx1 ⟨hR1, hb1, hKD⟩ (of_decide_eq_true rfl) ?body1 ?done1 ?stop1
    case body1 =>
      rintro l pre x W ⟨hR, hb, hKW⟩ ⟨post, hall⟩ hsz
      have hx : (allL a0)[pre.length]? = some x := by rw [hall]; simp
      have hN := allL_len a0
      have hlt : pre.length < (allL a0).length := (List.getElem?_eq_some_iff.1 hx).1
      have hil : (pre ++ [x]).length = pre.length + 1 := by simp
      obtain ⟨g, c', hA, _, _, hNc⟩ := hR.o.form (by omega)
      cases hA
      have hcell := hR.o.at' hx
      have HR2 := Lib.hid (hR.step hsC hCM1)
      have HA := Lib.hid (Above.set (B := M2 + 2) W (p := ⟨M2 + 1, 0, none⟩) (.int .i64 ((pre.length : Int) + 1)) (by show M2 + 1 < _; omega))
      have HB := Lib.hid (hb.setCell (p := ⟨M2 + 1, 0, none⟩) (by show s0 ≤ M2 + 1; omega) (.int .i64 ((pre.length : Int) + 1)))
      have HK2 := Lib.hid (show (W.setCell ⟨M2 + 1, 0, none⟩ (.int .i64 ((pre.length : Int) + 1))).heap[D]? = _ from (Below.heap_setCell W ⟨M2 + 1, 0, none⟩ _ D (by show D ≠ M2 + 1; omega)).trans hKW)
      clear hKW
      obtain ⟨c1, c2, c3, c4, c5, c6, c7, c8, _, _⟩ := hR
      obtain ⟨N, hNe⟩ : ∃ N, (allL a0).length = N := ⟨_, rfl⟩
      obtain ⟨i, hie⟩ : ∃ i, pre.length = i := ⟨_, rfl⟩
      have HIL := Lib.hid hil
      rw [hie] at HIL HA HB HK2 HR2 c7 hcell hlt
      rw [hNe] at c4 hlt hN hNc
      clear hall hx hil hb hNe hie
      gi_wp2
      exact ⟨HA.out, by rw [HIL.out]; exact HR2.out, HB.out, HK2.out⟩
    case done1 =>
      rintro D2 Wd2 hD2 ⟨hR, hb, hK1⟩ hK2
      obtain ⟨c1, c2, c3, c4, c5, c6, c7, c8, _, _⟩ := hR
      have HB := Lib.hid hb
      have HK1 := Lib.hid hK1
      have HK2 := Lib.hid hK2
      have HC2 := Lib.hid c2
      have HC3 := Lib.hid c3
      have hs2 : s0 + 2 ≤ Wd2.heap.size := by have := (Array.getElem?_eq_some_iff.1 hK2).1; omega
      have hDD : D ≠ D2 := by omega
      clear hb hK1 hK2
      go_wp2_with fail
      rw [rounds_succ]
      go_wp2_with fail
      refine gen_c fun X hX => ?_
      have hbX : Below Wd2.heap.size Wd2 X := by rw [hX]; exact (Below.refl _ Wd2).alloc (Nat.le_refl _) _
      clear hX
      refine (bawake X).mono ?_
      rintro e X2 ⟨rfl, hbY⟩
      have hb2 : Below Wd2.heap.size Wd2 X2 := hbX.trans (hbY.mono hbX.size)
      have d2 := (hb2.cell (p := ⟨s0 + 1, 0, none⟩) (by show s0 + 1 < _; omega)).trans HC2.out
      have d3 := (hb2.frozen (p := ⟨s0 + 1, 0, none⟩) (by show s0 + 1 < _; omega)).trans HC3.out
      have k1 := (hb2.block D (Array.getElem?_eq_some_iff.1 HK1.out).1).trans HK1.out
      have k2 := (hb2.block D2 (Array.getElem?_eq_some_iff.1 HK2.out).1).trans HK2.out
      have k2' : (X2.setCell ⟨s0 + 1, 0, none⟩ (.bool true)).heap[D2]? = some (.deferred (some [])) := (Below.heap_setCell X2 ⟨s0 + 1, 0, none⟩ _ D2 (by show D2 ≠ s0 + 1; omega)).trans k2
      have k1' : ((X2.setCell ⟨s0 + 1, 0, none⟩ (.bool true)).putObj D2 (.deferred none)).heap[D]? = some (.deferred (some [])) := (World.putObj_heap_other (by omega)).trans ((Below.heap_setCell X2 ⟨s0 + 1, 0, none⟩ _ D (by show D ≠ s0 + 1; omega)).trans k1)
      have hc5 : (((X2.setCell ⟨s0 + 1, 0, none⟩ (.bool true)).putObj D2 (.deferred none)).putObj D (.deferred none)).cell? ⟨s0 + 1, 0, none⟩ = some (.bool true) :=
        (World.cell?_of_block (a := ⟨s0 + 1, 0, none⟩) ((World.putObj_heap_other (by first | (show s0 + 1 ≠ D; omega) | (show D ≠ s0 + 1; omega))).trans (World.putObj_heap_other (by first | (show s0 + 1 ≠ D2; omega) | (show D2 ≠ s0 + 1; omega))))).trans (World.cell?_setCell_same' X2 ⟨s0 + 1, 0, none⟩ (.bool true) (by rw [d2]; rfl))
      have hbw : Below s0 w (((X2.setCell ⟨s0 + 1, 0, none⟩ (.bool true)).putObj D2 (.deferred none)).putObj D (.deferred none)) :=
        (((HB.out.trans (hb2.mono (by omega))).setCell (p := ⟨s0 + 1, 0, none⟩) (by show s0 ≤ s0 + 1; omega) _).trans (below_put _ _ (by omega))).trans (below_put _ _ (by omega))
      have HBW := Lib.hid hbw
      have HC5 := Lib.hid hc5
      have HK1' := Lib.hid k1'
      have HK2' := Lib.hid k2'
      clear hbw hc5 k1' k2' k1 k2 hb2 hbY hbX c1 c2 c3 c4 c5 c6 c7 c8
      go_wp2
      refine ⟨by simp, .inl ⟨_, _, rfl, run_takeDeferred HK2'.out, ?_⟩⟩
      refine ⟨by simp, .inl ⟨_, _, rfl, run_takeDeferred HK1'.out, ?_⟩⟩
      have hc6 := HC5.out
      exact ⟨.bool true, by simp [results, Tryd.f5, go_sem, hc6], rfl, by rw [hs0]; exact HBW.out⟩
    case stop1 =>
      rintro D2 q pre x post Wd2 hD2 hall h hK
      exact h.elim
set_option maxRecDepth 100000 in
theorem lifted (os : Os) (started : os.Started) (H : Type) (enc : TypeId × Value → H) :
    ReturnsInHanded {} Tryd.checked os 5 .any (fun w args => (Rows.bitsAllSpec.pre enc Tryd.prog Tryd.f5 Rows.bitsAllRow.domain false w args ∧ laidMetH Tryd.prog Rows.bitsAllRow.laid w) ∧ sizedMet enc Tryd.prog Tryd.f5 (OpenSpec.ofChange Rows.bitsAllSpec) false w args) (Rows.bitsAllSpec.post enc Tryd.prog Tryd.f5 false true false false) := by
  refine returnsInHanded_of_change_and (C := Tryd.checked) (X := fun w _ => laidMetH Tryd.prog Rows.bitsAllRow.laid w) (fun _ _ _ hh h => h.of_heap hh) own started (by kernel_rfl) Tryd.func5
    (ChangeSpec.witness_shaped (enc := enc) (C := Tryd.checked) (os := os) (X := fun w _ => laidMetH Tryd.prog Rows.bitsAllRow.laid w) false (World.laidAll Tryd.prog os Rows.bitsAllRow.laid) #[.int .i64 0, .int .u16 0] 8 (World.laidAll_os _ _ _)
      (World.shaped_of_ZipB (by kernel_rfl) (by kernel_rfl)) (by kernel_rfl) (by kernel_rfl) (by kernel_rfl)
      (by rw [MakeChecks.laidMetH_plain _ _ _ (by kernel_rfl)]; exact laidMet_laidAll _ (by kernel_rfl) (by kernel_rfl))) ?_
  intro W base args ds gs before hval0 hW hcnd _ _ _
  have hval : ∀ (j : Nat) t v, Tryd.f5.params[j]? = some t → args[j]? = some v → Value.okWide Tryd.prog W .any base t v := hval0
  have hW' := hW
  obtain ⟨p, q, hA0, hV, hpq, hfz, hnd⟩ := hW
  have hA : DataW.TrodAll enc Tryd.prog W 0 (fun _ => true) true Tryd.f5.params.toList args.toList ds p := hA0
  rw [Tryd.params5] at hA hval
  obtain ⟨v0, vs0, d0, ds0, p0, q0, hargs, rfl, rfl, h0, r0⟩ := trodAll_cons hA
  obtain ⟨v1, vs1, d1, ds1, p1, q1, rfl, rfl, rfl, h1, r1⟩ := trodAll_cons r0
  obtain ⟨rfl, rfl, rfl⟩ := trodAll_nil r1
  obtain rfl : args = #[v0, v1] := by cases args; simp_all
  obtain ⟨rfl, rfl⟩ := trodVars_none hV
  obtain ⟨a0, rfl, rfl, rfl, w0⟩ := open_int Tryd.underlying3 (hval 0 3 v0 rfl rfl) h0
  obtain ⟨a1, rfl, rfl, rfl, w1⟩ := open_int Tryd.underlying37 (hval 1 37 v1 rfl rfl) h1
  refine (walk W a0 w0 a1 w1).mono fun e W' ⟨he, hb⟩ => ?_
  subst he
  exact ⟨_, rfl, Frame.close laidOut hW' rfl rfl rfl Tryd.underlying4 (fun t ht => by rw [Tryd.params5] at ht; simp at ht; rcases ht with rfl | rfl <;> exact ⟨by kernel_rfl, of_decide_eq_true (by kernel_rfl)⟩) hb⟩
theorem over : Rows.bitsAllRow.holds Tryd.pinned (OpenSpec.ofChange Rows.bitsAllSpec) :=
  OpenClaim.holds_of_wide 5 Tryd.f5 rfl rfl rfl rfl rfl rfl rfl ⟨rfl, rfl, rfl, rfl, rfl⟩ rfl rfl rfl rfl rfl (by kernel_rfl) Tryd.func5 (by kernel_rfl)
    (of_decide_eq_true (by kernel_rfl)) (by unfold Func.isWrapper; first | (rw [if_pos (by decide +kernel)]; kernel_rfl) | (rw [if_neg (by decide +kernel)]; exact ⟨rfl, rfl⟩))
    (fun os started H enc _ => lifted os started H enc)
/-- the statement -/
theorem proved : Rows.BitsAllCardSaid :=
  Claim7.holds_tied_plain_at .later [] _ _ _ _ over (fun _ h => by cases h) (by kernel_rfl) (fun _ h => by cases h) bitsAll_row_tie rfl ⟨rfl, rfl⟩ (by kernel_rfl) rfl
    (fun f fn hf hfn => by
      obtain rfl : f = 5 := Option.some.inj ((show Tryd.prog.funcNamed "tombola/tombolalaw07.BitsAll" = some 5 by kernel_rfl).symm.trans hf) |>.symm
      obtain rfl : fn = Tryd.f5 := (Option.some.inj (Tryd.func5.symm.trans hfn)).symm
      exact ⟨by kernel_rfl, (fun j t ht => by
        rw [Tryd.params5] at ht
        have hm : t ∈ [3, 37] := by simpa using Array.mem_of_getElem? ht
        have hall : ([3, 37].all fun u => !Tryd.prog.wantsStandIn u) = true := by kernel_rfl
        exact (show Tryd.prog.wantsStandIn t = false by simpa using List.all_eq_true.1 hall t hm))⟩)
    (by kernel_rfl)
#print axioms proved
end Go.Proofs.YtcpkkceoobioiaaDoor.bitsAll
