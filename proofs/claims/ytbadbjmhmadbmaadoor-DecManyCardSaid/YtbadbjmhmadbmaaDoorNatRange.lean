/- slices.Backward over a natural: what it hands its loop, over this translation. -/
import Derived.Test.YtbadbjmhmadbmaaDoorNatMem
import Derived.Test.YtbadbjmhmadbmaaDoorNatWord
import Derived.RangeFuncBox
import Derived.RangeFuncLeaves
import Derived.RangeFuncFrom
import Derived.RangeFuncWrites
import Derived.RangeFuncCalls
import Derived.Shelf.Abstract
import Derived.Shelf.RegionOpen
import Derived.WalkKit
import Derived.OwnWalkIn
import Derived.TacticsInMore
import Derived.LoopNIn
import Derived.LoopIn
namespace Go.Proofs.YtbadbjmhmadbmaaDoor
open Go.RowKit Go.Shelf
set_option linter.unusedVariables false
set_option maxRecDepth 20000
open N
/-- what a body must come to that does not panic, marks and all -/
def bodyPostQ (n : Nat) (P : Program) (fn : Func) (R : Ending → World → Prop) : Exit → Act → World → Prop
  | .normal, a, w | .ret, a, w => LeavesInM Fence.wide n P fn a.tmps R a.defers .returning w
  | .outgrown, _, w => R .outgrown w
  | _, _, _ => False
theorem calls_of_wp_q (n : Nat) {P : Program} {f : FuncId} {fn : Func} {c : Code} {args : Array Value} {w : World} {R : Ending → World → Prop} (hf : P.funcs[f]? = some fn) (hb : fn.body = some c)
    (h : c.wp P (bodyPostQ n P fn R) { tmps := args ++ Array.replicate (fn.ntmps - args.size) undef, defers := [] } w) : Calls P f args w R := by
  refine (callsIn_wide (n := n)).1 (callsIn_of_wp_marks hf hb trivial (wpIn_mono (wpIn_wide.2 h) ?_) rfl)
  intro e a w hq
  cases e <;> first | exact hq | exact hq.elim
theorem leave_q {n : Nat} {P : Program} {fn : Func} {R : Ending → World → Prop} {a : Act} {w : World} (hd : a.defers = []) (v : Value) (hr : (results fn a.tmps).run P w = .ok v w) (h : R (.returned v) w) : bodyPostQ n P fn R .ret a w := by
  show LeavesInM Fence.wide n P fn a.tmps R a.defers .returning w
  rw [hd]
  exact ⟨v, hr, h⟩
attribute [local go_sem] Oper.semAt_some
namespace N
/-- what has come when k rounds are over: f 0, .., f (k - 1) -/
def upto {α : Type} (f : Nat → α) (k : Nat) : List α := (List.range k).map f
theorem upto_succ {α : Type} (f : Nat → α) (k : Nat) : upto f (k + 1) = upto f k ++ [f k] := by simp [upto, List.range_succ]
theorem upto_length {α : Type} (f : Nat → α) (k : Nat) : (upto f k).length = k := by simp [upto]
/-- the places in the row in which they come: from the end -/
def dn (len : Nat) (k : Nat) : List Nat := upto (fun m => len - 1 - m) k
theorem dn_succ (len k : Nat) : dn len (k + 1) = dn len k ++ [len - 1 - k] := upto_succ _ _
theorem mem_dn {len k j : Nat} (h1 : len ≤ j + k) (h2 : j < len) : j ∈ dn len k := by
  unfold dn upto
  exact List.mem_map.2 ⟨len - 1 - j, by simp; omega, by omega⟩
theorem of_dn {len k : Nat} {l : List (Fin len)} (h : l.map Fin.val = dn len k) {j : Nat} (h1 : len ≤ j + k) (h2 : j < len) : ∃ p ∈ l, p.val = j := by
  have := mem_dn h1 h2
  rw [← h] at this
  exact List.mem_map.1 this
theorem dn_snoc {len k : Nat} {ini : List (Fin len)} {last : Fin len} (h : (ini ++ [last]).map Fin.val = dn len k) {j : Nat} (h1 : last.val < j) (h2 : j < len) : ∃ p ∈ ini, p.val = j := by
  have hl : ini.length + 1 = k := by
    have := congrArg List.length h
    rw [dn, upto_length] at this; simpa using this
  subst hl
  rw [dn_succ, List.map_append] at h
  obtain ⟨e1, e2⟩ := List.append_inj' h rfl
  have e3 : last.val = len - 1 - ini.length := by simpa using e2
  exact of_dn e1 (by omega) h2
/-- the places of the slice A, below block n₀ -/
def Rd (n₀ : Nat) (W : World) (A : Option Addr) (len : Nat) (xs : List Int) : Prop :=
  ∀ k, k < len → ∃ ad, A = some ad ∧ ad.block < n₀ ∧ W.cell? (ad.add k) = some (.int .u64 (lim xs k))
theorem Rd.below {n₀ : Nat} {W W' : World} {A : Option Addr} {len : Nat} {xs : List Int} (h : Rd n₀ W A len xs) (hb : Below n₀ W W') : Rd n₀ W' A len xs := fun k hk => by
  obtain ⟨ad, e, hlt, hc⟩ := h k hk
  exact ⟨ad, e, hlt, by rw [hb.cell (by rw [add_block]; exact hlt)]; exact hc⟩
theorem Rd.tr {n₀ : Nat} {W : World} {A : Option Addr} {len : Nat} {xs : List Int} (h : Rd n₀ W A len xs) (hl : nn xs ≤ len) : Rd n₀ W A (nn xs) xs := fun k hk => h k (by omega)
theorem Sl.rd {W : World} {A : Option Addr} {n c : Nat} {xs : List Int} (h : Sl W A n c xs) : Rd W.heap.size W A n xs := fun k hk => h.cell hk
/-- what a round keeps: what lay below block n₀, and block Bs -/
def KpB (n₀ Bs : Nat) (W W' : World) : Prop := Below n₀ W W' ∧ W'.heap[Bs]? = W.heap[Bs]?
theorem KpB.refl (n₀ Bs : Nat) (W : World) : KpB n₀ Bs W W := ⟨Below.refl _ _, rfl⟩
theorem KpB.trans {n₀ Bs : Nat} {A C D : World} (h : KpB n₀ Bs A C) (k : KpB n₀ Bs C D) : KpB n₀ Bs A D := ⟨h.1.trans k.1, k.2.trans h.2⟩
theorem KpB.put {n₀ Bs : Nat} {w : World} (hn : n₀ ≤ w.heap.size) (hB : Bs < w.heap.size) (W : World) (l : Nat) (o o' : Obj) (hl : w.heap.size ≤ l) (h : W.heap[l]? = some o) (h1 : o.isCells = false) (h2 : o.isWalk = false) :
    KpB n₀ Bs W (W.putObj l o') :=
  ⟨belowK_b hn W l o o' hl h h1 h2, (grownBy_putObj' W l o').block Bs (by have := (Array.getElem?_eq_some_iff.1 h).1; omega) (fun e => by cases e; omega)⟩
theorem KpB.set {n₀ Bs : Nat} (W : World) {p : Addr} (h : n₀ ≤ p.block) (hB : Bs ≠ p.block) (u : Value) : KpB n₀ Bs W (W.setCell p u) :=
  ⟨(Below.refl n₀ W).setCell h u, Below.heap_setCell W p u Bs hB⟩
theorem KpB.cell {n₀ Bs : Nat} {W W' : World} (h : KpB n₀ Bs W W') : W'.cell? ⟨Bs, 0, none⟩ = W.cell? ⟨Bs, 0, none⟩ := World.cell?_of_block (w := W) h.2
end N
set_option maxRecDepth 100000 in
set_option maxHeartbeats 2000000 in
theorem back1_in (F : Fence) (n : Nat) (h7 : F.fn 63) (hro : F.round = none) (hn : 1 ≤ n) (l Bs n₀ : Nat) (A : Option Addr) (len cap : Nat) (xs : List Int) (hreach : len ≤ 1099511627776) (J Jx : List (Fin len) → World → Prop)
    (hY : ∀ pre x W, J pre W → pre.length < len → YieldAt F (n - 1) Tryd.prog l #[.int .i64 ((x.val : Nat) : Int), .int .u64 (lim xs x.val)] W fun e W' =>
      (e = .returned (.bool true) ∧ J (pre ++ [x]) W' ∧ KpB n₀ Bs W W') ∨ (e = .returned (.bool false) ∧ Jx (pre ++ [x]) W'))
    (W : World) (hBs : W.cell? ⟨Bs, 0, none⟩ = some (.slice A len cap)) (hc : Rd n₀ W A len xs) (h0 : J [] W) :
    CallsIn F n Tryd.prog 63 #[.func (.yield l) #[] #[], .pointer (some ⟨Bs, 0, none⟩)] W fun e W' => (∃ v, e = .returned v) ∧
      ((∃ ys, ys.map Fin.val = dn len len ∧ J ys W') ∨ (∃ pre, (∃ k, k ≤ len ∧ pre.map Fin.val = dn len k) ∧ Jx pre W')) := by
  refine callsIn_of_wp Tryd.func63 rfl h7 ?_ hro
  simp only [Tryd.ntmps63, List.size_toArray, List.length_cons, List.length_nil, Nat.reduceAdd, Nat.reduceSub, Array.replicate_succ, Array.replicate_zero, List.push_toArray, List.append_toArray, List.nil_append, List.cons_append]
  gi_wp2
  gi_loopw [3] (fun i wr => ∃ (m : Nat) (pre : List (Fin len)), m ≤ len ∧ pre.map Fin.val = dn len m ∧ i = .int .i64 ((len : Int) - 1 - m) ∧ J pre wr ∧ KpB n₀ Bs W wr)
    (fun i _ => (intOf i + 1).toNat)
  case atStart => exact ⟨0, [], Nat.zero_le _, rfl, by simp, h0, KpB.refl _ _ _⟩
  case round =>
    obtain ⟨m, pre, hm, hpre, rfl, hJs, hnx⟩ := hrel
    have hBs' : wr.cell? ⟨Bs, 0, none⟩ = some (.slice A len cap) := hnx.cell.trans hBs
    have HP := Lib.hid hpre
    have hpl : pre.length = m := by rw [← List.length_map (f := Fin.val), hpre]; exact upto_length _ _
    clear hpre
    by_cases hlt : m < len
    · obtain ⟨r, hr⟩ : ∃ r : Nat, (len : Int) - 1 - m = r := ⟨len - 1 - m, by omega⟩
      have hrl : r < len := by omega
      obtain ⟨ad, rfl, hlb, hcx⟩ := hc.below hnx.1 r hrl
      obtain ⟨fn, tmps, assign, body, hy, hR⟩ := hY pre ⟨r, hrl⟩ wr hJs (by rw [hpl]; exact hlt)
      dsimp only at hy
      have HL := Lib.hid hpl
      have HR := Lib.hid hr
      rw [hr]
      clear hr hpl
      gi_wp2
      refine hR.mono ?_
      rintro e W3 (⟨rfl, hJ3, hk3⟩ | ⟨rfl, hJx3⟩)
      · gi_wp2
        go_roundw
        case rel => exact ⟨m + 1, pre ++ [⟨r, hrl⟩], by omega, by
          have := HR.out
          rw [List.map_append, HP.out]; unfold dn; rw [upto_succ]; simp; omega, by have := HR.out; congr 1; omega, hJ3, hnx.trans hk3⟩
        case measure => simp [intOf]
      · gi_wp2
        refine bodyPost_ret (results_none rfl _ _ _) rfl ?_
        exact ⟨⟨_, rfl⟩, .inr ⟨_, ⟨m + 1, by omega, by
          have := HR.out
          rw [List.map_append, HP.out]; unfold dn; rw [upto_succ]; simp; omega⟩, hJx3⟩⟩
    · obtain rfl : m = len := by omega
      gi_wp2
      go_end0
      exact ⟨⟨_, rfl⟩, .inl ⟨_, HP.out, hJs⟩⟩
set_option maxHeartbeats 1000000 in
theorem back_in (F : Fence) (n : Nat) (h5 : F.fn 46) (hro : F.round = none) (A : Option Addr) (len cap : Nat) (w : World) :
    CallsIn F n Tryd.prog 46 #[.slice A len cap] w fun e w' =>
      e = .returned (.func (.func 63) #[] #[.pointer (some ⟨w.heap.size, 0, none⟩)]) ∧ w' = w.alloc (.cells #[.slice A len cap] 23) := by
  refine callsIn_of_wp Tryd.func46 rfl h5 ?_ hro
  simp only [Tryd.ntmps46, List.size_toArray, List.length_cons, List.length_nil, Nat.reduceAdd, Nat.reduceSub, Array.replicate_succ, Array.replicate_zero, List.push_toArray, List.append_toArray, List.nil_append, List.cons_append]
  gi_wp2
  go_ret
  exact ⟨rfl, rfl⟩
theorem back_stops (F : Fence) (n : Nat) (h7 : F.fn 63) (hro : F.round = none) (hn : 1 ≤ n) (Bs n₀ : Nat) (A : Option Addr) (len cap : Nat) (xs : List Int) (hreach : len ≤ 1099511627776) (w : World)
    (hBn : Bs < w.heap.size) (hn₀ : n₀ ≤ w.heap.size) (hc : w.cell? ⟨Bs, 0, none⟩ = some (.slice A len cap)) (hI : Rd n₀ w A len xs) :
    SeqStopsK F n Tryd.prog 63 #[.pointer (some ⟨Bs, 0, none⟩)] (fun x : Fin len => #[Value.int .i64 ((x.val : Nat) : Int), Value.int .u64 (lim xs x.val)]) (KpB n₀ Bs) (fun ys => ys.map Fin.val = dn len len)
      (fun pre => ∃ k, k ≤ len ∧ pre.map Fin.val = dn len k) len w := fun l J Jx W hW _ _ hY h0 =>
  back1_in F n h7 hro hn l Bs n₀ A len cap xs hreach J Jx hY W ((hW.cell (p := ⟨Bs, 0, none⟩) hBn).trans hc) (hI.below (hW.mono hn₀)) h0
end Go.Proofs.YtbadbjmhmadbmaaDoor
