/- slices.Backward over a row that the loop's own body writes: what it hands its loop, over this translation. -/
import Derived.Test.YtbadbjmhmadbmaaDoorNatRange
import Derived.Test.YtbadbjmhmadbmaaDoorQuoMem
namespace Go.Proofs.YtbadbjmhmadbmaaDoor
open Go.RowKit Go.Shelf
set_option linter.unusedVariables false
set_option maxRecDepth 20000
open N
attribute [local go_sem] Oper.semAt_some
namespace N
/-- what a round keeps: the block Bs, and that block gq is a row of len words -/
def KpQ (Bs gq len : Nat) (W W' : World) : Prop := W'.heap[Bs]? = W.heap[Bs]? ∧ ∀ zs, Arr W gq zs → zs.length = len → ∃ zs', Arr W' gq zs' ∧ zs'.length = len
theorem KpQ.refl (Bs gq len : Nat) (W : World) : KpQ Bs gq len W W := ⟨rfl, fun zs h hl => ⟨zs, h, hl⟩⟩
theorem KpQ.trans {Bs gq len : Nat} {A C D : World} (h : KpQ Bs gq len A C) (k : KpQ Bs gq len C D) : KpQ Bs gq len A D :=
  ⟨k.1.trans h.1, fun zs hz hl => by obtain ⟨z1, h1, l1⟩ := h.2 zs hz hl; exact k.2 z1 h1 l1⟩
theorem KpQ.put {Bs gq len : Nat} {w : World} (hB : Bs < w.heap.size) (hq : gq < w.heap.size) (W : World) (l : Nat) (o o' : Obj) (hl : w.heap.size ≤ l) (h : W.heap[l]? = some o) (h1 : o.isCells = false) (h2 : o.isWalk = false) :
    KpQ Bs gq len W (W.putObj l o') := by
  have hl' := (Array.getElem?_eq_some_iff.1 h).1
  exact ⟨(grownBy_putObj' W l o').block Bs (by omega) (fun e => by cases e; omega), fun zs hz hn => ⟨zs, ((grownBy_putObj' W l o').block gq (by omega) (fun e => by cases e; omega)).trans hz, hn⟩⟩
theorem KpQ.cell {Bs gq len : Nat} {W W' : World} (h : KpQ Bs gq len W W') : W'.cell? ⟨Bs, 0, none⟩ = W.cell? ⟨Bs, 0, none⟩ := World.cell?_of_block (w := W) h.1
/-- the places of what has come -/
def pl {len : Nat} (pre : List (Fin len × Int)) : List Nat := pre.map fun p => p.1.val
end N
set_option maxRecDepth 100000 in
set_option maxHeartbeats 2000000 in
theorem backq_in (F : Fence) (n : Nat) (h7 : F.fn 63) (hro : F.round = none) (hn : 1 ≤ n) (l Bs gq : Nat) (len cap : Nat) (hreach : len ≤ 1099511627776) (J Jx : List (Fin len × Int) → World → Prop)
    (hY : ∀ pre x W, J pre W → pre.length < len → YieldAt F (n - 1) Tryd.prog l #[.int .i64 ((x.1.val : Nat) : Int), .int .u64 x.2] W fun e W' =>
      (e = .returned (.bool true) ∧ J (pre ++ [x]) W' ∧ KpQ Bs gq len W W') ∨ (e = .returned (.bool false) ∧ Jx (pre ++ [x]) W'))
    (W : World) (hBs : W.cell? ⟨Bs, 0, none⟩ = some (.slice (some ⟨gq, 0, none⟩) len cap)) (zs0 : List Int) (hc : Arr W gq zs0) (hzl : zs0.length = len) (h0 : J [] W) :
    CallsIn F n Tryd.prog 63 #[.func (.yield l) #[] #[], .pointer (some ⟨Bs, 0, none⟩)] W fun e W' => (∃ v, e = .returned v) ∧
      ((∃ ys, pl ys = dn len len ∧ J ys W') ∨ (∃ pre, (∃ k, k ≤ len ∧ pl pre = dn len k) ∧ Jx pre W')) := by
  refine callsIn_of_wp Tryd.func63 rfl h7 ?_ hro
  simp only [Tryd.ntmps63, List.size_toArray, List.length_cons, List.length_nil, Nat.reduceAdd, Nat.reduceSub, Array.replicate_succ, Array.replicate_zero, List.push_toArray, List.append_toArray, List.nil_append, List.cons_append]
  gi_wp2
  gi_loopw [3] (fun i wr => ∃ (m : Nat) (pre : List (Fin len × Int)) (zs : List Int), m ≤ len ∧ pl pre = dn len m ∧ i = .int .i64 ((len : Int) - 1 - m) ∧ J pre wr ∧ wr.heap[Bs]? = W.heap[Bs]? ∧ Arr wr gq zs ∧ zs.length = len)
    (fun i _ => (intOf i + 1).toNat)
  case atStart => exact ⟨0, [], zs0, Nat.zero_le _, rfl, by simp, h0, rfl, hc, hzl⟩
  case round =>
    obtain ⟨m, pre, zs, hm, hpre, rfl, hJs, hbk, hA, hzn⟩ := hrel
    have hBs' : wr.cell? ⟨Bs, 0, none⟩ = some (.slice (some ⟨gq, 0, none⟩) len cap) := (World.cell?_of_block (w := W) hbk).trans hBs
    have HP := Lib.hid hpre
    have hpl : pre.length = m := by have := congrArg List.length hpre; unfold pl at this; rwa [List.length_map, dn, upto_length] at this
    clear hpre
    by_cases hlt : m < len
    · obtain ⟨r, hr⟩ : ∃ r : Nat, (len : Int) - 1 - m = r := ⟨len - 1 - m, by omega⟩
      have hrl : r < len := by omega
      have hcx := hA.cell (k := r) (by omega)
      obtain ⟨fn, tmps, assign, body, hy, hR⟩ := hY pre (⟨r, hrl⟩, lim zs r) wr hJs (by rw [hpl]; exact hlt)
      dsimp only at hy
      have HL := Lib.hid hpl
      have HR := Lib.hid hr
      have HZ := Lib.hid hzn
      have HA := Lib.hid hA
      have HK := Lib.hid hbk
      rw [hr]
      clear hr hpl hzn hA hbk hc hzl
      gi_wp2
      refine hR.mono ?_
      rintro e W3 (⟨rfl, hJ3, hk3⟩ | ⟨rfl, hJx3⟩)
      · have hz3 := hk3.2 zs HA.out HZ.out
        have HK3 := Lib.hid (hk3.1.trans HK.out)
        have HZ3 := Lib.hid hz3
        clear hk3 hz3
        gi_wp2
        go_roundw
        case rel =>
          obtain ⟨zs', hA', hn'⟩ := HZ3.out
          exact ⟨m + 1, pre ++ [(⟨r, hrl⟩, lim zs r)], zs', by omega, by
            have h1 := HR.out
            have h2 := HP.out
            unfold pl at h2 ⊢
            rw [List.map_append, h2]; unfold dn; rw [upto_succ]; simp; omega, by have := HR.out; congr 1; omega, hJ3, HK3.out, hA', hn'⟩
        case measure => simp [intOf]
      · gi_wp2
        refine bodyPost_ret (results_none rfl _ _ _) rfl ?_
        exact ⟨⟨_, rfl⟩, .inr ⟨_, ⟨m + 1, by omega, by
          have h1 := HR.out
          have h2 := HP.out
          unfold pl at h2 ⊢
          rw [List.map_append, h2]; unfold dn; rw [upto_succ]; simp; omega⟩, hJx3⟩⟩
    · obtain rfl : m = len := by omega
      gi_wp2
      go_end0
      exact ⟨⟨_, rfl⟩, .inl ⟨_, HP.out, hJs⟩⟩
theorem backq_stops (F : Fence) (n : Nat) (h7 : F.fn 63) (hro : F.round = none) (hn : 1 ≤ n) (Bs gq : Nat) (len cap : Nat) (hreach : len ≤ 1099511627776) (w : World)
    (hBn : Bs < w.heap.size) (hc : w.cell? ⟨Bs, 0, none⟩ = some (.slice (some ⟨gq, 0, none⟩) len cap)) (zs : List Int) (hA : Arr w gq zs) (hzl : zs.length = len) :
    SeqStopsK F n Tryd.prog 63 #[.pointer (some ⟨Bs, 0, none⟩)] (fun x : Fin len × Int => #[Value.int .i64 ((x.1.val : Nat) : Int), Value.int .u64 x.2]) (KpQ Bs gq len) (fun ys => pl ys = dn len len)
      (fun pre => ∃ k, k ≤ len ∧ pl pre = dn len k) len w := fun l J Jx W hW _ _ hY h0 =>
  backq_in F n h7 hro hn l Bs gq len cap hreach J Jx hY W ((hW.cell (p := ⟨Bs, 0, none⟩) hBn).trans hc) zs (hA.below hW hA.lt) hzl h0
end Go.Proofs.YtbadbjmhmadbmaaDoor
