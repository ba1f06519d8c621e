/- What Mul of layer 2 answers, over this translation. -/
import Derived.Test.YtbadbjmhmadbmaaDoorNatTimes
import Derived.Test.YtbadbjmhmadbmaaDoorNatTell
import Derived.Test.YtbadbjmhmadbmaaDoorNatAdd
namespace Go.Proofs.YtbadbjmhmadbmaaDoor
open Go.RowKit
set_option linter.unusedVariables false
set_option maxRecDepth 20000
open N
namespace N
theorem mul_step {ys zs : List Int} {x c V : Int} {i j : Nat} (hk : i + j < zs.length) 
    (h : val B zs + c * Q B (i + j) = V + x * lo B ys j * Q B i) :
    val B (zs.set (i + j) (tmL (lim ys j) x (lim zs (i + j)) c)) + tmH (lim ys j) x (lim zs (i + j)) c * Q B (i + j + 1) = V + x * lo B ys (j + 1) * Q B i := by
  rw [val_set B zs _ _ hk, lo_succ, Q_succ]
  have e := tm_eq (lim ys j) x (lim zs (i + j)) c
  generalize tmL (lim ys j) x (lim zs (i + j)) c = s at *
  generalize tmH (lim ys j) x (lim zs (i + j)) c = t at *
  generalize lim zs (i + j) = z at *
  generalize lim ys j = y at *
  have e2 : (s - z) * Q B (i + j) + t * (Q B (i + j) * B) = (y * x + c) * Q B (i + j) := by
    rw [← Int.mul_assoc t, Int.mul_right_comm t, ← Int.add_mul]
    congr 1
    show s - z + t * 18446744073709551616 = _
    omega
  have e3 : x * (lo B ys j + y * Q B j) * Q B i = x * lo B ys j * Q B i + y * x * Q B (i + j) := by
    rw [Q_add, Int.mul_add, Int.add_mul]
    congr 1
    rw [show x * (y * Q B j) = y * x * Q B j by rw [← Int.mul_assoc, Int.mul_comm x y], Int.mul_assoc, Int.mul_comm (Q B j)]
  rw [Int.add_mul] at e2
  rw [e3]
  omega
theorem mul_last {xs ys zs : List Int} {c : Int} {i : Nat} (hy : Dg B ys) (hk : i + nn ys < zs.length) (hz : lim zs (i + nn ys) = 0)
    (h : val B zs + c * Q B (i + nn ys) = lo B xs i * val B ys + lim xs i * lo B ys (nn ys) * Q B i) :
    val B (zs.set (i + nn ys) c) = lo B xs (i + 1) * val B ys := by
  rw [val_set B zs _ _ hk, hz, Int.sub_zero, lo_succ, Int.add_mul, h, lo_all_nn hy (Nat.le_refl _)]
  congr 1
  rw [Int.mul_right_comm]
theorem tm_zero {x c : Int} (hc : W.Wd c) : tmL 0 x 0 c = c ∧ tmH 0 x 0 c = 0 := by
  unfold tmL tmH tmT W.Wd at *; rw [Int.zero_mul]; omega
end N
theorem Cry.startM {w wo : World} {g : Nat} {zs : List Int} (ha : Arr wo g zs) (hb : Below w.heap.size w wo) (F : Value) (t : TypeId) (x : Int) :
    Cry w g (wo.heap.size + 1) (wo.heap.size + 1 + 1) F zs 0 (((wo.alloc (.cells #[.int .u64 x] 33)).alloc (.cells #[F] t)).alloc (.cells #[.int .u64 0] 33)) ∧
    (((wo.alloc (.cells #[.int .u64 x] 33)).alloc (.cells #[F] t)).alloc (.cells #[.int .u64 0] 33)).cell? ⟨wo.heap.size, 0, none⟩ = some (.int .u64 x) := by
  have h1 := heap_alloc_new wo (.cells #[.int .u64 x] 33)
  have ha1 := ha.alloc (.cells #[.int .u64 x] 33)
  have b1 := hb.alloc hb.size (.cells #[.int .u64 x] 33)
  generalize hw1 : wo.alloc (.cells #[.int .u64 x] 33) = w1 at *
  have e1 : w1.heap.size = wo.heap.size + 1 := by rw [← hw1]; exact World.size_alloc ..
  have h2 := heap_alloc_new w1 (.cells #[F] t)
  have h1' := (Below.heap_alloc w1 (.cells #[F] t) wo.heap.size (by omega)).trans h1
  have ha2 := ha1.alloc (.cells #[F] t)
  have b2 := b1.alloc b1.size (.cells #[F] t)
  generalize hw2 : w1.alloc (.cells #[F] t) = w2 at *
  have e2 : w2.heap.size = wo.heap.size + 1 + 1 := by rw [← hw2, ← e1]; exact World.size_alloc ..
  have h3 := heap_alloc_new w2 (.cells #[.int .u64 0] 33)
  have h2' := (Below.heap_alloc w2 (.cells #[.int .u64 0] 33) w1.heap.size (by omega)).trans h2
  have h1'' := (Below.heap_alloc w2 (.cells #[.int .u64 0] 33) wo.heap.size (by omega)).trans h1'
  rw [e1] at h2'
  rw [e2] at h3
  refine ⟨⟨ha2.alloc _, ?_, ?_, ?_, b2.alloc b2.size _⟩, ?_⟩
  · rw [cell_of_row _ _ 0 _ _ _ h2']; rfl
  · rw [cell_of_row _ _ 0 _ _ _ h3]; rfl
  · simp [World.frozen?, h3]
  · rw [cell_of_row _ _ 0 _ _ _ h1'']; rfl
def MulRel (w : World) (xs ys : List Int) (g : Nat) (i : Value) (wr : World) : Prop :=
  ∃ (k : Nat) (zs : List Int), i = .int .i64 k ∧ k ≤ nn xs ∧ zs.length = nn xs + nn ys ∧ Dg B zs ∧ (∀ j, k + nn ys ≤ j → lim zs j = 0) ∧ val B zs = lo B xs k * val B ys ∧ Arr wr g zs ∧ Below w.heap.size w wr
def MulIn (w : World) (xs ys : List Int) (g b1 b2 bm k : Nat) (F : Value) (i : Value) (wr : World) : Prop :=
  ∃ (j : Nat) (zs : List Int) (c : Int), i = .int .i64 j ∧ j ≤ nn ys ∧ zs.length = nn xs + nn ys ∧ Dg B zs ∧ W.Wd c ∧ (∀ j, k + nn ys ≤ j → lim zs j = 0) ∧
    val B zs + c * Q B (k + j) = lo B xs k * val B ys + lim xs k * lo B ys j * Q B k ∧ Cry w g b1 b2 F zs c wr ∧ wr.cell? ⟨bm, 0, none⟩ = some (.int .u64 (lim xs k))
set_option maxHeartbeats 1000000 in
theorem nmul_any (w : World) (A A' : Option Addr) (n c m d : Nat) (xs ys : List Int) (hx : Sl w A n c xs) (hy : Sl w A' m d ys) (hn : n ≤ 1099511627776) (hm : m ≤ 1099511627776) :
    Calls Tryd.prog 27 #[.slice A n c, .slice A' m d] w (Out w (n + m) (val B xs * val B ys)) := by
  have hnx := nn_le xs
  have hny := nn_le ys
  rw [hx.len] at hnx
  rw [hy.len] at hny
  have hmk : ∀ W : World, (Instr.makeSlice 23 (.int .i64 ((nn xs : Nat) + (nn ys : Nat) : Int)) (.int .i64 ((nn xs : Nat) + (nn ys : Nat) : Int))).run Tryd.prog W = .ok (.slice (some ⟨W.heap.size, 0, none⟩) (nn xs + nn ys) (nn xs + nn ys)) (W.alloc (.cells (madeCells #[.int .u64 0] (nn xs + nn ys)) 33)) := by
    intro W
    have := make_run _ slNat (nn xs + nn ys) (by omega) W
    rwa [Int.natCast_add] at this
  go_enter Tryd.func27, Tryd.ntmps27
  go_wp2_with (first
      | (go_at_call_of 40 (Value.slice A n c); refine (bare_any _ _ _ _ xs hx).mono ?_; rintro e w' ⟨rfl, rfl⟩)
      | (go_at_call_of 40 (Value.slice A' m d); refine (bare_any _ _ _ _ ys hy).mono ?_; rintro e w' ⟨rfl, rfl⟩))
  have HX := Lib.hid hx
  have HY := Lib.hid hy
  have hcx := hx.cap
  have hcy := hy.cap
  clear hx hy hmk
  go_loopw [24] (fun i wr => MulRel w' xs ys w'.heap.size i wr) (fun i _ => nn xs - (intOf i).toNat)
  case atStart =>
    exact ⟨0, List.replicate (nn xs + nn ys) 0, rfl, Nat.zero_le _, by simp, Dg.zeros (by decide) _, fun j _ => lim_zeros _ _, by rw [val_zeros, lo_zero]; simp, Arr.made _ _, (Below.refl _ _).alloc (Nat.le_refl _) _⟩
  case round =>
    obtain ⟨k, zs, rfl, hk, hl, hd, hz, hv, hA, hB⟩ := hrel
    obtain ⟨wo, rfl⟩ : ∃ wo : World, wo = wr := ⟨_, rfl⟩
    by_cases hlt : k < nn xs
    · have hxk := HX.out.dg.lim (b := B) (by decide) k
      obtain ⟨ad, rfl, _, hcx⟩ := (HX.out.below hB).cell (k := k) (by omega)
      have HL := Lib.hid hl
      have HZ := Lib.hid hz
      have HV := Lib.hid hv
      have hg := hB.size
      have hg2 := hA.lt
      clear hl hz hv
      go_wp2_with (first
        | (go_at_call 44; refine (times_any _ _).mono ?_; rintro e w3 ⟨rfl, rfl⟩)
        | (go_at_call 42; refine (carrying_any _ _ _).mono ?_; rintro e w3 ⟨rfl, rfl⟩))
      obtain ⟨hS1, hS2⟩ := Cry.startM hA hB (.func (.func 60) #[] #[.pointer (some ⟨wo.heap.size, 0, none⟩)]) 68 (lim xs k)
      go_loopw [37] (fun i wr => MulIn w' xs ys w'.heap.size (wo.heap.size + 1) (wo.heap.size + 1 + 1) wo.heap.size k (.func (.func 60) #[] #[.pointer (some ⟨wo.heap.size, 0, none⟩)]) i wr) (fun i _ => nn ys - (intOf i).toNat)
      case atStart =>
        exact ⟨0, zs, 0, rfl, Nat.zero_le _, HL.out, hd, W.wd_0, HZ.out, by rw [lo_zero, HV.out]; simp, hS1, hS2⟩
      case round =>
        obtain ⟨j, zs', c', rfl, hj, hl, hd', hc', hz, hv, hC, hm'⟩ := hrel
        obtain ⟨wi, rfl⟩ : ∃ wi : World, wi = wr := ⟨_, rfl⟩
        by_cases hjl : j < nn ys
        · have hyj := HY.out.dg.lim (b := B) (by decide) j
          have hzk := hd'.lim (by decide) (k + j)
          obtain ⟨ad', rfl, _, hcy⟩ := (HY.out.below hC.bl).cell (k := j) (by omega)
          have hcell : wi.cell? ⟨w'.heap.size, k + j, none⟩ = some (.int .u64 (lim zs' (k + j))) := hC.arr.cell (by omega)
          have hs := Lib.hid (mul_step (by omega : k + j < zs'.length) hv)
          have hw := wd_tmL (lim ys j) (lim xs k) (lim zs' (k + j)) c'
          have hw2 := wd_tmH (x := lim ys j) (m := lim xs k) (y := lim zs' (k + j)) (c := c') hyj hxk hzk hc'
          have C1 := hC.carry (by omega) (by omega) (by omega) (tmH (lim ys j) (lim xs k) (lim zs' (k + j)) c')
          have hcell1 := C1.arr.cell (k := k + j) (by omega)
          have hfz1 := C1.arr.frozen (k + j)
          have f1 := hC.fn
          have f2 := hC.cy
          have f3 := hC.fz
          have HLn := Lib.hid hl
          have HZ2 := Lib.hid hz
          have HV2 := Lib.hid hv
          clear hl hz hv
          go_wp2_with (first
            | (go_at_call 57; refine (carry_times wi _ _ wo.heap.size _ (lim xs k) _ c' hyj hxk hzk hc' hm' f1 f2 f3).mono ?_; rintro e w3 ⟨rfl, rfl⟩))
          go_roundw
          case rel =>
            refine ⟨j + 1, _, _, by go_num, by omega, by rw [List.length_set]; exact HLn.out, hd'.set (k + j) hw.1 hw.2, hw2, ?_, hs.out, C1.store (by omega) (by omega) (by omega) (k + j) _, ?_⟩
            · intro jj hjj
              rw [lim_set _ _ _ _ (by rw [HLn.out]; omega), if_neg (by omega)]
              exact HZ2.out jj hjj
            · rw [World.cell?_setCell_other _ _ _ _ (fun e => absurd (congrArg Addr.block e) (by show ¬ w'.heap.size = wo.heap.size; omega)), World.cell?_setCell_other _ _ _ _ (fun e => absurd (congrArg Addr.block e) (by show ¬ wo.heap.size + 1 + 1 = wo.heap.size; omega))]
              exact hm'
          case measure => simp [intOf]; omega
        · obtain rfl : j = nn ys := by omega
          have hcell : wi.cell? ⟨w'.heap.size, k + nn ys, none⟩ = some (.int .u64 (lim zs' (k + nn ys))) := hC.arr.cell (by omega)
          have hz0 := hz (k + nn ys) (Nat.le_refl _)
          have hs := Lib.hid (mul_last HY.out.dg (by omega : k + nn ys < zs'.length) hz0 hv)
          obtain ⟨t1, t2⟩ := tm_zero (x := lim xs k) hc'
          have T1 := Lib.hid t1
          have T2 := Lib.hid t2
          have C1 := hC.carry (by omega) (by omega) (by omega) 0
          have hcell1 := C1.arr.cell (k := k + nn ys) (by omega)
          have hfz1 := C1.arr.frozen (k + nn ys)
          have f1 := hC.fn
          have f2 := hC.cy
          have f3 := hC.fz
          have HLn := Lib.hid hl
          have HZ2 := Lib.hid hz
          have HV2 := Lib.hid hv
          clear hl hz hv hz0 t1 t2
          go_wp2_with (first
            | (go_at_call 57; refine (carry_times wi _ _ wo.heap.size 0 (lim xs k) 0 c' W.wd_0 hxk W.wd_0 hc' hm' f1 f2 f3).mono ?_; rw [T1.out, T2.out]; rintro e w3 ⟨rfl, rfl⟩))
          go_roundw
          case rel =>
            refine ⟨k + 1, _, by go_num, by omega, by rw [List.length_set]; exact HLn.out, hd'.set (k + nn ys) hc'.1 hc'.2, ?_, hs.out, (C1.store (by omega) (by omega) (by omega) (k + nn ys) _).arr, (C1.store (by omega) (by omega) (by omega) (k + nn ys) c').bl⟩
            intro jj hjj
            rw [lim_set _ _ _ _ (by rw [HLn.out]; omega), if_neg (by omega)]
            exact HZ2.out jj (by omega)
          case measure => simp [intOf]; omega
    · obtain rfl : k = nn xs := by omega
      have hS := hA.sl hl (by unfold maxLen; omega) hd
      have hE : val B zs = val B xs * val B ys := by rw [hv, lo_all_nn HX.out.dg (Nat.le_refl _)]
      have HE := Lib.hid hE
      have hnz := nn_le zs
      rw [hl] at hnz
      have HLn := Lib.hid hl
      clear hv hz hl hE
      go_wp2_with (first
        | (go_at_call 40; refine (bare_any _ _ _ _ zs hS).mono ?_; rintro e w3 ⟨rfl, rfl⟩))
      go_ret
      refine ⟨_, _, _, rfl, by omega, ?_, hB⟩
      rw [← HE.out, limbs_of hd]
      exact ⟨hA.own (Nat.le_refl _) HLn.out (by unfold maxLen; omega) hnz, hd.take _⟩
end Go.Proofs.YtbadbjmhmadbmaaDoor
