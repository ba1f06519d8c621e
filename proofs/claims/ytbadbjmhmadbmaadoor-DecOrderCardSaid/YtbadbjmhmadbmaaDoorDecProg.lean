/- What the program's Show and Many (and split, splitLow, fits) answer, over this translation: the decimal digits. -/
import Derived.Test.YtbadbjmhmadbmaaDoorDecRd
import Derived.Test.YtbadbjmhmadbmaaDoorDecBy
import Derived.Test.YtbadbjmhmadbmaaDoorQuoPow
import Derived.Deep.WholeRow
namespace Go.Proofs.YtbadbjmhmadbmaaDoor
open Go.RowKit
set_option linter.unusedVariables false
set_option maxRecDepth 20000
open N
open Go.Lib (decDigits nDigits decDigits_length nDigits_pos lt_pow_nDigits)
theorem fits_any (w : World) (A : Option Addr) (n c : Nat) (xs : List Int) (h : Sl w A n c xs) (hn : n ≤ 1099511627775) (v : Nat) (hv : val B xs = (v : Int)) :
    Calls Tryd.prog 48 #[.slice A n c] w fun e w' => e = .returned (.bool (decide (W.len (v : Int) ≤ 4032))) ∧ w' = w := by
  have HL := Lib.hid (nlen_any w A n c xs h (by omega))
  have HV := Lib.hid hv
  clear hv h
  go_enter Tryd.func48, Tryd.ntmps48
  go_wp2_with (go_at_call 65; refine HL.out.mono ?_; rw [HV.out]; rintro e w1 ⟨rfl, rfl⟩)
  go_ret
  exact ⟨rfl, rfl⟩
namespace N
/-- the block g holds an array of groups -/
def Arr64 (w : World) (g : Nat) (xs : List Int) : Prop := w.heap[g]? = some (.cells (uv xs).toArray 52 (0, 0))
section
variable {w w' : World} {g : Nat} {xs : List Int}
theorem Arr64.lt (h : Arr64 w g xs) : g < w.heap.size := by
  rcases Nat.lt_or_ge g w.heap.size with hlt | hge
  · exact hlt
  · unfold Arr64 at h; rw [Array.getElem?_eq_none hge] at h; cases h
theorem Arr64.cell (h : Arr64 w g xs) {k : Nat} (hk : k < xs.length) : w.cell? ⟨g, k, none⟩ = some (.int .u64 (lim xs k)) := by
  rw [cell_of_row w g k _ _ _ h]
  simpa using uv_get xs k hk
theorem Arr64.frozen (h : Arr64 w g xs) (k : Nat) : w.frozen? ⟨g, k, none⟩ = false := by
  unfold Arr64 at h; simp [World.frozen?, h]
theorem Arr64.below {b : Nat} (h : Arr64 w g xs) (hb : Below b w w') (hg : g < b) : Arr64 w' g xs := (hb.block g hg).trans h
theorem Arr64.drew (h : Arr64 w g xs) : Arr64 w.drew g xs := h
theorem Arr64.set (h : Arr64 w g xs) (k : Nat) (v : Int) : Arr64 (w.setCell ⟨g, k, none⟩ (.int .u64 v)) g (xs.set k v) := by
  unfold Arr64 at h ⊢
  simp [World.setCell, Array.getElem?_modify, h, uv, List.map_set]
theorem Arr64.made {cs : Array Value} (h : w.alloc (.cells cs 52) = w') (hc : cs = (uv xs).toArray) : Arr64 w' w.heap.size xs ∧ Below w.heap.size w w' := by
  subst h hc
  exact ⟨heap_alloc_new w _, (Below.refl _ w).alloc (Nat.le_refl _) _⟩
end
theorem zeros64 : #[Value.int .u64 0, .int .u64 0, .int .u64 0, .int .u64 0, .int .u64 0, .int .u64 0, .int .u64 0, .int .u64 0] = (uv (List.replicate 8 0)).toArray := rfl
end N
theorem N.Own.aw {w : World} {base : Nat} {A : Option Addr} {n c : Nat} {xs : List Int} (h : N.Own w base A n c xs) {g : Nat} (hg : g < base) : Aw A g := fun ad e => by
  subst e
  have := (h.row.lt ad.block (by rw [ownBlock_eq]; rfl)).1
  omega
theorem N.Sl.aw {w : World} {A : Option Addr} {n c : Nat} {xs : List Int} (h : Sl w A n c xs) (hn : 0 < n) {g : Nat} (hg : w.heap.size ≤ g) : Aw A g := fun ad e => by
  obtain ⟨ad', e', hlt, _⟩ := h.at' 0 hn
  rw [e] at e'
  injection e' with e'
  subst e'
  omega
theorem uv_all (xs : List Int) : (uv xs).toArray.all (·.oneCell') = true := by
  rw [Array.all_eq_true_iff_forall_mem]
  intro u hu
  exact uv_one xs u (by simpa using hu)
theorem groupsI {xs : List Int} (h : xs.length = RM) : (Tryd.prog.info? 52).map (·.size) = some (uv xs).toArray.size := by
  rw [show (uv xs).toArray.size = 64 by rw [List.size_toArray, uv_length, h]; rfl]
  kernel_rfl
theorem store64 (w : World) (c : Array Value) (xs : List Int) (hc : c.size = 64) (h : xs.length = RM) :
    (storeCells ⟨w.heap.size, 0, none⟩ (uv xs)).run Tryd.prog (w.alloc (.cells c 52)) = .ok () (w.alloc (.cells (uv xs).toArray 52)) := by
  have h2 : c.size = (uv xs).toArray.size := by rw [hc, List.size_toArray, uv_length, h]; rfl
  exact run_storeCells_new w _ c (uv xs).toArray (groupsI h) h2 (uv_all xs)
theorem slice64 (w : World) (a : Addr) (k : Nat) (hk : k ≤ 64) :
    (Instr.sliceAt 52 (.pointer (some a)) none (some (.int .i64 (k : Int))) none).run Tryd.prog w = .ok (.slice (some a) k 64) w := by
  have hl : Tryd.prog.arrayLen 52 = 64 := by kernel_rfl
  have hs : (sizeOf (Tryd.prog.elem 52)).run Tryd.prog w = .ok 1 w := by
    have h : (Tryd.prog.info? (Tryd.prog.elem 52)).map (·.size) = some 1 := by kernel_rfl
    cases hq : Tryd.prog.info? (Tryd.prog.elem 52) with
    | none => simp [hq] at h
    | some i => simp [hq] at h; simp [sizeOf, typeInfo, hq, h]
  rw [run_sliceAt_array_h w _ a (by kernel_rfl) .i64 (k : Int) (by omega) (by rw [hl]; omega), hs, hl]
  simp only [Result.andThen, slicedAt]
  rw [if_neg (by decide), Nat.zero_mul, show a.add 0 = a by unfold Addr.add; split <;> simp_all]
  simp
theorem split_results {tmps : Array Value} {w : World} {g : Nat} {xs : List Int} {x : Value} (hp : tmps.getD 2 undef = .pointer (some ⟨g, 0, none⟩)) (hq : tmps.getD 3 undef = x) (hA : Arr64 w g xs) (h : xs.length = RM) :
    (results Tryd.f31 tmps).run Tryd.prog w = .ok (.tuple #[.agg (uv xs).toArray, x]) w := by
  have hr := run_loadVar_row w g _ 52 _ _ _ hA Tryd.underlying52 rfl (groupsI h)
  have hp' : tmps[2]?.getD undef = .pointer (some ⟨g, 0, none⟩) := by simpa using hp
  have hq' : tmps[3]?.getD undef = x := by simpa using hq
  simp [results, Tryd.f31, hp', hq', asAddr, hr]
/-- what split knows when j groups are split off -/
def SpRel (w : World) (v n0 : Nat) (Au : Option Addr) (nu cu : Nat) (s i : Value) (wr : World) : Prop :=
  ∃ (j : Nat) (A : Option Addr) (n c : Nat) (xs : List Int), i = .int .i64 j ∧ s = .slice A n c ∧ j ≤ RM ∧ n ≤ n0 ∧ Sl wr A n c xs ∧ val B xs = ((v / 10 ^ (19 * j) : Nat) : Int) ∧ (0 < n → Aw A w.heap.size) ∧
    Sl wr Au nu cu (limbs 10000000000000000000) ∧ Arr64 wr w.heap.size (gI j v ++ List.replicate (RM - j) 0) ∧ Below w.heap.size w wr
theorem N.Sl.growz {w w' : World} {A : Option Addr} {n c g : Nat} {xs : List Int} (h : Sl w A n c xs) (hg : w.grownBy w' (some g)) (ha : 0 < n → Aw A g) : Sl w' A n c xs :=
  ⟨h.len, h.cap, h.max, h.dg, h.nil, fun k hk => by
    obtain ⟨ad, e, hlt, hc⟩ := h.at' k hk
    exact ⟨ad, e, Nat.lt_of_lt_of_le hlt hg.size, fun j hj => (hg.cell (hc j hj) (by rw [add_block]; intro e'; injection e' with e'; exact ha (by omega) ad e e'))⟩⟩
theorem split_any (w : World) (A : Option Addr) (n c : Nat) (xs : List Int) (h : Sl w A n c xs) (hn : n ≤ 1000000) (v : Nat) (hv : val B xs = (v : Int)) (hlt : v < 10 ^ KD) :
    Calls Tryd.prog 31 #[.slice A n c] w fun e w' => ∃ m : Nat, m ≤ RM ∧ e = .returned (.tuple #[.agg (uv (gI RM v)).toArray, .int .i64 m]) ∧ v / 10 ^ (19 * m) = 0 ∧ Below w.heap.size w w' := by
  have HS := Lib.hid h
  have HV := Lib.hid hv
  have HLT := Lib.hid hlt
  clear h hv hlt
  go_enter Tryd.func31, Tryd.ntmps31
  go_wp2_with fail
  go_at_call 29
  generalize hw1 : World.alloc w _ = w1
  obtain ⟨hz, hb⟩ := Arr64.made (xs := List.replicate RM 0) hw1 rfl
  clear hw1
  refine (of_any w1 10000000000000000000 (by unfold W.Wd; omega)).mono ?_
  rintro e w2 ⟨Au, nu, cu, rfl, hnu, hou, hb2⟩
  have hAu : Aw Au w.heap.size := hou.aw hz.lt
  have HAU := Lib.hid hAu
  have hr0 : SpRel w v n Au nu cu (.slice A n c) (.int .i64 ((0 : Nat) : Int)) w2 :=
    ⟨0, A, n, c, xs, rfl, rfl, Nat.zero_le _, Nat.le_refl _, HS.out.below (hb.trans (hb2.mono hb.size)), by rw [HV.out, Nat.mul_zero, Nat.pow_zero, Nat.div_one], fun h0 => HS.out.aw h0 (Nat.le_refl _), hou.sl, hz.below hb2 hz.lt, hb.trans (hb2.mono hb.size)⟩
  have HR := Lib.hid hr0
  clear hz hb hb2 hou hAu hr0
  go_wp2_with fail
  go_loopw [0, 3] (fun s i wr => SpRel w v n Au nu cu s i wr) (fun _ i _ => RM - (intOf i).toNat)
  case atStart => exact HR.out
  case round =>
    obtain ⟨j, A, n1, c, xs, rfl, rfl, hj, hn1, hS, hv, haw, hU, hA, hb⟩ := hrel
    obtain ⟨wi, rfl⟩ : ∃ wi : World, wi = wr := ⟨_, rfl⟩
    by_cases hu : v / 10 ^ (19 * j) = 0
    · rw [hu] at hv
      have HU := Lib.hid hu
      have hg64 := gI_pad v j hu (RM - j)
      rw [show j + (RM - j) = RM by omega] at hg64
      rw [← hg64] at hA
      have HA := Lib.hid hA
      have HB := Lib.hid hb
      have HZ := Lib.hid (zero_yes wi A n1 c xs hS hv)
      clear hS hA hu hU hv hb haw hg64
      go_wp2_with (first
        | (go_at_call 25; refine HZ.out.mono ?_; rintro e w3 ⟨rfl, rfl⟩)
        | (refine wpList_load_row rfl 52 (.tmp 2) rfl w.heap.size rfl _ _ (0, 0) _ HA.out Tryd.underlying52 rfl (groupsI (gI_length _ _)) ?_)
        | (refine wpList_store_row rfl 52 (.tmp 2) _ rfl w.heap.size _ rfl rfl _ _ HA.out (groupsI (gI_length _ _)) rfl (uv_all _) ?_; rw [setRow_self _ _ _ _ _ HA.out]))
      exact bodyPost_ret (split_results rfl rfl HA.out (gI_length _ _)) rfl ⟨j, hj, rfl, HU.out, HB.out⟩
    · obtain ⟨u, hu'⟩ : ∃ u, v / 10 ^ (19 * j) = u := ⟨_, rfl⟩
      rw [hu'] at hv hu
      have hu0 : 0 < u := by omega
      have hjR : j < RM := by
        rcases Nat.lt_or_ge j RM with e | e
        · exact e
        · obtain rfl : j = RM := by omega
          have e2 : v / 10 ^ KD = 0 := Nat.div_eq_of_lt HLT.out
          unfold KD at e2
          rw [e2] at hu'
          omega
      have hj64 : j < 64 := hjR
      have hz := zero_no wi A n1 c xs hS (by omega)
      have hd := qdiv_any wi A Au n1 c nu cu xs _ hS hU (by omega) (by omega) (by rw [limbs_val (by omega)]; omega)
      rw [hv, limbs_val (by omega), show (u : Int) / 10000000000000000000 = ((u / 10000000000000000000 : Nat) : Int) by omega, show (u : Int) % 10000000000000000000 = ((u % 10000000000000000000 : Nat) : Int) by omega] at hd
      have HZ := Lib.hid hz
      have HD := Lib.hid hd
      have HA := Lib.hid hA
      have HU := Lib.hid hU
      have HU' := Lib.hid hu'
      have HB := Lib.hid hb
      clear hS hA hu' hu hU hv hb haw hz hd
      go_wp2_with (first
        | (go_at_call 25; refine HZ.out.mono ?_; rintro e w3 ⟨rfl, rfl⟩)
        | (go_at_call 50; refine HD.out.mono ?_; rintro e w4 ⟨A4, n4, c4, A5, n5, c5, rfl, h4, h5, hq, hr, _, hb4⟩; have hA4 := HA.out.below hb4 HA.out.lt; have hcell := hA4.cell (k := j) (by rw [List.length_append, gI_length, List.length_replicate]; omega); have hfz := hA4.frozen j; have HQ := Lib.hid hq; have HB4 := Lib.hid hb4; have HA4 := Lib.hid hA4; have hsm := small_yes w4 A5 n5 c5 _ hr.sl (by rw [limbs_val (by omega)]; omega); rw [limbs_val (by omega)] at hsm; have HSM := Lib.hid hsm; clear hq hr hb4 hA4 hsm)
        | (go_at_call 21; refine HSM.out.mono ?_; rintro e w5 ⟨rfl, rfl⟩))
      go_roundw
      case rel =>
        refine ⟨j + 1, A4, n4, c4, limbs ((u / 10000000000000000000 : Nat) : Int), by go_num, rfl, by omega, by omega, HQ.out.sl.growz (grow_set _ _ _ _) (fun _ => HQ.out.aw HA.out.lt), ?_, fun _ => HQ.out.aw HA.out.lt, (HU.out.below HB4.out).growz (grow_set _ _ _ _) (fun _ => HAU.out), ?_, ((HB.out.trans (HB4.out.mono HB.out.size)).setCell (Nat.le_refl _) _)⟩
        · rw [limbs_val (by omega), show 19 * (j + 1) = 19 * j + 19 from rfl, Nat.pow_add, ← Nat.div_div_eq_div_mul, HU'.out]
        · obtain ⟨d, hd⟩ : ∃ d, RM - j = d + 1 := ⟨RM - j - 1, by omega⟩
          have h1 := HA4.out.set j ((u % 10000000000000000000 : Nat) : Int)
          have h2 := gI_set j v d
          rw [HU'.out] at h2
          rw [hd] at h1
          rw [show RM - (j + 1) = d by omega, ← h2]
          exact h1
      case measure => simp [intOf]; omega
theorem N.Arr64.sl {w : World} {g : Nat} {xs : List Int} (h : Arr64 w g xs) {n c : Nat} (hl : xs.length = c) (hn : n ≤ c) (hm : c ≤ maxLen) (hd : Dg B xs) : Sl w (some ⟨g, 0, none⟩) n c (xs.take n) :=
  ⟨by rw [List.length_take, hl, Nat.min_eq_left hn], hn, hm, hd.take n, (fun e => by cases e), fun k hk => ⟨_, rfl, h.lt, fun j hj => by
    rw [add_plain, Nat.zero_add, lim_take, if_pos hj]; exact h.cell (by omega)⟩⟩
theorem pow_ten (w : World) : Calls Tryd.prog 29 #[.int .u64 10] w fun e w1 => ∃ A n c, e = .returned (.slice A n c) ∧ Below w.heap.size w w1 ∧
    Calls Tryd.prog 49 #[.slice A n c, .int .i64 1216] w1 (Out2 w1 16385 ((10 ^ KD : Nat) : Int) 0) := by
  refine (of_any w 10 (by unfold W.Wd; omega)).mono ?_
  rintro e w1 ⟨A, n, c, rfl, hn, ho, hb⟩
  have h := qpow_any w1 A n c _ ho.sl (by omega) KD (by unfold KD RM; omega) (by rw [limbs_val (by omega)]; right; rw [ten_ok]; unfold KD RM; omega)
  rw [limbs_val (by omega), show (10 : Int) ^ KD = ((10 ^ KD : Nat) : Int) by rw [Int.natCast_pow]; rfl] at h
  exact ⟨A, n, c, rfl, hb, h⟩
/-- what splitLow knows when j arrays of groups are split off -/
def LoRel (w : World) (v n0 : Nat) (Ap : Option Addr) (np cp P : Nat) (s t : Value) (wr : World) : Prop :=
  ∃ (j : Nat) (A1 : Option Addr) (n1 c1 : Nat) (ys : List Int) (Ad : Option Addr) (m d : Nat), s = .slice A1 n1 c1 ∧ t = .slice Ad m d ∧ n1 ≤ n0 ∧ Sl wr A1 n1 c1 ys ∧ val B ys = ((v / 10 ^ (KD * j) : Nat) : Int) ∧ Sl wr Ap np cp (limbs ((10 ^ KD : Nat) : Int)) ∧
    OwnB wr w.heap.size Ad m d (lowD (KD * j) v) ∧ (∀ g, rowOf Ad = some g → Aw Ap g) ∧ Below w.heap.size w wr ∧ P ≤ wr.heap.size ∧ KD * j ≤ nDigits v + KD
theorem splitLow_any (w : World) (A : Option Addr) (n c : Nat) (xs : List Int) (h : Sl w A n c xs) (hn : n ≤ 1000000) (v : Nat) (hv : val B xs = (v : Int)) :
    Calls Tryd.prog 30 #[.slice A n c] w fun e w' => ∃ (j : Nat) (A1 : Option Addr) (n1 c1 : Nat) (ys : List Int) (Ad : Option Addr) (m d : Nat), e = .returned (.tuple #[.slice A1 n1 c1, .slice Ad m d]) ∧ n1 ≤ n ∧ Sl w' A1 n1 c1 ys ∧ val B ys = ((v / 10 ^ (KD * j) : Nat) : Int) ∧
      v / 10 ^ (KD * j) < 10 ^ KD ∧ OwnB w' w.heap.size Ad m d (lowD (KD * j) v) ∧ m ≤ 30000000 ∧ Below w.heap.size w w' := by
  have HF := Lib.hid (fits_any w A n c xs h (by omega) v hv)
  by_cases hfit : W.len (v : Int) ≤ 4032
  · have HV := Lib.hid hv
    have HS := Lib.hid h
    have HY := Lib.hid (fits_yes hfit)
    rw [decide_eq_true hfit] at HF
    clear hv h hfit
    go_enter Tryd.func30, Tryd.ntmps30
    go_wp2_with (first
      | (go_at_call 48; refine HF.out.mono ?_; rintro e w1 ⟨rfl, rfl⟩))
    go_ret2
    exact ⟨0, A, n, c, xs, none, 0, 0, rfl, Nat.le_refl _, HS.out, by rw [HV.out, Nat.mul_zero, Nat.pow_zero, Nat.div_one], by rw [Nat.mul_zero, Nat.pow_zero, Nat.div_one]; exact HY.out, by rw [Nat.mul_zero, lowD_zero]; exact OwnB.nil_ _ _, by omega, Below.refl _ _⟩
  · rw [decide_eq_false hfit] at HF
    have HV := Lib.hid hv
    have HS := Lib.hid h
    clear hv h hfit
    go_enter Tryd.func30, Tryd.ntmps30
    go_wp2_with (first
      | (go_at_call 48; refine HF.out.mono ?_; rintro e w1 ⟨rfl, hw⟩; rw [hw]; clear hw)
      | (go_at_call 29; refine (pow_ten _).mono ?_; rintro e w2 ⟨At, nt, ct, rfl, hb2, hp⟩; have HP := Lib.hid hp; have HB2 := Lib.hid hb2; clear hp hb2)
      | (go_at_call 49; refine HP.out.mono ?_; rintro e w3 ⟨Ap, np, cp, rfl, hnp, hop, hb3⟩; have HOP := Lib.hid hop; have HB3 := Lib.hid (HB2.out.trans (hb3.mono HB2.out.size)); clear hop hb3))
    have hap : ∀ ad, Ap = some ad → ad.block < w3.heap.size := fun ad e => by
      subst e
      exact (HOP.out.row.lt ad.block (by rw [ownBlock_eq]; rfl)).2
    have HAP := Lib.hid hap
    clear hap
    go_loopw [0, 3] (fun s t wr => LoRel w v n Ap np cp w3.heap.size s t wr) (fun _ t _ => nDigits v + KD + 1 - lenOf t)
    case atStart => exact ⟨0, A, n, c, xs, none, 0, 0, rfl, rfl, Nat.le_refl _, HS.out.below HB3.out, by rw [HV.out, Nat.mul_zero, Nat.pow_zero, Nat.div_one], HOP.out.sl, by rw [Nat.mul_zero, lowD_zero]; exact OwnB.nil_ _ _, fun g hg => by simp [rowOf] at hg, HB3.out, Nat.le_refl _, by omega⟩
    case round =>
      obtain ⟨j, A1, n1, c1, ys, Ad, m, d, rfl, rfl, hn1, hS, hv, hP, hD, hap, hb, hsz, hjb⟩ := hrel
      obtain ⟨wi, rfl⟩ : ∃ wi : World, wi = wr := ⟨_, rfl⟩
      obtain ⟨u, hu⟩ : ∃ u, v / 10 ^ (KD * j) = u := ⟨_, rfl⟩
      rw [hu] at hv
      have hm : m = KD * j := by rw [← hD.len, lowD_length]
      have hmb : m ≤ 30000000 := by
        have h1 := nDigits_val HS.out.dg HS.out.len HV.out
        unfold KD RM at hjb hm
        omega
      have HF2 := Lib.hid (fits_any wi A1 n1 c1 ys hS (by omega) u hv)
      by_cases hfit : W.len (u : Int) ≤ 4032
      · rw [decide_eq_true hfit] at HF2
        have HY := Lib.hid (fits_yes hfit)
        have HS2 := Lib.hid hS
        have HV2 := Lib.hid hv
        have HD2 := Lib.hid hD
        have HB := Lib.hid hb
        have HU := Lib.hid hu
        clear hfit hS hv hP hD hap hb hsz hjb hm hu
        go_wp2_with (first
          | (go_at_call 48; refine HF2.out.mono ?_; rintro e w4 ⟨rfl, rfl⟩))
        go_ret2
        exact ⟨j, A1, n1, c1, ys, Ad, m, d, rfl, hn1, HS2.out, by rw [HU.out]; exact HV2.out, by rw [HU.out]; exact HY.out, HD2.out, hmb, HB.out⟩
      · rw [decide_eq_false hfit] at HF2
        have hu0 := fits_no hfit
        have hd := qdiv_any wi A1 Ap n1 c1 np cp ys _ hS hP (by omega) (by omega) (by rw [limbs_val (Int.natCast_nonneg _)]; exact_mod_cast Nat.pow_pos (n := KD) (show 0 < 10 by omega))
        rw [hv, limbs_val (Int.natCast_nonneg _), ← Int.natCast_ediv, ← Int.natCast_emod] at hd
        have HDV := Lib.hid hd
        have HP2 := Lib.hid hP
        have HD2 := Lib.hid hD
        have HB := Lib.hid hb
        have HU := Lib.hid hu
        have HM := Lib.hid hm
        have HJB := Lib.hid hjb
        have HA1 := Lib.hid hap
        have HU0 := Lib.hid hu0
        have HSZ := Lib.hid hsz
        have hnj : KD * j ≤ nDigits v := by
          refine Nat.le_of_lt ((Nat.pow_lt_pow_iff_right (a := 10) (by omega)).1 (Nat.lt_of_le_of_lt ?_ (lt_pow_nDigits v)))
          rcases Nat.lt_or_ge v (10 ^ (KD * j)) with e | e
          · rw [Nat.div_eq_of_lt e] at hu; omega
          · exact e
        have HNJ := Lib.hid hnj
        clear hfit hS hv hP hD hap hb hsz hjb hm hu hd hu0 hnj
        go_wp2_with (first
          | (go_at_call 48; refine HF2.out.mono ?_; rintro e w4 ⟨rfl, hw⟩; rw [hw]; clear hw)
          | (go_at_call 50; refine HDV.out.mono ?_; rintro e w5 ⟨A4, n4, c4, A5, n5, c5, rfl, h4, h5, hq, hr, _, hb5⟩; have HQ := Lib.hid hq; have HR := Lib.hid hr; have HB5 := Lib.hid hb5; clear hq hr hb5)
          | (go_at_call 31; refine (split_any _ A5 n5 c5 _ HR.out.sl (by omega) _ (limbs_val (Int.natCast_nonneg _)) (Nat.mod_lt _ (Nat.pow_pos (by omega)))).mono ?_; rintro e w6 ⟨k, hk, rfl, _, hb6⟩; have HB6 := Lib.hid (HB5.out.trans (hb6.mono HB5.out.size)); have HB56 := Lib.hid hb6; clear hb6))
        rw [store64 w6 _ _ rfl (gI_length _ _)]
        generalize hw7 : World.alloc w6 _ = w7
        obtain ⟨hA7, hb7⟩ := Arr64.made hw7 rfl
        clear hw7
        have hsl := hA7.sl (n := 64) (c := 64) (gI_length _ _) (Nat.le_refl 64) (by unfold maxLen; omega) (gI_dg _ _)
        rw [List.take_of_length_le (by rw [gI_length]; exact Nat.le_refl _)] at hsl
        have HSL := Lib.hid hsl
        have HB57 := Lib.hid (HB56.out.trans (hb7.mono HB56.out.size))
        have HB7 := Lib.hid (HB6.out.trans (hb7.mono HB6.out.size))
        clear hA7 hb7 hsl
        go_wp2_with (first
          | (go_at_call 33
             refine (appendDigits_any _ w.heap.size Ad _ m d 64 64 (lowD (KD * j) v) _ (HD2.out.below HB7.out) HSL.out (fun g hg ad e => by
               injection e with e; subst e
               have := HD2.out.row_lt g hg
               have := HB6.out.size
               show w6.heap.size ≠ g
               omega) (Nat.le_trans HB.out.size HB7.out.size) (by omega) (by omega)).mono ?_
             rintro e w8 ⟨A8, c8, rfl, ho8, hg8, hr8, hb8⟩; have HO8 := Lib.hid ho8; have HG8 := Lib.hid hg8; have HR8 := Lib.hid hr8; have HB8 := Lib.hid hb8; clear ho8 hg8 hr8 hb8))
        go_roundw
        case rel =>
          refine ⟨j + 1, A4, n4, c4, limbs ((u / 10 ^ KD : Nat) : Int), A8, m + 19 * 64, c8, rfl, rfl, by omega, (HQ.out.sl.below HB57.out).grows HG8.out (fun g hg => HQ.out.aw (HD2.out.row_lt g hg)), ?_, (HP2.out.below HB7.out).grows HG8.out HA1.out, ?_, ?_, (HB.out.trans (HB7.out.mono HB.out.size)).trans HB8.out, ?_, ?_⟩
          · rw [limbs_val (Int.natCast_nonneg _), show KD * (j + 1) = KD * j + KD from rfl, Nat.pow_add, ← Nat.div_div_eq_div_mul, HU.out]
          · have h1 := HO8.out
            rw [gdI_gI, show 19 * RM = KD from rfl, lowD_mod] at h1
            rw [show KD * (j + 1) = KD + KD * j by rw [Nat.mul_succ, Nat.add_comm], lowD_split, HU.out]
            exact h1
          · intro g hg
            rcases HR8.out with e | e
            · exact HA1.out g (e.symm.trans hg)
            · intro ad ea
              have h1 := HAP.out ad ea
              have h2 := e g hg
              have h3 := HSZ.out
              have h4 := HB7.out.size
              omega
          · have h3 := HSZ.out
            have h4 := HB7.out.size
            have h5 := HB8.out.size
            omega
          · have h1 := HNJ.out
            rw [Nat.mul_succ]
            omega
        case measure =>
          have h1 := HNJ.out
          have h2 := HM.out
          show nDigits v + KD + 1 - (m + 19 * 64) < nDigits v + KD + 1 - m
          omega
theorem sum_groups {v j k : Nat} (h : v / 10 ^ (KD * j) / 10 ^ (19 * k) = 0) : v < 10 ^ (19 * k + KD * j) := by
  rw [Nat.div_div_eq_div_mul, ← Nat.pow_add, Nat.div_eq_zero_iff] at h
  rcases h with e | e
  · exact absurd e (Nat.ne_of_gt (Nat.pow_pos (by omega)))
  · rwa [Nat.add_comm]
theorem trim_none {K v k : Nat} (h : v < 10 ^ K) (hk : k ≤ K) (h0 : v = 0) (ht : Go.Lib.trimRightS (lowD K v) [48] = (lowD K v).take k) : k = 0 := by
  have h1 := trim_lowD K v h
  rw [ht, if_pos h0] at h1
  have h2 := congrArg List.length h1
  rw [List.length_reverse, List.length_take, lowD_length, Nat.min_eq_left hk] at h2
  exact h2
theorem trim_some {K v k : Nat} (h : v < 10 ^ K) (hk : k ≤ K) (h0 : v ≠ 0) (ht : Go.Lib.trimRightS (lowD K v) [48] = (lowD K v).take k) : ((lowD K v).take k).reverse = decDigits v ∧ k ≠ 0 := by
  have h1 := trim_lowD K v h
  rw [ht, if_neg h0] at h1
  refine ⟨h1, fun e => ?_⟩
  subst e
  exact dd_ne v h1.symm
theorem pshow_any (w : World) (A : Option Addr) (n c : Nat) (xs : List Int) (h : Sl w A n c xs) (hn : n ≤ 1000000) (v : Nat) (hv : val B xs = (v : Int)) :
    Calls Tryd.prog 14 #[.slice A n c] w fun e w' => e = .returned (.string ⟨(decDigits v).toArray⟩) ∧ Below w.heap.size w w' := by
  have HSP := Lib.hid (splitLow_any w A n c xs h hn v hv)
  clear h hv
  go_enter Tryd.func14, Tryd.ntmps14
  go_wp2_with (first
    | (go_at_call 30; refine HSP.out.mono ?_; rintro e w1 ⟨j, A1, n1, c1, ys, Ad, m, d, rfl, hn1, hs1, hv1, hlt1, hd1, hm1, hb1⟩; have HS1 := Lib.hid hs1; have HV1 := Lib.hid hv1; have HLT := Lib.hid hlt1; have HD1 := Lib.hid hd1; have HB1 := Lib.hid hb1; clear hs1 hv1 hlt1 hd1 hb1)
    | (go_at_call 31; refine (split_any _ A1 n1 c1 _ HS1.out (by omega) _ HV1.out HLT.out).mono ?_; rintro e w2 ⟨k, hk, rfl, hkz, hb2⟩; have HKZ := Lib.hid (sum_groups hkz); have HB2 := Lib.hid hb2; clear hkz hb2))
  rw [store64 w2 _ _ rfl (gI_length _ _)]
  generalize hw3 : World.alloc w2 _ = w3
  obtain ⟨hA3, hb3⟩ := Arr64.made hw3 rfl
  clear hw3
  have hsl := hA3.sl (n := k) (c := 64) (gI_length _ _) hk (by unfold maxLen; omega) (gI_dg _ _)
  rw [gI_take _ _ _ hk] at hsl
  have hk64 : k ≤ 64 := hk
  have hsa := slice64 w3 ⟨w2.heap.size, 0, none⟩ k hk64
  have HSL := Lib.hid hsl
  have HB3 := Lib.hid (HB2.out.trans (hb3.mono HB2.out.size))
  clear hA3 hb3 hsl
  go_wp2_with (first
    | (go_at_call 33
       refine (appendDigits_any _ w.heap.size Ad _ m d k 64 (lowD (KD * j) v) _ (HD1.out.below HB3.out) HSL.out (fun g hg ad e => by
         injection e with e; subst e
         have := HD1.out.row_lt g hg
         have := HB2.out.size
         show w2.heap.size ≠ g
         omega) (Nat.le_trans HB1.out.size HB3.out.size) hk64 (by omega)).mono ?_
       rintro e w4 ⟨A4, c4, rfl, ho4, _, _, hb4⟩
       rw [gdI_gI, ← lowD_split] at ho4
       have HO4 := Lib.hid ho4; have HB4 := Lib.hid ((HB1.out.trans (HB3.out.mono HB1.out.size)).trans hb4); clear ho4 hb4))
  obtain ⟨K, hK⟩ : ∃ K, 19 * k + KD * j = K := ⟨_, rfl⟩
  rw [hK] at HKZ HO4
  have hKm : K = m + 19 * k := by rw [← HO4.out.len, lowD_length]
  go_at_call 32
  refine (trimRight_any w4 A4 (m + 19 * k) c4 _ HO4.out.sl).mono ?_
  rintro e w5 ⟨k', hk', rfl, ht, hb5⟩
  have HO5 := Lib.hid ((HO4.out.below hb5).take hk')
  have HB5 := Lib.hid (HB4.out.trans (hb5.mono HB4.out.size))
  by_cases h0 : v = 0
  · obtain rfl := trim_none HKZ.out (by omega) h0 ht
    have hdd : decDigits v = [48] := by rw [h0, dd_zero]
    have HDD := Lib.hid hdd
    clear hdd ht h0 hK hKm hb5
    go_wp2
    go_ret
    rw [HDD.out]
    exact ⟨rfl, HB5.out⟩
  · obtain ⟨h1, h2⟩ := trim_some HKZ.out (by omega) h0 ht
    have hk0 : ((k' : Int) == 0) = false := by simpa using h2
    have HT := Lib.hid h1
    clear h1 h2 ht h0 hK hKm hb5
    go_wp2_with (first
      | (go_at_call 34
         refine (reverse_any w5 w.heap.size A4 k' c4 _ HO5.out HB5.out.size).mono ?_
         rintro e w6 ⟨rfl, ho6, hb6⟩
         rw [HT.out] at ho6
         have hcv := str_back _ _ _ _ _ ho6.sl
         unfold str at hcv
         have HB6 := Lib.hid (HB5.out.trans hb6)
         clear ho6 hb6))
    go_ret
    exact ⟨rfl, HB6.out⟩
theorem pmany_any (w : World) (A : Option Addr) (n c : Nat) (xs : List Int) (h : Sl w A n c xs) (hn : n ≤ 1000000) (v : Nat) (hv : val B xs = (v : Int)) :
    Calls Tryd.prog 16 #[.slice A n c] w fun e w' => e = .returned (.int .i64 (nDigits v : Int)) ∧ Below w.heap.size w w' := by
  have hs : (ByteArray.mk (decDigits v).toArray).size = nDigits v := decDigits_length v
  go_enter Tryd.func16, Tryd.ntmps16
  go_wp2_with (go_at_call 14; refine (pshow_any _ _ _ _ xs h hn v hv).mono ?_; rintro e w1 ⟨rfl, hb⟩)
  go_ret
  exact ⟨rfl, hb⟩
end Go.Proofs.YtbadbjmhmadbmaaDoor
