/- Package rat: Read. -/
import Derived.Test.YtpokcocfdchfeaaGreatDoorRatE
import Derived.Test.YtpokcocfdchfeaaGreatDoorShelf
import Derived.BigQuiet
namespace Go.Proofs.YtpokcocfdchfeaaGreatDoor
open Go.RowKit
set_option linter.unusedVariables false
set_option linter.unusedSimpArgs false
set_option maxRecDepth 20000
open N
open Go.Lib (decDigits nDigits decDigits_length nDigits_pos)
open RC
namespace N
theorem index_fP : ∀ bs : List UInt8, Lib.indexByte bs 47 = if noS bs = true then -1 else ((fP bs).length : Int)
  | [] => rfl
  | b :: l => by
    have ih := index_fP l
    by_cases h : b = 47
    · subst h; rfl
    · have h1 : fP (b :: l) = b :: fP l := by unfold fP; rw [List.takeWhile_cons]; simp [h]
      have h2 : noS (b :: l) = noS l := by unfold noS; rw [h1]; simp
      unfold Lib.indexByte
      have h3 : (b == 47) = false := by simpa using h
      rw [h3, if_neg Bool.false_ne_true, ih, h1, h2]
      by_cases hn : noS l = true
      · rw [if_pos hn, if_pos hn]; rfl
      · rw [if_neg hn, if_neg hn, List.length_cons]
        have h4 : ((((fP l).length : Nat) : Int) == -1) = false := by simp
        rw [h4, if_neg Bool.false_ne_true]; omega
theorem fP_len {bs : List UInt8} (h : noS bs = false) : (fP bs).length < bs.length ∧ bs.take (fP bs).length = fP bs ∧ bs.drop ((fP bs).length + 1) = fQ bs := by
  have h1 := f_split h
  refine ⟨?_, ?_, rfl⟩
  · have h2 := congrArg List.length h1
    rw [List.length_append, List.length_cons] at h2
    omega
  · have h3 := congrArg (List.take (fP bs).length) h1
    rw [h3]; exact List.take_left' rfl
end N
theorem slcut_no (bs : List UInt8) (w : World) (hn : noS bs = true) : Calls Tryz.prog 60 #[.string ⟨bs.toArray⟩, .string ⟨#[47]⟩] w fun e w' => e = .returned (.tuple #[.string ⟨bs.toArray⟩, .string ⟨#[]⟩, .bool false]) ∧ Below w.heap.size w w' := by
  have HI := Lib.hid (Tryz.stringslite_Index_one ⟨bs.toArray⟩ 47 w)
  have HE := Lib.hid (show Lib.indexByte (⟨bs.toArray⟩ : ByteArray).data.toList 47 = -1 by rw [show (⟨bs.toArray⟩ : ByteArray).data.toList = bs from rfl, index_fP, if_pos hn])
  clear hn
  go_enter Tryz.func60, Tryz.ntmps60
  go_wp2_with fail
  go_at_call 93
  refine HI.out.mono ?_
  rintro e w1 ⟨rfl, rfl⟩
  rw [HE.out]
  go_wp2
  go_ret3
  exact ⟨rfl, Below.refl _ _⟩
theorem slcut_yes (bs : List UInt8) (w : World) (hl : bs.length ≤ maxLen) (hn : noS bs = false) : Calls Tryz.prog 60 #[.string ⟨bs.toArray⟩, .string ⟨#[47]⟩] w fun e w' => e = .returned (.tuple #[.string ⟨(fP bs).toArray⟩, .string ⟨(fQ bs).toArray⟩, .bool true]) ∧ Below w.heap.size w w' := by
  have HI := Lib.hid (Tryz.stringslite_Index_one ⟨bs.toArray⟩ 47 w)
  have HE := Lib.hid (show Lib.indexByte (⟨bs.toArray⟩ : ByteArray).data.toList 47 = ((fP bs).length : Int) by rw [show (⟨bs.toArray⟩ : ByteArray).data.toList = bs from rfl, index_fP, if_neg (by rw [hn]; exact Bool.false_ne_true)])
  obtain ⟨h1, h2, h3⟩ := fP_len hn
  obtain ⟨k, hk⟩ : ∃ k, (fP bs).length = k := ⟨_, rfl⟩
  rw [hk] at HE h1 h2 h3
  have H2 := Lib.hid h2
  have H3 := Lib.hid h3
  unfold maxLen at hl
  clear hn h2 h3 hk
  go_enter Tryz.func60, Tryz.ntmps60
  go_wp2_with fail
  go_at_call 93
  refine HI.out.mono ?_
  rintro e w1 ⟨rfl, rfl⟩
  rw [HE.out]
  have hsz : (⟨bs.toArray⟩ : ByteArray).size = bs.length := rfl
  go_wp2_with fail
  go_quiet (fail)
  go_wp2
  go_ret3
  refine ⟨?_, ⟨rfl, rfl, rfl, Nat.le_refl _, fun _ _ => rfl⟩⟩
  rw [ext_take, ext_drop, H2.out, H3.out]
  rfl
theorem strcut {bs p q : List UInt8} {f : Bool} (H : ∀ w : World, Calls Tryz.prog 60 #[.string ⟨bs.toArray⟩, .string ⟨#[47]⟩] w fun e w' => e = .returned (.tuple #[.string ⟨p.toArray⟩, .string ⟨q.toArray⟩, .bool f]) ∧ Below w.heap.size w w') (w : World) :
    Calls Tryz.prog 35 #[.string ⟨bs.toArray⟩, .string ⟨#[47]⟩] w fun e w' => e = .returned (.tuple #[.string ⟨p.toArray⟩, .string ⟨q.toArray⟩, .bool f]) ∧ Below w.heap.size w w' := by
  have HH := Lib.hid (H w)
  clear H
  go_enter Tryz.func35, Tryz.ntmps35
  go_wp2_with fail
  go_at_call 60
  refine HH.out.mono ?_
  rintro e w1 ⟨rfl, hb⟩
  have HB := Lib.hid hb
  clear hb HH
  go_wp2_with fail
  go_ret3
  exact ⟨rfl, HB.out⟩
theorem cut_c {w0 v0 w : World} {S O : List Ent} {T : List Blk} (h : SC w0 v0 w S T O) {bs p q : List UInt8} {f : Bool} (H : ∀ w : World, Calls Tryz.prog 60 #[.string ⟨bs.toArray⟩, .string ⟨#[47]⟩] w fun e w' => e = .returned (.tuple #[.string ⟨p.toArray⟩, .string ⟨q.toArray⟩, .bool f]) ∧ Below w.heap.size w w') :
    Calls Tryz.prog 35 #[.string ⟨bs.toArray⟩, .string ⟨#[47]⟩] w fun e w' => e = .returned (.tuple #[.string ⟨p.toArray⟩, .string ⟨q.toArray⟩, .bool f]) ∧ SC w0 v0 w' S T O :=
  (strcut H w).mono fun e w' ⟨he, hb⟩ => ⟨he, h.below hb⟩
theorem fmay_c {w0 v0 w : World} {S O : List Ent} {T : List Blk} {A A' : Option Addr} {n c m d k k' : Nat} {xs ys : List Int} {v u : Int} {b : Bool} (h : SC w0 v0 w S T O) (h1 : (⟨A, n, c, k, xs, v⟩ : Ent) ∈ S) (h2 : (⟨A', m, d, k', ys, u⟩ : Ent) ∈ S) (hk : k ≤ 500000) (hk' : k' ≤ 500000) {q : Bool} (hq : mayR b xs ys = q) :
    Calls Tryz.prog 39 #[.agg #[.bool b, .slice A n c, .slice A' m d]] w fun e w' => e = .returned (.bool q) ∧ SC w0 v0 w' S T O := by
  subst hq
  obtain ⟨a1, a2, a3⟩ := h.get h1
  obtain ⟨b1, b2, b3⟩ := h.get h2
  exact (fmay_any (M := max k k') w b a1 b1 (by omega) (by omega) (by omega)).mono fun e w' ⟨he, hb⟩ => ⟨he, h.below hb⟩
namespace RC
def mB (z : Int) (k : Nat) (A1 : Option Addr) (n1 c1 : Nat) (r : Int) (k' : Nat) : MP := ⟨fun x S O => ∃ A n c, x = .agg #[.bool (sg z), .slice A1 n1 c1, .slice A n c] ∧ (⟨A, n, c, k', limbs r, r⟩ : Ent) ∈ S ∧ (⟨A, n, c, k', limbs r, r⟩ : Ent) ∈ O, fun x S S' O O' hs ho ⟨A, n, c, e, h1, h2⟩ => ⟨A, n, c, e, hs _ h1, ho _ h2⟩⟩
end RC
theorem fread_no (w : World) (bs : List UInt8) (hl : bs.length ≤ maxLen) (hn : noS bs = true) {j z : Int} (hj1 : rdJ bs = j) (hz : rdW bs = z) (hj : j ≠ 0) : Calls Tryz.prog 14 #[.string ⟨bs.toArray⟩] w (OutRZ w j) := by
  have HC : ∀ w : World, _ := fun w => slcut_no bs w hn
  have hjb : (j == 0) = false := by simpa using hj
  have hjc : (j != 0) = true := by simpa using hj
  have hS := Lib.hid (SC.start w)
  go_enter Tryz.func14, Tryz.ntmps14
  go_wp2_with fail
  generalize hwa : World.alloc w _ = v1
  have h1 := (hS.out.boxed (vs := [.bool false, .slice none 0 0, .slice none 0 0]) (ty := 27) rfl hwa)
  clear hwa
  clear hS; have hS := Lib.hid h1; clear h1
  obtain ⟨x0_0, x1_0, x2_0⟩ := hS.out.cs3 0 rfl
  go_wp2_with fail
  go_at_call 35
  with_reducible refine (cut_c hS.out HC).mono ?_
  rintro e v2 ⟨rfl, h1⟩
  clear x0_0 x1_0 x2_0
  clear hS; have hS := Lib.hid h1; clear h1
  obtain ⟨x0_0, x1_0, x2_0⟩ := hS.out.cs3 0 rfl
  go_wp2_with fail
  go_at_call 36
  with_reducible refine (wread_c hS.out bs hl hj1 hz).mono ?_
  rintro e v3 ⟨A1, n1, c1, rfl, h1⟩
  clear x0_0 x1_0 x2_0
  clear hS; have hS := Lib.hid h1; clear h1
  obtain ⟨x0_0, x1_0, x2_0⟩ := hS.out.cs3 0 rfl
  have hm0 := hS.out.boxed (vs := [.bool (sg z), .slice A1 n1 c1]) (ty := 25) rfl rfl
  try simp only [World.size_alloc] at hm0
  obtain ⟨m00_0, m01_0⟩ := hm0.cs2 0 rfl
  obtain ⟨m00_1, m01_1, m02_1⟩ := hm0.cs3 1 rfl
  have hp0 := hm0.put3 1 rfl (hm0.ge_ 1 rfl) (.bool false) (.slice none 0 0) (.slice none 0 0)
  simp only [List.set_cons_zero, List.set_cons_succ] at hp0
  have fz0_0 := hm0.frs 1 rfl 0
  have fz0_1 := hm0.frs 1 rfl 1
  have fz0_2 := hm0.frs 1 rfl 2
  have HPUT := Lib.hid hp0
  clear hp0
  clear hm0
  go_wp2_with fail
  refine bodyPost_ret (results_B2 rfl rfl rfl (loadR (HPUT.out.box _ (List.mem_of_getElem? (i := 1) rfl)))) rfl ?_
  exact ⟨rfl, HPUT.out.bl⟩
theorem fread_yes (w : World) (bs : List UInt8) (hl : bs.length ≤ maxLen) (hn : noS bs = true) {z : Int} (hj1 : rdJ bs = 0) (hz : rdW bs = z) {r : Rat} (hr1 : mkRat z 1 = r) : Calls Tryz.prog 14 #[.string ⟨bs.toArray⟩] w (OutRE w 20001 r 0) := by
  have HC : ∀ w : World, _ := fun w => slcut_no bs w hn
  obtain ⟨hnum, hden⟩ := rof_num z
  have hS := Lib.hid (SC.start w)
  go_enter Tryz.func14, Tryz.ntmps14
  go_wp2_with fail
  generalize hwa : World.alloc w _ = v1
  have h1 := (hS.out.boxed (vs := [.bool false, .slice none 0 0, .slice none 0 0]) (ty := 27) rfl hwa)
  clear hwa
  clear hS; have hS := Lib.hid h1; clear h1
  obtain ⟨x0_0, x1_0, x2_0⟩ := hS.out.cs3 0 rfl
  go_wp2_with fail
  go_at_call 35
  with_reducible refine (cut_c hS.out HC).mono ?_
  rintro e v2 ⟨rfl, h1⟩
  clear x0_0 x1_0 x2_0
  clear hS; have hS := Lib.hid h1; clear h1
  obtain ⟨x0_0, x1_0, x2_0⟩ := hS.out.cs3 0 rfl
  go_wp2_with fail
  go_at_call 36
  with_reducible refine (wread_c hS.out bs hl hj1 hz).mono ?_
  rintro e v3 ⟨A1, n1, c1, rfl, h1⟩
  clear x0_0 x1_0 x2_0
  clear hS; have hS := Lib.hid h1; clear h1
  obtain ⟨x0_0, x1_0, x2_0⟩ := hS.out.cs3 0 rfl
  go_wp2_with fail
  generalize hwa : World.alloc v3 _ = v4
  have h1 := (hS.out.boxed (vs := [.bool (sg z), .slice A1 n1 c1]) (ty := 25) rfl hwa)
  clear hwa
  clear hS; have hS := Lib.hid h1; clear h1
  obtain ⟨x0_0, x1_0⟩ := hS.out.cs2 0 rfl
  obtain ⟨x0_1, x1_1, x2_1⟩ := hS.out.cs3 1 rfl
  go_wp2_with fail
  clear x0_0 x1_0 x0_1 x1_1 x2_1
  refine wp_region_rc (fs [[.val 28 (mV (.agg #[.bool (sg z), .slice A1 n1 c1]))], [.val 29 (mN (1) (1))], [.val 30 (mB z 20001 A1 n1 c1 1 1)], [.old 1 (mB z 20001 A1 n1 c1 1 1)], [.val 3 (mV (.int .i64 0))]]) [3, 28, 29, 30] hS.out ?_ (by kernel_rfl) ?_ (fun j hj => fs_big hj)
  · intro i hi L a w' S Bn T1 O D hp hno hni
    match i, hi with
    | 0, _ =>
      have p : a.eval (.tmp 7) = .pointer (some ⟨v3.heap.size, 0, none⟩) := D.at0 rfl rfl
      obtain ⟨z0, z1⟩ := b2 (D.cells hno (i0 := 0) rfl (by kernel_rfl))
      exact st_pure (v := .agg #[.bool (sg z), .slice A1 n1 c1]) D hno rfl rfl rfl (by simp only [Act.eval] at p; simp only [execOp, Act.eval]; go_simp) (of_decide_eq_true rfl) (of_decide_eq_true rfl) (by kernel_rfl) rfl rfl
    | 1, _ =>
      have hv : #[Operand.const (Value.int IntKind.u64 1)].map a.eval = #[.int .u64 1] := by simp only [List.map_toArray, List.map_cons, List.map_nil]; rfl
      refine st_call D hno rfl hv Tryz.func34 (by kernel_rfl) rfl (nof_c (x := 1) D.sc wd1) (of_decide_eq_true rfl) (of_decide_eq_true rfl) (by kernel_rfl) rfl ?_
      rintro e w2 ⟨A, n, c, rfl, h1⟩
      exact ⟨_, _, _, rfl, h1, fun t ht => List.mem_cons_of_mem _ ht, fun t ht => List.mem_cons_of_mem _ ht, ⟨A, n, c, rfl, List.mem_cons_self, List.mem_cons_self⟩⟩
    | 2, _ =>
      have e28 : a.eval (.tmp 28) = .agg #[.bool (sg z), .slice A1 n1 c1] := D.vt (hp 0 (by kernel_rfl)) rfl
      obtain ⟨A, n, c, e29, m9, o9⟩ := D.vt (t := 29) (hp 1 (by kernel_rfl)) rfl
      exact st_pure (v := .agg #[.bool (sg z), .slice A1 n1 c1, .slice A n c]) D hno rfl rfl rfl (by simp [Act.eval] at e28 e29; simp [execOp, Act.eval, e28, e29]; go_simp) (of_decide_eq_true rfl) (of_decide_eq_true rfl) (by kernel_rfl) rfl ⟨A, n, c, rfl, m9, o9⟩
    | 3, _ =>
      obtain ⟨A, n, c, e30, m9, o9⟩ := D.vt (t := 30) (hp 2 (by kernel_rfl)) rfl
      have p : a.eval (.tmp 2) = .pointer (some ⟨w.heap.size, 0, none⟩) := D.at0 rfl rfl
      exact st_put (m := mB z 20001 A1 n1 c1 1 1) (i0 := 1) D hni rfl (by decide) rfl (hS.out.ge_ 1 rfl) p e30 ⟨A, n, c, rfl, m9, o9⟩ (by kernel_rfl) rfl infoRat rfl (by simp [Value.oneCell'])
    | 4, _ =>
      exact st_pure (v := .int .i64 0) D hno rfl rfl rfl (by simp only [execOp]; rfl) (of_decide_eq_true rfl) (of_decide_eq_true rfl) (by kernel_rfl) rfl rfl
    | i + 5, hi => exact absurd hi (by show ¬ (i + 5 < 5); omega)
  · intro a w5 S Bn T1 O hfr hsc hs0 ho0 htags hgs hkeep hf
    have hQ_0 := hkeep 0 (fun j hj m hm => by exact absurd hm (onlyOld_spec (i := 1000) (by kernel_rfl) j (by rintro rfl; exact absurd hj (by decide)) m))
    obtain ⟨QB, hQB, AB, nB, cB, evB, mB, oB⟩ : Ft.ok a S O Bn T1 (.old 1 (mB z 20001 A1 n1 c1 1 1)) := hf 3 (by decide) _ (List.mem_singleton.2 rfl)
    have hgB := blk_eq (g_old hgs (i := 1) rfl hQB) evB
    rw [hgB] at hQB
    have ek3 : a.eval (.tmp 3) = .int .i64 0 := hf 4 (by decide) _ (List.mem_singleton.2 rfl)
    obtain rfl := list_2 (by simpa using congrArg List.length hgs) hQ_0 hQB
    have h1 := end_old hsc (mem_more mB hs0) (mem_more oB ho0)
    obtain ⟨tyB, htyB⟩ : ∃ t, QB.ty = t := ⟨_, rfl⟩
    rw [htyB] at h1
    clear htyB
    have hc := hfr.closed
    simp only [List.map_cons, List.map_nil] at hc
    rw [ek3] at hc
    clear hfr hsc hs0 ho0 htags hgs hkeep hf
    clear mB
    clear oB
    clear hQ_0 hQB hgB evB QB
    clear ek3
    generalize a.eval (.tmp 28) = u28_ at hc
    generalize a.eval (.tmp 29) = u29_ at hc
    generalize a.eval (.tmp 30) = u30_ at hc
    subst hc
    clear hS; have hS := Lib.hid h1; clear h1
    simp only [putAll, List.foldl_cons, List.foldl_nil, Act.put, List.setIfInBounds_toArray, List.set_cons_zero, List.set_cons_succ]
    go_wp2_with fail
    refine bodyPost_ret (results_B2 rfl rfl rfl (loadR (hS.out.box _ (List.mem_of_getElem? (i := 1) rfl)))) rfl ?_
    rw [← hr1]
    exact hS.out.toRE2 (k := 20001) (k' := 1) (r := mkRat z 1) (by repeat (first | exact List.mem_cons_self | apply List.mem_cons_of_mem)) (by repeat (first | exact List.mem_cons_self | apply List.mem_cons_of_mem)) (by repeat (first | exact List.mem_cons_self | apply List.mem_cons_of_mem)) (by repeat (first | exact List.mem_cons_self | apply List.mem_cons_of_mem)) (Nat.le_refl _) (by omega) (by rw [hnum]) (by rw [hnum]) (by rw [hden]; rfl)
theorem fread_px (w : World) (bs : List UInt8) (hl : bs.length ≤ maxLen) (hn : noS bs = false) {j z : Int} (hj1 : rdJ (fP bs) = j) (hz : rdW (fP bs) = z) (hj : j ≠ 0) : Calls Tryz.prog 14 #[.string ⟨bs.toArray⟩] w (OutRZ w j) := by
  have HC : ∀ w : World, _ := fun w => slcut_yes bs w hl hn
  have hlp : (fP bs).length ≤ maxLen := by have := (fP_len hn).1; omega
  have hlq : (fQ bs).length ≤ maxLen := by have h1 := (fP_len hn).2.2; rw [← h1, List.length_drop]; omega
  have hjb : (j == 0) = false := by simpa using hj
  have hjc : (j != 0) = true := by simpa using hj
  have hS := Lib.hid (SC.start w)
  go_enter Tryz.func14, Tryz.ntmps14
  go_wp2_with fail
  generalize hwa : World.alloc w _ = v1
  have h1 := (hS.out.boxed (vs := [.bool false, .slice none 0 0, .slice none 0 0]) (ty := 27) rfl hwa)
  clear hwa
  clear hS; have hS := Lib.hid h1; clear h1
  obtain ⟨x0_0, x1_0, x2_0⟩ := hS.out.cs3 0 rfl
  go_wp2_with fail
  go_at_call 35
  with_reducible refine (cut_c hS.out HC).mono ?_
  rintro e v2 ⟨rfl, h1⟩
  clear x0_0 x1_0 x2_0
  clear hS; have hS := Lib.hid h1; clear h1
  obtain ⟨x0_0, x1_0, x2_0⟩ := hS.out.cs3 0 rfl
  go_wp2_with fail
  go_at_call 36
  with_reducible refine (wread_c hS.out (fP bs) hlp hj1 hz).mono ?_
  rintro e v3 ⟨A1, n1, c1, rfl, h1⟩
  clear x0_0 x1_0 x2_0
  clear hS; have hS := Lib.hid h1; clear h1
  obtain ⟨x0_0, x1_0, x2_0⟩ := hS.out.cs3 0 rfl
  have hm0 := hS.out.boxed (vs := [.bool (sg z), .slice A1 n1 c1]) (ty := 25) rfl rfl
  try simp only [World.size_alloc] at hm0
  obtain ⟨m00_0, m01_0⟩ := hm0.cs2 0 rfl
  obtain ⟨m00_1, m01_1, m02_1⟩ := hm0.cs3 1 rfl
  have hp0 := hm0.put3 1 rfl (hm0.ge_ 1 rfl) (.bool false) (.slice none 0 0) (.slice none 0 0)
  simp only [List.set_cons_zero, List.set_cons_succ] at hp0
  have fz0_0 := hm0.frs 1 rfl 0
  have fz0_1 := hm0.frs 1 rfl 1
  have fz0_2 := hm0.frs 1 rfl 2
  have HPUT := Lib.hid hp0
  clear hp0
  clear hm0
  go_wp2_with fail
  refine bodyPost_ret (results_B2 rfl rfl rfl (loadR (HPUT.out.box _ (List.mem_of_getElem? (i := 1) rfl)))) rfl ?_
  exact ⟨rfl, HPUT.out.bl⟩
theorem fread_pq (w : World) (bs : List UInt8) (hl : bs.length ≤ maxLen) (hn : noS bs = false) {j z d : Int} (hj1 : rdJ (fP bs) = 0) (hz : rdW (fP bs) = z) (hj2 : rdE (fQ bs) = j) (hd : rdV (fQ bs) = d) (hj : j ≠ 0) : Calls Tryz.prog 14 #[.string ⟨bs.toArray⟩] w (OutRZ w j) := by
  have HC : ∀ w : World, _ := fun w => slcut_yes bs w hl hn
  have hlp : (fP bs).length ≤ maxLen := by have := (fP_len hn).1; omega
  have hlq : (fQ bs).length ≤ maxLen := by have h1 := (fP_len hn).2.2; rw [← h1, List.length_drop]; omega
  have hjb : (j == 0) = false := by simpa using hj
  have hjc : (j != 0) = true := by simpa using hj
  have hS := Lib.hid (SC.start w)
  go_enter Tryz.func14, Tryz.ntmps14
  go_wp2_with fail
  generalize hwa : World.alloc w _ = v1
  have h1 := (hS.out.boxed (vs := [.bool false, .slice none 0 0, .slice none 0 0]) (ty := 27) rfl hwa)
  clear hwa
  clear hS; have hS := Lib.hid h1; clear h1
  obtain ⟨x0_0, x1_0, x2_0⟩ := hS.out.cs3 0 rfl
  go_wp2_with fail
  go_at_call 35
  with_reducible refine (cut_c hS.out HC).mono ?_
  rintro e v2 ⟨rfl, h1⟩
  clear x0_0 x1_0 x2_0
  clear hS; have hS := Lib.hid h1; clear h1
  obtain ⟨x0_0, x1_0, x2_0⟩ := hS.out.cs3 0 rfl
  go_wp2_with fail
  go_at_call 36
  with_reducible refine (wread_c hS.out (fP bs) hlp hj1 hz).mono ?_
  rintro e v3 ⟨A1, n1, c1, rfl, h1⟩
  clear x0_0 x1_0 x2_0
  clear hS; have hS := Lib.hid h1; clear h1
  obtain ⟨x0_0, x1_0, x2_0⟩ := hS.out.cs3 0 rfl
  go_wp2_with fail
  generalize hwa : World.alloc v3 _ = v4
  have h1 := (hS.out.boxed (vs := [.bool (sg z), .slice A1 n1 c1]) (ty := 25) rfl hwa)
  clear hwa
  clear hS; have hS := Lib.hid h1; clear h1
  obtain ⟨x0_0, x1_0⟩ := hS.out.cs2 0 rfl
  obtain ⟨x0_1, x1_1, x2_1⟩ := hS.out.cs3 1 rfl
  go_wp2_with fail
  go_at_call 37
  with_reducible refine (dread_c hS.out (fQ bs) hlq hj2 hd).mono ?_
  rintro e v5 ⟨A2, n2, c2, rfl, h1⟩
  clear x0_0 x1_0 x0_1 x1_1 x2_1
  clear hS; have hS := Lib.hid h1; clear h1
  obtain ⟨x0_0, x1_0⟩ := hS.out.cs2 0 rfl
  obtain ⟨x0_1, x1_1, x2_1⟩ := hS.out.cs3 1 rfl
  have hp0 := hS.out.put3 1 rfl (hS.out.ge_ 1 rfl) (.bool false) (.slice none 0 0) (.slice none 0 0)
  simp only [List.set_cons_zero, List.set_cons_succ] at hp0
  have fz0_0 := hS.out.frs 1 rfl 0
  have fz0_1 := hS.out.frs 1 rfl 1
  have fz0_2 := hS.out.frs 1 rfl 2
  have HPUT := Lib.hid hp0
  clear hp0
  go_wp2_with fail
  refine bodyPost_ret (results_B2 rfl rfl rfl (loadR (HPUT.out.box _ (List.mem_of_getElem? (i := 1) rfl)))) rfl ?_
  exact ⟨rfl, HPUT.out.bl⟩
theorem fread_one (w : World) (bs : List UInt8) (hl : bs.length ≤ maxLen) (hn : noS bs = false) {z d : Int} (hj1 : rdJ (fP bs) = 0) (hz : rdW (fP bs) = z) (hj2 : rdE (fQ bs) = 0) (hd : rdV (fQ bs) = d) (h1d : d = 1) : Calls Tryz.prog 14 #[.string ⟨bs.toArray⟩] w (OutRZ w 3) := by
  have HC : ∀ w : World, _ := fun w => slcut_yes bs w hl hn
  have hlp : (fP bs).length ≤ maxLen := by have := (fP_len hn).1; omega
  have hlq : (fQ bs).length ≤ maxLen := by have h1 := (fP_len hn).2.2; rw [← h1, List.length_drop]; omega
  have hS := Lib.hid (SC.start w)
  go_enter Tryz.func14, Tryz.ntmps14
  go_wp2_with fail
  generalize hwa : World.alloc w _ = v1
  have h1 := (hS.out.boxed (vs := [.bool false, .slice none 0 0, .slice none 0 0]) (ty := 27) rfl hwa)
  clear hwa
  clear hS; have hS := Lib.hid h1; clear h1
  obtain ⟨x0_0, x1_0, x2_0⟩ := hS.out.cs3 0 rfl
  go_wp2_with fail
  go_at_call 35
  with_reducible refine (cut_c hS.out HC).mono ?_
  rintro e v2 ⟨rfl, h1⟩
  clear x0_0 x1_0 x2_0
  clear hS; have hS := Lib.hid h1; clear h1
  obtain ⟨x0_0, x1_0, x2_0⟩ := hS.out.cs3 0 rfl
  go_wp2_with fail
  go_at_call 36
  with_reducible refine (wread_c hS.out (fP bs) hlp hj1 hz).mono ?_
  rintro e v3 ⟨A1, n1, c1, rfl, h1⟩
  clear x0_0 x1_0 x2_0
  clear hS; have hS := Lib.hid h1; clear h1
  obtain ⟨x0_0, x1_0, x2_0⟩ := hS.out.cs3 0 rfl
  go_wp2_with fail
  generalize hwa : World.alloc v3 _ = v4
  have h1 := (hS.out.boxed (vs := [.bool (sg z), .slice A1 n1 c1]) (ty := 25) rfl hwa)
  clear hwa
  clear hS; have hS := Lib.hid h1; clear h1
  obtain ⟨x0_0, x1_0⟩ := hS.out.cs2 0 rfl
  obtain ⟨x0_1, x1_1, x2_1⟩ := hS.out.cs3 1 rfl
  go_wp2_with fail
  go_at_call 37
  with_reducible refine (dread_c hS.out (fQ bs) hlq hj2 hd).mono ?_
  rintro e v5 ⟨A2, n2, c2, rfl, h1⟩
  clear x0_0 x1_0 x0_1 x1_1 x2_1
  clear hS; have hS := Lib.hid h1; clear h1
  obtain ⟨x0_0, x1_0⟩ := hS.out.cs2 0 rfl
  obtain ⟨x0_1, x1_1, x2_1⟩ := hS.out.cs3 1 rfl
  go_wp2_with fail
  generalize hwa : World.alloc v5 _ = v6
  have h1 := (hS.out.boxed (vs := [.bool (sg z), .slice A1 n1 c1, .slice A2 n2 c2]) (ty := 27) rfl hwa)
  clear hwa
  clear hS; have hS := Lib.hid h1; clear h1
  obtain ⟨x0_0, x1_0, x2_0⟩ := hS.out.cs3 0 rfl
  obtain ⟨x0_1, x1_1⟩ := hS.out.cs2 1 rfl
  obtain ⟨x0_2, x1_2, x2_2⟩ := hS.out.cs3 2 rfl
  go_wp2_with fail
  go_at_call 38
  with_reducible refine (one_c (q := true) hS.out (by repeat (first | exact List.mem_cons_self | apply List.mem_cons_of_mem)) (by omega) (decide_eq_true h1d)).mono ?_
  rintro e v7 ⟨rfl, h1⟩
  clear x0_0 x1_0 x2_0 x0_1 x1_1 x0_2 x1_2 x2_2
  clear hS; have hS := Lib.hid h1; clear h1
  obtain ⟨x0_0, x1_0, x2_0⟩ := hS.out.cs3 0 rfl
  obtain ⟨x0_1, x1_1⟩ := hS.out.cs2 1 rfl
  obtain ⟨x0_2, x1_2, x2_2⟩ := hS.out.cs3 2 rfl
  have hp0 := hS.out.put3 2 rfl (hS.out.ge_ 2 rfl) (.bool false) (.slice none 0 0) (.slice none 0 0)
  simp only [List.set_cons_zero, List.set_cons_succ] at hp0
  have fz0_0 := hS.out.frs 2 rfl 0
  have fz0_1 := hS.out.frs 2 rfl 1
  have fz0_2 := hS.out.frs 2 rfl 2
  have HPUT := Lib.hid hp0
  clear hp0
  go_wp2_with fail
  refine bodyPost_ret (results_B2 rfl rfl rfl (loadR (HPUT.out.box _ (List.mem_of_getElem? (i := 2) rfl)))) rfl ?_
  exact ⟨rfl, HPUT.out.bl⟩
theorem fread_bad (w : World) (bs : List UInt8) (hl : bs.length ≤ maxLen) (hn : noS bs = false) {z d : Int} (hj1 : rdJ (fP bs) = 0) (hz : rdW (fP bs) = z) (hj2 : rdE (fQ bs) = 0) (hd : rdV (fQ bs) = d) (h1d : ¬ d = 1) (hmay : mayR (sg z) (limbs (mg z)) (limbs d) = false) : Calls Tryz.prog 14 #[.string ⟨bs.toArray⟩] w (OutRZ w 3) := by
  have HC : ∀ w : World, _ := fun w => slcut_yes bs w hl hn
  have hlp : (fP bs).length ≤ maxLen := by have := (fP_len hn).1; omega
  have hlq : (fQ bs).length ≤ maxLen := by have h1 := (fP_len hn).2.2; rw [← h1, List.length_drop]; omega
  have hS := Lib.hid (SC.start w)
  go_enter Tryz.func14, Tryz.ntmps14
  go_wp2_with fail
  generalize hwa : World.alloc w _ = v1
  have h1 := (hS.out.boxed (vs := [.bool false, .slice none 0 0, .slice none 0 0]) (ty := 27) rfl hwa)
  clear hwa
  clear hS; have hS := Lib.hid h1; clear h1
  obtain ⟨x0_0, x1_0, x2_0⟩ := hS.out.cs3 0 rfl
  go_wp2_with fail
  go_at_call 35
  with_reducible refine (cut_c hS.out HC).mono ?_
  rintro e v2 ⟨rfl, h1⟩
  clear x0_0 x1_0 x2_0
  clear hS; have hS := Lib.hid h1; clear h1
  obtain ⟨x0_0, x1_0, x2_0⟩ := hS.out.cs3 0 rfl
  go_wp2_with fail
  go_at_call 36
  with_reducible refine (wread_c hS.out (fP bs) hlp hj1 hz).mono ?_
  rintro e v3 ⟨A1, n1, c1, rfl, h1⟩
  clear x0_0 x1_0 x2_0
  clear hS; have hS := Lib.hid h1; clear h1
  obtain ⟨x0_0, x1_0, x2_0⟩ := hS.out.cs3 0 rfl
  go_wp2_with fail
  generalize hwa : World.alloc v3 _ = v4
  have h1 := (hS.out.boxed (vs := [.bool (sg z), .slice A1 n1 c1]) (ty := 25) rfl hwa)
  clear hwa
  clear hS; have hS := Lib.hid h1; clear h1
  obtain ⟨x0_0, x1_0⟩ := hS.out.cs2 0 rfl
  obtain ⟨x0_1, x1_1, x2_1⟩ := hS.out.cs3 1 rfl
  go_wp2_with fail
  go_at_call 37
  with_reducible refine (dread_c hS.out (fQ bs) hlq hj2 hd).mono ?_
  rintro e v5 ⟨A2, n2, c2, rfl, h1⟩
  clear x0_0 x1_0 x0_1 x1_1 x2_1
  clear hS; have hS := Lib.hid h1; clear h1
  obtain ⟨x0_0, x1_0⟩ := hS.out.cs2 0 rfl
  obtain ⟨x0_1, x1_1, x2_1⟩ := hS.out.cs3 1 rfl
  go_wp2_with fail
  generalize hwa : World.alloc v5 _ = v6
  have h1 := (hS.out.boxed (vs := [.bool (sg z), .slice A1 n1 c1, .slice A2 n2 c2]) (ty := 27) rfl hwa)
  clear hwa
  clear hS; have hS := Lib.hid h1; clear h1
  obtain ⟨x0_0, x1_0, x2_0⟩ := hS.out.cs3 0 rfl
  obtain ⟨x0_1, x1_1⟩ := hS.out.cs2 1 rfl
  obtain ⟨x0_2, x1_2, x2_2⟩ := hS.out.cs3 2 rfl
  go_wp2_with fail
  go_at_call 38
  with_reducible refine (one_c (q := false) hS.out (by repeat (first | exact List.mem_cons_self | apply List.mem_cons_of_mem)) (by omega) (decide_eq_false h1d)).mono ?_
  rintro e v7 ⟨rfl, h1⟩
  clear x0_0 x1_0 x2_0 x0_1 x1_1 x0_2 x1_2 x2_2
  clear hS; have hS := Lib.hid h1; clear h1
  obtain ⟨x0_0, x1_0, x2_0⟩ := hS.out.cs3 0 rfl
  obtain ⟨x0_1, x1_1⟩ := hS.out.cs2 1 rfl
  obtain ⟨x0_2, x1_2, x2_2⟩ := hS.out.cs3 2 rfl
  go_wp2_with fail
  go_at_call 39
  with_reducible refine (fmay_c (k := 20001) (k' := 20001) (q := false) hS.out (by repeat (first | exact List.mem_cons_self | apply List.mem_cons_of_mem)) (by repeat (first | exact List.mem_cons_self | apply List.mem_cons_of_mem)) (by omega) (by omega) hmay).mono ?_
  rintro e v8 ⟨rfl, h1⟩
  clear x0_0 x1_0 x2_0 x0_1 x1_1 x0_2 x1_2 x2_2
  clear hS; have hS := Lib.hid h1; clear h1
  obtain ⟨x0_0, x1_0, x2_0⟩ := hS.out.cs3 0 rfl
  obtain ⟨x0_1, x1_1⟩ := hS.out.cs2 1 rfl
  obtain ⟨x0_2, x1_2, x2_2⟩ := hS.out.cs3 2 rfl
  have hp0 := hS.out.put3 2 rfl (hS.out.ge_ 2 rfl) (.bool false) (.slice none 0 0) (.slice none 0 0)
  simp only [List.set_cons_zero, List.set_cons_succ] at hp0
  have fz0_0 := hS.out.frs 2 rfl 0
  have fz0_1 := hS.out.frs 2 rfl 1
  have fz0_2 := hS.out.frs 2 rfl 2
  have HPUT := Lib.hid hp0
  clear hp0
  go_wp2_with fail
  refine bodyPost_ret (results_B2 rfl rfl rfl (loadR (HPUT.out.box _ (List.mem_of_getElem? (i := 2) rfl)))) rfl ?_
  exact ⟨rfl, HPUT.out.bl⟩
theorem fread_good (w : World) (bs : List UInt8) (hl : bs.length ≤ maxLen) (hn : noS bs = false) {z d : Int} (hj1 : rdJ (fP bs) = 0) (hz : rdW (fP bs) = z) (hj2 : rdE (fQ bs) = 0) (hd : rdV (fQ bs) = d) (h1d : ¬ d = 1) (hmay : mayR (sg z) (limbs (mg z)) (limbs d) = true) {r : Rat} (hr1 : mkRat z d.toNat = r) : Calls Tryz.prog 14 #[.string ⟨bs.toArray⟩] w (OutRE w 20001 r 0) := by
  have HC : ∀ w : World, _ := fun w => slcut_yes bs w hl hn
  have hlp : (fP bs).length ≤ maxLen := by have := (fP_len hn).1; omega
  have hlq : (fQ bs).length ≤ maxLen := by have h1 := (fP_len hn).2.2; rw [← h1, List.length_drop]; omega
  have hd0 : 0 ≤ d := by rw [← hd]; exact rdV_nonneg _
  have hrv : rv (sg z) (val B (limbs (mg z))) (val B (limbs d)) = r := by rw [limbs_val (mg_nn z), limbs_val hd0]; unfold rv; rw [iv_sm]; exact hr1
  obtain ⟨g0, g1, g2, g3⟩ := (mayR_iff (limbs_dg _) (limbs_dg _) hrv).1 hmay
  have hnum : r.num = z := by
    refine (wn_inj g1 ?_).symm
    have := congrArg (val B) g2
    rwa [limbs_val (mg_nn _), limbs_val (mg_nn _)] at this
  have hden : (r.den : Int) = d := by
    have := congrArg (val B) g3
    rw [limbs_val hd0, limbs_val (Int.le_of_lt (rden_pos r))] at this
    exact this.symm
  clear g0 g1 g2 g3 hrv
  have HNUM := Lib.hid hnum
  have HDEN := Lib.hid hden
  clear hnum hden
  have hS := Lib.hid (SC.start w)
  go_enter Tryz.func14, Tryz.ntmps14
  go_wp2_with fail
  generalize hwa : World.alloc w _ = v1
  have h1 := (hS.out.boxed (vs := [.bool false, .slice none 0 0, .slice none 0 0]) (ty := 27) rfl hwa)
  clear hwa
  clear hS; have hS := Lib.hid h1; clear h1
  obtain ⟨x0_0, x1_0, x2_0⟩ := hS.out.cs3 0 rfl
  go_wp2_with fail
  go_at_call 35
  with_reducible refine (cut_c hS.out HC).mono ?_
  rintro e v2 ⟨rfl, h1⟩
  clear x0_0 x1_0 x2_0
  clear hS; have hS := Lib.hid h1; clear h1
  obtain ⟨x0_0, x1_0, x2_0⟩ := hS.out.cs3 0 rfl
  go_wp2_with fail
  go_at_call 36
  with_reducible refine (wread_c hS.out (fP bs) hlp hj1 hz).mono ?_
  rintro e v3 ⟨A1, n1, c1, rfl, h1⟩
  clear x0_0 x1_0 x2_0
  clear hS; have hS := Lib.hid h1; clear h1
  obtain ⟨x0_0, x1_0, x2_0⟩ := hS.out.cs3 0 rfl
  go_wp2_with fail
  generalize hwa : World.alloc v3 _ = v4
  have h1 := (hS.out.boxed (vs := [.bool (sg z), .slice A1 n1 c1]) (ty := 25) rfl hwa)
  clear hwa
  clear hS; have hS := Lib.hid h1; clear h1
  obtain ⟨x0_0, x1_0⟩ := hS.out.cs2 0 rfl
  obtain ⟨x0_1, x1_1, x2_1⟩ := hS.out.cs3 1 rfl
  go_wp2_with fail
  go_at_call 37
  with_reducible refine (dread_c hS.out (fQ bs) hlq hj2 hd).mono ?_
  rintro e v5 ⟨A2, n2, c2, rfl, h1⟩
  clear x0_0 x1_0 x0_1 x1_1 x2_1
  clear hS; have hS := Lib.hid h1; clear h1
  obtain ⟨x0_0, x1_0⟩ := hS.out.cs2 0 rfl
  obtain ⟨x0_1, x1_1, x2_1⟩ := hS.out.cs3 1 rfl
  go_wp2_with fail
  generalize hwa : World.alloc v5 _ = v6
  have h1 := (hS.out.boxed (vs := [.bool (sg z), .slice A1 n1 c1, .slice A2 n2 c2]) (ty := 27) rfl hwa)
  clear hwa
  clear hS; have hS := Lib.hid h1; clear h1
  obtain ⟨x0_0, x1_0, x2_0⟩ := hS.out.cs3 0 rfl
  obtain ⟨x0_1, x1_1⟩ := hS.out.cs2 1 rfl
  obtain ⟨x0_2, x1_2, x2_2⟩ := hS.out.cs3 2 rfl
  go_wp2_with fail
  go_at_call 38
  with_reducible refine (one_c (q := false) hS.out (by repeat (first | exact List.mem_cons_self | apply List.mem_cons_of_mem)) (by omega) (decide_eq_false h1d)).mono ?_
  rintro e v7 ⟨rfl, h1⟩
  clear x0_0 x1_0 x2_0 x0_1 x1_1 x0_2 x1_2 x2_2
  clear hS; have hS := Lib.hid h1; clear h1
  obtain ⟨x0_0, x1_0, x2_0⟩ := hS.out.cs3 0 rfl
  obtain ⟨x0_1, x1_1⟩ := hS.out.cs2 1 rfl
  obtain ⟨x0_2, x1_2, x2_2⟩ := hS.out.cs3 2 rfl
  go_wp2_with fail
  go_at_call 39
  with_reducible refine (fmay_c (k := 20001) (k' := 20001) (q := true) hS.out (by repeat (first | exact List.mem_cons_self | apply List.mem_cons_of_mem)) (by repeat (first | exact List.mem_cons_self | apply List.mem_cons_of_mem)) (by omega) (by omega) hmay).mono ?_
  rintro e v8 ⟨rfl, h1⟩
  clear x0_0 x1_0 x2_0 x0_1 x1_1 x0_2 x1_2 x2_2
  clear hS; have hS := Lib.hid h1; clear h1
  obtain ⟨x0_0, x1_0, x2_0⟩ := hS.out.cs3 0 rfl
  obtain ⟨x0_1, x1_1⟩ := hS.out.cs2 1 rfl
  obtain ⟨x0_2, x1_2, x2_2⟩ := hS.out.cs3 2 rfl
  have hp0 := hS.out.put3 2 rfl (hS.out.ge_ 2 rfl) (.bool (sg z)) (.slice A1 n1 c1) (.slice A2 n2 c2)
  simp only [List.set_cons_zero, List.set_cons_succ] at hp0
  have fz0_0 := hS.out.frs 2 rfl 0
  have fz0_1 := hS.out.frs 2 rfl 1
  have fz0_2 := hS.out.frs 2 rfl 2
  have HPUT := Lib.hid hp0
  clear hp0
  go_wp2_with fail
  refine bodyPost_ret (results_B2 rfl rfl rfl (loadR (HPUT.out.box _ (List.mem_of_getElem? (i := 2) rfl)))) rfl ?_
  exact HPUT.out.toRE2 (k := 20001) (k' := 20001) (r := r) (by repeat (first | exact List.mem_cons_self | apply List.mem_cons_of_mem)) (by repeat (first | exact List.mem_cons_self | apply List.mem_cons_of_mem)) (by repeat (first | exact List.mem_cons_self | apply List.mem_cons_of_mem)) (by repeat (first | exact List.mem_cons_self | apply List.mem_cons_of_mem)) (Nat.le_refl _) (Nat.le_refl _) (by rw [HNUM.out]) (by rw [HNUM.out]) (by rw [HDEN.out])
end Go.Proofs.YtpokcocfdchfeaaGreatDoor
