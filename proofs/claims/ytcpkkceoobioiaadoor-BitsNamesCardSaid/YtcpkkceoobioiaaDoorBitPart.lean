/- What Next, Cut, Clear, Down of the program's layer 7 answer, over this translation. -/
import Derived.Test.YtcpkkceoobioiaaDoorBitProg
import Derived.Test.YtcpkkceoobioiaaDoorRegV
import Derived.Shelf.SlicesE.Delete
import Derived.Shelf.SlGeneric
import Derived.Ground.SlgnProg
namespace Go.Proofs.YtcpkkceoobioiaaDoor
open Go.RowKit Go.Shelf Go.Sort
set_option linter.unusedVariables false
set_option linter.unusedSimpArgs false
set_option maxRecDepth 20000
open N
theorem ext_to (t : List UInt8) (q : Nat) : (⟨t.toArray⟩ : ByteArray).extract 0 q = ⟨(t.take q).toArray⟩ := by
  apply ByteArray.ext
  simp
theorem ext_from (t : List UInt8) (q : Nat) : (⟨t.toArray⟩ : ByteArray).extract q t.length = ⟨(t.drop q).toArray⟩ := by
  apply ByteArray.ext
  simp
  exact List.take_of_length_le (by simp)
theorem wf_small (a : Nat) (h : a < 9223372036854775808) : (Lit.int .i64 (a : Int)).wf = true := by
  have := wrap64_wf (a : Int)
  rwa [show wrap64 (a : Int) = (a : Int) by unfold wrap64; omega] at this
theorem rep_run (w : World) (c : UInt8) (n : Nat) (hn : n ≤ 1099511627776) :
    Calls Tryd.prog 42 #[.string ⟨#[c]⟩, .int .i64 n] w fun e w' => e = .returned (.string ⟨(List.replicate n c).toArray⟩) ∧ Below w.heap.size w w' := by
  have := Tryd.strings_Repeat ⟨#[c]⟩ n w (by omega) (by show 1 * n ≤ _; omega)
  rwa [show Lib.repeatL (ByteArray.mk #[c]).data.toList n = List.replicate n c from repeatL_one c n] at this
theorem partE_ok {l : List UInt8} {a n : Int} (hB : isB l = true) (h : isPart l a n) : partE l a n = 0 := by unfold partE; rw [hB, if_pos rfl, if_pos h]
set_option maxHeartbeats 4000000 in
theorem down_ok (w : World) (l : List UInt8) (hB : isB l = true) (a : Nat) (ha : a < l.length) (h1 : l.getD a 0 = 49) :
    Calls Tryd.prog 28 #[.string ⟨l.toArray⟩, .int .i64 a] w fun e w' => e = .returned (.tuple #[.string ⟨(downB l a).toArray⟩, .int .i64 0]) ∧ Below w.heap.size w w' := by
  have hl := (isB_iff.1 hB).1
  have hp := part_any w l (by unfold maxLen; omega) a 1 (wf_small a (by omega)) (by decide)
  rw [partE_ok hB (by unfold isPart; omega)] at hp
  have HP := Lib.hid hp
  have hx : ∀ W : World, (Instr.index 9 (.string ⟨l.toArray⟩) (.int .i64 (a : Int))).run Tryd.prog W = .ok (.int .u8 49) W := fun W => by
    have := str_at l 9 strU .i64 a ha W
    unfold str bat at this
    rw [h1] at this
    exact this
  obtain ⟨p, hpp⟩ : ∃ p, l.take a = p := ⟨_, rfl⟩
  have hpl : p.length = a := by rw [← hpp, List.length_take]; omega
  have he : (⟨l.toArray⟩ : ByteArray).extract 0 a = ⟨p.toArray⟩ := by rw [ext_to, hpp]
  obtain ⟨k, hk⟩ : ∃ k : Nat, l.length - a - 1 = k := ⟨_, rfl⟩
  obtain ⟨q, hq⟩ : ∃ q, List.replicate k (49 : UInt8) = q := ⟨_, rfl⟩
  have hql : q.length = k := by rw [← hq, List.length_replicate]
  have HR := Lib.hid (fun W : World => rep_run W 49 k (by omega))
  rw [hq] at HR
  have hi : (l.length : Int) - a - 1 = (k : Int) := by omega
  obtain ⟨r1, hr1⟩ : ∃ r1, p ++ [48] = r1 := ⟨_, rfl⟩
  have hr1l : r1.length = a + 1 := by rw [← hr1, List.length_append, hpl]; rfl
  obtain ⟨r2, hr2⟩ : ∃ r2, r1 ++ q = r2 := ⟨_, rfl⟩
  have hD : downB l a = r2 := by unfold downB; rw [hpp, hk, hq, hr1, hr2]
  rw [hD]
  have hap : (⟨p.toArray⟩ : ByteArray) ++ ⟨#[48]⟩ = ⟨r1.toArray⟩ := by rw [← hr1]; exact ByteArray.mk_append_mk p [48]
  have hap2 : (⟨r1.toArray⟩ : ByteArray) ++ ⟨q.toArray⟩ = ⟨r2.toArray⟩ := by rw [← hr2]; exact ByteArray.mk_append_mk _ _
  have hsz2 : ¬ (9223372036854775807 < a + 1 + k) := by omega
  clear hr1 hr2 hq
  clear hp hB h1 hD hpp hk
  go_enter Tryd.func28, Tryd.ntmps28
  go_wp2_with (go_at_call 39; refine HP.out.mono ?_; rintro e w1 ⟨rfl, hb⟩; have HB := Lib.hid hb; clear hb)
  refine RV.wp_region_v (by kernel_rfl) [17, 18, 19, 20, 21, 22, 23, 24, 25, 26, 27, 4, 5] [.string ⟨(l).toArray⟩, .int .i64 (a : Nat), .string ⟨(p).toArray⟩, .string ⟨(r1).toArray⟩, .string ⟨(l).toArray⟩, .int .i64 (l.length : Nat), .int .i64 (a : Nat), .int .i64 ((l.length : Int) - a), .int .i64 (k : Nat), .string ⟨(q).toArray⟩, .string ⟨(r2).toArray⟩, .string ⟨(r2).toArray⟩, .int .i64 (0)] (fun W => Below w1.heap.size w1 W) (by kernel_rfl) rfl (by decide) rfl (by kernel_rfl) ((Below.refl _ _).drew) ?_ ?_
  · intro ii hii fa fw fr hp hG
    match ii, hii with
    | 0, _ =>
      have p0 : fa.eval (.tmp 0) = .string ⟨(l).toArray⟩ := (fr.out 0 (by decide)).trans rfl
      simp only [Act.eval] at p0
      refine ⟨_, _, rfl, rfl, .inl ⟨fw, ?_, hG⟩⟩
      simp only [execOp, Act.eval]
      go_simp
      all_goals first | omega | (intro hh; omega) | (rw [IntKind.wrap_i64]; omega)
    | 1, _ =>
      have p1 : fa.eval (.tmp 1) = .int .i64 (a : Nat) := (fr.out 1 (by decide)).trans rfl
      simp only [Act.eval] at p1
      refine ⟨_, _, rfl, rfl, .inl ⟨fw, ?_, hG⟩⟩
      simp only [execOp, Act.eval]
      go_simp
      all_goals first | omega | (intro hh; omega) | (rw [IntKind.wrap_i64]; omega)
    | 2, _ =>
      have p17 : fa.eval (.tmp 17) = .string ⟨(l).toArray⟩ := hp 0 17 _ (by kernel_rfl) rfl rfl
      have p18 : fa.eval (.tmp 18) = .int .i64 (a : Nat) := hp 1 18 _ (by kernel_rfl) rfl rfl
      simp only [Act.eval] at p17 p18
      refine ⟨_, _, rfl, rfl, .inl ⟨fw, ?_, hG⟩⟩
      simp only [execOp, Act.eval]
      go_simp
      all_goals first | omega | (intro hh; omega) | (rw [IntKind.wrap_i64]; omega)
    | 3, _ =>
      have p19 : fa.eval (.tmp 19) = .string ⟨(p).toArray⟩ := hp 2 19 _ (by kernel_rfl) rfl rfl
      simp only [Act.eval] at p19
      refine ⟨_, _, rfl, rfl, .inl ⟨fw, ?_, hG⟩⟩
      simp only [execOp, Act.eval]
      go_simp
      all_goals first | omega | (intro hh; omega) | (rw [IntKind.wrap_i64]; omega)
    | 4, _ =>
      have p0 : fa.eval (.tmp 0) = .string ⟨(l).toArray⟩ := (fr.out 0 (by decide)).trans rfl
      simp only [Act.eval] at p0
      refine ⟨_, _, rfl, rfl, .inl ⟨fw, ?_, hG⟩⟩
      simp only [execOp, Act.eval]
      go_simp
      all_goals first | omega | (intro hh; omega) | (rw [IntKind.wrap_i64]; omega)
    | 5, _ =>
      have p21 : fa.eval (.tmp 21) = .string ⟨(l).toArray⟩ := hp 4 21 _ (by kernel_rfl) rfl rfl
      simp only [Act.eval] at p21
      refine ⟨_, _, rfl, rfl, .inl ⟨fw, ?_, hG⟩⟩
      simp only [execOp, Act.eval]
      go_simp
      all_goals first | omega | (intro hh; omega) | (rw [IntKind.wrap_i64]; omega)
    | 6, _ =>
      have p1 : fa.eval (.tmp 1) = .int .i64 (a : Nat) := (fr.out 1 (by decide)).trans rfl
      simp only [Act.eval] at p1
      refine ⟨_, _, rfl, rfl, .inl ⟨fw, ?_, hG⟩⟩
      simp only [execOp, Act.eval]
      go_simp
      all_goals first | omega | (intro hh; omega) | (rw [IntKind.wrap_i64]; omega)
    | 7, _ =>
      have p22 : fa.eval (.tmp 22) = .int .i64 (l.length : Nat) := hp 5 22 _ (by kernel_rfl) rfl rfl
      have p23 : fa.eval (.tmp 23) = .int .i64 (a : Nat) := hp 6 23 _ (by kernel_rfl) rfl rfl
      simp only [Act.eval] at p22 p23
      refine ⟨_, _, rfl, rfl, .inl ⟨fw, ?_, hG⟩⟩
      simp only [execOp, Act.eval]
      go_simp
      all_goals first | omega | (intro hh; omega) | (rw [IntKind.wrap_i64]; omega)
    | 8, _ =>
      have p24 : fa.eval (.tmp 24) = .int .i64 ((l.length : Int) - a) := hp 7 24 _ (by kernel_rfl) rfl rfl
      simp only [Act.eval] at p24
      refine ⟨_, _, rfl, rfl, .inl ⟨fw, ?_, hG⟩⟩
      simp only [execOp, Act.eval]
      go_simp
      all_goals first | omega | (intro hh; omega) | (rw [IntKind.wrap_i64]; omega)
    | 9, _ =>
      have p25 : fa.eval (.tmp 25) = .int .i64 (k : Nat) := hp 8 25 _ (by kernel_rfl) rfl rfl
      have hv : (#[Operand.const (Value.string { data := #[49] }), Operand.tmp 25] : Array Operand).map fa.eval = #[(Value.string { data := #[49] }), (.int .i64 (k : Nat))] := by simp only [List.map_toArray, List.map_cons, List.map_nil, p25]; rfl
      exact ⟨_, _, rfl, rfl, RV.yields_call hv Tryd.func42 (by kernel_rfl) rfl (HR.out fw) (fun e w2 h => ⟨h.1, hG.trans (h.2.mono hG.size)⟩)⟩
    | 10, _ =>
      have p20 : fa.eval (.tmp 20) = .string ⟨(r1).toArray⟩ := hp 3 20 _ (by kernel_rfl) rfl rfl
      have p26 : fa.eval (.tmp 26) = .string ⟨(q).toArray⟩ := hp 9 26 _ (by kernel_rfl) rfl rfl
      simp only [Act.eval] at p20 p26
      refine ⟨_, _, rfl, rfl, .inl ⟨fw, ?_, hG⟩⟩
      simp only [execOp, Act.eval]
      go_simp
      all_goals first | omega | (intro hh; omega) | (rw [IntKind.wrap_i64]; omega)
    | 11, _ =>
      have p27 : fa.eval (.tmp 27) = .string ⟨(r2).toArray⟩ := hp 10 27 _ (by kernel_rfl) rfl rfl
      simp only [Act.eval] at p27
      refine ⟨_, _, rfl, rfl, .inl ⟨fw, ?_, hG⟩⟩
      simp only [execOp, Act.eval]
      go_simp
      all_goals first | omega | (intro hh; omega) | (rw [IntKind.wrap_i64]; omega)
    | 12, _ =>
      refine ⟨_, _, rfl, rfl, .inl ⟨fw, ?_, hG⟩⟩
      simp only [execOp, Act.eval]
      go_simp
      all_goals first | omega | (intro hh; omega) | (rw [IntKind.wrap_i64]; omega)
    | i + 13, hi => exact absurd hi (by show ¬ (i + 13 < 13); omega)
  · intro w2 hG
    simp only [RV.putAll, List.zip_cons_cons, List.zip_nil_left, List.zip_nil_right, List.foldl_cons, List.foldl_nil, Act.put, List.setIfInBounds_toArray, List.set_cons_zero, List.set_cons_succ]
    go_wp2
    go_ret2
    exact ⟨rfl, HB.out.trans (hG.mono HB.out.size)⟩
set_option maxHeartbeats 4000000 in
theorem clear_ok (w : World) (l : List UInt8) (hB : isB l = true) (a n : Nat) (hn : 1 ≤ n) (ha : a + n ≤ l.length) :
    Calls Tryd.prog 26 #[.string ⟨l.toArray⟩, .int .i64 a, .int .i64 n] w fun e w' => e = .returned (.tuple #[.string ⟨(clearB l a n).toArray⟩, .int .i64 0]) ∧ Below w.heap.size w w' := by
  have hl := (isB_iff.1 hB).1
  have hp := part_any w l (by unfold maxLen; omega) a n (wf_small a (by omega)) (wf_small n (by omega))
  rw [partE_ok hB (by unfold isPart; omega)] at hp
  have HP := Lib.hid hp
  obtain ⟨p, hpp⟩ : ∃ p, l.take a = p := ⟨_, rfl⟩
  have hpl : p.length = a := by rw [← hpp, List.length_take]; omega
  obtain ⟨j, hj⟩ : ∃ j : Nat, a + n = j := ⟨_, rfl⟩
  have hj' : (a : Int) + (n : Int) = (j : Int) := by omega
  have hjl : j ≤ l.length := by omega
  obtain ⟨s, hs⟩ : ∃ s, l.drop j = s := ⟨_, rfl⟩
  have hsl : s.length = l.length - j := by rw [← hs, List.length_drop]
  have he : (⟨l.toArray⟩ : ByteArray).extract 0 a = ⟨p.toArray⟩ := by rw [ext_to, hpp]
  have he2 : (⟨l.toArray⟩ : ByteArray).extract j l.length = ⟨s.toArray⟩ := by rw [ext_from, hs]
  obtain ⟨q, hq⟩ : ∃ q, List.replicate n (48 : UInt8) = q := ⟨_, rfl⟩
  have hql : q.length = n := by rw [← hq, List.length_replicate]
  have HR := Lib.hid (fun W : World => zeros_any W n (by omega))
  rw [hq] at HR
  obtain ⟨r1, hr1⟩ : ∃ r1, p ++ q = r1 := ⟨_, rfl⟩
  have hr1l : r1.length = j := by rw [← hr1, List.length_append, hpl, hql]; exact hj
  obtain ⟨r2, hr2⟩ : ∃ r2, r1 ++ s = r2 := ⟨_, rfl⟩
  have hD : clearB l a n = r2 := by unfold clearB; rw [hpp, hj, hs, hq, hr1, hr2]
  rw [hD]
  have hap : (⟨p.toArray⟩ : ByteArray) ++ ⟨q.toArray⟩ = ⟨r1.toArray⟩ := by rw [← hr1]; exact ByteArray.mk_append_mk p q
  have hap2 : (⟨r1.toArray⟩ : ByteArray) ++ ⟨s.toArray⟩ = ⟨r2.toArray⟩ := by rw [← hr2]; exact ByteArray.mk_append_mk _ _
  clear hr1 hr2 hq hp hB hD hpp hs
  go_enter Tryd.func26, Tryd.ntmps26
  go_wp2_with (go_at_call 39; refine HP.out.mono ?_; rintro e w1 ⟨rfl, hb⟩; have HB := Lib.hid hb; clear hb)
  refine RV.wp_region_v (by kernel_rfl) [16, 17, 18, 19, 20, 21, 22, 23, 24, 25, 26, 27, 6, 7] [.string ⟨(l).toArray⟩, .int .i64 (a : Nat), .string ⟨(p).toArray⟩, .int .i64 (n : Nat), .string ⟨(q).toArray⟩, .string ⟨(r1).toArray⟩, .string ⟨(l).toArray⟩, .int .i64 (a : Nat), .int .i64 (n : Nat), .int .i64 (j : Nat), .string ⟨(s).toArray⟩, .string ⟨(r2).toArray⟩, .string ⟨(r2).toArray⟩, .int .i64 (0)] (fun W => Below w1.heap.size w1 W) (by kernel_rfl) rfl (by decide) rfl (by kernel_rfl) ((Below.refl _ _).drew) ?_ ?_
  · intro ii hii fa fw fr hp hG
    match ii, hii with
    | 0, _ =>
      have p0 : fa.eval (.tmp 0) = .string ⟨(l).toArray⟩ := (fr.out 0 (by decide)).trans rfl
      simp only [Act.eval] at p0
      refine ⟨_, _, rfl, rfl, .inl ⟨fw, ?_, hG⟩⟩
      simp only [execOp, Act.eval]
      go_simp
      all_goals first | omega | (intro hh; omega) | (rw [IntKind.wrap_i64]; omega)
    | 1, _ =>
      have p1 : fa.eval (.tmp 1) = .int .i64 (a : Nat) := (fr.out 1 (by decide)).trans rfl
      simp only [Act.eval] at p1
      refine ⟨_, _, rfl, rfl, .inl ⟨fw, ?_, hG⟩⟩
      simp only [execOp, Act.eval]
      go_simp
      all_goals first | omega | (intro hh; omega) | (rw [IntKind.wrap_i64]; omega)
    | 2, _ =>
      have p16 : fa.eval (.tmp 16) = .string ⟨(l).toArray⟩ := hp 0 16 _ (by kernel_rfl) rfl rfl
      have p17 : fa.eval (.tmp 17) = .int .i64 (a : Nat) := hp 1 17 _ (by kernel_rfl) rfl rfl
      simp only [Act.eval] at p16 p17
      refine ⟨_, _, rfl, rfl, .inl ⟨fw, ?_, hG⟩⟩
      simp only [execOp, Act.eval]
      go_simp
      all_goals first | omega | (intro hh; omega) | (rw [IntKind.wrap_i64]; omega)
    | 3, _ =>
      have p2 : fa.eval (.tmp 2) = .int .i64 (n : Nat) := (fr.out 2 (by decide)).trans rfl
      simp only [Act.eval] at p2
      refine ⟨_, _, rfl, rfl, .inl ⟨fw, ?_, hG⟩⟩
      simp only [execOp, Act.eval]
      go_simp
      all_goals first | omega | (intro hh; omega) | (rw [IntKind.wrap_i64]; omega)
    | 4, _ =>
      have p19 : fa.eval (.tmp 19) = .int .i64 (n : Nat) := hp 3 19 _ (by kernel_rfl) rfl rfl
      have hv : (#[Operand.tmp 19] : Array Operand).map fa.eval = #[(.int .i64 (n : Nat))] := by simp only [List.map_toArray, List.map_cons, List.map_nil, p19]
      exact ⟨_, _, rfl, rfl, RV.yields_call hv Tryd.func37 (by kernel_rfl) rfl (HR.out fw) (fun e w2 h => ⟨h.1, hG.trans (h.2.mono hG.size)⟩)⟩
    | 5, _ =>
      have p18 : fa.eval (.tmp 18) = .string ⟨(p).toArray⟩ := hp 2 18 _ (by kernel_rfl) rfl rfl
      have p20 : fa.eval (.tmp 20) = .string ⟨(q).toArray⟩ := hp 4 20 _ (by kernel_rfl) rfl rfl
      simp only [Act.eval] at p18 p20
      refine ⟨_, _, rfl, rfl, .inl ⟨fw, ?_, hG⟩⟩
      simp only [execOp, Act.eval]
      go_simp
      all_goals first | omega | (intro hh; omega) | (rw [IntKind.wrap_i64]; omega)
    | 6, _ =>
      have p0 : fa.eval (.tmp 0) = .string ⟨(l).toArray⟩ := (fr.out 0 (by decide)).trans rfl
      simp only [Act.eval] at p0
      refine ⟨_, _, rfl, rfl, .inl ⟨fw, ?_, hG⟩⟩
      simp only [execOp, Act.eval]
      go_simp
      all_goals first | omega | (intro hh; omega) | (rw [IntKind.wrap_i64]; omega)
    | 7, _ =>
      have p1 : fa.eval (.tmp 1) = .int .i64 (a : Nat) := (fr.out 1 (by decide)).trans rfl
      simp only [Act.eval] at p1
      refine ⟨_, _, rfl, rfl, .inl ⟨fw, ?_, hG⟩⟩
      simp only [execOp, Act.eval]
      go_simp
      all_goals first | omega | (intro hh; omega) | (rw [IntKind.wrap_i64]; omega)
    | 8, _ =>
      have p2 : fa.eval (.tmp 2) = .int .i64 (n : Nat) := (fr.out 2 (by decide)).trans rfl
      simp only [Act.eval] at p2
      refine ⟨_, _, rfl, rfl, .inl ⟨fw, ?_, hG⟩⟩
      simp only [execOp, Act.eval]
      go_simp
      all_goals first | omega | (intro hh; omega) | (rw [IntKind.wrap_i64]; omega)
    | 9, _ =>
      have p23 : fa.eval (.tmp 23) = .int .i64 (a : Nat) := hp 7 23 _ (by kernel_rfl) rfl rfl
      have p24 : fa.eval (.tmp 24) = .int .i64 (n : Nat) := hp 8 24 _ (by kernel_rfl) rfl rfl
      simp only [Act.eval] at p23 p24
      refine ⟨_, _, rfl, rfl, .inl ⟨fw, ?_, hG⟩⟩
      simp only [execOp, Act.eval]
      go_simp
      all_goals first | omega | (intro hh; omega) | (rw [IntKind.wrap_i64]; omega)
    | 10, _ =>
      have p22 : fa.eval (.tmp 22) = .string ⟨(l).toArray⟩ := hp 6 22 _ (by kernel_rfl) rfl rfl
      have p25 : fa.eval (.tmp 25) = .int .i64 (j : Nat) := hp 9 25 _ (by kernel_rfl) rfl rfl
      simp only [Act.eval] at p22 p25
      refine ⟨_, _, rfl, rfl, .inl ⟨fw, ?_, hG⟩⟩
      simp only [execOp, Act.eval]
      go_simp
      all_goals first | omega | (intro hh; omega) | (rw [IntKind.wrap_i64]; omega)
    | 11, _ =>
      have p21 : fa.eval (.tmp 21) = .string ⟨(r1).toArray⟩ := hp 5 21 _ (by kernel_rfl) rfl rfl
      have p26 : fa.eval (.tmp 26) = .string ⟨(s).toArray⟩ := hp 10 26 _ (by kernel_rfl) rfl rfl
      simp only [Act.eval] at p21 p26
      refine ⟨_, _, rfl, rfl, .inl ⟨fw, ?_, hG⟩⟩
      simp only [execOp, Act.eval]
      go_simp
      all_goals first | omega | (intro hh; omega) | (rw [IntKind.wrap_i64]; omega)
    | 12, _ =>
      have p27 : fa.eval (.tmp 27) = .string ⟨(r2).toArray⟩ := hp 11 27 _ (by kernel_rfl) rfl rfl
      simp only [Act.eval] at p27
      refine ⟨_, _, rfl, rfl, .inl ⟨fw, ?_, hG⟩⟩
      simp only [execOp, Act.eval]
      go_simp
      all_goals first | omega | (intro hh; omega) | (rw [IntKind.wrap_i64]; omega)
    | 13, _ =>
      refine ⟨_, _, rfl, rfl, .inl ⟨fw, ?_, hG⟩⟩
      simp only [execOp, Act.eval]
      go_simp
      all_goals first | omega | (intro hh; omega) | (rw [IntKind.wrap_i64]; omega)
    | i + 14, hi => exact absurd hi (by show ¬ (i + 14 < 14); omega)
  · intro w2 hG
    simp only [RV.putAll, List.zip_cons_cons, List.zip_nil_left, List.zip_nil_right, List.foldl_cons, List.foldl_nil, Act.put, List.setIfInBounds_toArray, List.set_cons_zero, List.set_cons_succ]
    go_wp2
    go_ret2
    exact ⟨rfl, HB.out.trans (hG.mono HB.out.size)⟩
namespace N
theorem last_split (l : List UInt8) : (Lib.lastIndexByte ⟨l.toArray⟩ 48 = -1 ∧ nxt l = none) ∨ (∃ p q, l = p ++ 48 :: q ∧ Lib.lastIndexByte ⟨l.toArray⟩ 48 = ((p.length : Nat) : Int) ∧ nxt l = some (p ++ 49 :: List.replicate q.length 48)) := by
  have hget : ∀ j, j < l.length → ((⟨l.toArray⟩ : ByteArray).data[j]!) = l.getD j 0 := fun j hj => by
    simp [List.getD_eq_getElem?_getD, hj]
  have hne : ∀ c : UInt8, ((c.toNat : Nat) : Int) = 48 ↔ c = 48 := fun c => ⟨fun h => UInt8.toNat_inj.1 (by show c.toNat = 48; omega), fun h => by rw [h]; rfl⟩
  rcases Lib.lastIdx_spec ⟨l.toArray⟩ 48 l.length with ⟨h1, h2⟩ | ⟨i, hi, h1, h2, h3⟩
  · left
    refine ⟨h1, nxt_none fun c hc e => ?_⟩
    obtain ⟨j, hj, e2⟩ := List.getElem_of_mem hc
    refine h2 j hj ((hne _).2 ?_)
    rw [hget j hj, List.getD_eq_getElem?_getD, List.getElem?_eq_getElem hj]
    exact e2.trans e
  · right
    have h48 : l[i] = 48 := by
      have := (hne _).1 h2
      rwa [hget i hi, List.getD_eq_getElem?_getD, List.getElem?_eq_getElem hi] at this
    have hl : l = l.take i ++ 48 :: l.drop (i + 1) := by
      rw [← h48, ← List.drop_eq_getElem_cons hi, List.take_append_drop]
    have hq : ∀ c ∈ l.drop (i + 1), c ≠ 48 := fun c hc e => by
      obtain ⟨j, hj, e2⟩ := List.getElem_of_mem hc
      have hjl : i + 1 + j < l.length := by rw [List.length_drop] at hj; omega
      rw [List.getElem_drop] at e2
      refine h3 (i + 1 + j) (by omega) hjl ((hne _).2 ?_)
      rw [hget _ hjl, List.getD_eq_getElem?_getD, List.getElem?_eq_getElem hjl]
      exact e2.trans e
    refine ⟨l.take i, l.drop (i + 1), hl, ?_, ?_⟩
    · rw [List.length_take, Nat.min_eq_left (by omega)]; exact h1
    · have h4 := nxt_split (l.take i) (l.drop (i + 1)) hq
      rw [← hl] at h4
      exact h4
end N
set_option maxHeartbeats 4000000 in
theorem next_any (w : World) (l : List UInt8) (hl : l.length ≤ maxLen) :
    Calls Tryd.prog 22 #[.string ⟨l.toArray⟩] w fun e w' => e = .returned (.tuple #[.string ⟨(nextB l).1.toArray⟩, .bool (nextB l).2]) ∧ Below w.heap.size w w' := by
  have HI := Lib.hid (is_any w l hl)
  by_cases hB : isB l = true
  · have h1024 := (isB_iff.1 hB).1
    have HL := Lib.hid (fun W : World => Tryd.strings_LastIndexByte ⟨l.toArray⟩ 48 (by show l.length < _; omega) W)
    rcases last_split l with ⟨h1, h2⟩ | ⟨p, q0, hpq, h1, h2⟩
    · rw [h1] at HL
      by_cases hlt : l.length < 1024
      · rw [nextB_up hB h2 hlt]
        rw [hB] at HI
        have HR := Lib.hid (fun W : World => zeros_any W (l.length + 1) (by omega))
        clear hB h1 h2
        go_enter Tryd.func22, Tryd.ntmps22
        go_wp2_with (first
          | (go_at_call 18; refine HI.out.mono ?_; rintro e w1 ⟨rfl, hb⟩; have HB := Lib.hid hb; clear hb)
          | (go_at_call 36; refine (HL.out _).mono ?_; rintro e w2 ⟨rfl, rfl⟩)
          | (go_at_call 37; refine (HR.out _).mono ?_; rintro e w3 ⟨rfl, hb⟩; have HB2 := Lib.hid hb; clear hb))
        go_ret2
        exact ⟨rfl, HB.out.trans (HB2.out.mono HB.out.size)⟩
      · rw [nextB_top hB h2 hlt]
        rw [hB] at HI
        clear hB h1 h2
        go_enter Tryd.func22, Tryd.ntmps22
        go_wp2_with (first
          | (go_at_call 18; refine HI.out.mono ?_; rintro e w1 ⟨rfl, hb⟩; have HB := Lib.hid hb; clear hb)
          | (go_at_call 36; refine (HL.out _).mono ?_; rintro e w2 ⟨rfl, rfl⟩))
        go_ret2
        exact ⟨rfl, HB.out⟩
    · rw [nextB_in hB h2]
      rw [hB] at HI
      rw [h1] at HL
      obtain ⟨a, ha⟩ : ∃ a, p.length = a := ⟨_, rfl⟩
      rw [ha] at HL
      have hll : l.length = a + 1 + q0.length := by rw [hpq, List.length_append, List.length_cons, ha]; omega
      have he : (⟨l.toArray⟩ : ByteArray).extract 0 a = ⟨p.toArray⟩ := by rw [ext_to, hpq, List.take_left' ha]
      obtain ⟨k, hk⟩ : ∃ k, q0.length = k := ⟨_, rfl⟩
      rw [hk] at hll
      have hi : (l.length : Int) - a - 1 = (k : Int) := by omega
      obtain ⟨q, hq⟩ : ∃ q, List.replicate k (48 : UInt8) = q := ⟨_, rfl⟩
      have hql : q.length = k := by rw [← hq, List.length_replicate]
      have HR := Lib.hid (fun W : World => zeros_any W k (by omega))
      rw [hq] at HR
      obtain ⟨r1, hr1⟩ : ∃ r1, p ++ [49] = r1 := ⟨_, rfl⟩
      have hr1l : r1.length = a + 1 := by rw [← hr1, List.length_append, ha]; rfl
      obtain ⟨r2, hr2⟩ : ∃ r2, r1 ++ q = r2 := ⟨_, rfl⟩
      have hD : p ++ 49 :: List.replicate q0.length 48 = r2 := by rw [hk, hq, ← hr2, ← hr1, List.append_assoc]; rfl
      rw [hD]
      have hap : (⟨p.toArray⟩ : ByteArray) ++ ⟨#[49]⟩ = ⟨r1.toArray⟩ := by rw [← hr1]; exact ByteArray.mk_append_mk p [49]
      have hap2 : (⟨r1.toArray⟩ : ByteArray) ++ ⟨q.toArray⟩ = ⟨r2.toArray⟩ := by rw [← hr2]; exact ByteArray.mk_append_mk _ _
      clear hr1 hr2 hq hB h1 h2 hD hpq hk
      go_enter Tryd.func22, Tryd.ntmps22
      go_wp2_with (first
        | (go_at_call 18; refine HI.out.mono ?_; rintro e w1 ⟨rfl, hb⟩; have HB := Lib.hid hb; clear hb)
        | (go_at_call 36; refine (HL.out _).mono ?_; rintro e w2 ⟨rfl, rfl⟩))
      refine RV.wp_region_v (by kernel_rfl) [13, 14, 15, 16, 17, 18, 19, 20, 21, 22, 23, 2, 3] [.string ⟨(l).toArray⟩, .int .i64 (a : Nat), .string ⟨(p).toArray⟩, .string ⟨(r1).toArray⟩, .string ⟨(l).toArray⟩, .int .i64 (l.length : Nat), .int .i64 (a : Nat), .int .i64 ((l.length : Int) - a), .int .i64 (k : Nat), .string ⟨(q).toArray⟩, .string ⟨(r2).toArray⟩, .string ⟨(r2).toArray⟩, .bool true] (fun W => Below w2.heap.size w2 W) (by kernel_rfl) rfl (by decide) rfl (by kernel_rfl) ((Below.refl _ _).drew) ?_ ?_
      · intro ii hii fa fw fr hp hG
        match ii, hii with
        | 0, _ =>
          have p0 : fa.eval (.tmp 0) = .string ⟨(l).toArray⟩ := (fr.out 0 (by decide)).trans rfl
          simp only [Act.eval] at p0
          refine ⟨_, _, rfl, rfl, .inl ⟨fw, ?_, hG⟩⟩
          simp only [execOp, Act.eval]
          go_simp
          all_goals first | omega | (intro hh; omega) | (rw [IntKind.wrap_i64]; omega)
        | 1, _ =>
          have p4 : fa.eval (.tmp 4) = .int .i64 (a : Nat) := (fr.out 4 (by decide)).trans rfl
          simp only [Act.eval] at p4
          refine ⟨_, _, rfl, rfl, .inl ⟨fw, ?_, hG⟩⟩
          simp only [execOp, Act.eval]
          go_simp
          all_goals first | omega | (intro hh; omega) | (rw [IntKind.wrap_i64]; omega)
        | 2, _ =>
          have p13 : fa.eval (.tmp 13) = .string ⟨(l).toArray⟩ := hp 0 13 _ (by kernel_rfl) rfl rfl
          have p14 : fa.eval (.tmp 14) = .int .i64 (a : Nat) := hp 1 14 _ (by kernel_rfl) rfl rfl
          simp only [Act.eval] at p13 p14
          refine ⟨_, _, rfl, rfl, .inl ⟨fw, ?_, hG⟩⟩
          simp only [execOp, Act.eval]
          go_simp
          all_goals first | omega | (intro hh; omega) | (rw [IntKind.wrap_i64]; omega)
        | 3, _ =>
          have p15 : fa.eval (.tmp 15) = .string ⟨(p).toArray⟩ := hp 2 15 _ (by kernel_rfl) rfl rfl
          simp only [Act.eval] at p15
          refine ⟨_, _, rfl, rfl, .inl ⟨fw, ?_, hG⟩⟩
          simp only [execOp, Act.eval]
          go_simp
          all_goals first | omega | (intro hh; omega) | (rw [IntKind.wrap_i64]; omega)
        | 4, _ =>
          have p0 : fa.eval (.tmp 0) = .string ⟨(l).toArray⟩ := (fr.out 0 (by decide)).trans rfl
          simp only [Act.eval] at p0
          refine ⟨_, _, rfl, rfl, .inl ⟨fw, ?_, hG⟩⟩
          simp only [execOp, Act.eval]
          go_simp
          all_goals first | omega | (intro hh; omega) | (rw [IntKind.wrap_i64]; omega)
        | 5, _ =>
          have p17 : fa.eval (.tmp 17) = .string ⟨(l).toArray⟩ := hp 4 17 _ (by kernel_rfl) rfl rfl
          simp only [Act.eval] at p17
          refine ⟨_, _, rfl, rfl, .inl ⟨fw, ?_, hG⟩⟩
          simp only [execOp, Act.eval]
          go_simp
          all_goals first | omega | (intro hh; omega) | (rw [IntKind.wrap_i64]; omega)
        | 6, _ =>
          have p4 : fa.eval (.tmp 4) = .int .i64 (a : Nat) := (fr.out 4 (by decide)).trans rfl
          simp only [Act.eval] at p4
          refine ⟨_, _, rfl, rfl, .inl ⟨fw, ?_, hG⟩⟩
          simp only [execOp, Act.eval]
          go_simp
          all_goals first | omega | (intro hh; omega) | (rw [IntKind.wrap_i64]; omega)
        | 7, _ =>
          have p18 : fa.eval (.tmp 18) = .int .i64 (l.length : Nat) := hp 5 18 _ (by kernel_rfl) rfl rfl
          have p19 : fa.eval (.tmp 19) = .int .i64 (a : Nat) := hp 6 19 _ (by kernel_rfl) rfl rfl
          simp only [Act.eval] at p18 p19
          refine ⟨_, _, rfl, rfl, .inl ⟨fw, ?_, hG⟩⟩
          simp only [execOp, Act.eval]
          go_simp
          all_goals first | omega | (intro hh; omega) | (rw [IntKind.wrap_i64]; omega)
        | 8, _ =>
          have p20 : fa.eval (.tmp 20) = .int .i64 ((l.length : Int) - a) := hp 7 20 _ (by kernel_rfl) rfl rfl
          simp only [Act.eval] at p20
          refine ⟨_, _, rfl, rfl, .inl ⟨fw, ?_, hG⟩⟩
          simp only [execOp, Act.eval]
          go_simp
          all_goals first | omega | (intro hh; omega) | (rw [IntKind.wrap_i64]; omega)
        | 9, _ =>
          have p21 : fa.eval (.tmp 21) = .int .i64 (k : Nat) := hp 8 21 _ (by kernel_rfl) rfl rfl
          have hv : (#[Operand.tmp 21] : Array Operand).map fa.eval = #[(.int .i64 (k : Nat))] := by simp only [List.map_toArray, List.map_cons, List.map_nil, p21]
          exact ⟨_, _, rfl, rfl, RV.yields_call hv Tryd.func37 (by kernel_rfl) rfl (HR.out fw) (fun e w2 h => ⟨h.1, hG.trans (h.2.mono hG.size)⟩)⟩
        | 10, _ =>
          have p16 : fa.eval (.tmp 16) = .string ⟨(r1).toArray⟩ := hp 3 16 _ (by kernel_rfl) rfl rfl
          have p22 : fa.eval (.tmp 22) = .string ⟨(q).toArray⟩ := hp 9 22 _ (by kernel_rfl) rfl rfl
          simp only [Act.eval] at p16 p22
          refine ⟨_, _, rfl, rfl, .inl ⟨fw, ?_, hG⟩⟩
          simp only [execOp, Act.eval]
          go_simp
          all_goals first | omega | (intro hh; omega) | (rw [IntKind.wrap_i64]; omega)
        | 11, _ =>
          have p23 : fa.eval (.tmp 23) = .string ⟨(r2).toArray⟩ := hp 10 23 _ (by kernel_rfl) rfl rfl
          simp only [Act.eval] at p23
          refine ⟨_, _, rfl, rfl, .inl ⟨fw, ?_, hG⟩⟩
          simp only [execOp, Act.eval]
          go_simp
          all_goals first | omega | (intro hh; omega) | (rw [IntKind.wrap_i64]; omega)
        | 12, _ =>
          refine ⟨_, _, rfl, rfl, .inl ⟨fw, ?_, hG⟩⟩
          simp only [execOp, Act.eval]
          go_simp
          all_goals first | omega | (intro hh; omega) | (rw [IntKind.wrap_i64]; omega)
        | i + 13, hi => exact absurd hi (by show ¬ (i + 13 < 13); omega)
      · intro w2 hG
        simp only [RV.putAll, List.zip_cons_cons, List.zip_nil_left, List.zip_nil_right, List.foldl_cons, List.foldl_nil, Act.put, List.setIfInBounds_toArray, List.set_cons_zero, List.set_cons_succ]
        go_wp2
        go_ret2
        exact ⟨rfl, HB.out.trans (hG.mono HB.out.size)⟩
  · have hB' : isB l = false := by simpa using hB
    rw [nextB_no hB']
    rw [hB'] at HI
    clear hB hB'
    go_enter Tryd.func22, Tryd.ntmps22
    go_wp2_with (go_at_call 18; refine HI.out.mono ?_; rintro e w1 ⟨rfl, hb⟩; have HB := Lib.hid hb; clear hb)
    go_ret2
    exact ⟨rfl, HB.out⟩
def Tryd.laysD_ren : Go.Shelf.Ren := ⟨fun | 45 => 40 | n => n, fun | 22 => 51 | 23 => 5 | 0 => 0 | 3 => 3 | 4 => 4 | n => n, fun | n => n⟩
theorem Tryd.laysD : Go.Proofs.SlLaysE.n45 Tryd.prog Tryd.laysD_ren := {
  mixed := by kernel_rfl
  f45 := ⟨"slices.Delete[[]byte,byte]", by decide, Tryd.func40.trans (congrArg some (by kernel_rfl))⟩
  t0 := Tryd.underlying0
  a0 := Tryd.isAgg0
  z0 := Tryd.sizeOf0
  v0 := Tryd.zeroValue0
  t3 := Tryd.underlying3
  a3 := Tryd.isAgg3
  z3 := Tryd.sizeOf3
  v3 := Tryd.zeroValue3
  t4 := Tryd.underlying4
  a4 := Tryd.isAgg4
  z4 := Tryd.sizeOf4
  v4 := Tryd.zeroValue4
  t22 := Tryd.underlying51
  a22 := Tryd.isAgg51
  z22 := Tryd.sizeOf51
  v22 := Tryd.zeroValue51
  a23 := Tryd.isAgg5
  z23 := Tryd.sizeOf5 }
/-- a byte as a value -/
def encB (b : UInt8) : Value := .int .u8 (b.toNat : Int)
theorem below_putRow {B : Nat} (w : World) (g off : Nat) (d : Array UInt8) (h : B ≤ g) : Below B w (putRow encB w g off d) := by
  refine ⟨rfl, rfl, rfl, ?_, fun k hk => ?_⟩
  · show w.heap.size ≤ (w.heap.modify _ _).size
    rw [Array.size_modify]; exact Nat.le_refl _
  · show (w.heap.modify _ _)[k]? = _
    rw [Array.getElem?_modify, if_neg (by omega)]
theorem del_run (W : World) (g cap : Nat) (l r : List UInt8) (a j : Nat) (hH : Holds encB W g 0 l.toArray) (hcap : l.length ≤ cap) (hm : cap ≤ 9223372036854775807) (haj : a ≤ j) (hj : j ≤ l.length) (hr : l.take a ++ l.drop j = r) (hg : g < W.heap.size) :
    Calls Tryd.prog 40 #[.slice (some ⟨g, 0, none⟩) l.length cap, .int .i64 a, .int .i64 j] W fun e w' => e = .returned (.slice (some ⟨g, 0, none⟩) r.length cap) ∧
      (convert 51 9 (.slice (some ⟨g, 0, none⟩) r.length cap)).run Tryd.prog w' = .ok (.string ⟨r.toArray⟩) w' ∧ Below g W w' := by
  have h := AnyE.slices_Delete Tryd.laysD encB (fun _ => rfl) 0 Tryd.zeroValue5 _ (info_parts infoU8).choose_spec.1 (info_parts infoU8).choose_spec.2.2.1 g 0 cap a j l.toArray W hH hcap hm haj hj
  have hrl : r.length = l.length - (j - a) := by rw [← hr, List.length_append, List.length_take, List.length_drop]; omega
  rw [List.size_toArray, List.toList_toArray, hr] at h
  rw [hrl]
  refine h.mono ?_
  rintro e w' ⟨he, q, rfl⟩
  have hH' : Holds encB (Sort.ahead W q) g 0 l.toArray := hH
  refine ⟨he, ?_, (show Below g W (Sort.ahead W q) from ⟨rfl, rfl, rfl, Nat.le_refl _, fun _ _ => rfl⟩).trans (below_putRow _ _ _ _ (Nat.le_refl _))⟩
  rw [← hrl]
  refine run_convert_bytes_back _ _ _ _ _ cap r slB u8U strU fun k hk => ?_
  have hc := cell?_putRow encB (Sort.ahead W q) g 0 l.toArray (r ++ List.replicate (j - a) 0).toArray hH' (by simp; omega) k (by simp; omega)
  rw [add_plain, hc]
  unfold encB
  rw [List.getElem!_toArray, List.getElem!_eq_getElem?_getD, List.getElem?_append_left hk, List.getElem?_eq_getElem hk]
  rfl
theorem bytes_laid (W : World) (l : List UInt8) (c : Nat) (fr : Nat × Nat) (h1 : fr.1 = (bytesRow ⟨l.toArray⟩ c).size) : Holds encB (W.alloc (.cells (bytesRow ⟨l.toArray⟩ c) 5 fr)) W.heap.size 0 l.toArray := by
  have hn := heap_alloc_new W (.cells (bytesRow ⟨l.toArray⟩ c) 5 fr)
  intro j hj
  have hj' : j < l.length := by simpa using hj
  have hb := bytesRow_at ⟨l.toArray⟩ c j hj
  constructor
  · rw [cell_of_row _ _ _ _ _ _ hn, Nat.zero_add, hb]
    unfold encB
    simp [hj']
  · simp only [World.frozen?, hn]
    have h2 : j < fr.1 := by rw [h1]; exact (Array.getElem?_eq_some_iff.1 hb).1
    simp; omega
set_option maxHeartbeats 4000000 in
theorem cut_ok (w : World) (l : List UInt8) (hB : isB l = true) (a n : Nat) (hn : 1 ≤ n) (ha : a + n ≤ l.length) :
    Calls Tryd.prog 24 #[.string ⟨l.toArray⟩, .int .i64 a, .int .i64 n] w fun e w' => e = .returned (.tuple #[.string ⟨(cutB l a n).toArray⟩, .int .i64 0]) ∧ Below w.heap.size w w' := by
  have hl := (isB_iff.1 hB).1
  have hp := part_any w l (by unfold maxLen; omega) a n (wf_small a (by omega)) (wf_small n (by omega))
  rw [partE_ok hB (by unfold isPart; omega)] at hp
  have HP := Lib.hid hp
  obtain ⟨p, hpp⟩ : ∃ p, l.take a = p := ⟨_, rfl⟩
  have hpl : p.length = a := by rw [← hpp, List.length_take]; omega
  obtain ⟨j, hj⟩ : ∃ j : Nat, a + n = j := ⟨_, rfl⟩
  have hj' : (a : Int) + (n : Int) = (j : Int) := by omega
  have hjl : j ≤ l.length := by omega
  obtain ⟨s, hs⟩ : ∃ s, l.drop j = s := ⟨_, rfl⟩
  have hsl : s.length = l.length - j := by rw [← hs, List.length_drop]
  have hD : l.take a ++ l.drop j = cutB l a n := by unfold cutB; rw [hj]
  have hcv : ∀ W : World, (convert 9 51 (.string ⟨l.toArray⟩)).run Tryd.prog W = .ok (.slice (some ⟨W.heap.size, 0, none⟩) l.length (grownCap W l.length 0 5))
      (W.drew.alloc (.cells (bytesRow ⟨l.toArray⟩ (grownCap W l.length 0 5)) 5 ((bytesRow ⟨l.toArray⟩ (grownCap W l.length 0 5)).size, (bytesRow ⟨l.toArray⟩ (grownCap W l.length 0 5)).size + 1))) :=
    fun W => run_bytes_of_string W 9 51 5 ⟨l.toArray⟩ strU slB u8U
  clear hp hB hpp hs
  go_enter Tryd.func24, Tryd.ntmps24
  go_wp2_with (first
    | (go_at_call 39; refine HP.out.mono ?_; rintro e w1 ⟨rfl, hb⟩; have HB := Lib.hid hb; clear hb)
    | (go_at_call 40; refine (del_run _ w1.heap.size _ l (cutB l a n) a j (bytes_laid w1.drew l _ _ rfl) (grownCap_ge _ _ _ _) (by have := grownCap_le_maxLen w1 l.length 0 5 (by unfold maxLen; omega); unfold maxLen at this; omega) (by omega) hjl hD (by simp)).mono ?_; rintro e w2 ⟨rfl, hback, hb⟩; have HB2 := Lib.hid hb; clear hb))
  go_ret2
  refine ⟨rfl, HB.out.trans (Below.mono (B := w1.heap.size) ?_ HB.out.size)⟩
  exact ((Below.refl _ w1).drew.alloc (Nat.le_refl _) _).trans HB2.out
theorem part_no (w : World) (l : List UInt8) (hl : l.length ≤ maxLen) (a n : Int) (wa : (Lit.int .i64 a).wf = true) (wn : (Lit.int .i64 n).wf = true) (h : partE l a n ≠ 0) :
    Calls Tryd.prog 24 #[.string ⟨l.toArray⟩, .int .i64 a, .int .i64 n] w (fun e w' => e = .returned (.tuple #[.string ⟨#[]⟩, .int .i64 (partE l a n)]) ∧ Below w.heap.size w w') ∧
    Calls Tryd.prog 26 #[.string ⟨l.toArray⟩, .int .i64 a, .int .i64 n] w (fun e w' => e = .returned (.tuple #[.string ⟨#[]⟩, .int .i64 (partE l a n)]) ∧ Below w.heap.size w w') := by
  have HP := Lib.hid (part_any w l hl a n wa wn)
  obtain ⟨x, hx⟩ : ∃ x, partE l a n = x := ⟨_, rfl⟩
  rw [hx] at HP h ⊢
  have h1 : (x != 0) = true := by simpa using h
  clear hx h
  constructor
  · go_enter Tryd.func24, Tryd.ntmps24
    go_wp2_with (go_at_call 39; refine HP.out.mono ?_; rintro e w1 ⟨rfl, hb⟩; have HB := Lib.hid hb; clear hb)
    go_ret2
    exact ⟨rfl, HB.out⟩
  · go_enter Tryd.func26, Tryd.ntmps26
    go_wp2_with (go_at_call 39; refine HP.out.mono ?_; rintro e w1 ⟨rfl, hb⟩; have HB := Lib.hid hb; clear hb)
    go_ret2
    exact ⟨rfl, HB.out⟩
namespace N
/-- what Cut, Clear, Down answer -/
def cutV (l : List UInt8) (a n : Int) : List UInt8 := if partE l a n = 0 then cutB l a.toNat n.toNat else []
def clearV (l : List UInt8) (a n : Int) : List UInt8 := if partE l a n = 0 then clearB l a.toNat n.toNat else []
def isOne (l : List UInt8) (a : Int) : Prop := 0 ≤ a ∧ a < l.length ∧ l.getD a.toNat 0 = 49
instance (l : List UInt8) (a : Int) : Decidable (isOne l a) := by unfold isOne; infer_instance
def downE (l : List UInt8) (a : Int) : Int := if isB l then (if isOne l a then 0 else 1) else 3
def downV (l : List UInt8) (a : Int) : List UInt8 := if downE l a = 0 then downB l a.toNat else []
theorem partE_zero {l : List UInt8} {a n : Int} (h : partE l a n = 0) : isB l = true ∧ isPart l a n := by
  unfold partE at h
  by_cases hB : isB l = true
  · rw [if_pos hB] at h
    by_cases hp : isPart l a n
    · exact ⟨hB, hp⟩
    · rw [if_neg hp] at h; cases h
  · rw [if_neg hB] at h; cases h
end N
theorem cut_any (w : World) (l : List UInt8) (hl : l.length ≤ maxLen) (a n : Int) (wa : (Lit.int .i64 a).wf = true) (wn : (Lit.int .i64 n).wf = true) :
    Calls Tryd.prog 24 #[.string ⟨l.toArray⟩, .int .i64 a, .int .i64 n] w fun e w' => e = .returned (.tuple #[.string ⟨(cutV l a n).toArray⟩, .int .i64 (partE l a n)]) ∧ Below w.heap.size w w' := by
  unfold cutV
  by_cases h : partE l a n = 0
  · rw [if_pos h, h]
    obtain ⟨hB, h1, h2, h3⟩ := partE_zero h
    obtain ⟨x, rfl⟩ := Int.eq_ofNat_of_zero_le h1
    obtain ⟨y, rfl⟩ := Int.eq_ofNat_of_zero_le (show 0 ≤ n by omega)
    exact cut_ok w l hB x y (by omega) (by omega)
  · rw [if_neg h]
    exact (part_no w l hl a n wa wn h).1
theorem clear_any (w : World) (l : List UInt8) (hl : l.length ≤ maxLen) (a n : Int) (wa : (Lit.int .i64 a).wf = true) (wn : (Lit.int .i64 n).wf = true) :
    Calls Tryd.prog 26 #[.string ⟨l.toArray⟩, .int .i64 a, .int .i64 n] w fun e w' => e = .returned (.tuple #[.string ⟨(clearV l a n).toArray⟩, .int .i64 (partE l a n)]) ∧ Below w.heap.size w w' := by
  unfold clearV
  by_cases h : partE l a n = 0
  · rw [if_pos h, h]
    obtain ⟨hB, h1, h2, h3⟩ := partE_zero h
    obtain ⟨x, rfl⟩ := Int.eq_ofNat_of_zero_le h1
    obtain ⟨y, rfl⟩ := Int.eq_ofNat_of_zero_le (show 0 ≤ n by omega)
    exact clear_ok w l hB x y (by omega) (by omega)
  · rw [if_neg h]
    exact (part_no w l hl a n wa wn h).2
theorem down_any (w : World) (l : List UInt8) (hl : l.length ≤ maxLen) (a : Int) (wa : (Lit.int .i64 a).wf = true) :
    Calls Tryd.prog 28 #[.string ⟨l.toArray⟩, .int .i64 a] w fun e w' => e = .returned (.tuple #[.string ⟨(downV l a).toArray⟩, .int .i64 (downE l a)]) ∧ Below w.heap.size w w' := by
  have hP := part_any w l hl a 1 wa (by decide)
  unfold downV
  by_cases h : partE l a 1 = 0
  · obtain ⟨hB, h1, h2, h3⟩ := partE_zero h
    obtain ⟨x, rfl⟩ := Int.eq_ofNat_of_zero_le h1
    have hx : x < l.length := by omega
    by_cases h4 : l.getD x 0 = 49
    · have hE : downE l x = 0 := by unfold downE; rw [if_pos hB, if_pos ⟨by omega, by omega, h4⟩]
      rw [if_pos hE, hE]
      exact down_ok w l hB x hx h4
    · have hE : downE l x = 1 := by unfold downE; rw [if_pos hB, if_neg (fun e => h4 e.2.2)]
      rw [if_neg (by rw [hE]; decide), hE]
      rw [h] at hP
      have HP := Lib.hid hP
      have hi : ∀ W : World, (Instr.index 9 (.string ⟨l.toArray⟩) (.int .i64 (x : Int))).run Tryd.prog W = .ok (.int .u8 (bat l x)) W := fun W => str_at l 9 strU .i64 x hx W
      have h5 : (bat l x != 49) = true := by
        have : bat l x ≠ 49 := fun e => h4 (UInt8.toNat_inj.1 (by unfold bat at e; show _ = 49; omega))
        simpa using this
      clear hP h h4 hE hB
      go_enter Tryd.func28, Tryd.ntmps28
      go_wp2_with (go_at_call 39; refine HP.out.mono ?_; rintro e w1 ⟨rfl, hb⟩; have HB := Lib.hid hb; clear hb)
      go_ret2
      exact ⟨rfl, HB.out⟩
  · have hE : downE l a = partE l a 1 := by
      unfold partE at h ⊢
      unfold downE
      by_cases hB : isB l = true
      · rw [if_pos hB] at h ⊢
        rw [if_pos hB]
        have hp : ¬ isPart l a 1 := fun hp => by rw [if_pos hp] at h; exact h rfl
        rw [if_neg hp, if_neg (fun e : isOne l a => hp ⟨e.1, by omega, by have := e.2.1; omega⟩)]
      · rw [if_neg hB, if_neg hB]
    rw [if_neg (by rw [hE]; exact h), hE]
    have HP := Lib.hid hP
    obtain ⟨x, hx⟩ : ∃ x, partE l a 1 = x := ⟨_, rfl⟩
    rw [hx] at HP h ⊢
    have h1 : (x != 0) = true := by simpa using h
    clear hx h hP hE
    go_enter Tryd.func28, Tryd.ntmps28
    go_wp2_with (go_at_call 39; refine HP.out.mono ?_; rintro e w1 ⟨rfl, hb⟩; have HB := Lib.hid hb; clear hb)
    go_ret2
    exact ⟨rfl, HB.out⟩
end Go.Proofs.YtcpkkceoobioiaaDoor
