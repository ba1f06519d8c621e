/- What the program's Cost of layer 9 answers over this translation (mk_belcost.py). -/
import Derived.Test.YtfdpddlefobcpaaGreatDoorBelWidth
import Derived.Test.YtfdpddlefobcpaaGreatDoorRatB
namespace Go.Proofs.YtfdpddlefobcpaaGreatDoor
open Go.RowKit
set_option linter.unusedVariables false
set_option linter.unusedSimpArgs false
set_option maxRecDepth 20000
open N
/-- the cost of a number -/
def cR (m : Nat) : Rat := mkRat ((wd m : Int) * 2 ^ wd m) m
theorem cost_zero (w : World) : Calls Tryz.prog 45 #[.int .u64 0] w (OutRZ w 1) := by
  have hS := Lib.hid (SC.start w)
  go_enter Tryz.func45, Tryz.ntmps45
  have hm0 := hS.out.boxed (vs := [.bool false, .slice none 0 0, .slice none 0 0]) (ty := 62) rfl rfl
  obtain ⟨m0, m1, m2⟩ := hm0.cs3 0 rfl
  have f0 := hm0.frs 0 rfl 0
  have f1 := hm0.frs 0 rfl 1
  have f2 := hm0.frs 0 rfl 2
  have HM := Lib.hid hm0
  clear hm0
  go_wp2_with fail
  refine bodyPost_ret (results_B2 rfl rfl rfl (loadR (HM.out.box _ (List.mem_of_getElem? (i := 0) rfl)))) rfl ?_
  exact ⟨rfl, HM.out.bl⟩
theorem cost_any (w : World) (m : Nat) (hm : m < 18446744073709551616) (h0 : 0 < m) : Calls Tryz.prog 45 #[.int .u64 (m : Nat)] w (OutRE w 1030 (cR m) 0) := by
  have HW := Lib.hid (fun W : World => width_any W m hm)
  obtain ⟨r, hr0⟩ : ∃ r, cR m = r := ⟨_, rfl⟩
  have hb64 := wd_64 hm
  unfold cR at hr0
  obtain ⟨b, hb⟩ : ∃ b, wd m = b := ⟨_, rfl⟩
  show Calls Tryz.prog 45 #[.int .u64 (m : Nat)] w (OutRE w 1030 (cR m) 0)
  rw [show cR m = r by unfold cR; exact hr0]
  rw [hb] at HW hr0 hb64
  clear hb
  have wdb : W.Wd (b : Int) := by unfold W.Wd; omega
  have wdm : W.Wd (m : Int) := by unfold W.Wd; omega
  have hmp : 0 < (m : Int) := by omega
  have hcv : IntKind.u64.wrap (b : Int) = (b : Int) := by rw [IntKind.wrap_u64]; omega
  have hb0 : 0 ≤ (b : Int) := by omega
  have hb1 : (b : Int) ≤ 65536 := by omega
  have hne : ¬ (m : Int) = 0 := by omega
  obtain ⟨p, hp⟩ : ∃ p, (b : Int) * 2 ^ (b : Int).toNat = p := ⟨_, rfl⟩
  have hr : rv false p (m : Int) = r := by
    rw [← hr0, ← hp]
    unfold rv iv
    simp
  clear hr0 hm h0 hb64
  have hS := Lib.hid (SC.start w)
  go_enter Tryz.func45, Tryz.ntmps45
  have h1 := (hS.out.boxed (vs := [.bool false, .slice none 0 0, .slice none 0 0]) (ty := 62) rfl rfl)
  try simp only [World.size_alloc] at h1
  obtain ⟨p0_0, p1_0, p2_0⟩ := h1.cs3 0 rfl
  clear h1
  go_wp2_with fail
  clear p0_0 p1_0 p2_0
  generalize hwa : World.alloc w _ = v1
  have h1 := (hS.out.boxed (vs := [.bool false, .slice none 0 0, .slice none 0 0]) (ty := 62) rfl hwa)
  have hsz : v1.heap.size = w.heap.size + 1 := by rw [← hwa]; simp only [World.size_alloc]
  try rw [← hsz]
  clear hwa hsz
  clear hS; have hS := Lib.hid h1; clear h1
  obtain ⟨x0_0, x1_0, x2_0⟩ := hS.out.cs3 0 rfl
  go_wp2_with fail
  go_at_call 50
  with_reducible refine (HW.out _).mono ?_
  rintro e v2 ⟨rfl, hb⟩
  clear x0_0 x1_0 x2_0
  have h1 := hS.out.below hb
  clear hb
  clear hS; have hS := Lib.hid h1; clear h1
  obtain ⟨x0_0, x1_0, x2_0⟩ := hS.out.cs3 0 rfl
  go_wp2_with fail
  go_at_call 56
  with_reducible refine (nof_c (x := (b : Int)) hS.out wdb).mono ?_
  rintro e v3 ⟨A1, n1, c1, rfl, h1⟩
  clear x0_0 x1_0 x2_0
  clear hS; have hS := Lib.hid h1; clear h1
  obtain ⟨x0_0, x1_0, x2_0⟩ := hS.out.cs3 0 rfl
  go_wp2_with fail
  go_at_call 65
  with_reducible refine (shl_c hS.out (by repeat (first | exact List.mem_cons_self | apply List.mem_cons_of_mem)) (by omega) hb0 hb1 hp).mono ?_
  rintro e v4 ⟨A2, n2, c2, rfl, h1⟩
  clear x0_0 x1_0 x2_0
  clear hS; have hS := Lib.hid h1; clear h1
  obtain ⟨x0_0, x1_0, x2_0⟩ := hS.out.cs3 0 rfl
  go_wp2_with fail
  go_at_call 56
  with_reducible refine (nof_c (x := (m : Int)) hS.out wdm).mono ?_
  rintro e v5 ⟨A3, n3, c3, rfl, h1⟩
  clear x0_0 x1_0 x2_0
  clear hS; have hS := Lib.hid h1; clear h1
  obtain ⟨x0_0, x1_0, x2_0⟩ := hS.out.cs3 0 rfl
  go_wp2_with fail
  go_at_call 55
  with_reducible refine (fmk_c (b := false) (M := 1030) hS.out (by repeat (first | exact List.mem_cons_self | apply List.mem_cons_of_mem)) (by repeat (first | exact List.mem_cons_self | apply List.mem_cons_of_mem)) (by omega) (by omega) (by omega) hmp hr).mono ?_
  rintro e v6 ⟨A4, n4, c4, A5, n5, c5, rfl, h1⟩
  clear x0_0 x1_0 x2_0
  clear hS; have hS := Lib.hid h1; clear h1
  obtain ⟨x0_0, x1_0, x2_0⟩ := hS.out.cs3 0 rfl
  have hp0 := hS.out.put3 0 rfl (hS.out.ge_ 0 rfl) (.bool (sg r.num)) (.slice A4 n4 c4) (.slice A5 n5 c5)
  simp only [List.set_cons_zero, List.set_cons_succ] at hp0
  have fz0_0 := hS.out.frs 0 rfl 0
  have fz0_1 := hS.out.frs 0 rfl 1
  have fz0_2 := hS.out.frs 0 rfl 2
  have HPUT := Lib.hid hp0
  clear hp0
  go_wp2_with fail
  refine bodyPost_ret (results_B2 rfl rfl rfl (loadR (HPUT.out.box _ (List.mem_of_getElem? (i := 0) rfl)))) rfl ?_
  exact HPUT.out.toRE2 (r := r) (by repeat (first | exact List.mem_cons_self | apply List.mem_cons_of_mem)) (by repeat (first | exact List.mem_cons_self | apply List.mem_cons_of_mem)) (by repeat (first | exact List.mem_cons_self | apply List.mem_cons_of_mem)) (by repeat (first | exact List.mem_cons_self | apply List.mem_cons_of_mem)) (by omega) (by omega) rfl rfl rfl
end Go.Proofs.YtfdpddlefobcpaaGreatDoor
