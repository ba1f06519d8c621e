/- What the program's Share and Cost of layer 11 answer over this translation (mk_alirat.py). -/
import Derived.Test.YtfdpddlefobcpaaAliPick
import Derived.Test.YtfdpddlefobcpaaBelCost
import Derived.Test.YtfdpddlefobcpaaRatIs
import Derived.Test.YtfdpddlefobcpaaRatD
namespace Go.Proofs.Ytfdpddlefobcpaa
open Go.RowKit
set_option linter.unusedVariables false
set_option linter.unusedSimpArgs false
set_option maxRecDepth 20000
open N
theorem SC.toR11 {w0 w : World} {S O : List Ent} {T : List Blk} {A A' : Option Addr} {n c m d k k' M : Nat} {xs ys : List Int} {v u : Int} {b : Bool} {r : Rat} (h : SC w0 w0 w S T O) (h1 : (⟨A, n, c, k, xs, v⟩ : Ent) ∈ O) (h2 : (⟨A', m, d, k', ys, u⟩ : Ent) ∈ O) (s1 : (⟨A, n, c, k, xs, v⟩ : Ent) ∈ S) (s2 : (⟨A', m, d, k', ys, u⟩ : Ent) ∈ S) (hk : k ≤ M) (hk' : k' ≤ M) (hb : b = sg r.num) (hx : xs = limbs (mg r.num)) (hy : ys = limbs r.den) :
    OutR w0 M r (.returned (.agg #[.bool b, .slice A n c, .slice A' m d])) w := by
  obtain ⟨A2, n2, c2, A2', n2', c2', he, h3⟩ := h.toRE2 (b := b) (j := 0) h1 h2 s1 s2 hk hk' hb hx hy
  cases he
  exact ⟨A, n, c, A', m, d, rfl, h3⟩
theorem ashare_ok {w : World} {t g1 g2 n i : Nat} {W y : Int} {c : Nat → Int} {o : Nat → Nat} {r : Rat} (h : AlOk w t g1 g2 n W c o) (hi : i < n) (hn : n ≤ 64) (hW : 0 < W ∧ W ≤ 67108864) (hc : ∀ j, j < n → 0 ≤ c j ∧ c j ≤ W) (hy : prs c o W n i = y) (hyb : 0 ≤ y ∧ y ≤ 67108864) (hr : mkRat y ((n : Int) * W).toNat = r) :
    Calls Try.prog 13 #[.pointer (some ⟨t, 0, none⟩), .int .i64 (i : Int)] w (OutRE w 1 r 0) := by
  have HT := Lib.hid h
  have HR := Lib.hid (fun (X : World) (hb : Below w.heap.size w X) => refused_ok (h.on hb) hi)
  have HL := Lib.hid (fun (X : World) (hb : Below w.heap.size w X) => alen_any (h.on hb))
  have HP := Lib.hid (fun (X : World) (hb : Below w.heap.size w X) => pairs_any (h.on hb) hi hn hW.2 hc hy)
  obtain ⟨s, hs⟩ : ∃ s, (n : Int) * W = s := ⟨_, rfl⟩
  have hsb : 0 < s ∧ s ≤ 4294967296 := by
    obtain ⟨V, hV⟩ := Int.eq_ofNat_of_zero_le (Int.le_of_lt hW.1)
    have h1 : n * V ≤ 64 * 67108864 := Nat.mul_le_mul hn (by omega)
    have h2 : 0 < n * V := Nat.mul_pos (by omega) (by omega)
    rw [hV, ← Int.natCast_mul] at hs
    omega
  rw [hs] at hr
  have hws : IntKind.i64.wrap ((n : Int) * W) = s := by rw [hs, IntKind.wrap_i64]; omega
  have hx1 : -9223372036854775808 ≤ y := by omega
  have hx2 : y ≤ 9223372036854775807 := by omega
  have hy1 : -9223372036854775808 ≤ s := by omega
  have hy2 : s ≤ 9223372036854775807 := by omega
  have hy0 : 0 < s := by omega
  clear h hi hn hW hc hy hyb hs hsb
  have hS := Lib.hid (SC.start w)
  go_enter Try.func13, Try.ntmps13
  have h1 := (hS.out.boxed (vs := [.bool false, .slice none 0 0, .slice none 0 0]) (ty := 42) rfl rfl)
  try simp only [World.size_alloc] at h1
  obtain ⟨p0_0, p1_0, p2_0⟩ := h1.cs3 0 rfl
  clear h1
  go_wp2_with fail
  clear p0_0 p1_0 p2_0
  generalize hwa : World.alloc w _ = v1
  have h1 := (hS.out.boxed (vs := [.bool false, .slice none 0 0, .slice none 0 0]) (ty := 42) rfl hwa)
  have hsz : v1.heap.size = w.heap.size + 1 := by rw [← hwa]; simp only [World.size_alloc]
  try rw [← hsz]
  clear hwa hsz
  clear hS; have hS := Lib.hid h1; clear h1
  obtain ⟨x0_0, x1_0, x2_0⟩ := hS.out.cs3 0 rfl
  go_wp2_with fail
  go_at_call 23
  with_reducible refine (HR.out _ hS.out.bl).mono ?_
  rintro e v2 ⟨rfl, rfl⟩
  clear x0_0 x1_0 x2_0
  have h1 := hS.out
  clear hS; have hS := Lib.hid h1; clear h1
  obtain ⟨x0_0, x1_0, x2_0⟩ := hS.out.cs3 0 rfl
  have h1 := hS.out.drew
  clear hS; have hS := Lib.hid h1; clear h1
  have q1 := (HT.out.on hS.out.bl).cs.1
  go_wp2_with fail
  clear x0_0 x1_0 x2_0
  go_region_held3 (fun X => X.cell? ⟨t, 0, none⟩ = some (.int .i64 W)) (first | exact (HT.out.on hS.out.bl).cs.1 | exact (HT.out.on HPUT.out.bl).cs.1) (first
    | (go_at_call 24; (with_reducible refine (HP.out _ hS.out.bl).mono ?_); rintro e v11 ⟨rfl, hb1⟩; have h1 := hS.out.below hb1; clear hb1; clear hS; have hS := Lib.hid h1; clear h1)
    | (go_at_call 10; (with_reducible refine (HL.out _ hS.out.bl).mono ?_); rintro e v12 ⟨rfl, rfl⟩)
    | (go_at_call 17; (with_reducible refine (fover_pos _ hx1 hx2 hy1 hy2 hy0 hr).mono ?_); rintro e v13 ho; obtain ⟨A1, n1, c1, A2, n2, c2, rfl, h1⟩ := hS.out.rRE (Nat.le_refl _) ho; clear ho; clear hS; have hS := Lib.hid h1; clear h1; obtain ⟨y0_0, y1_0, y2_0⟩ := hS.out.cs3 0 rfl; have hp0 := hS.out.put3 0 rfl (hS.out.ge_ 0 rfl) (.bool (sg r.num)) (.slice A1 n1 c1) (.slice A2 n2 c2); simp only [List.set_cons_zero, List.set_cons_succ] at hp0; have fz0_0 := hS.out.frs 0 rfl 0; have fz0_1 := hS.out.frs 0 rfl 1; have fz0_2 := hS.out.frs 0 rfl 2; have HPUT := Lib.hid hp0; clear hp0))
  go_wp2_with fail
  refine bodyPost_ret (results_B2 rfl rfl rfl (loadR (HPUT.out.box _ (List.mem_of_getElem? (i := 0) rfl)))) rfl ?_
  exact HPUT.out.toRE2 (r := r) (by repeat (first | exact List.mem_cons_self | apply List.mem_cons_of_mem)) (by repeat (first | exact List.mem_cons_self | apply List.mem_cons_of_mem)) (by repeat (first | exact List.mem_cons_self | apply List.mem_cons_of_mem)) (by repeat (first | exact List.mem_cons_self | apply List.mem_cons_of_mem)) (by omega) (by omega) rfl rfl rfl
theorem ashare_no {w : World} {p : Option Addr} {z e0 : Int} (hR : ∀ X, Below w.heap.size w X → Calls Try.prog 23 #[.pointer p, .int .i64 z] X fun e w' => e = .returned (.int .i64 e0) ∧ w' = X) (he : ¬ e0 = 0) :
    Calls Try.prog 13 #[.pointer p, .int .i64 z] w (OutRZ w e0) := by
  have HR := Lib.hid hR
  clear hR
  have hS := Lib.hid (SC.start w)
  go_enter Try.func13, Try.ntmps13
  have h1 := (hS.out.boxed (vs := [.bool false, .slice none 0 0, .slice none 0 0]) (ty := 42) rfl rfl)
  try simp only [World.size_alloc] at h1
  obtain ⟨p0_0, p1_0, p2_0⟩ := h1.cs3 0 rfl
  clear h1
  go_wp2_with fail
  clear p0_0 p1_0 p2_0
  generalize hwa : World.alloc w _ = v1
  have h1 := (hS.out.boxed (vs := [.bool false, .slice none 0 0, .slice none 0 0]) (ty := 42) rfl hwa)
  have hsz : v1.heap.size = w.heap.size + 1 := by rw [← hwa]; simp only [World.size_alloc]
  try rw [← hsz]
  clear hwa hsz
  clear hS; have hS := Lib.hid h1; clear h1
  obtain ⟨x0_0, x1_0, x2_0⟩ := hS.out.cs3 0 rfl
  go_wp2_with fail
  go_at_call 23
  with_reducible refine (HR.out _ hS.out.bl).mono ?_
  rintro e v2 ⟨rfl, rfl⟩
  clear x0_0 x1_0 x2_0
  have h1 := hS.out
  clear hS; have hS := Lib.hid h1; clear h1
  obtain ⟨x0_0, x1_0, x2_0⟩ := hS.out.cs3 0 rfl
  have hp0 := hS.out.put3 0 rfl (hS.out.ge_ 0 rfl) (.bool false) (.slice none 0 0) (.slice none 0 0)
  simp only [List.set_cons_zero, List.set_cons_succ] at hp0
  have fz0_0 := hS.out.frs 0 rfl 0
  have fz0_1 := hS.out.frs 0 rfl 1
  have fz0_2 := hS.out.frs 0 rfl 2
  have HPUT := Lib.hid hp0
  clear hp0
  go_wp2_with fail
  refine bodyPost_ret (results_B2 rfl rfl rfl (loadR (HPUT.out.box _ (List.mem_of_getElem? (i := 0) rfl)))) rfl ?_
  exact ⟨rfl, HPUT.out.bl⟩
theorem acost_any {w : World} {t g1 g2 n m : Nat} {c : Nat → Int} {o : Nat → Nat} {r r0 r1 : Rat} (h : AlOk w t g1 g2 n (m : Int) c o) (hn : 0 < n ∧ n ≤ 64) (hm : 0 < m ∧ m ≤ 67108864) (hr0 : cR n = r0) (hr1 : cR m = r1) (hr : r0 + r1 = r) :
    Calls Try.prog 18 #[.pointer (some ⟨t, 0, none⟩)] w (OutR w 61800 r) := by
  have HT := Lib.hid h
  have HL := Lib.hid (fun (X : World) (hb : Below w.heap.size w X) => alen_any (h.on hb))
  have hcn : IntKind.u64.wrap (n : Int) = (n : Int) := by rw [IntKind.wrap_u64]; omega
  have hcw : IntKind.u64.wrap (m : Int) = (m : Int) := by rw [IntKind.wrap_u64]; omega
  have hm0 : n < 18446744073709551616 := by omega
  have hm1 : 0 < n := by omega
  have hm2 : m < 18446744073709551616 := by omega
  have hm3 : 0 < m := by omega
  clear h hn hm
  have hS := Lib.hid (SC.start w)
  go_enter Try.func18, Try.ntmps18
  have h1 := (hS.out.boxed (vs := [.bool false, .slice none 0 0, .slice none 0 0]) (ty := 42) rfl rfl)
  try simp only [World.size_alloc] at h1
  obtain ⟨p0_0, p1_0, p2_0⟩ := h1.cs3 0 rfl
  clear h1
  go_wp2_with fail
  clear p0_0 p1_0 p2_0
  generalize hwa : World.alloc w _ = v1
  have h1 := (hS.out.boxed (vs := [.bool false, .slice none 0 0, .slice none 0 0]) (ty := 42) rfl hwa)
  have hsz : v1.heap.size = w.heap.size + 1 := by rw [← hwa]; simp only [World.size_alloc]
  try rw [← hsz]
  clear hwa hsz
  clear hS; have hS := Lib.hid h1; clear h1
  obtain ⟨x0_0, x1_0, x2_0⟩ := hS.out.cs3 0 rfl
  go_wp2_with fail
  go_at_call 10
  with_reducible refine (HL.out _ hS.out.bl).mono ?_
  rintro e v2 ⟨rfl, rfl⟩
  clear x0_0 x1_0 x2_0
  have h1 := hS.out
  clear hS; have hS := Lib.hid h1; clear h1
  obtain ⟨x0_0, x1_0, x2_0⟩ := hS.out.cs3 0 rfl
  go_wp2_with fail
  go_at_call 33
  with_reducible refine (cost_any _ n hm0 hm1).mono ?_
  rintro e v3 ho
  clear x0_0 x1_0 x2_0
  rw [hr0] at ho
  obtain ⟨A1, n1, c1, A2, n2, c2, rfl, h1⟩ := hS.out.rRE (Nat.le_refl _) ho
  clear hS; have hS := Lib.hid h1; clear h1
  obtain ⟨x0_0, x1_0, x2_0⟩ := hS.out.cs3 0 rfl
  have q2 := (HT.out.on (hS.out.boxed (vs := [.bool (sg r0.num), .slice A1 n1 c1, .slice A2 n2 c2]) (ty := 42) rfl rfl).bl).cs.1
  have h1 := (hS.out.boxed (vs := [.bool (sg r0.num), .slice A1 n1 c1, .slice A2 n2 c2]) (ty := 42) rfl rfl)
  try simp only [World.size_alloc] at h1
  obtain ⟨p0_0, p1_0, p2_0⟩ := h1.cs3 0 rfl
  obtain ⟨p0_1, p1_1, p2_1⟩ := h1.cs3 1 rfl
  clear h1
  go_wp2_with fail
  clear x0_0 x1_0 x2_0
  clear p0_0 p1_0 p2_0 p0_1 p1_1 p2_1
  generalize hwa : World.alloc v3 _ = v4
  have h1 := (hS.out.boxed (vs := [.bool (sg r0.num), .slice A1 n1 c1, .slice A2 n2 c2]) (ty := 42) rfl hwa)
  have hsz : v4.heap.size = v3.heap.size + 1 := by rw [← hwa]; simp only [World.size_alloc]
  try rw [← hsz]
  clear hwa hsz
  clear hS; have hS := Lib.hid h1; clear h1
  obtain ⟨x0_0, x1_0, x2_0⟩ := hS.out.cs3 0 rfl
  obtain ⟨x0_1, x1_1, x2_1⟩ := hS.out.cs3 1 rfl
  clear q2
  go_wp2_with fail
  go_at_call 33
  with_reducible refine (cost_any _ m hm2 hm3).mono ?_
  rintro e v5 ho
  clear x0_0 x1_0 x2_0 x0_1 x1_1 x2_1
  rw [hr1] at ho
  obtain ⟨A3, n3, c3, A4, n4, c4, rfl, h1⟩ := hS.out.rRE (Nat.le_refl _) ho
  clear hS; have hS := Lib.hid h1; clear h1
  obtain ⟨x0_0, x1_0, x2_0⟩ := hS.out.cs3 0 rfl
  obtain ⟨x0_1, x1_1, x2_1⟩ := hS.out.cs3 1 rfl
  have h1 := (hS.out.boxed (vs := [.bool (sg r1.num), .slice A3 n3 c3, .slice A4 n4 c4]) (ty := 42) rfl rfl)
  try simp only [World.size_alloc] at h1
  obtain ⟨p0_0, p1_0, p2_0⟩ := h1.cs3 0 rfl
  obtain ⟨p0_1, p1_1, p2_1⟩ := h1.cs3 1 rfl
  obtain ⟨p0_2, p1_2, p2_2⟩ := h1.cs3 2 rfl
  clear h1
  go_wp2_with fail
  clear x0_0 x1_0 x2_0 x0_1 x1_1 x2_1
  clear p0_0 p1_0 p2_0 p0_1 p1_1 p2_1 p0_2 p1_2 p2_2
  generalize hwa : World.alloc v5 _ = v6
  have h1 := (hS.out.boxed (vs := [.bool (sg r1.num), .slice A3 n3 c3, .slice A4 n4 c4]) (ty := 42) rfl hwa)
  have hsz : v6.heap.size = v5.heap.size + 1 := by rw [← hwa]; simp only [World.size_alloc]
  try rw [← hsz]
  clear hwa hsz
  clear hS; have hS := Lib.hid h1; clear h1
  obtain ⟨x0_0, x1_0, x2_0⟩ := hS.out.cs3 0 rfl
  obtain ⟨x0_1, x1_1, x2_1⟩ := hS.out.cs3 1 rfl
  obtain ⟨x0_2, x1_2, x2_2⟩ := hS.out.cs3 2 rfl
  go_wp2_with fail
  go_at_call 34
  with_reducible refine (fadd_any _ (hS.out.frm0 (M := 1030) (by repeat (first | exact List.mem_cons_self | apply List.mem_cons_of_mem)) (by repeat (first | exact List.mem_cons_self | apply List.mem_cons_of_mem)) (by decide) (by decide) (rv_self r0)) (hS.out.frm0 (M := 1030) (by repeat (first | exact List.mem_cons_self | apply List.mem_cons_of_mem)) (by repeat (first | exact List.mem_cons_self | apply List.mem_cons_of_mem)) (by decide) (by decide) (rv_self r1)) (by decide) (by decide)).mono ?_
  rintro e v7 ho
  clear x0_0 x1_0 x2_0 x0_1 x1_1 x2_1 x0_2 x1_2 x2_2
  rw [hr] at ho
  obtain ⟨A5, n5, c5, A6, n6, c6, rfl, h1⟩ := hS.out.rR (Nat.le_refl _) ho
  clear hS; have hS := Lib.hid h1; clear h1
  obtain ⟨x0_0, x1_0, x2_0⟩ := hS.out.cs3 0 rfl
  obtain ⟨x0_1, x1_1, x2_1⟩ := hS.out.cs3 1 rfl
  obtain ⟨x0_2, x1_2, x2_2⟩ := hS.out.cs3 2 rfl
  have hp0 := hS.out.put3 2 rfl (hS.out.ge_ 2 rfl) (.bool (sg r.num)) (.slice A5 n5 c5) (.slice A6 n6 c6)
  simp only [List.set_cons_zero, List.set_cons_succ] at hp0
  have fz0_0 := hS.out.frs 2 rfl 0
  have fz0_1 := hS.out.frs 2 rfl 1
  have fz0_2 := hS.out.frs 2 rfl 2
  have HPUT := Lib.hid hp0
  clear hp0
  go_wp2_with fail
  refine bodyPost_ret (results_B rfl rfl (loadR (HPUT.out.box _ (List.mem_of_getElem? (i := 2) rfl)))) rfl ?_
  exact HPUT.out.toR11 (r := r) (by repeat (first | exact List.mem_cons_self | apply List.mem_cons_of_mem)) (by repeat (first | exact List.mem_cons_self | apply List.mem_cons_of_mem)) (by repeat (first | exact List.mem_cons_self | apply List.mem_cons_of_mem)) (by repeat (first | exact List.mem_cons_self | apply List.mem_cons_of_mem)) (by omega) (by omega) rfl rfl rfl
theorem acost_zero {w : World} {p : Option Addr} {r : Rat} (h : ∀ X, Below w.heap.size w X → Calls Try.prog 10 #[.pointer p] X fun e w' => e = .returned (.int .i64 ((0 : Nat) : Int)) ∧ w' = X) (hr : mkRat 0 1 = r) :
    Calls Try.prog 18 #[.pointer p] w (OutR w 1 r) := by
  have HL := Lib.hid h
  have hcw : IntKind.u64.wrap 0 = 0 := rfl
  clear h
  have hS := Lib.hid (SC.start w)
  go_enter Try.func18, Try.ntmps18
  have h1 := (hS.out.boxed (vs := [.bool false, .slice none 0 0, .slice none 0 0]) (ty := 42) rfl rfl)
  try simp only [World.size_alloc] at h1
  obtain ⟨p0_0, p1_0, p2_0⟩ := h1.cs3 0 rfl
  clear h1
  go_wp2_with fail
  clear p0_0 p1_0 p2_0
  generalize hwa : World.alloc w _ = v1
  have h1 := (hS.out.boxed (vs := [.bool false, .slice none 0 0, .slice none 0 0]) (ty := 42) rfl hwa)
  have hsz : v1.heap.size = w.heap.size + 1 := by rw [← hwa]; simp only [World.size_alloc]
  try rw [← hsz]
  clear hwa hsz
  clear hS; have hS := Lib.hid h1; clear h1
  obtain ⟨x0_0, x1_0, x2_0⟩ := hS.out.cs3 0 rfl
  go_wp2_with fail
  go_at_call 10
  with_reducible refine (HL.out _ hS.out.bl).mono ?_
  rintro e v2 ⟨rfl, rfl⟩
  clear x0_0 x1_0 x2_0
  have h1 := hS.out
  clear hS; have hS := Lib.hid h1; clear h1
  obtain ⟨x0_0, x1_0, x2_0⟩ := hS.out.cs3 0 rfl
  go_wp2_with fail
  go_at_call 33
  with_reducible refine (cost_zero _).mono ?_
  rintro e v3 ho
  clear x0_0 x1_0 x2_0
  obtain ⟨rfl, h1⟩ := hS.out.tRZ ho
  clear hS; have hS := Lib.hid h1; clear h1
  obtain ⟨x0_0, x1_0, x2_0⟩ := hS.out.cs3 0 rfl
  have h1 := (hS.out.boxed (vs := [.bool false, .slice none 0 0, .slice none 0 0]) (ty := 42) rfl rfl)
  try simp only [World.size_alloc] at h1
  obtain ⟨p0_0, p1_0, p2_0⟩ := h1.cs3 0 rfl
  obtain ⟨p0_1, p1_1, p2_1⟩ := h1.cs3 1 rfl
  clear h1
  go_wp2_with fail
  clear x0_0 x1_0 x2_0
  clear p0_0 p1_0 p2_0 p0_1 p1_1 p2_1
  generalize hwa : World.alloc v3 _ = v4
  have h1 := (hS.out.boxed (vs := [.bool false, .slice none 0 0, .slice none 0 0]) (ty := 42) rfl hwa)
  have hsz : v4.heap.size = v3.heap.size + 1 := by rw [← hwa]; simp only [World.size_alloc]
  try rw [← hsz]
  clear hwa hsz
  clear hS; have hS := Lib.hid h1; clear h1
  obtain ⟨x0_0, x1_0, x2_0⟩ := hS.out.cs3 0 rfl
  obtain ⟨x0_1, x1_1, x2_1⟩ := hS.out.cs3 1 rfl
  go_wp2_with fail
  go_at_call 19
  with_reducible refine (fof_any _ 0 (by decide) (by decide)).mono ?_
  rintro e v5 ho
  clear x0_0 x1_0 x2_0 x0_1 x1_1 x2_1
  rw [hr] at ho
  obtain ⟨A1, n1, c1, A2, n2, c2, rfl, h1⟩ := hS.out.rR (Nat.le_refl _) ho
  clear hS; have hS := Lib.hid h1; clear h1
  obtain ⟨x0_0, x1_0, x2_0⟩ := hS.out.cs3 0 rfl
  obtain ⟨x0_1, x1_1, x2_1⟩ := hS.out.cs3 1 rfl
  have hp0 := hS.out.put3 1 rfl (hS.out.ge_ 1 rfl) (.bool (sg r.num)) (.slice A1 n1 c1) (.slice A2 n2 c2)
  simp only [List.set_cons_zero, List.set_cons_succ] at hp0
  have fz0_0 := hS.out.frs 1 rfl 0
  have fz0_1 := hS.out.frs 1 rfl 1
  have fz0_2 := hS.out.frs 1 rfl 2
  have HPUT := Lib.hid hp0
  clear hp0
  go_wp2_with fail
  refine bodyPost_ret (results_B rfl rfl (loadR (HPUT.out.box _ (List.mem_of_getElem? (i := 1) rfl)))) rfl ?_
  exact HPUT.out.toR11 (r := r) (by repeat (first | exact List.mem_cons_self | apply List.mem_cons_of_mem)) (by repeat (first | exact List.mem_cons_self | apply List.mem_cons_of_mem)) (by repeat (first | exact List.mem_cons_self | apply List.mem_cons_of_mem)) (by repeat (first | exact List.mem_cons_self | apply List.mem_cons_of_mem)) (by omega) (by omega) rfl rfl rfl
end Go.Proofs.Ytfdpddlefobcpaa
