/- What the program's Cost and Share of layer 10 answer over this translation (mk_frerat.py). -/
import Derived.Test.YtfdpddlefobcpaaFrePick
import Derived.Test.YtfdpddlefobcpaaBelCost
import Derived.Test.YtfdpddlefobcpaaRatIs
namespace Go.Proofs.Ytfdpddlefobcpaa
open Go.RowKit
set_option linter.unusedVariables false
set_option linter.unusedSimpArgs false
set_option maxRecDepth 20000
open N
theorem SC.toR10 {w0 w : World} {S O : List Ent} {T : List Blk} {A A' : Option Addr} {n c m d k k' M : Nat} {xs ys : List Int} {v u : Int} {b : Bool} {r : Rat} (h : SC w0 w0 w S T O) (h1 : (⟨A, n, c, k, xs, v⟩ : Ent) ∈ O) (h2 : (⟨A', m, d, k', ys, u⟩ : Ent) ∈ O) (s1 : (⟨A, n, c, k, xs, v⟩ : Ent) ∈ S) (s2 : (⟨A', m, d, k', ys, u⟩ : Ent) ∈ S) (hk : k ≤ M) (hk' : k' ≤ M) (hb : b = sg r.num) (hx : xs = limbs (mg r.num)) (hy : ys = limbs r.den) :
    OutR w0 M r (.returned (.agg #[.bool b, .slice A n c, .slice A' m d])) w := by
  obtain ⟨A2, n2, c2, A2', n2', c2', he, h3⟩ := h.toRE2 (b := b) (j := 0) h1 h2 s1 s2 hk hk' hb hx hy
  cases he
  exact ⟨A, n, c, A', m, d, rfl, h3⟩
theorem tshare_ok {w : World} {t g i : Nat} {ws : List Int} {r : Rat} {x s : Int} (h : TbOk w t g ws) (hw : Wt ws) (hx : ws[i]? = some x) (hs : pre ws ws.length = s) (hr : mkRat x s.toNat = r) :
    Calls Try.prog 14 #[.pointer (some ⟨t, 0, none⟩), .int .i64 (i : Int)] w (OutRE w 1 r 0) := by
  have hi := (List.getElem?_eq_some_iff.1 hx).1
  have hps := pre_succ hx
  have hl := hw.l1
  obtain ⟨p, hp⟩ : ∃ p, pre ws i = p := ⟨_, rfl⟩
  obtain ⟨p', hp'⟩ : ∃ p, pre ws (i + 1) = p := ⟨_, rfl⟩
  obtain ⟨j, hj⟩ : ∃ j, i + 1 = j := ⟨_, rfl⟩
  have b1 := hw.le (k := i) (by omega)
  have b2 := hw.le (k := i + 1) (by omega)
  have b3 := hw.pos
  have b4 := hw.le (Nat.le_refl _)
  have HL := Lib.hid (fun (W : World) (hb : Below w.heap.size w W) => tlen_any (h.on hb))
  have HX := Lib.hid (fun (W : World) (hb : Below w.heap.size w W) => tsum_any (h.on hb) hl hs)
  have HE1 := Lib.hid (fun (W : World) (hb : Below w.heap.size w W) => tend_any (h.on hb) (k := i) (by omega) hl hp)
  have HE2 := Lib.hid (fun (W : World) (hb : Below w.heap.size w W) => (by rw [← hj]; exact tend_any (h.on hb) (k := i + 1) (by omega) hl hp' : Calls Try.prog 26 #[.pointer (some ⟨t, 0, none⟩), .int .i64 (j : Int)] W fun e w' => e = .returned (.int .i64 p') ∧ w' = W))
  rw [hp, hp'] at hps
  rw [hp] at b1
  rw [hp'] at b2
  rw [hs] at b3 b4
  have hwi : IntKind.i64.wrap ((i : Int) + 1) = (j : Int) := by rw [IntKind.wrap_i64]; omega
  have hwx : IntKind.i64.wrap (p' - p) = x := by rw [IntKind.wrap_i64]; omega
  have hz : ¬ (ws.length : Int) = 0 := by omega
  have hi0 : ¬ (i : Int) < 0 := by omega
  have hi1 : ¬ (ws.length : Int) ≤ (i : Int) := by omega
  have hx1 : -9223372036854775808 ≤ x := by omega
  have hx2 : x ≤ 9223372036854775807 := by omega
  have hy1 : -9223372036854775808 ≤ s := by omega
  have hy2 : s ≤ 9223372036854775807 := by omega
  have hy0 : 0 < s := by omega
  obtain ⟨n, hn⟩ : ∃ n, ws.length = n := ⟨_, rfl⟩
  rw [hn] at HL hz hi1
  clear h hw hx hs b1 b2 b3 b4 hl hps hp hp' hi hn hj
  have hS := Lib.hid (SC.start w)
  go_enter Try.func14, Try.ntmps14
  have h1 := (hS.out.boxed (vs := [.bool false, .slice none 0 0, .slice none 0 0]) (ty := 42) rfl rfl)
  try simp only [World.size_alloc] at h1
  obtain ⟨p0_0, p1_0, p2_0⟩ := h1.cs3 0 rfl
  clear h1
  go_wp2_with fail
  clear p0_0 p1_0 p2_0
  generalize hwa : World.alloc w _ = v1
  have h1 := (hS.out.boxed (vs := [.bool false, .slice none 0 0, .slice none 0 0]) (ty := 42) rfl hwa)
  have hsz : v1.heap.size = w.heap.size + 1 := by rw [← hwa]; simp only [World.size_alloc]
  try rw [← hsz]
  clear hwa hsz
  clear hS; have hS := Lib.hid h1; clear h1
  obtain ⟨x0_0, x1_0, x2_0⟩ := hS.out.cs3 0 rfl
  go_wp2_with fail
  go_at_call 25
  with_reducible refine (HL.out _ hS.out.bl).mono ?_
  rintro e v2 ⟨rfl, rfl⟩
  clear x0_0 x1_0 x2_0
  have h1 := hS.out
  clear hS; have hS := Lib.hid h1; clear h1
  obtain ⟨x0_0, x1_0, x2_0⟩ := hS.out.cs3 0 rfl
  go_wp2_with fail
  go_at_call 25
  with_reducible refine (HL.out _ hS.out.bl).mono ?_
  rintro e v3 ⟨rfl, rfl⟩
  clear x0_0 x1_0 x2_0
  have h1 := hS.out
  clear hS; have hS := Lib.hid h1; clear h1
  obtain ⟨x0_0, x1_0, x2_0⟩ := hS.out.cs3 0 rfl
  go_wp2_with fail
  go_at_call 26
  with_reducible refine (HE2.out _ hS.out.bl).mono ?_
  rintro e v4 ⟨rfl, rfl⟩
  clear x0_0 x1_0 x2_0
  have h1 := hS.out
  clear hS; have hS := Lib.hid h1; clear h1
  obtain ⟨x0_0, x1_0, x2_0⟩ := hS.out.cs3 0 rfl
  go_wp2_with fail
  go_at_call 26
  with_reducible refine (HE1.out _ hS.out.bl).mono ?_
  rintro e v5 ⟨rfl, rfl⟩
  clear x0_0 x1_0 x2_0
  have h1 := hS.out
  clear hS; have hS := Lib.hid h1; clear h1
  obtain ⟨x0_0, x1_0, x2_0⟩ := hS.out.cs3 0 rfl
  go_wp2_with fail
  go_at_call 27
  with_reducible refine (HX.out _ hS.out.bl).mono ?_
  rintro e v6 ⟨rfl, rfl⟩
  clear x0_0 x1_0 x2_0
  have h1 := hS.out
  clear hS; have hS := Lib.hid h1; clear h1
  obtain ⟨x0_0, x1_0, x2_0⟩ := hS.out.cs3 0 rfl
  go_wp2_with fail
  go_at_call 17
  with_reducible refine (fover_pos _ hx1 hx2 hy1 hy2 hy0 hr).mono ?_
  rintro e v7 ho
  clear x0_0 x1_0 x2_0
  obtain ⟨A1, n1, c1, A2, n2, c2, rfl, h1⟩ := hS.out.rRE (Nat.le_refl _) ho
  clear hS; have hS := Lib.hid h1; clear h1
  obtain ⟨x0_0, x1_0, x2_0⟩ := hS.out.cs3 0 rfl
  have hp0 := hS.out.put3 0 rfl (hS.out.ge_ 0 rfl) (.bool (sg r.num)) (.slice A1 n1 c1) (.slice A2 n2 c2)
  simp only [List.set_cons_zero, List.set_cons_succ] at hp0
  have fz0_0 := hS.out.frs 0 rfl 0
  have fz0_1 := hS.out.frs 0 rfl 1
  have fz0_2 := hS.out.frs 0 rfl 2
  have HPUT := Lib.hid hp0
  clear hp0
  go_wp2_with fail
  refine bodyPost_ret (results_B2 rfl rfl rfl (loadR (HPUT.out.box _ (List.mem_of_getElem? (i := 0) rfl)))) rfl ?_
  exact HPUT.out.toRE2 (r := r) (by repeat (first | exact List.mem_cons_self | apply List.mem_cons_of_mem)) (by repeat (first | exact List.mem_cons_self | apply List.mem_cons_of_mem)) (by repeat (first | exact List.mem_cons_self | apply List.mem_cons_of_mem)) (by repeat (first | exact List.mem_cons_self | apply List.mem_cons_of_mem)) (by omega) (by omega) rfl rfl rfl
theorem tshare_no {w : World} {t g : Nat} {z : Int} {ws : List Int} (h : TbOk w t g ws) (hw : Wt ws) (hz : ¬ (0 ≤ z ∧ z < ws.length)) :
    Calls Try.prog 14 #[.pointer (some ⟨t, 0, none⟩), .int .i64 z] w (OutRZ w 1) := by
  have HL := Lib.hid (fun (W : World) (hb : Below w.heap.size w W) => tlen_any (h.on hb))
  have hz0 : ¬ (ws.length : Int) = 0 := by have := hw.l0; omega
  obtain ⟨n, hn⟩ : ∃ n, ws.length = n := ⟨_, rfl⟩
  rw [hn] at HL hz0 hz
  clear h hw hn
  rcases Int.lt_or_le z 0 with h0 | h0
  · clear hz
    have hS := Lib.hid (SC.start w)
    go_enter Try.func14, Try.ntmps14
    have h1 := (hS.out.boxed (vs := [.bool false, .slice none 0 0, .slice none 0 0]) (ty := 42) rfl rfl)
    try simp only [World.size_alloc] at h1
    obtain ⟨p0_0, p1_0, p2_0⟩ := h1.cs3 0 rfl
    clear h1
    go_wp2_with fail
    clear p0_0 p1_0 p2_0
    generalize hwa : World.alloc w _ = v1
    have h1 := (hS.out.boxed (vs := [.bool false, .slice none 0 0, .slice none 0 0]) (ty := 42) rfl hwa)
    have hsz : v1.heap.size = w.heap.size + 1 := by rw [← hwa]; simp only [World.size_alloc]
    try rw [← hsz]
    clear hwa hsz
    clear hS; have hS := Lib.hid h1; clear h1
    obtain ⟨x0_0, x1_0, x2_0⟩ := hS.out.cs3 0 rfl
    go_wp2_with fail
    go_at_call 25
    with_reducible refine (HL.out _ hS.out.bl).mono ?_
    rintro e v2 ⟨rfl, rfl⟩
    clear x0_0 x1_0 x2_0
    have h1 := hS.out
    clear hS; have hS := Lib.hid h1; clear h1
    obtain ⟨x0_0, x1_0, x2_0⟩ := hS.out.cs3 0 rfl
    have hp0 := hS.out.put3 0 rfl (hS.out.ge_ 0 rfl) (.bool false) (.slice none 0 0) (.slice none 0 0)
    simp only [List.set_cons_zero, List.set_cons_succ] at hp0
    have fz0_0 := hS.out.frs 0 rfl 0
    have fz0_1 := hS.out.frs 0 rfl 1
    have fz0_2 := hS.out.frs 0 rfl 2
    have HPUT := Lib.hid hp0
    clear hp0
    go_wp2_with fail
    refine bodyPost_ret (results_B2 rfl rfl rfl (loadR (HPUT.out.box _ (List.mem_of_getElem? (i := 0) rfl)))) rfl ?_
    exact ⟨rfl, HPUT.out.bl⟩
  · have h1 : (n : Int) ≤ z := by omega
    have h2 : ¬ z < 0 := by omega
    clear hz h0
    have hS := Lib.hid (SC.start w)
    go_enter Try.func14, Try.ntmps14
    have h1 := (hS.out.boxed (vs := [.bool false, .slice none 0 0, .slice none 0 0]) (ty := 42) rfl rfl)
    try simp only [World.size_alloc] at h1
    obtain ⟨p0_0, p1_0, p2_0⟩ := h1.cs3 0 rfl
    clear h1
    go_wp2_with fail
    clear p0_0 p1_0 p2_0
    generalize hwa : World.alloc w _ = v1
    have h1 := (hS.out.boxed (vs := [.bool false, .slice none 0 0, .slice none 0 0]) (ty := 42) rfl hwa)
    have hsz : v1.heap.size = w.heap.size + 1 := by rw [← hwa]; simp only [World.size_alloc]
    try rw [← hsz]
    clear hwa hsz
    clear hS; have hS := Lib.hid h1; clear h1
    obtain ⟨x0_0, x1_0, x2_0⟩ := hS.out.cs3 0 rfl
    go_wp2_with fail
    go_at_call 25
    with_reducible refine (HL.out _ hS.out.bl).mono ?_
    rintro e v2 ⟨rfl, rfl⟩
    clear x0_0 x1_0 x2_0
    have h1 := hS.out
    clear hS; have hS := Lib.hid h1; clear h1
    obtain ⟨x0_0, x1_0, x2_0⟩ := hS.out.cs3 0 rfl
    go_wp2_with fail
    go_at_call 25
    with_reducible refine (HL.out _ hS.out.bl).mono ?_
    rintro e v3 ⟨rfl, rfl⟩
    clear x0_0 x1_0 x2_0
    have h1 := hS.out
    clear hS; have hS := Lib.hid h1; clear h1
    obtain ⟨x0_0, x1_0, x2_0⟩ := hS.out.cs3 0 rfl
    have hp0 := hS.out.put3 0 rfl (hS.out.ge_ 0 rfl) (.bool false) (.slice none 0 0) (.slice none 0 0)
    simp only [List.set_cons_zero, List.set_cons_succ] at hp0
    have fz0_0 := hS.out.frs 0 rfl 0
    have fz0_1 := hS.out.frs 0 rfl 1
    have fz0_2 := hS.out.frs 0 rfl 2
    have HPUT := Lib.hid hp0
    clear hp0
    go_wp2_with fail
    refine bodyPost_ret (results_B2 rfl rfl rfl (loadR (HPUT.out.box _ (List.mem_of_getElem? (i := 0) rfl)))) rfl ?_
    exact ⟨rfl, HPUT.out.bl⟩
theorem tshare_zero {w : World} {p : Option Addr} {z : Int} (h : ∀ W, Below w.heap.size w W → Calls Try.prog 25 #[.pointer p] W fun e w' => e = .returned (.int .i64 ((0 : Nat) : Int)) ∧ w' = W) :
    Calls Try.prog 14 #[.pointer p, .int .i64 z] w (OutRZ w 2) := by
  have HL := Lib.hid h
  clear h
  have hS := Lib.hid (SC.start w)
  go_enter Try.func14, Try.ntmps14
  have h1 := (hS.out.boxed (vs := [.bool false, .slice none 0 0, .slice none 0 0]) (ty := 42) rfl rfl)
  try simp only [World.size_alloc] at h1
  obtain ⟨p0_0, p1_0, p2_0⟩ := h1.cs3 0 rfl
  clear h1
  go_wp2_with fail
  clear p0_0 p1_0 p2_0
  generalize hwa : World.alloc w _ = v1
  have h1 := (hS.out.boxed (vs := [.bool false, .slice none 0 0, .slice none 0 0]) (ty := 42) rfl hwa)
  have hsz : v1.heap.size = w.heap.size + 1 := by rw [← hwa]; simp only [World.size_alloc]
  try rw [← hsz]
  clear hwa hsz
  clear hS; have hS := Lib.hid h1; clear h1
  obtain ⟨x0_0, x1_0, x2_0⟩ := hS.out.cs3 0 rfl
  go_wp2_with fail
  go_at_call 25
  with_reducible refine (HL.out _ hS.out.bl).mono ?_
  rintro e v2 ⟨rfl, rfl⟩
  clear x0_0 x1_0 x2_0
  have h1 := hS.out
  clear hS; have hS := Lib.hid h1; clear h1
  obtain ⟨x0_0, x1_0, x2_0⟩ := hS.out.cs3 0 rfl
  have hp0 := hS.out.put3 0 rfl (hS.out.ge_ 0 rfl) (.bool false) (.slice none 0 0) (.slice none 0 0)
  simp only [List.set_cons_zero, List.set_cons_succ] at hp0
  have fz0_0 := hS.out.frs 0 rfl 0
  have fz0_1 := hS.out.frs 0 rfl 1
  have fz0_2 := hS.out.frs 0 rfl 2
  have HPUT := Lib.hid hp0
  clear hp0
  go_wp2_with fail
  refine bodyPost_ret (results_B2 rfl rfl rfl (loadR (HPUT.out.box _ (List.mem_of_getElem? (i := 0) rfl)))) rfl ?_
  exact ⟨rfl, HPUT.out.bl⟩
end Go.Proofs.Ytfdpddlefobcpaa
