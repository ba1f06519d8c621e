/- Package rat: Sub, Pow. -/
import Derived.Test.YtpokcocfdchfeaaGreatDoorRatD
import Derived.Test.YtpokcocfdchfeaaGreatDoorRatShow
namespace Go.Proofs.YtpokcocfdchfeaaGreatDoor
open Go.RowKit
set_option linter.unusedVariables false
set_option linter.unusedSimpArgs false
set_option maxRecDepth 20000
open N
open Go.Lib (decDigits nDigits decDigits_length nDigits_pos)
open RC
namespace RC
def mZ (z : Int) (k : Nat) (A' : Option Addr) (n' c' : Nat) : MP := ⟨fun x S O => ∃ A n c, x = .agg #[.bool (sg z), .slice A n c, .slice A' n' c'] ∧ (⟨A, n, c, k, limbs (mg z), mg z⟩ : Ent) ∈ S ∧ (⟨A, n, c, k, limbs (mg z), mg z⟩ : Ent) ∈ O, fun x S S' O O' hs ho ⟨A, n, c, e, h1, h2⟩ => ⟨A, n, c, e, hs _ h1, ho _ h2⟩⟩
def mW (b0 : Bool) (A0 : Option Addr) (n0 c0 : Nat) (A0' : Option Addr) (n0' c0' : Nat) (z : Int) (k : Nat) (A' : Option Addr) (n' c' : Nat) : MP :=
  ⟨fun x S O => ∃ A n c, x = .agg #[.bool b0, .slice A0 n0 c0, .slice A0' n0' c0', .bool (sg z), .slice A n c, .slice A' n' c'] ∧ (⟨A, n, c, k, limbs (mg z), mg z⟩ : Ent) ∈ S ∧ (⟨A, n, c, k, limbs (mg z), mg z⟩ : Ent) ∈ O, fun x S S' O O' hs ho ⟨A, n, c, e, h1, h2⟩ => ⟨A, n, c, e, hs _ h1, ho _ h2⟩⟩
end RC
theorem fms_blk {w : World} {q : Blk} {l : List Fm} (h : BlkOk w q) (hv : Value.agg q.vs.toArray = .agg (l.flatMap fun f => [Value.bool f.b, .slice f.A f.n f.c, .slice f.A' f.n' f.c']).toArray) : Fms w (some ⟨q.g, 0, none⟩) l := by
  have hq := blk_eq (g := q.g) rfl hv
  intro k hk
  obtain ⟨g, e, _, h1, h2, h3⟩ := fms_lit w l _ q.ty rfl k hk
  have e : w.heap.size = g := by injection e with e; injection e
  subst e
  have hc : ∀ o x, (w.alloc (.cells (l.flatMap fun f => [Value.bool f.b, .slice f.A f.n f.c, .slice f.A' f.n' f.c']).toArray q.ty)).cell? ⟨w.heap.size, o, none⟩ = some x → w.cell? ⟨q.g, o, none⟩ = some x := fun o x hx => by
    rw [World.cell?_alloc_new] at hx
    have h4 : BlkOk w ⟨q.g, _, q.ty⟩ := hq ▸ h
    exact h4.cell (by simpa using hx)
  exact ⟨q.g, rfl, h.lt, hc _ _ h1, hc _ _ h2, hc _ _ h3⟩
section
variable {w : World} {b0 b1 : Bool} {A0 A0' A1 A1' : Option Addr} {n0 c0 n0' c0' n1 c1 n1' c1' M : Nat} {x0 x0' x1 x1' : List Int} {r r' : Rat}
theorem fpow_neg (w : World) (h : Frm w b0 A0 n0 c0 x0 A0' n0' c0' x0' M r) (h1M : 1 ≤ M) (hM : M ≤ 100000) {q : Int} (hq : q < 0) :
    Calls Tryz.prog 7 #[.agg #[.bool b0, .slice A0 n0 c0, .slice A0' n0' c0'], .int .i64 q] w (OutRZ w 1) := by
  have hr0 := h.val
  have hS := Lib.hid (((SC.start w).old (k := M) h.den h.ld rfl).old (k := M) h.num h.ln rfl)
  clear h
  go_enter Tryz.func7, Tryz.ntmps7
  go_wp2_with fail
  generalize hwa : World.alloc (World.alloc w _) _ = v1
  have h1 := ((hS.out.boxed (vs := [.bool b0, .slice A0 n0 c0, .slice A0' n0' c0']) (ty := 27) rfl rfl).boxed (vs := [.bool false, .slice none 0 0, .slice none 0 0]) (ty := 27) rfl hwa)
  simp only [World.size_alloc] at h1
  clear hwa
  clear hS; have hS := Lib.hid h1; clear h1
  obtain ⟨x0_0, x1_0, x2_0⟩ := hS.out.cs3 0 rfl
  obtain ⟨x0_1, x1_1, x2_1⟩ := hS.out.cs3 1 rfl
  go_wp2_with fail
  go_at_call 23
  with_reducible refine (value_c (k := M) hS.out (by repeat (first | exact List.mem_cons_self | apply List.mem_cons_of_mem)) (by repeat (first | exact List.mem_cons_self | apply List.mem_cons_of_mem)) h1M (by omega) hr0).mono ?_
  rintro e v2 ⟨A1, n1, c1, A2, n2, c2, rfl, h1⟩
  clear x0_0 x1_0 x2_0 x0_1 x1_1 x2_1
  clear hS; have hS := Lib.hid h1; clear h1
  obtain ⟨x0_0, x1_0, x2_0⟩ := hS.out.cs3 0 rfl
  obtain ⟨x0_1, x1_1, x2_1⟩ := hS.out.cs3 1 rfl
  have hp0 := hS.out.put3 1 rfl (hS.out.ge_ 1 rfl) (.bool (sg r.num)) (.slice A1 n1 c1) (.slice A2 n2 c2)
  simp only [List.set_cons_zero, List.set_cons_succ] at hp0
  have fz0_0 := hS.out.frs 1 rfl 0
  have fz0_1 := hS.out.frs 1 rfl 1
  have fz0_2 := hS.out.frs 1 rfl 2
  obtain ⟨p00_0, p01_0, p02_0⟩ := hp0.cs3 0 rfl
  obtain ⟨p00_1, p01_1, p02_1⟩ := hp0.cs3 1 rfl
  have HPUT := Lib.hid hp0
  clear hp0
  go_wp2_with fail
  clear fz0_0 fz0_1 fz0_2
  clear p00_0 p01_0 p02_0 p00_1 p01_1 p02_1
  clear x0_0 x1_0 x2_0 x0_1 x1_1 x2_1
  have h1 := HPUT.out
  clear HPUT
  generalize hwa : World.setCell (World.setCell (World.setCell v2 _ _) _ _) _ _ = v3 at *
  clear hwa
  clear hS; have hS := Lib.hid h1; clear h1
  obtain ⟨x0_0, x1_0, x2_0⟩ := hS.out.cs3 0 rfl
  obtain ⟨x0_1, x1_1, x2_1⟩ := hS.out.cs3 1 rfl
  go_wp2_with fail
  go_at_call 24
  with_reducible refine (powneg_c hS.out hq).mono ?_
  rintro e v4 ⟨rfl, h1⟩
  clear x0_0 x1_0 x2_0 x0_1 x1_1 x2_1
  clear hS; have hS := Lib.hid h1; clear h1
  obtain ⟨x0_0, x1_0, x2_0⟩ := hS.out.cs3 0 rfl
  obtain ⟨x0_1, x1_1, x2_1⟩ := hS.out.cs3 1 rfl
  have hp0 := hS.out.put3 0 rfl (hS.out.ge_ 0 rfl) (.bool false) (.slice none 0 0) (.slice none 0 0)
  simp only [List.set_cons_zero, List.set_cons_succ] at hp0
  have fz0_0 := hS.out.frs 0 rfl 0
  have fz0_1 := hS.out.frs 0 rfl 1
  have fz0_2 := hS.out.frs 0 rfl 2
  have HPUT := Lib.hid hp0
  clear hp0
  go_wp2_with fail
  refine bodyPost_ret (results_B2 rfl rfl rfl (loadR (HPUT.out.box _ (List.mem_of_getElem? (i := 0) rfl)))) rfl ?_
  exact ⟨rfl, HPUT.out.bl⟩
theorem fpow_ln (w : World) (h : Frm w b0 A0 n0 c0 x0 A0' n0' c0' x0' M r) (h1M : 1 ≤ M) (hM : M ≤ 100000) {q : Int} (h0 : 0 ≤ q) (hl1 : 0 < W.len (mg r.num)) (hl2 : 1048576 / W.len (mg r.num) < q) :
    Calls Tryz.prog 7 #[.agg #[.bool b0, .slice A0 n0 c0, .slice A0' n0' c0'], .int .i64 q] w (OutRZ w 5) := by
  have hr0 := h.val
  have hS := Lib.hid (((SC.start w).old (k := M) h.den h.ld rfl).old (k := M) h.num h.ln rfl)
  clear h
  go_enter Tryz.func7, Tryz.ntmps7
  go_wp2_with fail
  generalize hwa : World.alloc (World.alloc w _) _ = v1
  have h1 := ((hS.out.boxed (vs := [.bool b0, .slice A0 n0 c0, .slice A0' n0' c0']) (ty := 27) rfl rfl).boxed (vs := [.bool false, .slice none 0 0, .slice none 0 0]) (ty := 27) rfl hwa)
  simp only [World.size_alloc] at h1
  clear hwa
  clear hS; have hS := Lib.hid h1; clear h1
  obtain ⟨x0_0, x1_0, x2_0⟩ := hS.out.cs3 0 rfl
  obtain ⟨x0_1, x1_1, x2_1⟩ := hS.out.cs3 1 rfl
  go_wp2_with fail
  go_at_call 23
  with_reducible refine (value_c (k := M) hS.out (by repeat (first | exact List.mem_cons_self | apply List.mem_cons_of_mem)) (by repeat (first | exact List.mem_cons_self | apply List.mem_cons_of_mem)) h1M (by omega) hr0).mono ?_
  rintro e v2 ⟨A1, n1, c1, A2, n2, c2, rfl, h1⟩
  clear x0_0 x1_0 x2_0 x0_1 x1_1 x2_1
  clear hS; have hS := Lib.hid h1; clear h1
  obtain ⟨x0_0, x1_0, x2_0⟩ := hS.out.cs3 0 rfl
  obtain ⟨x0_1, x1_1, x2_1⟩ := hS.out.cs3 1 rfl
  have hp0 := hS.out.put3 1 rfl (hS.out.ge_ 1 rfl) (.bool (sg r.num)) (.slice A1 n1 c1) (.slice A2 n2 c2)
  simp only [List.set_cons_zero, List.set_cons_succ] at hp0
  have fz0_0 := hS.out.frs 1 rfl 0
  have fz0_1 := hS.out.frs 1 rfl 1
  have fz0_2 := hS.out.frs 1 rfl 2
  obtain ⟨p00_0, p01_0, p02_0⟩ := hp0.cs3 0 rfl
  obtain ⟨p00_1, p01_1, p02_1⟩ := hp0.cs3 1 rfl
  have HPUT := Lib.hid hp0
  clear hp0
  go_wp2_with fail
  clear fz0_0 fz0_1 fz0_2
  clear p00_0 p01_0 p02_0 p00_1 p01_1 p02_1
  clear x0_0 x1_0 x2_0 x0_1 x1_1 x2_1
  have h1 := HPUT.out
  clear HPUT
  generalize hwa : World.setCell (World.setCell (World.setCell v2 _ _) _ _) _ _ = v3 at *
  clear hwa
  clear hS; have hS := Lib.hid h1; clear h1
  obtain ⟨x0_0, x1_0, x2_0⟩ := hS.out.cs3 0 rfl
  obtain ⟨x0_1, x1_1, x2_1⟩ := hS.out.cs3 1 rfl
  go_wp2_with fail
  go_at_call 24
  with_reducible refine (powlong_c hS.out (by repeat (first | exact List.mem_cons_self | apply List.mem_cons_of_mem)) (by omega) h0 hl1 hl2).mono ?_
  rintro e v4 ⟨rfl, h1⟩
  clear x0_0 x1_0 x2_0 x0_1 x1_1 x2_1
  clear hS; have hS := Lib.hid h1; clear h1
  obtain ⟨x0_0, x1_0, x2_0⟩ := hS.out.cs3 0 rfl
  obtain ⟨x0_1, x1_1, x2_1⟩ := hS.out.cs3 1 rfl
  have hp0 := hS.out.put3 0 rfl (hS.out.ge_ 0 rfl) (.bool false) (.slice none 0 0) (.slice none 0 0)
  simp only [List.set_cons_zero, List.set_cons_succ] at hp0
  have fz0_0 := hS.out.frs 0 rfl 0
  have fz0_1 := hS.out.frs 0 rfl 1
  have fz0_2 := hS.out.frs 0 rfl 2
  have HPUT := Lib.hid hp0
  clear hp0
  go_wp2_with fail
  refine bodyPost_ret (results_B2 rfl rfl rfl (loadR (HPUT.out.box _ (List.mem_of_getElem? (i := 0) rfl)))) rfl ?_
  exact ⟨rfl, HPUT.out.bl⟩
theorem fpow_ld (w : World) (h : Frm w b0 A0 n0 c0 x0 A0' n0' c0' x0' M r) (h1M : 1 ≤ M) (hM : M ≤ 100000) {q : Nat} (hq : q ≤ 9223372036854775807) (hok1 : PowOk (mg r.num) q) (hl1 : 0 < W.len r.den) (hl2 : 1048576 / W.len r.den < (q : Int)) :
    Calls Tryz.prog 7 #[.agg #[.bool b0, .slice A0 n0 c0, .slice A0' n0' c0'], .int .i64 (q : Int)] w (OutRZ w 5) := by
  obtain ⟨p1, hp1⟩ : ∃ p, mg r.num ^ q = p := ⟨_, rfl⟩
  have hr0 := h.val
  have hS := Lib.hid (((SC.start w).old (k := M) h.den h.ld rfl).old (k := M) h.num h.ln rfl)
  clear h
  go_enter Tryz.func7, Tryz.ntmps7
  go_wp2_with fail
  generalize hwa : World.alloc (World.alloc w _) _ = v1
  have h1 := ((hS.out.boxed (vs := [.bool b0, .slice A0 n0 c0, .slice A0' n0' c0']) (ty := 27) rfl rfl).boxed (vs := [.bool false, .slice none 0 0, .slice none 0 0]) (ty := 27) rfl hwa)
  simp only [World.size_alloc] at h1
  clear hwa
  clear hS; have hS := Lib.hid h1; clear h1
  obtain ⟨x0_0, x1_0, x2_0⟩ := hS.out.cs3 0 rfl
  obtain ⟨x0_1, x1_1, x2_1⟩ := hS.out.cs3 1 rfl
  go_wp2_with fail
  go_at_call 23
  with_reducible refine (value_c (k := M) hS.out (by repeat (first | exact List.mem_cons_self | apply List.mem_cons_of_mem)) (by repeat (first | exact List.mem_cons_self | apply List.mem_cons_of_mem)) h1M (by omega) hr0).mono ?_
  rintro e v2 ⟨A1, n1, c1, A2, n2, c2, rfl, h1⟩
  clear x0_0 x1_0 x2_0 x0_1 x1_1 x2_1
  clear hS; have hS := Lib.hid h1; clear h1
  obtain ⟨x0_0, x1_0, x2_0⟩ := hS.out.cs3 0 rfl
  obtain ⟨x0_1, x1_1, x2_1⟩ := hS.out.cs3 1 rfl
  have hp0 := hS.out.put3 1 rfl (hS.out.ge_ 1 rfl) (.bool (sg r.num)) (.slice A1 n1 c1) (.slice A2 n2 c2)
  simp only [List.set_cons_zero, List.set_cons_succ] at hp0
  have fz0_0 := hS.out.frs 1 rfl 0
  have fz0_1 := hS.out.frs 1 rfl 1
  have fz0_2 := hS.out.frs 1 rfl 2
  obtain ⟨p00_0, p01_0, p02_0⟩ := hp0.cs3 0 rfl
  obtain ⟨p00_1, p01_1, p02_1⟩ := hp0.cs3 1 rfl
  have HPUT := Lib.hid hp0
  clear hp0
  go_wp2_with fail
  clear fz0_0 fz0_1 fz0_2
  clear p00_0 p01_0 p02_0 p00_1 p01_1 p02_1
  clear x0_0 x1_0 x2_0 x0_1 x1_1 x2_1
  have h1 := HPUT.out
  clear HPUT
  generalize hwa : World.setCell (World.setCell (World.setCell v2 _ _) _ _) _ _ = v3 at *
  clear hwa
  clear hS; have hS := Lib.hid h1; clear h1
  obtain ⟨x0_0, x1_0, x2_0⟩ := hS.out.cs3 0 rfl
  obtain ⟨x0_1, x1_1, x2_1⟩ := hS.out.cs3 1 rfl
  go_wp2_with fail
  go_at_call 24
  with_reducible refine (pow_c hS.out (by repeat (first | exact List.mem_cons_self | apply List.mem_cons_of_mem)) (by omega) hq hok1 hp1).mono ?_
  rintro e v4 ⟨A3, n3, c3, rfl, h1⟩
  clear x0_0 x1_0 x2_0 x0_1 x1_1 x2_1
  clear hS; have hS := Lib.hid h1; clear h1
  obtain ⟨x0_0, x1_0, x2_0⟩ := hS.out.cs3 0 rfl
  obtain ⟨x0_1, x1_1, x2_1⟩ := hS.out.cs3 1 rfl
  go_wp2_with fail
  go_at_call 24
  with_reducible refine (powlong_c hS.out (by repeat (first | exact List.mem_cons_self | apply List.mem_cons_of_mem)) (by omega) (by omega) hl1 hl2).mono ?_
  rintro e v5 ⟨rfl, h1⟩
  clear x0_0 x1_0 x2_0 x0_1 x1_1 x2_1
  clear hS; have hS := Lib.hid h1; clear h1
  obtain ⟨x0_0, x1_0, x2_0⟩ := hS.out.cs3 0 rfl
  obtain ⟨x0_1, x1_1, x2_1⟩ := hS.out.cs3 1 rfl
  have hp0 := hS.out.put3 0 rfl (hS.out.ge_ 0 rfl) (.bool false) (.slice none 0 0) (.slice none 0 0)
  simp only [List.set_cons_zero, List.set_cons_succ] at hp0
  have fz0_0 := hS.out.frs 0 rfl 0
  have fz0_1 := hS.out.frs 0 rfl 1
  have fz0_2 := hS.out.frs 0 rfl 2
  have HPUT := Lib.hid hp0
  clear hp0
  go_wp2_with fail
  refine bodyPost_ret (results_B2 rfl rfl rfl (loadR (HPUT.out.box _ (List.mem_of_getElem? (i := 0) rfl)))) rfl ?_
  exact ⟨rfl, HPUT.out.bl⟩
theorem fpow_any (w : World) (h : Frm w b0 A0 n0 c0 x0 A0' n0' c0' x0' M r) (h1M : 1 ≤ M) (hM : M ≤ 100000) {q : Nat} (hq : q ≤ 9223372036854775807) (hok1 : PowOk (mg r.num) q) (hok2 : PowOk r.den q) :
    Calls Tryz.prog 7 #[.agg #[.bool b0, .slice A0 n0 c0, .slice A0' n0' c0'], .int .i64 (q : Int)] w (OutRE w 16385 (r ^ q) 0) := by
  obtain ⟨p1, hp1⟩ : ∃ p, mg r.num ^ q = p := ⟨_, rfl⟩
  obtain ⟨p2, hp2⟩ : ∃ p, (r.den : Int) ^ q = p := ⟨_, rfl⟩
  have hden : ((r ^ q).den : Int) = p2 := by rw [(r_pow_num r q).2, ← hp2]; exact Int.natCast_pow _ _
  by_cases hsg : sg r.num = true
  · obtain ⟨z, hz⟩ : ∃ z, iv ((q : Int) % 2 == 1) p1 = z := ⟨_, rfl⟩
    have hnum : (r ^ q).num = z := by
      rw [(r_pow_num r q).1, ← iv_pow, hsg, Bool.true_and, hp1, ← hz]
      congr 1
      rw [show ((q : Int) % 2) = ((q % 2 : Nat) : Int) from rfl]
      rcases Nat.mod_two_eq_zero_or_one q with h | h <;> rw [h] <;> rfl
    have hr0 := h.val
    have hS := Lib.hid (((SC.start w).old (k := M) h.den h.ld rfl).old (k := M) h.num h.ln rfl)
    clear h
    go_enter Tryz.func7, Tryz.ntmps7
    go_wp2_with fail
    generalize hwa : World.alloc (World.alloc w _) _ = v1
    have h1 := ((hS.out.boxed (vs := [.bool b0, .slice A0 n0 c0, .slice A0' n0' c0']) (ty := 27) rfl rfl).boxed (vs := [.bool false, .slice none 0 0, .slice none 0 0]) (ty := 27) rfl hwa)
    simp only [World.size_alloc] at h1
    clear hwa
    clear hS; have hS := Lib.hid h1; clear h1
    obtain ⟨x0_0, x1_0, x2_0⟩ := hS.out.cs3 0 rfl
    obtain ⟨x0_1, x1_1, x2_1⟩ := hS.out.cs3 1 rfl
    go_wp2_with fail
    go_at_call 23
    with_reducible refine (value_c (k := M) hS.out (by repeat (first | exact List.mem_cons_self | apply List.mem_cons_of_mem)) (by repeat (first | exact List.mem_cons_self | apply List.mem_cons_of_mem)) h1M (by omega) hr0).mono ?_
    rintro e v2 ⟨A1, n1, c1, A2, n2, c2, rfl, h1⟩
    clear x0_0 x1_0 x2_0 x0_1 x1_1 x2_1
    clear hS; have hS := Lib.hid h1; clear h1
    obtain ⟨x0_0, x1_0, x2_0⟩ := hS.out.cs3 0 rfl
    obtain ⟨x0_1, x1_1, x2_1⟩ := hS.out.cs3 1 rfl
    rw [hsg]
    have hp0 := hS.out.put3 1 rfl (hS.out.ge_ 1 rfl) (.bool (true)) (.slice A1 n1 c1) (.slice A2 n2 c2)
    simp only [List.set_cons_zero, List.set_cons_succ] at hp0
    have fz0_0 := hS.out.frs 1 rfl 0
    have fz0_1 := hS.out.frs 1 rfl 1
    have fz0_2 := hS.out.frs 1 rfl 2
    obtain ⟨p00_0, p01_0, p02_0⟩ := hp0.cs3 0 rfl
    obtain ⟨p00_1, p01_1, p02_1⟩ := hp0.cs3 1 rfl
    have HPUT := Lib.hid hp0
    clear hp0
    go_wp2_with fail
    clear fz0_0 fz0_1 fz0_2
    clear p00_0 p01_0 p02_0 p00_1 p01_1 p02_1
    clear x0_0 x1_0 x2_0 x0_1 x1_1 x2_1
    have h1 := HPUT.out
    clear HPUT
    generalize hwa : World.setCell (World.setCell (World.setCell v2 _ _) _ _) _ _ = v3 at *
    clear hwa
    clear hS; have hS := Lib.hid h1; clear h1
    obtain ⟨x0_0, x1_0, x2_0⟩ := hS.out.cs3 0 rfl
    obtain ⟨x0_1, x1_1, x2_1⟩ := hS.out.cs3 1 rfl
    go_wp2_with fail
    go_at_call 24
    with_reducible refine (pow_c hS.out (by repeat (first | exact List.mem_cons_self | apply List.mem_cons_of_mem)) (by omega) hq hok1 hp1).mono ?_
    rintro e v4 ⟨A3, n3, c3, rfl, h1⟩
    clear x0_0 x1_0 x2_0 x0_1 x1_1 x2_1
    clear hS; have hS := Lib.hid h1; clear h1
    obtain ⟨x0_0, x1_0, x2_0⟩ := hS.out.cs3 0 rfl
    obtain ⟨x0_1, x1_1, x2_1⟩ := hS.out.cs3 1 rfl
    go_wp2_with fail
    go_at_call 24
    with_reducible refine (pow_c hS.out (by repeat (first | exact List.mem_cons_self | apply List.mem_cons_of_mem)) (by omega) hq hok2 hp2).mono ?_
    rintro e v5 ⟨A4, n4, c4, rfl, h1⟩
    clear x0_0 x1_0 x2_0 x0_1 x1_1 x2_1
    clear hS; have hS := Lib.hid h1; clear h1
    obtain ⟨x0_0, x1_0, x2_0⟩ := hS.out.cs3 0 rfl
    obtain ⟨x0_1, x1_1, x2_1⟩ := hS.out.cs3 1 rfl
    go_wp2_with fail
    go_at_call 25
    with_reducible refine (make_c (b := ((q : Int) % 2 == 1)) hS.out (by repeat (first | exact List.mem_cons_self | apply List.mem_cons_of_mem)) (by omega) hz).mono ?_
    rintro e v6 ⟨A5, n5, c5, rfl, h1⟩
    clear x0_0 x1_0 x2_0 x0_1 x1_1 x2_1
    clear hS; have hS := Lib.hid h1; clear h1
    obtain ⟨x0_0, x1_0, x2_0⟩ := hS.out.cs3 0 rfl
    obtain ⟨x0_1, x1_1, x2_1⟩ := hS.out.cs3 1 rfl
    have hp0 := hS.out.put3 0 rfl (hS.out.ge_ 0 rfl) (.bool (sg z)) (.slice A5 n5 c5) (.slice A4 n4 c4)
    simp only [List.set_cons_zero, List.set_cons_succ] at hp0
    have fz0_0 := hS.out.frs 0 rfl 0
    have fz0_1 := hS.out.frs 0 rfl 1
    have fz0_2 := hS.out.frs 0 rfl 2
    have HPUT := Lib.hid hp0
    clear hp0
    go_wp2_with fail
    refine bodyPost_ret (results_B2 rfl rfl rfl (loadR (HPUT.out.box _ (List.mem_of_getElem? (i := 0) rfl)))) rfl ?_
    exact HPUT.out.toRE2 (k := 16385) (k' := 16385) (r := r ^ q) (by repeat (first | exact List.mem_cons_self | apply List.mem_cons_of_mem)) (by repeat (first | exact List.mem_cons_self | apply List.mem_cons_of_mem)) (by repeat (first | exact List.mem_cons_self | apply List.mem_cons_of_mem)) (by repeat (first | exact List.mem_cons_self | apply List.mem_cons_of_mem)) (Nat.le_refl _) (Nat.le_refl _) (by rw [hnum]) (by rw [hnum]) (by rw [hden])
  · have hsg : sg r.num = false := by simpa using hsg
    obtain ⟨z, hz⟩ : ∃ z, iv false p1 = z := ⟨_, rfl⟩
    have hnum : (r ^ q).num = z := by rw [(r_pow_num r q).1, ← iv_pow, hsg, Bool.false_and, hp1, ← hz]
    have hr0 := h.val
    have hS := Lib.hid (((SC.start w).old (k := M) h.den h.ld rfl).old (k := M) h.num h.ln rfl)
    clear h
    go_enter Tryz.func7, Tryz.ntmps7
    go_wp2_with fail
    generalize hwa : World.alloc (World.alloc w _) _ = v1
    have h1 := ((hS.out.boxed (vs := [.bool b0, .slice A0 n0 c0, .slice A0' n0' c0']) (ty := 27) rfl rfl).boxed (vs := [.bool false, .slice none 0 0, .slice none 0 0]) (ty := 27) rfl hwa)
    simp only [World.size_alloc] at h1
    clear hwa
    clear hS; have hS := Lib.hid h1; clear h1
    obtain ⟨x0_0, x1_0, x2_0⟩ := hS.out.cs3 0 rfl
    obtain ⟨x0_1, x1_1, x2_1⟩ := hS.out.cs3 1 rfl
    go_wp2_with fail
    go_at_call 23
    with_reducible refine (value_c (k := M) hS.out (by repeat (first | exact List.mem_cons_self | apply List.mem_cons_of_mem)) (by repeat (first | exact List.mem_cons_self | apply List.mem_cons_of_mem)) h1M (by omega) hr0).mono ?_
    rintro e v2 ⟨A1, n1, c1, A2, n2, c2, rfl, h1⟩
    clear x0_0 x1_0 x2_0 x0_1 x1_1 x2_1
    clear hS; have hS := Lib.hid h1; clear h1
    obtain ⟨x0_0, x1_0, x2_0⟩ := hS.out.cs3 0 rfl
    obtain ⟨x0_1, x1_1, x2_1⟩ := hS.out.cs3 1 rfl
    rw [hsg]
    have hp0 := hS.out.put3 1 rfl (hS.out.ge_ 1 rfl) (.bool (false)) (.slice A1 n1 c1) (.slice A2 n2 c2)
    simp only [List.set_cons_zero, List.set_cons_succ] at hp0
    have fz0_0 := hS.out.frs 1 rfl 0
    have fz0_1 := hS.out.frs 1 rfl 1
    have fz0_2 := hS.out.frs 1 rfl 2
    obtain ⟨p00_0, p01_0, p02_0⟩ := hp0.cs3 0 rfl
    obtain ⟨p00_1, p01_1, p02_1⟩ := hp0.cs3 1 rfl
    have HPUT := Lib.hid hp0
    clear hp0
    go_wp2_with fail
    clear fz0_0 fz0_1 fz0_2
    clear p00_0 p01_0 p02_0 p00_1 p01_1 p02_1
    clear x0_0 x1_0 x2_0 x0_1 x1_1 x2_1
    have h1 := HPUT.out
    clear HPUT
    generalize hwa : World.setCell (World.setCell (World.setCell v2 _ _) _ _) _ _ = v3 at *
    clear hwa
    clear hS; have hS := Lib.hid h1; clear h1
    obtain ⟨x0_0, x1_0, x2_0⟩ := hS.out.cs3 0 rfl
    obtain ⟨x0_1, x1_1, x2_1⟩ := hS.out.cs3 1 rfl
    go_wp2_with fail
    go_at_call 24
    with_reducible refine (pow_c hS.out (by repeat (first | exact List.mem_cons_self | apply List.mem_cons_of_mem)) (by omega) hq hok1 hp1).mono ?_
    rintro e v4 ⟨A3, n3, c3, rfl, h1⟩
    clear x0_0 x1_0 x2_0 x0_1 x1_1 x2_1
    clear hS; have hS := Lib.hid h1; clear h1
    obtain ⟨x0_0, x1_0, x2_0⟩ := hS.out.cs3 0 rfl
    obtain ⟨x0_1, x1_1, x2_1⟩ := hS.out.cs3 1 rfl
    go_wp2_with fail
    go_at_call 24
    with_reducible refine (pow_c hS.out (by repeat (first | exact List.mem_cons_self | apply List.mem_cons_of_mem)) (by omega) hq hok2 hp2).mono ?_
    rintro e v5 ⟨A4, n4, c4, rfl, h1⟩
    clear x0_0 x1_0 x2_0 x0_1 x1_1 x2_1
    clear hS; have hS := Lib.hid h1; clear h1
    obtain ⟨x0_0, x1_0, x2_0⟩ := hS.out.cs3 0 rfl
    obtain ⟨x0_1, x1_1, x2_1⟩ := hS.out.cs3 1 rfl
    go_wp2_with fail
    go_at_call 25
    with_reducible refine (make_c (b := false) hS.out (by repeat (first | exact List.mem_cons_self | apply List.mem_cons_of_mem)) (by omega) hz).mono ?_
    rintro e v6 ⟨A5, n5, c5, rfl, h1⟩
    clear x0_0 x1_0 x2_0 x0_1 x1_1 x2_1
    clear hS; have hS := Lib.hid h1; clear h1
    obtain ⟨x0_0, x1_0, x2_0⟩ := hS.out.cs3 0 rfl
    obtain ⟨x0_1, x1_1, x2_1⟩ := hS.out.cs3 1 rfl
    have hp0 := hS.out.put3 0 rfl (hS.out.ge_ 0 rfl) (.bool (sg z)) (.slice A5 n5 c5) (.slice A4 n4 c4)
    simp only [List.set_cons_zero, List.set_cons_succ] at hp0
    have fz0_0 := hS.out.frs 0 rfl 0
    have fz0_1 := hS.out.frs 0 rfl 1
    have fz0_2 := hS.out.frs 0 rfl 2
    have HPUT := Lib.hid hp0
    clear hp0
    go_wp2_with fail
    refine bodyPost_ret (results_B2 rfl rfl rfl (loadR (HPUT.out.box _ (List.mem_of_getElem? (i := 0) rfl)))) rfl ?_
    exact HPUT.out.toRE2 (k := 16385) (k' := 16385) (r := r ^ q) (by repeat (first | exact List.mem_cons_self | apply List.mem_cons_of_mem)) (by repeat (first | exact List.mem_cons_self | apply List.mem_cons_of_mem)) (by repeat (first | exact List.mem_cons_self | apply List.mem_cons_of_mem)) (by repeat (first | exact List.mem_cons_self | apply List.mem_cons_of_mem)) (Nat.le_refl _) (Nat.le_refl _) (by rw [hnum]) (by rw [hnum]) (by rw [hden])
end
end Go.Proofs.YtpokcocfdchfeaaGreatDoor
