/-
  PROVED: the statement WholeBack (tombolalaw05.WholeBack) about the landed commit: for every input the law returns true and leaves its arguments as they were. Conditions: none beyond those that the given row itself prints.
-/
import Derived.Test.YtgahnchfefngeaaDoorCards
import Derived.Test.YtgahnchfefngeaaDoorTie
import Derived.LaidMore
import Derived.Lay
import Derived.SevenTiedAt
import Derived.Stop.Joined
import Derived.Test.YtgahnchfefngeaaDoorRows
import Derived.WalkKit
import Derived.ProofKit
import Derived.OpenShut
import Derived.RowKit3
import Derived.Test.YtgahnchfefngeaaDoorGFrame
import Derived.Test.YtgahnchfefngeaaDoorWholeAwake
import Derived.Test.YtgahnchfefngeaaDoorRegSym
import Derived.Deep.QuietTactic
import Derived.BigQuiet
namespace Go.Proofs.YtgahnchfefngeaaDoor.wholeBack
open Go.ChangeShapes Go.WideShapes Go.ChangeAt Go.RowKit
set_option linter.unusedVariables false
set_option maxRecDepth 20000
open N
theorem own : ownKnob Tryd.prog.godebug = none := by kernel_rfl
open Go.Lib (decDigits nDigits decDigits_length nDigits_pos)
theorem shI_rd {w : World} {b : Bool} {A : Option Addr} {n c : Nat} {xs : List Int} {z : Int} (h : Sl w A n c xs) (hn : n ≤ 10) (hz : iv b (val B xs) = z) : (shI z).length ≤ maxLen ∧ rdJ (shI z) = 0 ∧ rdW (shI z) = z := by
  have hv0 := h.nn0
  obtain ⟨v, hv⟩ : ∃ v : Nat, val B xs = (v : Int) := ⟨(val B xs).toNat, (Int.toNat_of_nonneg hv0).symm⟩
  have hN := nDigits_val h.dg h.len hv
  have hab := abs_iv (b := b) hv0
  rw [hz, hv, Int.toNat_natCast] at hab
  refine ⟨?_, rd_shI (by rw [hab]; omega)⟩
  unfold shI maxLen
  split <;> simp only [List.length_cons, decDigits_length, hab] <;> omega
set_option maxRecDepth 100000 in
set_option maxHeartbeats 4000000 in
theorem walk (w : World) (b0 : Bool) (A0 : Option Addr) (n0 c0 : Nat) (xs0 : List Int) (h0 : Sl w A0 n0 c0 xs0) (b1 : Bool) (A1 : Option Addr) (n1 c1 : Nat) (xs1 : List Int) (h1 : Sl w A1 n1 c1 xs1) (b2 : List UInt8) (l2 : b2.length ≤ maxLen) (a3 : Int) (w3 : (Lit.int .i64 a3).wf = true) :
    Calls Tryd.prog 8 #[.agg #[.bool b0, .slice A0 n0 c0], .agg #[.bool b1, .slice A1 n1 c1], .string ⟨b2.toArray⟩, .int .i64 a3] w fun e w' => e = .returned (.bool true) ∧ Below w.heap.size w w' := by
  have hc0 := h0.cap
  have hm0 := h0.max
  unfold maxLen at hm0
  have hc1 := h1.cap
  have hm1 := h1.max
  unfold maxLen at hm1
  have lm := l2
  unfold maxLen at lm
  obtain ⟨wlo, whi⟩ := bounds_i64 w3
  by_cases hl : n0 ≤ 10 ∧ n1 ≤ 10
  · obtain ⟨hl0, hl1⟩ := hl
    obtain ⟨z0, hz0⟩ : ∃ z, iv b0 (val B xs0) = z := ⟨_, rfl⟩
    obtain ⟨z1, hz1⟩ : ∃ z, iv b1 (val B xs1) = z := ⟨_, rfl⟩
    have hd0 := shI_rd h0 hl0 hz0
    have HZ0 := Lib.hid hz0
    have HZ1 := Lib.hid hz1
    have hS := Lib.hid (((SB.start w).old h0 hl0 rfl).old h1 hl1 rfl)
    clear h0 hz0 h1 hz1
    by_cases hs : b2.length ≤ 300
    · obtain ⟨X0, hX0⟩ : ∃ X, shI z0 = X := ⟨_, rfl⟩
      obtain ⟨X1, hX1⟩ : ∃ X, shI z1 = X := ⟨_, rfl⟩
      rw [hX0] at hd0
      obtain ⟨hd1, hd2, hd3⟩ := hd0
      have HX0 := Lib.hid hX0
      have HX1 := Lib.hid hX1
      have HD1 := Lib.hid hd1
      have HD2 := Lib.hid hd2
      have HD3 := Lib.hid hd3
      obtain ⟨c, hc⟩ : ∃ c, sgn (z0 - z1) = c := ⟨_, rfl⟩
      have HC := Lib.hid hc
      obtain ⟨q, hq⟩ : ∃ q : Bool, decide (c = 0) = q := ⟨_, rfl⟩
      have hXY : X0 = X1 ↔ c = 0 := by
        rw [← hX0, ← hX1]
        have h3 := sgn_cases (z0 - z1)
        rw [hc] at h3
        constructor
        · intro h
          have := shI_inj h
          omega
        · intro h
          have : z0 = z1 := by omega
          rw [this]
      have eb1 : decide (X0 = X1) = q := by rw [← hq]; exact decide_eq_decide.2 hXY
      have eb2 : (X0 == X1) = q := by
        rw [← eb1]
        by_cases h : X0 = X1
        · rw [h, decide_eq_true rfl]; simp
        · rw [decide_eq_false h]; simpa using h
      have ec1 : (c == 0) = q := by
        rw [← hq]
        by_cases h : c = 0
        · rw [h]; rfl
        · rw [decide_eq_false h]; simpa using h
      obtain ⟨j, hj⟩ : ∃ j, rdJ b2 = j := ⟨_, rfl⟩
      obtain ⟨y, hy⟩ : ∃ y, rdW b2 = y := ⟨_, rfl⟩
      have HSH := Lib.hid (show j = 0 → shI y = b2 from fun h => by rw [← hy]; exact sh_rdW (hj.trans h))
      have HJ := Lib.hid hj
      have HY := Lib.hid hy
      have HQ := Lib.hid hq
      clear hXY hj hy hq
      have HLO := Lib.hid wlo
      have HHI := Lib.hid whi
      clear hX0 hX1 hd1 hd2 hd3 hc wlo whi
      go_enter Tryd.func8, Tryd.ntmps8
      have h1 := ((hS.out.boxed (b := b0) (A := A0) (n := n0) (c := c0) rfl).boxed (b := b1) (A := A1) (n := n1) (c := c1) rfl)
      try simp only [World.size_alloc] at h1
      obtain ⟨p0, q0⟩ := h1.cs 0 rfl
      obtain ⟨p1, q1⟩ := h1.cs 1 rfl
      clear h1
      go_wp2_with fail
      clear p0 q0 p1 q1
      generalize hwa : World.alloc (World.alloc w _) _ = v1
      have h1 := ((hS.out.boxed rfl).boxed hwa)
      simp only [World.size_alloc] at h1
      have hsz : v1.heap.size = w.heap.size + 1 + 1 := by rw [← hwa]; simp only [World.size_alloc]
      try rw [← hsz]
      clear hsz
      clear hwa
      clear hS; have hS := Lib.hid h1; clear h1
      obtain ⟨x0, y0⟩ := hS.out.cs 0 rfl
      obtain ⟨x1, y1⟩ := hS.out.cs 1 rfl
      go_wp2_with fail
      go_at_call 20
      with_reducible refine (wlong2_n hS.out _ _ _ _ _ _ _ _ hl0 hl1).mono ?_
      rintro e v2 ⟨rfl, h1⟩
      clear x0 y0 x1 y1
      clear hS; have hS := Lib.hid h1; clear h1
      obtain ⟨x0, y0⟩ := hS.out.cs 0 rfl
      obtain ⟨x1, y1⟩ := hS.out.cs 1 rfl
      go_wp2_with fail
      go_at_call 10
      with_reducible refine (wawake_s hS.out).mono ?_
      rintro e v3 ⟨rfl, h1⟩
      clear x0 y0 x1 y1
      clear hS; have hS := Lib.hid h1; clear h1
      obtain ⟨x0, y0⟩ := hS.out.cs 0 rfl
      obtain ⟨x1, y1⟩ := hS.out.cs 1 rfl
      go_wp2_with fail
      go_at_call 18
      with_reducible refine (show_w hS.out (by repeat (first | exact List.mem_cons_self | apply List.mem_cons_of_mem)) (by omega) HZ0.out HX0.out).mono ?_
      rintro e v4 ⟨rfl, h1⟩
      clear x0 y0 x1 y1
      clear hS; have hS := Lib.hid h1; clear h1
      obtain ⟨x0, y0⟩ := hS.out.cs 0 rfl
      obtain ⟨x1, y1⟩ := hS.out.cs 1 rfl
      go_wp2_with fail
      go_at_call 16
      with_reducible refine (read_w hS.out X0 HD1.out HD2.out HD3.out).mono ?_
      rintro e v5 ⟨Az, nz, cz, rfl, h1⟩
      clear x0 y0 x1 y1
      clear hS; have hS := Lib.hid h1; clear h1
      obtain ⟨x0, y0⟩ := hS.out.cs 0 rfl
      obtain ⟨x1, y1⟩ := hS.out.cs 1 rfl
      have h1 := (hS.out.boxed (b := sg z0) (A := Az) (n := nz) (c := cz) rfl)
      try simp only [World.size_alloc] at h1
      obtain ⟨p0, q0⟩ := h1.cs 0 rfl
      obtain ⟨p1, q1⟩ := h1.cs 1 rfl
      obtain ⟨p2, q2⟩ := h1.cs 2 rfl
      clear h1
      go_wp2_with fail
      clear x0 y0 x1 y1
      clear p0 q0 p1 q1 p2 q2
      generalize hwa : World.alloc v5 _ = v6
      have h1 := (hS.out.boxed hwa)
      have hsz : v6.heap.size = v5.heap.size + 1 := by rw [← hwa]; simp only [World.size_alloc]
      try rw [← hsz]
      clear hsz
      have HL1 := Lib.hid (hS.out.lt_ 0 rfl)
      have HL2 := Lib.hid (hS.out.lt_ 1 rfl)
      clear hwa
      clear hS; have hS := Lib.hid h1; clear h1
      obtain ⟨x0, y0⟩ := hS.out.cs 0 rfl
      obtain ⟨x1, y1⟩ := hS.out.cs 1 rfl
      obtain ⟨x2, y2⟩ := hS.out.cs 2 rfl
      go_wp2_with fail
      go_at_call 13
      with_reducible refine (of_w (z := a3) hS.out HLO.out HHI.out).mono ?_
      rintro e v7 ⟨Ak, nk, ck, rfl, h1⟩
      clear x0 y0 x1 y1 x2 y2
      clear hS; have hS := Lib.hid h1; clear h1
      obtain ⟨x0, y0⟩ := hS.out.cs 0 rfl
      obtain ⟨x1, y1⟩ := hS.out.cs 1 rfl
      obtain ⟨x2, y2⟩ := hS.out.cs 2 rfl
      go_wp2_with fail
      go_at_call 11
      with_reducible refine (small_w (z := a3) hS.out (by repeat (first | exact List.mem_cons_self | apply List.mem_cons_of_mem)) (by omega) (iv_sm _) HLO.out HHI.out).mono ?_
      rintro e v8 ⟨rfl, h1⟩
      clear x0 y0 x1 y1 x2 y2
      clear hS; have hS := Lib.hid h1; clear h1
      obtain ⟨x0, y0⟩ := hS.out.cs 0 rfl
      obtain ⟨x1, y1⟩ := hS.out.cs 1 rfl
      obtain ⟨x2, y2⟩ := hS.out.cs 2 rfl
      go_wp2_with fail
      clear x0 y0 x1 y1 x2 y2
      have h1 := hS.out.drew
      clear hS; have hS := Lib.hid h1; clear h1
      try simp only [List.append_eq, List.cons_append, List.nil_append]
      go_region_held3 (fun W => (W.cell? ⟨v5.heap.size, 0, none⟩ = some (.bool (sg z0)) ∧ W.cell? ⟨v5.heap.size, 1, none⟩ = some (.slice Az nz cz)) ∧ (W.cell? ⟨w.heap.size + 1, 0, none⟩ = some (.bool (b1)) ∧ W.cell? ⟨w.heap.size + 1, 1, none⟩ = some (.slice A1 n1 c1)) ∧ (W.cell? ⟨w.heap.size, 0, none⟩ = some (.bool (b0)) ∧ W.cell? ⟨w.heap.size, 1, none⟩ = some (.slice A0 n0 c0))) (first | with_reducible exact ⟨hS.out.cs 0 rfl, hS.out.cs 1 rfl, hS.out.cs 2 rfl⟩ | with_reducible exact ⟨hS.out.drew.cs 0 rfl, hS.out.drew.cs 1 rfl, hS.out.drew.cs 2 rfl⟩ | with_reducible exact ⟨(hS.out.alloc _).cs 0 rfl, (hS.out.alloc _).cs 1 rfl, (hS.out.alloc _).cs 2 rfl⟩ | with_reducible exact ⟨((hS.out.alloc _).alloc _).cs 0 rfl, ((hS.out.alloc _).alloc _).cs 1 rfl, ((hS.out.alloc _).alloc _).cs 2 rfl⟩) (first
        | (go_at_call 14; (with_reducible refine (make_w hS.out (by repeat (first | exact List.mem_cons_self | apply List.mem_cons_of_mem)) (by omega) (by first | exact iv_sm _ | exact HZ0.out | exact HZ1.out | exact HZ2.out)).mono ?_); rintro e w' ⟨Ai, ni, ci, rfl, h1⟩; clear hS; have hS := Lib.hid h1; clear h1)
        | (go_at_call 21; (with_reducible refine (same_v hS.out (by repeat (first | exact List.mem_cons_self | apply List.mem_cons_of_mem)) (by repeat (first | exact List.mem_cons_self | apply List.mem_cons_of_mem)) (by first | rfl | omega | (subst_vars; first | rfl))).mono ?_); rintro e w' ⟨rfl, h1⟩; clear hS; have hS := Lib.hid h1; clear h1)
        | (go_at_call 18; (with_reducible refine (show_w hS.out (by repeat (first | exact List.mem_cons_self | apply List.mem_cons_of_mem)) (by omega) HZ0.out HX0.out).mono ?_); rintro e w' ⟨rfl, h1⟩; clear hS; have hS := Lib.hid h1; clear h1)
        | (go_at_call 18; (with_reducible refine (show_w hS.out (by repeat (first | exact List.mem_cons_self | apply List.mem_cons_of_mem)) (by omega) HZ1.out HX1.out).mono ?_); rintro e w' ⟨rfl, h1⟩; clear hS; have hS := Lib.hid h1; clear h1)
        | (go_at_call 26; (with_reducible refine (cmp_q hS.out (by repeat (first | exact List.mem_cons_self | apply List.mem_cons_of_mem)) (by repeat (first | exact List.mem_cons_self | apply List.mem_cons_of_mem)) (by omega) (by omega) (by first | exact iv_sm _ | exact HZ0.out | exact HZ1.out | exact HZ2.out) (by first | exact iv_sm _ | exact HZ0.out | exact HZ1.out | exact HZ2.out) (by first | exact HC.out | (subst_vars; exact HC.out))).mono ?_); rintro e w' ⟨rfl, h1⟩; clear hS; have hS := Lib.hid h1; clear h1))
      obtain ⟨x0, y0⟩ := hS.out.cs 0 rfl
      obtain ⟨x1, y1⟩ := hS.out.cs 1 rfl
      obtain ⟨x2, y2⟩ := hS.out.cs 2 rfl
      by_cases hsm : -9223372036854775808 ≤ z0 ∧ z0 ≤ 9223372036854775807
      · obtain ⟨hsm1, hsm2⟩ := hsm
        have HM1 := Lib.hid hsm1
        have HM2 := Lib.hid hsm2
        clear hsm1 hsm2
        go_wp2_with fail
        go_at_call 11
        with_reducible refine (small_w (z := z0) hS.out (by repeat (first | exact List.mem_cons_self | apply List.mem_cons_of_mem)) (by omega) HZ0.out HM1.out HM2.out).mono ?_
        rintro e v9 ⟨rfl, h1⟩
        clear x0 y0 x1 y1 x2 y2
        clear hS; have hS := Lib.hid h1; clear h1
        obtain ⟨x0, y0⟩ := hS.out.cs 0 rfl
        obtain ⟨x1, y1⟩ := hS.out.cs 1 rfl
        obtain ⟨x2, y2⟩ := hS.out.cs 2 rfl
        go_wp2_with fail
        clear x0 y0 x1 y1 x2 y2
        have h1 := hS.out.drew
        clear hS; have hS := Lib.hid h1; clear h1
        try simp only [List.append_eq, List.cons_append, List.nil_append]
        go_region_held3 (fun W => (W.cell? ⟨v5.heap.size, 0, none⟩ = some (.bool (sg z0)) ∧ W.cell? ⟨v5.heap.size, 1, none⟩ = some (.slice Az nz cz)) ∧ (W.cell? ⟨w.heap.size + 1, 0, none⟩ = some (.bool (b1)) ∧ W.cell? ⟨w.heap.size + 1, 1, none⟩ = some (.slice A1 n1 c1)) ∧ (W.cell? ⟨w.heap.size, 0, none⟩ = some (.bool (b0)) ∧ W.cell? ⟨w.heap.size, 1, none⟩ = some (.slice A0 n0 c0))) (first | with_reducible exact ⟨hS.out.cs 0 rfl, hS.out.cs 1 rfl, hS.out.cs 2 rfl⟩ | with_reducible exact ⟨hS.out.drew.cs 0 rfl, hS.out.drew.cs 1 rfl, hS.out.drew.cs 2 rfl⟩ | with_reducible exact ⟨(hS.out.alloc _).cs 0 rfl, (hS.out.alloc _).cs 1 rfl, (hS.out.alloc _).cs 2 rfl⟩ | with_reducible exact ⟨((hS.out.alloc _).alloc _).cs 0 rfl, ((hS.out.alloc _).alloc _).cs 1 rfl, ((hS.out.alloc _).alloc _).cs 2 rfl⟩) (first
          | (go_at_call 13; (with_reducible refine (of_w (z := z0) hS.out HM1.out HM2.out).mono ?_); rintro e w' ⟨Ai, ni, ci, rfl, h1⟩; clear hS; have hS := Lib.hid h1; clear h1)
          | (go_at_call 14; (with_reducible refine (make_w hS.out (by repeat (first | exact List.mem_cons_self | apply List.mem_cons_of_mem)) (by omega) (by first | exact iv_sm _ | exact HZ0.out | exact HZ1.out | exact HZ2.out)).mono ?_); rintro e w' ⟨Ai, ni, ci, rfl, h1⟩; clear hS; have hS := Lib.hid h1; clear h1)
          | (go_at_call 21; (with_reducible refine (same_v hS.out (by repeat (first | exact List.mem_cons_self | apply List.mem_cons_of_mem)) (by repeat (first | exact List.mem_cons_self | apply List.mem_cons_of_mem)) (by first | rfl | omega | (subst_vars; first | rfl))).mono ?_); rintro e w' ⟨rfl, h1⟩; clear hS; have hS := Lib.hid h1; clear h1))
        obtain ⟨x0, y0⟩ := hS.out.cs 0 rfl
        obtain ⟨x1, y1⟩ := hS.out.cs 1 rfl
        obtain ⟨x2, y2⟩ := hS.out.cs 2 rfl
        by_cases hj0 : j = 0
        · subst hj0
          have HE := Lib.hid (HSH.out rfl)
          go_wp2_with fail
          go_at_call 16
          with_reducible refine (read_w hS.out b2 l2 HJ.out HY.out).mono ?_
          rintro e v10 ⟨Ay, ny, cy, rfl, h1⟩
          clear x0 y0 x1 y1 x2 y2
          clear hS; have hS := Lib.hid h1; clear h1
          obtain ⟨x0, y0⟩ := hS.out.cs 0 rfl
          obtain ⟨x1, y1⟩ := hS.out.cs 1 rfl
          obtain ⟨x2, y2⟩ := hS.out.cs 2 rfl
          have hput := hS.out.put (by intro q hq; simp only [List.mem_cons, List.not_mem_nil, or_false] at hq; have hHL1 := HL1.out; have hHL2 := HL2.out; rcases hq with rfl | rfl <;> first | (show w.heap.size + 1 ≠ v5.heap.size; omega) | (show w.heap.size ≠ v5.heap.size; omega)) (sg y) Ay ny cy
          obtain ⟨p0, q0⟩ := hput.cs 0 rfl
          obtain ⟨p1, q1⟩ := hput.cs 1 rfl
          obtain ⟨p2, q2⟩ := hput.cs 2 rfl
          have HPUT := Lib.hid hput
          clear hput
          obtain ⟨fz0, fz1⟩ := hS.out.frs 0 rfl
          go_wp2_with fail
          clear x0 y0 x1 y1 x2 y2
          clear fz0 fz1 p0 q0 p1 q1 p2 q2
          have h1 := HPUT.out
          clear HPUT
          generalize hwa : World.setCell (World.setCell v10 _ _) _ _ = v11 at *
          clear hwa
          clear hS; have hS := Lib.hid h1; clear h1
          obtain ⟨x0, y0⟩ := hS.out.cs 0 rfl
          obtain ⟨x1, y1⟩ := hS.out.cs 1 rfl
          obtain ⟨x2, y2⟩ := hS.out.cs 2 rfl
          go_wp2_with (first
            | (go_at_call 18; (with_reducible refine (show_w hS.out (by repeat (first | exact List.mem_cons_self | apply List.mem_cons_of_mem)) (by omega) (iv_sm _) HE.out).mono ?_); rintro e w' ⟨rfl, h1⟩; clear x0 y0 x1 y1 x2 y2; clear hS; have hS := Lib.hid h1; clear h1; obtain ⟨x0, y0⟩ := hS.out.cs 0 rfl; obtain ⟨x1, y1⟩ := hS.out.cs 1 rfl; obtain ⟨x2, y2⟩ := hS.out.cs 2 rfl)
            | (go_at_call 17; (with_reducible refine (may_w hS.out (by repeat (first | exact List.mem_cons_self | apply List.mem_cons_of_mem)) (by omega) (mayB_told _)).mono ?_); rintro e w' ⟨rfl, h1⟩; clear x0 y0 x1 y1 x2 y2; clear hS; have hS := Lib.hid h1; clear h1; obtain ⟨x0, y0⟩ := hS.out.cs 0 rfl; obtain ⟨x1, y1⟩ := hS.out.cs 1 rfl; obtain ⟨x2, y2⟩ := hS.out.cs 2 rfl))
          go_ret
          exact ⟨rfl, hS.out.st.1⟩
        · have ej : (j != 0) = true := by simpa using hj0
          clear hj0
          go_wp2_with fail
          go_at_call 16
          with_reducible refine (read_w hS.out b2 l2 HJ.out HY.out).mono ?_
          rintro e v10 ⟨Ay, ny, cy, rfl, h1⟩
          clear x0 y0 x1 y1 x2 y2
          clear hS; have hS := Lib.hid h1; clear h1
          obtain ⟨x0, y0⟩ := hS.out.cs 0 rfl
          obtain ⟨x1, y1⟩ := hS.out.cs 1 rfl
          obtain ⟨x2, y2⟩ := hS.out.cs 2 rfl
          have hput := hS.out.put (by intro q hq; simp only [List.mem_cons, List.not_mem_nil, or_false] at hq; have hHL1 := HL1.out; have hHL2 := HL2.out; rcases hq with rfl | rfl <;> first | (show w.heap.size + 1 ≠ v5.heap.size; omega) | (show w.heap.size ≠ v5.heap.size; omega)) (sg y) Ay ny cy
          obtain ⟨p0, q0⟩ := hput.cs 0 rfl
          obtain ⟨p1, q1⟩ := hput.cs 1 rfl
          obtain ⟨p2, q2⟩ := hput.cs 2 rfl
          have HPUT := Lib.hid hput
          clear hput
          obtain ⟨fz0, fz1⟩ := hS.out.frs 0 rfl
          go_wp2_with fail
          clear x0 y0 x1 y1 x2 y2
          clear fz0 fz1 p0 q0 p1 q1 p2 q2
          have h1 := HPUT.out
          clear HPUT
          generalize hwa : World.setCell (World.setCell v10 _ _) _ _ = v11 at *
          clear hwa
          clear hS; have hS := Lib.hid h1; clear h1
          obtain ⟨x0, y0⟩ := hS.out.cs 0 rfl
          obtain ⟨x1, y1⟩ := hS.out.cs 1 rfl
          obtain ⟨x2, y2⟩ := hS.out.cs 2 rfl
          go_wp2
          go_ret
          exact ⟨rfl, hS.out.st.1⟩
      · have HM := Lib.hid hsm
        clear hsm
        go_wp2_with fail
        go_at_call 11
        with_reducible refine (small_x (z := z0) hS.out (by repeat (first | exact List.mem_cons_self | apply List.mem_cons_of_mem)) (by omega) HZ0.out HM.out).mono ?_
        rintro e v9 ⟨rfl, h1⟩
        clear x0 y0 x1 y1 x2 y2
        clear hS; have hS := Lib.hid h1; clear h1
        obtain ⟨x0, y0⟩ := hS.out.cs 0 rfl
        obtain ⟨x1, y1⟩ := hS.out.cs 1 rfl
        obtain ⟨x2, y2⟩ := hS.out.cs 2 rfl
        go_wp2_with fail
        go_quiet (fail)
        clear x0 y0 x1 y1 x2 y2
        generalize hwa : World.drewN v9 _ = v10
        have h1 := hS.out.drewNs hwa
        clear hwa
        clear hS; have hS := Lib.hid h1; clear h1
        obtain ⟨x0, y0⟩ := hS.out.cs 0 rfl
        obtain ⟨x1, y1⟩ := hS.out.cs 1 rfl
        obtain ⟨x2, y2⟩ := hS.out.cs 2 rfl
        by_cases hj0 : j = 0
        · subst hj0
          have HE := Lib.hid (HSH.out rfl)
          go_wp2_with fail
          go_at_call 16
          with_reducible refine (read_w hS.out b2 l2 HJ.out HY.out).mono ?_
          rintro e v11 ⟨Ay, ny, cy, rfl, h1⟩
          clear x0 y0 x1 y1 x2 y2
          clear hS; have hS := Lib.hid h1; clear h1
          obtain ⟨x0, y0⟩ := hS.out.cs 0 rfl
          obtain ⟨x1, y1⟩ := hS.out.cs 1 rfl
          obtain ⟨x2, y2⟩ := hS.out.cs 2 rfl
          have hput := hS.out.put (by intro q hq; simp only [List.mem_cons, List.not_mem_nil, or_false] at hq; have hHL1 := HL1.out; have hHL2 := HL2.out; rcases hq with rfl | rfl <;> first | (show w.heap.size + 1 ≠ v5.heap.size; omega) | (show w.heap.size ≠ v5.heap.size; omega)) (sg y) Ay ny cy
          obtain ⟨p0, q0⟩ := hput.cs 0 rfl
          obtain ⟨p1, q1⟩ := hput.cs 1 rfl
          obtain ⟨p2, q2⟩ := hput.cs 2 rfl
          have HPUT := Lib.hid hput
          clear hput
          obtain ⟨fz0, fz1⟩ := hS.out.frs 0 rfl
          go_wp2_with fail
          clear x0 y0 x1 y1 x2 y2
          clear fz0 fz1 p0 q0 p1 q1 p2 q2
          have h1 := HPUT.out
          clear HPUT
          generalize hwa : World.setCell (World.setCell v11 _ _) _ _ = v12 at *
          clear hwa
          clear hS; have hS := Lib.hid h1; clear h1
          obtain ⟨x0, y0⟩ := hS.out.cs 0 rfl
          obtain ⟨x1, y1⟩ := hS.out.cs 1 rfl
          obtain ⟨x2, y2⟩ := hS.out.cs 2 rfl
          go_wp2_with (first
            | (go_at_call 18; (with_reducible refine (show_w hS.out (by repeat (first | exact List.mem_cons_self | apply List.mem_cons_of_mem)) (by omega) (iv_sm _) HE.out).mono ?_); rintro e w' ⟨rfl, h1⟩; clear x0 y0 x1 y1 x2 y2; clear hS; have hS := Lib.hid h1; clear h1; obtain ⟨x0, y0⟩ := hS.out.cs 0 rfl; obtain ⟨x1, y1⟩ := hS.out.cs 1 rfl; obtain ⟨x2, y2⟩ := hS.out.cs 2 rfl)
            | (go_at_call 17; (with_reducible refine (may_w hS.out (by repeat (first | exact List.mem_cons_self | apply List.mem_cons_of_mem)) (by omega) (mayB_told _)).mono ?_); rintro e w' ⟨rfl, h1⟩; clear x0 y0 x1 y1 x2 y2; clear hS; have hS := Lib.hid h1; clear h1; obtain ⟨x0, y0⟩ := hS.out.cs 0 rfl; obtain ⟨x1, y1⟩ := hS.out.cs 1 rfl; obtain ⟨x2, y2⟩ := hS.out.cs 2 rfl))
          go_ret
          exact ⟨rfl, hS.out.st.1⟩
        · have ej : (j != 0) = true := by simpa using hj0
          clear hj0
          go_wp2_with fail
          go_at_call 16
          with_reducible refine (read_w hS.out b2 l2 HJ.out HY.out).mono ?_
          rintro e v11 ⟨Ay, ny, cy, rfl, h1⟩
          clear x0 y0 x1 y1 x2 y2
          clear hS; have hS := Lib.hid h1; clear h1
          obtain ⟨x0, y0⟩ := hS.out.cs 0 rfl
          obtain ⟨x1, y1⟩ := hS.out.cs 1 rfl
          obtain ⟨x2, y2⟩ := hS.out.cs 2 rfl
          have hput := hS.out.put (by intro q hq; simp only [List.mem_cons, List.not_mem_nil, or_false] at hq; have hHL1 := HL1.out; have hHL2 := HL2.out; rcases hq with rfl | rfl <;> first | (show w.heap.size + 1 ≠ v5.heap.size; omega) | (show w.heap.size ≠ v5.heap.size; omega)) (sg y) Ay ny cy
          obtain ⟨p0, q0⟩ := hput.cs 0 rfl
          obtain ⟨p1, q1⟩ := hput.cs 1 rfl
          obtain ⟨p2, q2⟩ := hput.cs 2 rfl
          have HPUT := Lib.hid hput
          clear hput
          obtain ⟨fz0, fz1⟩ := hS.out.frs 0 rfl
          go_wp2_with fail
          clear x0 y0 x1 y1 x2 y2
          clear fz0 fz1 p0 q0 p1 q1 p2 q2
          have h1 := HPUT.out
          clear HPUT
          generalize hwa : World.setCell (World.setCell v11 _ _) _ _ = v12 at *
          clear hwa
          clear hS; have hS := Lib.hid h1; clear h1
          obtain ⟨x0, y0⟩ := hS.out.cs 0 rfl
          obtain ⟨x1, y1⟩ := hS.out.cs 1 rfl
          obtain ⟨x2, y2⟩ := hS.out.cs 2 rfl
          go_wp2
          go_ret
          exact ⟨rfl, hS.out.st.1⟩
    · go_enter Tryd.func8, Tryd.ntmps8
      have h1 := ((hS.out.boxed (b := b0) (A := A0) (n := n0) (c := c0) rfl).boxed (b := b1) (A := A1) (n := n1) (c := c1) rfl)
      try simp only [World.size_alloc] at h1
      obtain ⟨p0, q0⟩ := h1.cs 0 rfl
      obtain ⟨p1, q1⟩ := h1.cs 1 rfl
      clear h1
      go_wp2_with fail
      clear p0 q0 p1 q1
      generalize hwa : World.alloc (World.alloc w _) _ = v1
      have h1 := ((hS.out.boxed rfl).boxed hwa)
      simp only [World.size_alloc] at h1
      have hsz : v1.heap.size = w.heap.size + 1 + 1 := by rw [← hwa]; simp only [World.size_alloc]
      try rw [← hsz]
      clear hsz
      clear hwa
      clear hS; have hS := Lib.hid h1; clear h1
      obtain ⟨x0, y0⟩ := hS.out.cs 0 rfl
      obtain ⟨x1, y1⟩ := hS.out.cs 1 rfl
      go_wp2_with fail
      go_at_call 20
      with_reducible refine (wlong2_n hS.out _ _ _ _ _ _ _ _ hl0 hl1).mono ?_
      rintro e v2 ⟨rfl, h1⟩
      clear x0 y0 x1 y1
      clear hS; have hS := Lib.hid h1; clear h1
      obtain ⟨x0, y0⟩ := hS.out.cs 0 rfl
      obtain ⟨x1, y1⟩ := hS.out.cs 1 rfl
      go_wp2_with fail
      go_at_call 10
      with_reducible refine (wawake_s hS.out).mono ?_
      rintro e v3 ⟨rfl, h1⟩
      clear x0 y0 x1 y1
      clear hS; have hS := Lib.hid h1; clear h1
      obtain ⟨x0, y0⟩ := hS.out.cs 0 rfl
      obtain ⟨x1, y1⟩ := hS.out.cs 1 rfl
      go_wp2
      go_ret
      exact ⟨rfl, hS.out.st.1⟩
  · have hS := Lib.hid (SB.start w)
    clear h0 h1
    go_enter Tryd.func8, Tryd.ntmps8
    have h1 := ((hS.out.boxed (b := b0) (A := A0) (n := n0) (c := c0) rfl).boxed (b := b1) (A := A1) (n := n1) (c := c1) rfl)
    try simp only [World.size_alloc] at h1
    obtain ⟨p0, q0⟩ := h1.cs 0 rfl
    obtain ⟨p1, q1⟩ := h1.cs 1 rfl
    clear h1
    go_wp2_with fail
    clear p0 q0 p1 q1
    generalize hwa : World.alloc (World.alloc w _) _ = v1
    have h1 := ((hS.out.boxed rfl).boxed hwa)
    simp only [World.size_alloc] at h1
    have hsz : v1.heap.size = w.heap.size + 1 + 1 := by rw [← hwa]; simp only [World.size_alloc]
    try rw [← hsz]
    clear hsz
    clear hwa
    clear hS; have hS := Lib.hid h1; clear h1
    obtain ⟨x0, y0⟩ := hS.out.cs 0 rfl
    obtain ⟨x1, y1⟩ := hS.out.cs 1 rfl
    go_wp2_with fail
    go_at_call 20
    with_reducible refine (wlong2_y hS.out _ _ _ _ _ _ _ _ (by omega) (by omega) hl).mono ?_
    rintro e v2 ⟨rfl, h1⟩
    clear x0 y0 x1 y1
    clear hS; have hS := Lib.hid h1; clear h1
    obtain ⟨x0, y0⟩ := hS.out.cs 0 rfl
    obtain ⟨x1, y1⟩ := hS.out.cs 1 rfl
    go_wp2_with fail
    go_at_call 10
    with_reducible refine (wawake_s hS.out).mono ?_
    rintro e v3 ⟨rfl, h1⟩
    clear x0 y0 x1 y1
    clear hS; have hS := Lib.hid h1; clear h1
    obtain ⟨x0, y0⟩ := hS.out.cs 0 rfl
    obtain ⟨x1, y1⟩ := hS.out.cs 1 rfl
    go_wp2
    go_ret
    exact ⟨rfl, hS.out.st.1⟩
set_option maxRecDepth 100000 in
theorem lifted (os : Os) (started : os.Started) (H : Type) (enc : TypeId × Value → H) :
    ReturnsInHanded {} Tryd.checked os 8 .any (fun w args => (Rows.wholeBackSpec.pre enc Tryd.prog Tryd.f8 Rows.wholeBackRow.domain false w args ∧ laidMetH Tryd.prog Rows.wholeBackRow.laid w) ∧ sizedMet enc Tryd.prog Tryd.f8 (OpenSpec.ofChange Rows.wholeBackSpec) false w args) (Rows.wholeBackSpec.post enc Tryd.prog Tryd.f8 false true false false) := by
  refine returnsInHanded_of_change_and (C := Tryd.checked) (X := fun w _ => laidMetH Tryd.prog Rows.wholeBackRow.laid w) (fun _ _ _ hh h => h.of_heap hh) own started (by kernel_rfl) Tryd.func8
    (ChangeSpec.witness_shaped (enc := enc) (C := Tryd.checked) (os := os) (X := fun w _ => laidMetH Tryd.prog Rows.wholeBackRow.laid w) false (World.laidAll Tryd.prog os Rows.wholeBackRow.laid) #[.agg #[.bool false, .slice none 0 0], .agg #[.bool false, .slice none 0 0], .string ByteArray.empty, .int .i64 0] 8 (World.laidAll_os _ _ _)
      (World.shaped_of_ZipB (by kernel_rfl) (by kernel_rfl)) (by kernel_rfl) (by kernel_rfl) (by kernel_rfl)
      (by rw [MakeChecks.laidMetH_plain _ _ _ (by kernel_rfl)]; exact laidMet_laidAll _ (by kernel_rfl) (by kernel_rfl))) ?_
  intro W base args ds gs before hval0 hW hcnd _ _ _
  have hval : ∀ (j : Nat) t v, Tryd.f8.params[j]? = some t → args[j]? = some v → Value.okWide Tryd.prog W .any base t v := hval0
  have hW' := hW
  obtain ⟨p, q, hA0, hV, hpq, hfz, hnd⟩ := hW
  have hA : DataW.TrodAll enc Tryd.prog W 0 (fun _ => true) true Tryd.f8.params.toList args.toList ds p := hA0
  rw [Tryd.params8] at hA hval
  obtain ⟨v0, vs0, d0, ds0, p0, q0, hargs, rfl, rfl, h0, r0⟩ := trodAll_cons hA
  obtain ⟨v1, vs1, d1, ds1, p1, q1, rfl, rfl, rfl, h1, r1⟩ := trodAll_cons r0
  obtain ⟨v2, vs2, d2, ds2, p2, q2, rfl, rfl, rfl, h2, r2⟩ := trodAll_cons r1
  obtain ⟨v3, vs3, d3, ds3, p3, q3, rfl, rfl, rfl, h3, r3⟩ := trodAll_cons r2
  obtain ⟨rfl, rfl, rfl⟩ := trodAll_nil r3
  obtain rfl : args = #[v0, v1, v2, v3] := by cases args; simp_all
  obtain ⟨rfl, rfl⟩ := trodVars_none hV
  obtain ⟨b0, A0, n0, c0, xs0, rfl, s0⟩ := open_whole (hval 0 26 v0 rfl rfl) h0
  obtain ⟨b1, A1, n1, c1, xs1, rfl, s1⟩ := open_whole (hval 1 26 v1 rfl rfl) h1
  obtain ⟨y2, rfl, rfl, rfl, l2⟩ := Go.ChangeMaps.open_string Tryd.underlying9 (hval 2 9 v2 rfl rfl) h2
  obtain ⟨b2, rfl⟩ : ∃ b : List UInt8, y2 = ⟨b.toArray⟩ := ⟨y2.data.toList, by cases y2; simp⟩
  obtain ⟨a3, rfl, rfl, rfl, w3⟩ := open_int Tryd.underlying2 (hval 3 2 v3 rfl rfl) h3
  refine (walk W b0 A0 n0 c0 xs0 s0 b1 A1 n1 c1 xs1 s1 b2 l2 a3 w3).mono fun e W' ⟨he, hb⟩ => ?_
  subst he
  exact ⟨_, rfl, Frame.close laidOut hW' rfl rfl rfl Tryd.underlying4 (fun t ht => by rw [Tryd.params8] at ht; simp at ht; rcases ht with rfl | rfl | rfl <;> exact ⟨by kernel_rfl, of_decide_eq_true (by kernel_rfl)⟩) hb⟩
theorem over : Rows.wholeBackRow.holds Tryd.pinned (OpenSpec.ofChange Rows.wholeBackSpec) :=
  OpenClaim.holds_of_wide 8 Tryd.f8 rfl rfl rfl rfl rfl rfl rfl ⟨rfl, rfl, rfl, rfl, rfl⟩ rfl rfl rfl rfl rfl (by kernel_rfl) Tryd.func8 (by kernel_rfl)
    (of_decide_eq_true (by kernel_rfl)) (by unfold Func.isWrapper; first | (rw [if_pos (by decide +kernel)]; kernel_rfl) | (rw [if_neg (by decide +kernel)]; exact ⟨rfl, rfl⟩))
    (fun os started H enc _ => lifted os started H enc)
/-- the statement -/
theorem proved : Rows.WholeBackCardSaid :=
  Claim7.holds_tied_plain_at .later [] _ _ _ _ over (fun _ h => by cases h) (by kernel_rfl) (fun _ h => by cases h) wholeBack_row_tie rfl ⟨rfl, rfl⟩ (by kernel_rfl) rfl
    (fun f fn hf hfn => by
      obtain rfl : f = 8 := Option.some.inj ((show Tryd.prog.funcNamed "tombola/tombolalaw05.WholeBack" = some 8 by kernel_rfl).symm.trans hf) |>.symm
      obtain rfl : fn = Tryd.f8 := (Option.some.inj (Tryd.func8.symm.trans hfn)).symm
      exact ⟨by kernel_rfl, (fun j t ht => by
        rw [Tryd.params8] at ht
        have hm : t ∈ [26, 26, 9, 2] := by simpa using Array.mem_of_getElem? ht
        have hall : ([26, 26, 9, 2].all fun u => !Tryd.prog.wantsStandIn u) = true := by kernel_rfl
        exact (show Tryd.prog.wantsStandIn t = false by simpa using List.all_eq_true.1 hall t hm))⟩)
    (by kernel_rfl)
#print axioms proved
end Go.Proofs.YtgahnchfefngeaaDoor.wholeBack
