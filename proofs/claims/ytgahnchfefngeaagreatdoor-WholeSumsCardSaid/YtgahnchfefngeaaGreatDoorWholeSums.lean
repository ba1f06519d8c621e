/-
  PROVED: the statement WholeSums (tombolalaw05.WholeSums) about the landed commit: for every input the law returns true and leaves its arguments as they were. Conditions: none beyond those that the given row itself prints.
-/
import Derived.Test.YtgahnchfefngeaaGreatDoorCards
import Derived.Test.YtgahnchfefngeaaGreatDoorTie
import Derived.LaidMore
import Derived.Lay
import Derived.SevenTiedAt
import Derived.Stop.Joined
import Derived.Test.YtgahnchfefngeaaGreatDoorRows
import Derived.WalkKit
import Derived.ProofKit
import Derived.OpenShut
import Derived.RowKit3
import Derived.Test.YtgahnchfefngeaaGreatDoorGFrame
import Derived.Test.YtgahnchfefngeaaGreatDoorWholeAwake
import Derived.Test.YtgahnchfefngeaaGreatDoorWholeRefState
import Derived.Test.YtgahnchfefngeaaGreatDoorWholeRefOut
import Derived.Test.YtgahnchfefngeaaGreatDoorWholeOut
import Derived.Test.YtgahnchfefngeaaGreatDoorWholeOwn
import Derived.Test.YtgahnchfefngeaaGreatDoorRegOwn
import Derived.Test.YtgahnchfefngeaaGreatDoorWholeSO
namespace Go.Proofs.YtgahnchfefngeaaGreatDoor.wholeSums
open Go.ChangeShapes Go.WideShapes Go.ChangeAt Go.RowKit
set_option linter.unusedVariables false
set_option maxRecDepth 20000
open N
theorem own : ownKnob Tryz.prog.godebug = none := by kernel_rfl
open Go.Lib (decDigits nDigits decDigits_length nDigits_pos)
theorem sb_two {w0 w w' : World} {S : List Ent} {T : List Bx} {q r : Int} {k n c n' c' : Nat} {A A' : Option Addr} (h : SB w0 w S T) (hb : Below w.heap.size w w') (ho : N.Own w' w.heap.size A n c (limbs (mg q))) (ho' : N.Own w' w.heap.size A' n' c' (limbs (mg r))) (hn : n ≤ k) (hn' : n' ≤ k) :
    SB w0 w' (⟨A', n', c', k, limbs (mg r), mg r⟩ :: ⟨A, n, c, k, limbs (mg q), mg q⟩ :: S) T := by
  have h1 := h.new hb ho (k := k) hn (limbs_val (mg_nn q))
  have h2 := h.new hb ho' (k := k) hn' (limbs_val (mg_nn r))
  refine ⟨h1.st.cons ho'.sl hn' (limbs_val (mg_nn r)), h1.box, h1.from_, fun t ht => ?_⟩
  rcases List.mem_cons.1 ht with e | e
  · exact h2.apart t (by rw [e]; exact List.mem_cons_self)
  · exact h1.apart t e
set_option maxRecDepth 100000 in
set_option maxHeartbeats 4000000 in
theorem walk (w : World) (b0 : Bool) (A0 : Option Addr) (n0 c0 : Nat) (xs0 : List Int) (h0 : Sl w A0 n0 c0 xs0) (b1 : Bool) (A1 : Option Addr) (n1 c1 : Nat) (xs1 : List Int) (h1 : Sl w A1 n1 c1 xs1) :
    Calls Tryz.prog 4 #[.agg #[.bool b0, .slice A0 n0 c0], .agg #[.bool b1, .slice A1 n1 c1]] w fun e w' => e = .returned (.bool true) ∧ Below w.heap.size w w' := by
  have hc0 := h0.cap
  have hm0 := h0.max
  unfold maxLen at hm0
  have hc1 := h1.cap
  have hm1 := h1.max
  unfold maxLen at hm1
  by_cases hl : n0 ≤ 10 ∧ n1 ≤ 10
  · obtain ⟨hl0, hl1⟩ := hl
    obtain ⟨z0, hz0⟩ : ∃ z, iv b0 (val B xs0) = z := ⟨_, rfl⟩
    obtain ⟨z1, hz1⟩ : ∃ z, iv b1 (val B xs1) = z := ⟨_, rfl⟩
    have HZ0 := Lib.hid hz0
    have HZ1 := Lib.hid hz1
    have hS := Lib.hid (((SB.start w).old h0 hl0 rfl).old h1 hl1 rfl)
    clear h0 hz0 h1 hz1
    go_enter Tryz.func4, Tryz.ntmps4
    have h1 := ((hS.out.boxed (b := b0) (A := A0) (n := n0) (c := c0) rfl).boxed (b := b1) (A := A1) (n := n1) (c := c1) rfl)
    try simp only [World.size_alloc] at h1
    obtain ⟨p0, q0⟩ := h1.cs 0 rfl
    obtain ⟨p1, q1⟩ := h1.cs 1 rfl
    clear h1
    go_wp2_with fail
    clear p0 q0 p1 q1
    generalize hwa : World.alloc (World.alloc w _) _ = v1
    have h1 := ((hS.out.boxed rfl).boxed hwa)
    simp only [World.size_alloc] at h1
    have hsz : v1.heap.size = w.heap.size + 1 + 1 := by rw [← hwa]; simp only [World.size_alloc]
    try rw [← hsz]
    clear hsz
    clear hwa
    clear hS; have hS := Lib.hid h1; clear h1
    obtain ⟨x0, y0⟩ := hS.out.cs 0 rfl
    obtain ⟨x1, y1⟩ := hS.out.cs 1 rfl
    go_wp2_with fail
    go_at_call 6
    with_reducible refine (wlong2_n hS.out _ _ _ _ _ _ _ _ hl0 hl1).mono ?_
    rintro e v2 ⟨rfl, h1⟩
    clear x0 y0 x1 y1
    clear hS; have hS := Lib.hid h1; clear h1
    obtain ⟨x0, y0⟩ := hS.out.cs 0 rfl
    obtain ⟨x1, y1⟩ := hS.out.cs 1 rfl
    go_wp2_with fail
    clear x0 y0 x1 y1
    have HL1 := Lib.hid (hS.out.lt_ 0 rfl)
    have HL2 := Lib.hid (hS.out.lt_ 1 rfl)
    refine wp_region_ri (fs [[.val 23 (.agg #[.bool (b0), .slice A0 n0 c0])], [.raw 24 (b0) xs0 (val B xs0) 10], [.val 25 (.agg #[.bool (b1), .slice A1 n1 c1])], [.raw 26 (b1) xs1 (val B xs1) 10], [.box 5], [.box 6], [.boxr 5 (b0) xs0 (val B xs0) 10], [.boxr 6 (b1) xs1 (val B xs1) 10]]) [5, 6, 23, 24, 25, 26] hS.out (by simp) ?_ (by kernel_rfl) ?_
    · intro i hi L a w' S T D hp hno
      match i, hi with
      | 0, _ =>
        exact st_load D rfl (D.at0 rfl rfl) (D.subT _ (by repeat (first | exact List.mem_cons_self | apply List.mem_cons_of_mem))) rfl (of_decide_eq_true rfl) rfl rfl
      | 1, _ =>
        have p0 : a.eval (.tmp 23) = .agg #[.bool (b0), .slice A0 n0 c0] := D.ft (hp 0 (by kernel_rfl)) rfl
        have hv : #[Operand.tmp 23].map a.eval = #[.agg #[.bool (b0), .slice A0 n0 c0]] := by simp only [List.map_toArray, List.map_cons, List.map_nil, p0]
        have hg := D.sb.get (D.s0 (⟨A0, n0, c0, 10, xs0, val B xs0⟩ : Ent) (by repeat (first | exact List.mem_cons_self | apply List.mem_cons_of_mem)))
        exact st_raw D rfl hv Tryz.func21 (by kernel_rfl) rfl (own_any w' _ hg.1 (Nat.le_trans hg.2.1 (by decide))) hg.2.1 hg.2.2 rfl (of_decide_eq_true rfl) rfl rfl
      | 2, _ =>
        exact st_load D rfl (D.at0 rfl rfl) (D.subT _ (by repeat (first | exact List.mem_cons_self | apply List.mem_cons_of_mem))) rfl (of_decide_eq_true rfl) rfl rfl
      | 3, _ =>
        have p0 : a.eval (.tmp 25) = .agg #[.bool (b1), .slice A1 n1 c1] := D.ft (hp 2 (by kernel_rfl)) rfl
        have hv : #[Operand.tmp 25].map a.eval = #[.agg #[.bool (b1), .slice A1 n1 c1]] := by simp only [List.map_toArray, List.map_cons, List.map_nil, p0]
        have hg := D.sb.get (D.s0 (⟨A1, n1, c1, 10, xs1, val B xs1⟩ : Ent) (by repeat (first | exact List.mem_cons_self | apply List.mem_cons_of_mem)))
        exact st_raw D rfl hv Tryz.func21 (by kernel_rfl) rfl (own_any w' _ hg.1 (Nat.le_trans hg.2.1 (by decide))) hg.2.1 hg.2.2 rfl (of_decide_eq_true rfl) rfl rfl
      | 4, _ =>
        exact st_alloc D rfl rfl (of_decide_eq_true rfl) hno (by kernel_rfl) rfl
      | 5, _ =>
        exact st_alloc D rfl rfl (of_decide_eq_true rfl) hno (by kernel_rfl) rfl
      | 6, _ =>
        obtain ⟨A, n, c, p, m⟩ : Ft.ok a S T (.raw 24 (b0) xs0 (val B xs0) 10) := D.ft (hp 1 (by kernel_rfl)) rfl
        exact st_store D rfl (hp 4 (by kernel_rfl)) rfl (by decide) p m rfl rfl
      | 7, _ =>
        obtain ⟨A, n, c, p, m⟩ : Ft.ok a S T (.raw 26 (b1) xs1 (val B xs1) 10) := D.ft (hp 3 (by kernel_rfl)) rfl
        exact st_store D rfl (hp 5 (by kernel_rfl)) rfl (by decide) p m rfl rfl
      | i + 8, hi => exact absurd hi (by show ¬ (i + 8 < 8); omega)
    · intro a w5 S T hfr hsb hT0 hnd hf hsep hold hbl hhi hown
      obtain ⟨ga, Aa, na, ca, ea, qa, ma⟩ : Ft.ok a S T (.boxr 5 (b0) xs0 (val B xs0) 10) := hf 6 (by decide) _ (List.mem_singleton.2 rfl)
      have HOa := Lib.hid (hown _ ma)
      obtain ⟨gb, Ab, nb, cb, eb, qb, mb⟩ : Ft.ok a S T (.boxr 6 (b1) xs1 (val B xs1) 10) := hf 7 (by decide) _ (List.mem_singleton.2 rfl)
      have HOb := Lib.hid (hown _ mb)
      have HGa := Lib.hid (show v2.heap.size ≤ ga from (hhi _ qa).elim (fun h => absurd ea (hold 6 (by decide) (.boxr 5 (b0) xs0 (val B xs0) 10) (List.mem_singleton.2 rfl) rfl _ h)) id)
      have HGb := Lib.hid (show v2.heap.size ≤ gb from (hhi _ qb).elim (fun h => absurd eb (hold 7 (by decide) (.boxr 6 (b1) xs1 (val B xs1) 10) (List.mem_singleton.2 rfl) rfl _ h)) id)
      have HNba := Lib.hid (show gb ≠ ga from fun e => hsep 7 6 (by decide) (by decide) (.boxr 6 (b1) xs1 (val B xs1) 10) (List.mem_singleton.2 rfl) (.boxr 5 (b0) xs0 (val B xs0) 10) (List.mem_singleton.2 rfl) rfl rfl (show (6 : Nat) ≠ 5 by decide) (eb.trans (by rw [e]; exact ea.symm)))
      have HBL := Lib.hid hbl
      clear hbl
      have h1 := hsb.pick (mem_more (List.mem_append_left _ mb) (mem_more (List.mem_append_left _ ma) (fun t ht => List.mem_append_right _ ht))) (mem_more qb (mem_more qa hT0))
      have hc := hfr.closed
      simp only [List.map_cons, List.map_nil] at hc
      rw [ea, eb] at hc
      clear ea eb hf hT0 hnd hfr hsb hsep hold hhi hown ma mb qa qb
      generalize a.eval (.tmp 23) = u23 at hc
      generalize a.eval (.tmp 24) = u24 at hc
      generalize a.eval (.tmp 25) = u25 at hc
      generalize a.eval (.tmp 26) = u26 at hc
      subst hc
      clear hS; have hS := Lib.hid h1; clear h1
      simp only [putAll, List.foldl_cons, List.foldl_nil, Act.put, List.setIfInBounds_toArray, List.set_cons_zero, List.set_cons_succ]
      obtain ⟨Q, R, E, hW⟩ : ∃ q r e, Way z0 z1 q r e := by
        by_cases h : z1 = 0
        · exact ⟨_, _, _, by rw [h]; exact way_zero _⟩
        · exact ⟨_, _, _, way_yes _ h⟩
      have HW := Lib.hid hW
      clear hW
      obtain ⟨x0, y0⟩ := hS.out.cs 0 rfl
      obtain ⟨x1, y1⟩ := hS.out.cs 1 rfl
      obtain ⟨x2, y2⟩ := hS.out.cs 2 rfl
      obtain ⟨x3, y3⟩ := hS.out.cs 3 rfl
      go_wp2_with fail
      go_at_call 22
      with_reducible refine (rdiv_o hS.out (by repeat (first | exact List.mem_cons_self | apply List.mem_cons_of_mem)) (by repeat (first | exact List.mem_cons_self | apply List.mem_cons_of_mem)) (by omega) (by omega) HZ0.out HZ1.out HW.out).mono ?_
      rintro e v3 ⟨Ap, np, cp, As, ns, cs, rfl, hnp, hns, hop, hos, hbb⟩
      clear x0 y0 x1 y1 x2 y2 x3 y3
      have h1 := sb_two (k := 120) hS.out hbb hop hos (by omega) (by omega)
      clear hbb hop hos hnp hns
      clear hS; have hS := Lib.hid h1; clear h1
      obtain ⟨x0, y0⟩ := hS.out.cs 0 rfl
      obtain ⟨x1, y1⟩ := hS.out.cs 1 rfl
      obtain ⟨x2, y2⟩ := hS.out.cs 2 rfl
      obtain ⟨x3, y3⟩ := hS.out.cs 3 rfl
      have h1 := ((hS.out.boxed (b := sg Q) (A := Ap) (n := np) (c := cp) rfl).boxed (b := sg R) (A := As) (n := ns) (c := cs) rfl)
      try simp only [World.size_alloc] at h1
      obtain ⟨p0, q0⟩ := h1.cs 0 rfl
      obtain ⟨p1, q1⟩ := h1.cs 1 rfl
      obtain ⟨p2, q2⟩ := h1.cs 2 rfl
      obtain ⟨p3, q3⟩ := h1.cs 3 rfl
      obtain ⟨p4, q4⟩ := h1.cs 4 rfl
      obtain ⟨p5, q5⟩ := h1.cs 5 rfl
      clear h1
      go_wp2_with fail
      clear x0 y0 x1 y1 x2 y2 x3 y3
      clear p0 q0 p1 q1 p2 q2 p3 q3 p4 q4 p5 q5
      generalize hwa : World.alloc (World.alloc v3 _) _ = v4
      have h1 := ((hS.out.boxed rfl).boxed hwa)
      simp only [World.size_alloc] at h1
      have hsz : v4.heap.size = v3.heap.size + 1 + 1 := by rw [← hwa]; simp only [World.size_alloc]
      try rw [← hsz]
      clear hsz
      have HL3 := Lib.hid (hS.out.lt_ 0 rfl)
      have HL4 := Lib.hid (hS.out.lt_ 1 rfl)
      have HL5 := Lib.hid (hS.out.lt_ 2 rfl)
      have HL6 := Lib.hid (hS.out.lt_ 3 rfl)
      clear hwa
      clear hS; have hS := Lib.hid h1; clear h1
      obtain ⟨x0, y0⟩ := hS.out.cs 0 rfl
      obtain ⟨x1, y1⟩ := hS.out.cs 1 rfl
      obtain ⟨x2, y2⟩ := hS.out.cs 2 rfl
      obtain ⟨x3, y3⟩ := hS.out.cs 3 rfl
      obtain ⟨x4, y4⟩ := hS.out.cs 4 rfl
      obtain ⟨x5, y5⟩ := hS.out.cs 5 rfl
      go_wp2_with fail
      clear x0 y0 x1 y1 x2 y2 x3 y3 x4 y4 x5 y5
      go_loopw [10] (fun i wr => ∃ k : Nat, k ≤ 2 ∧ i = .int .i64 k ∧ SB w wr [⟨As, ns, cs, 120, limbs (mg R), mg R⟩, ⟨Ap, np, cp, 120, limbs (mg Q), mg Q⟩, ⟨Ab, nb, cb, 10, xs1, val B xs1⟩, ⟨Aa, na, ca, 10, xs0, val B xs0⟩, ⟨A1, n1, c1, 10, xs1, val B xs1⟩, ⟨A0, n0, c0, 10, xs0, val B xs0⟩] [⟨v3.heap.size + 1, sg R, As, ns, cs⟩, ⟨v3.heap.size, sg Q, Ap, np, cp⟩, ⟨gb, b1, Ab, nb, cb⟩, ⟨ga, b0, Aa, na, ca⟩, ⟨w.heap.size + 1, b1, A1, n1, c1⟩, ⟨w.heap.size, b0, A0, n0, c0⟩]) (fun i _ => 2 - (intOf i).toNat)
      case atStart => exact ⟨0, by omega, rfl, hS.out⟩
      case round =>
        obtain ⟨k, hk, rfl, hS0⟩ := hrel
        obtain ⟨vr, rfl⟩ : ∃ vr : World, vr = wr := ⟨_, rfl⟩
        clear hS
        have hS := Lib.hid hS0
        have HS0 := Lib.hid hS0
        clear hS0
        by_cases hlt : k < 2
        · obtain ⟨x0, y0⟩ := hS.out.cs 0 rfl
          obtain ⟨x1, y1⟩ := hS.out.cs 1 rfl
          obtain ⟨x2, y2⟩ := hS.out.cs 2 rfl
          obtain ⟨x3, y3⟩ := hS.out.cs 3 rfl
          obtain ⟨x4, y4⟩ := hS.out.cs 4 rfl
          obtain ⟨x5, y5⟩ := hS.out.cs 5 rfl
          go_wp2_with fail
          clear x0 y0 x1 y1 x2 y2 x3 y3 x4 y4 x5 y5
          refine wp_region_ri (fs [[.val 38 (.agg #[.bool (b0), .slice A0 n0 c0])], [.int 39 (-z0) 10], [.val 40 (.agg #[.bool (b0), .slice A0 n0 c0])], [.val 41 (.agg #[.bool (b1), .slice A1 n1 c1])], [.int 42 (z0 + z1) (10 + 10 + 1)], [.val 43 (.agg #[.bool (b0), .slice A0 n0 c0])], [.val 44 (.agg #[.bool (b1), .slice A1 n1 c1])], [.int 45 (z0 - z1) (10 + 10 + 1)], [.val 46 (.agg #[.bool (b0), .slice A0 n0 c0])], [.val 47 (.agg #[.bool (b1), .slice A1 n1 c1])], [.int 48 (z0 * z1) (10 + 10)], [.box 11], [.box 12], [.box 13], [.box 14], [.boxr 11 (sg (-z0)) (limbs (mg (-z0))) (mg (-z0)) 10], [.boxr 12 (sg (z0 + z1)) (limbs (mg (z0 + z1))) (mg (z0 + z1)) (10 + 10 + 1)], [.boxr 13 (sg (z0 - z1)) (limbs (mg (z0 - z1))) (mg (z0 - z1)) (10 + 10 + 1)], [.boxr 14 (sg (z0 * z1)) (limbs (mg (z0 * z1))) (mg (z0 * z1)) (10 + 10)]]) [11, 12, 13, 14, 38, 39, 40, 41, 42, 43, 44, 45, 46, 47, 48] hS.out (by have hHL1 := HL1.out; have hHL2 := HL2.out; have hHGa := HGa.out; have hHGb := HGb.out; have hHNba := HNba.out; have hHL3 := HL3.out; have hHL4 := HL4.out; have hHL5 := HL5.out; have hHL6 := HL6.out; (try simp only at hHL1 hHL2 hHGa hHGb hHNba hHL3 hHL4 hHL5 hHL6); simp only [List.map_cons, List.map_nil, List.nodup_cons, List.mem_cons, List.not_mem_nil, or_false, not_or, List.nodup_nil, and_true, not_false_eq_true]; omega) ?_ (by kernel_rfl) ?_
          · intro i hi L a w' S T D hp hno
            match i, hi with
            | 0, _ =>
              exact st_load D rfl (D.at0 rfl rfl) (D.subT _ (by repeat (first | exact List.mem_cons_self | apply List.mem_cons_of_mem))) rfl (of_decide_eq_true rfl) rfl rfl
            | 1, _ =>
              have p0 : a.eval (.tmp 38) = .agg #[.bool (b0), .slice A0 n0 c0] := D.ft (hp 0 (by kernel_rfl)) rfl
              have hv : #[Operand.tmp 38].map a.eval = #[.agg #[.bool (b0), .slice A0 n0 c0]] := by simp only [List.map_toArray, List.map_cons, List.map_nil, p0]
              exact st_int D rfl hv Tryz.func23 (by kernel_rfl) rfl (neg_o D.sb (D.s0 _ (by repeat (first | exact List.mem_cons_self | apply List.mem_cons_of_mem))) (by omega) HZ0.out) (by omega) rfl (of_decide_eq_true rfl) rfl rfl
            | 2, _ =>
              exact st_load D rfl (D.at0 rfl rfl) (D.subT _ (by repeat (first | exact List.mem_cons_self | apply List.mem_cons_of_mem))) rfl (of_decide_eq_true rfl) rfl rfl
            | 3, _ =>
              exact st_load D rfl (D.at0 rfl rfl) (D.subT _ (by repeat (first | exact List.mem_cons_self | apply List.mem_cons_of_mem))) rfl (of_decide_eq_true rfl) rfl rfl
            | 4, _ =>
              have p0 : a.eval (.tmp 40) = .agg #[.bool (b0), .slice A0 n0 c0] := D.ft (hp 2 (by kernel_rfl)) rfl
              have p1 : a.eval (.tmp 41) = .agg #[.bool (b1), .slice A1 n1 c1] := D.ft (hp 3 (by kernel_rfl)) rfl
              have hv : #[Operand.tmp 40, Operand.tmp 41].map a.eval = #[.agg #[.bool (b0), .slice A0 n0 c0], .agg #[.bool (b1), .slice A1 n1 c1]] := by simp only [List.map_toArray, List.map_cons, List.map_nil, p0, p1]
              exact st_int D rfl hv Tryz.func24 (by kernel_rfl) rfl (add_o D.sb (D.s0 _ (by repeat (first | exact List.mem_cons_self | apply List.mem_cons_of_mem))) (D.s0 _ (by repeat (first | exact List.mem_cons_self | apply List.mem_cons_of_mem))) (by omega) (by omega) HZ0.out HZ1.out) (by omega) rfl (of_decide_eq_true rfl) rfl rfl
            | 5, _ =>
              exact st_load D rfl (D.at0 rfl rfl) (D.subT _ (by repeat (first | exact List.mem_cons_self | apply List.mem_cons_of_mem))) rfl (of_decide_eq_true rfl) rfl rfl
            | 6, _ =>
              exact st_load D rfl (D.at0 rfl rfl) (D.subT _ (by repeat (first | exact List.mem_cons_self | apply List.mem_cons_of_mem))) rfl (of_decide_eq_true rfl) rfl rfl
            | 7, _ =>
              have p0 : a.eval (.tmp 43) = .agg #[.bool (b0), .slice A0 n0 c0] := D.ft (hp 5 (by kernel_rfl)) rfl
              have p1 : a.eval (.tmp 44) = .agg #[.bool (b1), .slice A1 n1 c1] := D.ft (hp 6 (by kernel_rfl)) rfl
              have hv : #[Operand.tmp 43, Operand.tmp 44].map a.eval = #[.agg #[.bool (b0), .slice A0 n0 c0], .agg #[.bool (b1), .slice A1 n1 c1]] := by simp only [List.map_toArray, List.map_cons, List.map_nil, p0, p1]
              exact st_int D rfl hv Tryz.func25 (by kernel_rfl) rfl (sub_o D.sb (D.s0 _ (by repeat (first | exact List.mem_cons_self | apply List.mem_cons_of_mem))) (D.s0 _ (by repeat (first | exact List.mem_cons_self | apply List.mem_cons_of_mem))) (by omega) (by omega) HZ0.out HZ1.out) (by omega) rfl (of_decide_eq_true rfl) rfl rfl
            | 8, _ =>
              exact st_load D rfl (D.at0 rfl rfl) (D.subT _ (by repeat (first | exact List.mem_cons_self | apply List.mem_cons_of_mem))) rfl (of_decide_eq_true rfl) rfl rfl
            | 9, _ =>
              exact st_load D rfl (D.at0 rfl rfl) (D.subT _ (by repeat (first | exact List.mem_cons_self | apply List.mem_cons_of_mem))) rfl (of_decide_eq_true rfl) rfl rfl
            | 10, _ =>
              have p0 : a.eval (.tmp 46) = .agg #[.bool (b0), .slice A0 n0 c0] := D.ft (hp 8 (by kernel_rfl)) rfl
              have p1 : a.eval (.tmp 47) = .agg #[.bool (b1), .slice A1 n1 c1] := D.ft (hp 9 (by kernel_rfl)) rfl
              have hv : #[Operand.tmp 46, Operand.tmp 47].map a.eval = #[.agg #[.bool (b0), .slice A0 n0 c0], .agg #[.bool (b1), .slice A1 n1 c1]] := by simp only [List.map_toArray, List.map_cons, List.map_nil, p0, p1]
              exact st_int D rfl hv Tryz.func26 (by kernel_rfl) rfl (mul_o D.sb (D.s0 _ (by repeat (first | exact List.mem_cons_self | apply List.mem_cons_of_mem))) (D.s0 _ (by repeat (first | exact List.mem_cons_self | apply List.mem_cons_of_mem))) (by omega) (by omega) HZ0.out HZ1.out) (by omega) rfl (of_decide_eq_true rfl) rfl rfl
            | 11, _ =>
              exact st_alloc D rfl rfl (of_decide_eq_true rfl) hno (by kernel_rfl) rfl
            | 12, _ =>
              exact st_alloc D rfl rfl (of_decide_eq_true rfl) hno (by kernel_rfl) rfl
            | 13, _ =>
              exact st_alloc D rfl rfl (of_decide_eq_true rfl) hno (by kernel_rfl) rfl
            | 14, _ =>
              exact st_alloc D rfl rfl (of_decide_eq_true rfl) hno (by kernel_rfl) rfl
            | 15, _ =>
              obtain ⟨A, n, c, p, m⟩ : Ft.ok a S T (.raw 39 (sg (-z0)) (limbs (mg (-z0))) (mg (-z0)) 10) := D.ft (hp 1 (by kernel_rfl)) rfl
              exact st_store D rfl (hp 11 (by kernel_rfl)) rfl (by decide) p m rfl rfl
            | 16, _ =>
              obtain ⟨A, n, c, p, m⟩ : Ft.ok a S T (.raw 42 (sg (z0 + z1)) (limbs (mg (z0 + z1))) (mg (z0 + z1)) (10 + 10 + 1)) := D.ft (hp 4 (by kernel_rfl)) rfl
              exact st_store D rfl (hp 12 (by kernel_rfl)) rfl (by decide) p m rfl rfl
            | 17, _ =>
              obtain ⟨A, n, c, p, m⟩ : Ft.ok a S T (.raw 45 (sg (z0 - z1)) (limbs (mg (z0 - z1))) (mg (z0 - z1)) (10 + 10 + 1)) := D.ft (hp 7 (by kernel_rfl)) rfl
              exact st_store D rfl (hp 13 (by kernel_rfl)) rfl (by decide) p m rfl rfl
            | 18, _ =>
              obtain ⟨A, n, c, p, m⟩ : Ft.ok a S T (.raw 48 (sg (z0 * z1)) (limbs (mg (z0 * z1))) (mg (z0 * z1)) (10 + 10)) := D.ft (hp 10 (by kernel_rfl)) rfl
              exact st_store D rfl (hp 14 (by kernel_rfl)) rfl (by decide) p m rfl rfl
            | i + 19, hi => exact absurd hi (by show ¬ (i + 19 < 19); omega)
          · intro a w5 S T hfr hsb hT0 hnd hf hsep hold hbl hhi hown
            obtain ⟨gn, An, nn, cn, en, qn, mn⟩ : Ft.ok a S T (.boxr 11 (sg (-z0)) (limbs (mg (-z0))) (mg (-z0)) 10) := hf 15 (by decide) _ (List.mem_singleton.2 rfl)
            have HOn := Lib.hid (hown _ mn)
            obtain ⟨gt, At, nt, ct, et, qt, mt⟩ : Ft.ok a S T (.boxr 12 (sg (z0 + z1)) (limbs (mg (z0 + z1))) (mg (z0 + z1)) (10 + 10 + 1)) := hf 16 (by decide) _ (List.mem_singleton.2 rfl)
            have HOt := Lib.hid (hown _ mt)
            obtain ⟨gd, Ad, nd, cd, ed, qd, md⟩ : Ft.ok a S T (.boxr 13 (sg (z0 - z1)) (limbs (mg (z0 - z1))) (mg (z0 - z1)) (10 + 10 + 1)) := hf 17 (by decide) _ (List.mem_singleton.2 rfl)
            have HOd := Lib.hid (hown _ md)
            obtain ⟨gm, Am, nm, cm, em, qm, mm⟩ : Ft.ok a S T (.boxr 14 (sg (z0 * z1)) (limbs (mg (z0 * z1))) (mg (z0 * z1)) (10 + 10)) := hf 18 (by decide) _ (List.mem_singleton.2 rfl)
            have HOm := Lib.hid (hown _ mm)
            have HBL := Lib.hid hbl
            clear hbl
            have h1 := hsb.pick (mem_more (List.mem_append_left _ mm) (mem_more (List.mem_append_left _ md) (mem_more (List.mem_append_left _ mt) (mem_more (List.mem_append_left _ mn) (fun t ht => List.mem_append_right _ ht))))) (mem_more qm (mem_more qd (mem_more qt (mem_more qn hT0))))
            have hc := hfr.closed
            simp only [List.map_cons, List.map_nil] at hc
            rw [en, et, ed, em] at hc
            clear en et ed em hf hT0 hnd hfr hsb hsep hold hhi hown mn mt md mm qn qt qd qm
            generalize a.eval (.tmp 38) = u38 at hc
            generalize a.eval (.tmp 39) = u39 at hc
            generalize a.eval (.tmp 40) = u40 at hc
            generalize a.eval (.tmp 41) = u41 at hc
            generalize a.eval (.tmp 42) = u42 at hc
            generalize a.eval (.tmp 43) = u43 at hc
            generalize a.eval (.tmp 44) = u44 at hc
            generalize a.eval (.tmp 45) = u45 at hc
            generalize a.eval (.tmp 46) = u46 at hc
            generalize a.eval (.tmp 47) = u47 at hc
            generalize a.eval (.tmp 48) = u48 at hc
            subst hc
            clear hS; have hS := Lib.hid h1; clear h1
            simp only [putAll, List.foldl_cons, List.foldl_nil, Act.put, List.setIfInBounds_toArray, List.set_cons_zero, List.set_cons_succ]
            have h2 : SO w vr w5 _ _ [⟨An, nn, cn, 10, limbs (mg (-z0)), mg (-z0)⟩, ⟨At, nt, ct, (10 + 10 + 1), limbs (mg (z0 + z1)), mg (z0 + z1)⟩, ⟨Ad, nd, cd, (10 + 10 + 1), limbs (mg (z0 - z1)), mg (z0 - z1)⟩, ⟨Am, nm, cm, (10 + 10), limbs (mg (z0 * z1)), mg (z0 * z1)⟩] := ⟨hS.out, HBL.out, fun t ht => by
              simp only [List.mem_cons, List.not_mem_nil, or_false] at ht
              rcases ht with rfl | rfl | rfl | rfl
              · exact HOn.out.1
              · exact HOt.out.1
              · exact HOd.out.1
              · exact HOm.out.1⟩
            clear hS
            have hS := Lib.hid h2
            clear h2
            obtain ⟨x0, y0⟩ := hS.out.cs 0 rfl
            obtain ⟨x1, y1⟩ := hS.out.cs 1 rfl
            obtain ⟨x2, y2⟩ := hS.out.cs 2 rfl
            obtain ⟨x3, y3⟩ := hS.out.cs 3 rfl
            obtain ⟨x4, y4⟩ := hS.out.cs 4 rfl
            obtain ⟨x5, y5⟩ := hS.out.cs 5 rfl
            obtain ⟨x6, y6⟩ := hS.out.cs 6 rfl
            obtain ⟨x7, y7⟩ := hS.out.cs 7 rfl
            obtain ⟨x8, y8⟩ := hS.out.cs 8 rfl
            obtain ⟨x9, y9⟩ := hS.out.cs 9 rfl
            go_wp2_with fail
            go_at_call 27
            with_reducible refine (so_div hS.out (by repeat (first | exact List.mem_cons_self | apply List.mem_cons_of_mem)) (by repeat (first | exact List.mem_cons_self | apply List.mem_cons_of_mem)) (by omega) (by omega) HZ0.out HZ1.out HW.out).mono ?_
            rintro e v5 ⟨Aq, nq, cq, Ar, nr, cr, rfl, h1⟩
            clear x0 y0 x1 y1 x2 y2 x3 y3 x4 y4 x5 y5 x6 y6 x7 y7 x8 y8 x9 y9
            clear hS; have hS := Lib.hid h1; clear h1
            obtain ⟨x0, y0⟩ := hS.out.cs 0 rfl
            obtain ⟨x1, y1⟩ := hS.out.cs 1 rfl
            obtain ⟨x2, y2⟩ := hS.out.cs 2 rfl
            obtain ⟨x3, y3⟩ := hS.out.cs 3 rfl
            obtain ⟨x4, y4⟩ := hS.out.cs 4 rfl
            obtain ⟨x5, y5⟩ := hS.out.cs 5 rfl
            obtain ⟨x6, y6⟩ := hS.out.cs 6 rfl
            obtain ⟨x7, y7⟩ := hS.out.cs 7 rfl
            obtain ⟨x8, y8⟩ := hS.out.cs 8 rfl
            obtain ⟨x9, y9⟩ := hS.out.cs 9 rfl
            have h1 := ((hS.out.boxed (b := sg Q) (A := Aq) (n := nq) (c := cq) rfl).boxed (b := sg R) (A := Ar) (n := nr) (c := cr) rfl)
            try simp only [World.size_alloc] at h1
            obtain ⟨p0, q0⟩ := h1.cs 0 rfl
            obtain ⟨p1, q1⟩ := h1.cs 1 rfl
            obtain ⟨p2, q2⟩ := h1.cs 2 rfl
            obtain ⟨p3, q3⟩ := h1.cs 3 rfl
            obtain ⟨p4, q4⟩ := h1.cs 4 rfl
            obtain ⟨p5, q5⟩ := h1.cs 5 rfl
            obtain ⟨p6, q6⟩ := h1.cs 6 rfl
            obtain ⟨p7, q7⟩ := h1.cs 7 rfl
            obtain ⟨p8, q8⟩ := h1.cs 8 rfl
            obtain ⟨p9, q9⟩ := h1.cs 9 rfl
            obtain ⟨p10, q10⟩ := h1.cs 10 rfl
            obtain ⟨p11, q11⟩ := h1.cs 11 rfl
            clear h1
            go_wp2_with fail
            clear x0 y0 x1 y1 x2 y2 x3 y3 x4 y4 x5 y5 x6 y6 x7 y7 x8 y8 x9 y9
            clear p0 q0 p1 q1 p2 q2 p3 q3 p4 q4 p5 q5 p6 q6 p7 q7 p8 q8 p9 q9 p10 q10 p11 q11
            generalize hwa : World.alloc (World.alloc v5 _) _ = v6
            have h1 := ((hS.out.boxed rfl).boxed hwa)
            simp only [World.size_alloc] at h1
            have hsz : v6.heap.size = v5.heap.size + 1 + 1 := by rw [← hwa]; simp only [World.size_alloc]
            try rw [← hsz]
            clear hsz
            have HL7 := Lib.hid (hS.out.lt_ 0 rfl)
            have HL8 := Lib.hid (hS.out.lt_ 1 rfl)
            have HL9 := Lib.hid (hS.out.lt_ 2 rfl)
            have HL10 := Lib.hid (hS.out.lt_ 3 rfl)
            have HL11 := Lib.hid (hS.out.lt_ 4 rfl)
            have HL12 := Lib.hid (hS.out.lt_ 5 rfl)
            have HL13 := Lib.hid (hS.out.lt_ 6 rfl)
            have HL14 := Lib.hid (hS.out.lt_ 7 rfl)
            have HL15 := Lib.hid (hS.out.lt_ 8 rfl)
            have HL16 := Lib.hid (hS.out.lt_ 9 rfl)
            clear hwa
            clear hS; have hS := Lib.hid h1; clear h1
            obtain ⟨x0, y0⟩ := hS.out.cs 0 rfl
            obtain ⟨x1, y1⟩ := hS.out.cs 1 rfl
            obtain ⟨x2, y2⟩ := hS.out.cs 2 rfl
            obtain ⟨x3, y3⟩ := hS.out.cs 3 rfl
            obtain ⟨x4, y4⟩ := hS.out.cs 4 rfl
            obtain ⟨x5, y5⟩ := hS.out.cs 5 rfl
            obtain ⟨x6, y6⟩ := hS.out.cs 6 rfl
            obtain ⟨x7, y7⟩ := hS.out.cs 7 rfl
            obtain ⟨x8, y8⟩ := hS.out.cs 8 rfl
            obtain ⟨x9, y9⟩ := hS.out.cs 9 rfl
            obtain ⟨x10, y10⟩ := hS.out.cs 10 rfl
            obtain ⟨x11, y11⟩ := hS.out.cs 11 rfl
            go_wp2_with fail
            clear x0 y0 x1 y1 x2 y2 x3 y3 x4 y4 x5 y5 x6 y6 x7 y7 x8 y8 x9 y9 x10 y10 x11 y11
            have h1 := hS.out.drew
            clear hS; have hS := Lib.hid h1; clear h1
            try simp only [List.append_eq, List.cons_append, List.nil_append]
            go_region_held3 (fun W => (W.cell? ⟨v5.heap.size + 1, 0, none⟩ = some (.bool (sg R)) ∧ W.cell? ⟨v5.heap.size + 1, 1, none⟩ = some (.slice Ar nr cr)) ∧ (W.cell? ⟨v5.heap.size, 0, none⟩ = some (.bool (sg Q)) ∧ W.cell? ⟨v5.heap.size, 1, none⟩ = some (.slice Aq nq cq)) ∧ (W.cell? ⟨gm, 0, none⟩ = some (.bool (sg (z0 * z1))) ∧ W.cell? ⟨gm, 1, none⟩ = some (.slice Am nm cm)) ∧ (W.cell? ⟨gd, 0, none⟩ = some (.bool (sg (z0 - z1))) ∧ W.cell? ⟨gd, 1, none⟩ = some (.slice Ad nd cd)) ∧ (W.cell? ⟨gt, 0, none⟩ = some (.bool (sg (z0 + z1))) ∧ W.cell? ⟨gt, 1, none⟩ = some (.slice At nt ct)) ∧ (W.cell? ⟨gn, 0, none⟩ = some (.bool (sg (-z0))) ∧ W.cell? ⟨gn, 1, none⟩ = some (.slice An nn cn)) ∧ (W.cell? ⟨v3.heap.size + 1, 0, none⟩ = some (.bool (sg R)) ∧ W.cell? ⟨v3.heap.size + 1, 1, none⟩ = some (.slice As ns cs)) ∧ (W.cell? ⟨v3.heap.size, 0, none⟩ = some (.bool (sg Q)) ∧ W.cell? ⟨v3.heap.size, 1, none⟩ = some (.slice Ap np cp)) ∧ (W.cell? ⟨gb, 0, none⟩ = some (.bool (b1)) ∧ W.cell? ⟨gb, 1, none⟩ = some (.slice Ab nb cb)) ∧ (W.cell? ⟨ga, 0, none⟩ = some (.bool (b0)) ∧ W.cell? ⟨ga, 1, none⟩ = some (.slice Aa na ca)) ∧ (W.cell? ⟨w.heap.size + 1, 0, none⟩ = some (.bool (b1)) ∧ W.cell? ⟨w.heap.size + 1, 1, none⟩ = some (.slice A1 n1 c1)) ∧ (W.cell? ⟨w.heap.size, 0, none⟩ = some (.bool (b0)) ∧ W.cell? ⟨w.heap.size, 1, none⟩ = some (.slice A0 n0 c0))) (first | with_reducible exact ⟨hS.out.cs 0 rfl, hS.out.cs 1 rfl, hS.out.cs 2 rfl, hS.out.cs 3 rfl, hS.out.cs 4 rfl, hS.out.cs 5 rfl, hS.out.cs 6 rfl, hS.out.cs 7 rfl, hS.out.cs 8 rfl, hS.out.cs 9 rfl, hS.out.cs 10 rfl, hS.out.cs 11 rfl⟩ | with_reducible exact ⟨hS.out.drew.cs 0 rfl, hS.out.drew.cs 1 rfl, hS.out.drew.cs 2 rfl, hS.out.drew.cs 3 rfl, hS.out.drew.cs 4 rfl, hS.out.drew.cs 5 rfl, hS.out.drew.cs 6 rfl, hS.out.drew.cs 7 rfl, hS.out.drew.cs 8 rfl, hS.out.drew.cs 9 rfl, hS.out.drew.cs 10 rfl, hS.out.drew.cs 11 rfl⟩ | with_reducible exact ⟨(hS.out.alloc _).cs 0 rfl, (hS.out.alloc _).cs 1 rfl, (hS.out.alloc _).cs 2 rfl, (hS.out.alloc _).cs 3 rfl, (hS.out.alloc _).cs 4 rfl, (hS.out.alloc _).cs 5 rfl, (hS.out.alloc _).cs 6 rfl, (hS.out.alloc _).cs 7 rfl, (hS.out.alloc _).cs 8 rfl, (hS.out.alloc _).cs 9 rfl, (hS.out.alloc _).cs 10 rfl, (hS.out.alloc _).cs 11 rfl⟩ | with_reducible exact ⟨((hS.out.alloc _).alloc _).cs 0 rfl, ((hS.out.alloc _).alloc _).cs 1 rfl, ((hS.out.alloc _).alloc _).cs 2 rfl, ((hS.out.alloc _).alloc _).cs 3 rfl, ((hS.out.alloc _).alloc _).cs 4 rfl, ((hS.out.alloc _).alloc _).cs 5 rfl, ((hS.out.alloc _).alloc _).cs 6 rfl, ((hS.out.alloc _).alloc _).cs 7 rfl, ((hS.out.alloc _).alloc _).cs 8 rfl, ((hS.out.alloc _).alloc _).cs 9 rfl, ((hS.out.alloc _).alloc _).cs 10 rfl, ((hS.out.alloc _).alloc _).cs 11 rfl⟩) (first
              | (go_at_call 28; (with_reducible refine (so_rneg hS.out (by repeat (first | exact List.mem_cons_self | apply List.mem_cons_of_mem)) (by omega) HZ0.out).mono ?_); rintro e w' ⟨Ai, ni, ci, rfl, h1⟩; clear hS; have hS := Lib.hid h1; clear h1)
              | (go_at_call 29; (with_reducible refine (so_radd hS.out (by repeat (first | exact List.mem_cons_self | apply List.mem_cons_of_mem)) (by repeat (first | exact List.mem_cons_self | apply List.mem_cons_of_mem)) (by omega) (by omega) HZ0.out HZ1.out).mono ?_); rintro e w' ⟨Ai, ni, ci, rfl, h1⟩; clear hS; have hS := Lib.hid h1; clear h1)
              | (go_at_call 30; (with_reducible refine (so_rsub hS.out (by repeat (first | exact List.mem_cons_self | apply List.mem_cons_of_mem)) (by repeat (first | exact List.mem_cons_self | apply List.mem_cons_of_mem)) (by omega) (by omega) HZ0.out HZ1.out).mono ?_); rintro e w' ⟨Ai, ni, ci, rfl, h1⟩; clear hS; have hS := Lib.hid h1; clear h1)
              | (go_at_call 31; (with_reducible refine (so_rmul hS.out (by repeat (first | exact List.mem_cons_self | apply List.mem_cons_of_mem)) (by repeat (first | exact List.mem_cons_self | apply List.mem_cons_of_mem)) (by omega) (by omega) HZ0.out HZ1.out).mono ?_); rintro e w' ⟨Ai, ni, ci, rfl, h1⟩; clear hS; have hS := Lib.hid h1; clear h1)
              | (go_at_call 10; (with_reducible refine (so_rsame hS.out (by repeat (first | exact List.mem_cons_self | apply List.mem_cons_of_mem)) (by repeat (first | exact List.mem_cons_self | apply List.mem_cons_of_mem)) (by with_reducible rfl) (by with_reducible rfl)).mono ?_); rintro e w' ⟨rfl, h1⟩; clear hS; have hS := Lib.hid h1; clear h1))
            go_wp2_with fail
            go_at_call 32
            with_reducible refine (so_spoil6 hS.out _ _ _ _ _ _ (by repeat (first | exact List.mem_cons_self | apply List.mem_cons_of_mem)) (by repeat (first | exact List.mem_cons_self | apply List.mem_cons_of_mem)) (by repeat (first | exact List.mem_cons_self | apply List.mem_cons_of_mem)) (by repeat (first | exact List.mem_cons_self | apply List.mem_cons_of_mem)) (by repeat (first | exact List.mem_cons_self | apply List.mem_cons_of_mem)) (by repeat (first | exact List.mem_cons_self | apply List.mem_cons_of_mem))).mono ?_
            rintro e v7 ⟨⟨vv, rfl⟩, hb⟩
            clear hS
            go_wp2
            go_roundw
            case rel => exact ⟨k + 1, by omega, by go_num, HS0.out.below hb⟩
            case measure => simp [intOf]; omega
        · have hk2 : k = 2 := by omega
          subst hk2
          obtain ⟨x0, y0⟩ := hS.out.cs 0 rfl
          obtain ⟨x1, y1⟩ := hS.out.cs 1 rfl
          obtain ⟨x2, y2⟩ := hS.out.cs 2 rfl
          obtain ⟨x3, y3⟩ := hS.out.cs 3 rfl
          obtain ⟨x4, y4⟩ := hS.out.cs 4 rfl
          obtain ⟨x5, y5⟩ := hS.out.cs 5 rfl
          go_wp2_with fail
          go_at_call 7
          with_reducible refine (wawake_s hS.out).mono ?_
          rintro e v5 ⟨rfl, h1⟩
          clear x0 y0 x1 y1 x2 y2 x3 y3 x4 y4 x5 y5
          clear hS; have hS := Lib.hid h1; clear h1
          obtain ⟨x0, y0⟩ := hS.out.cs 0 rfl
          obtain ⟨x1, y1⟩ := hS.out.cs 1 rfl
          obtain ⟨x2, y2⟩ := hS.out.cs 2 rfl
          obtain ⟨x3, y3⟩ := hS.out.cs 3 rfl
          obtain ⟨x4, y4⟩ := hS.out.cs 4 rfl
          obtain ⟨x5, y5⟩ := hS.out.cs 5 rfl
          go_wp2
          go_ret
          exact ⟨rfl, hS.out.st.1⟩
  · have hS := Lib.hid (SB.start w)
    clear h0 h1
    go_enter Tryz.func4, Tryz.ntmps4
    have h1 := ((hS.out.boxed (b := b0) (A := A0) (n := n0) (c := c0) rfl).boxed (b := b1) (A := A1) (n := n1) (c := c1) rfl)
    try simp only [World.size_alloc] at h1
    obtain ⟨p0, q0⟩ := h1.cs 0 rfl
    obtain ⟨p1, q1⟩ := h1.cs 1 rfl
    clear h1
    go_wp2_with fail
    clear p0 q0 p1 q1
    generalize hwa : World.alloc (World.alloc w _) _ = v1
    have h1 := ((hS.out.boxed rfl).boxed hwa)
    simp only [World.size_alloc] at h1
    have hsz : v1.heap.size = w.heap.size + 1 + 1 := by rw [← hwa]; simp only [World.size_alloc]
    try rw [← hsz]
    clear hsz
    clear hwa
    clear hS; have hS := Lib.hid h1; clear h1
    obtain ⟨x0, y0⟩ := hS.out.cs 0 rfl
    obtain ⟨x1, y1⟩ := hS.out.cs 1 rfl
    go_wp2_with fail
    go_at_call 6
    with_reducible refine (wlong2_y hS.out _ _ _ _ _ _ _ _ (by omega) (by omega) hl).mono ?_
    rintro e v2 ⟨rfl, h1⟩
    clear x0 y0 x1 y1
    clear hS; have hS := Lib.hid h1; clear h1
    obtain ⟨x0, y0⟩ := hS.out.cs 0 rfl
    obtain ⟨x1, y1⟩ := hS.out.cs 1 rfl
    go_wp2_with fail
    go_at_call 7
    with_reducible refine (wawake_s hS.out).mono ?_
    rintro e v3 ⟨rfl, h1⟩
    clear x0 y0 x1 y1
    clear hS; have hS := Lib.hid h1; clear h1
    obtain ⟨x0, y0⟩ := hS.out.cs 0 rfl
    obtain ⟨x1, y1⟩ := hS.out.cs 1 rfl
    go_wp2
    go_ret
    exact ⟨rfl, hS.out.st.1⟩
set_option maxRecDepth 100000 in
theorem lifted (os : Os) (started : os.Started) (H : Type) (enc : TypeId × Value → H) :
    ReturnsInHanded {} Tryz.checked os 4 .any (fun w args => (Rows.wholeSumsSpec.pre enc Tryz.prog Tryz.f4 Rows.wholeSumsRow.domain false w args ∧ laidMetH Tryz.prog Rows.wholeSumsRow.laid w) ∧ sizedMet enc Tryz.prog Tryz.f4 (OpenSpec.ofChange Rows.wholeSumsSpec) false w args) (Rows.wholeSumsSpec.post enc Tryz.prog Tryz.f4 false true false false) := by
  refine returnsInHanded_of_change_and (C := Tryz.checked) (X := fun w _ => laidMetH Tryz.prog Rows.wholeSumsRow.laid w) (fun _ _ _ hh h => h.of_heap hh) own started (by kernel_rfl) Tryz.func4
    (ChangeSpec.witness_shaped (enc := enc) (C := Tryz.checked) (os := os) (X := fun w _ => laidMetH Tryz.prog Rows.wholeSumsRow.laid w) false (World.laidAll Tryz.prog os Rows.wholeSumsRow.laid) #[.agg #[.bool false, .slice none 0 0], .agg #[.bool false, .slice none 0 0]] 8 (World.laidAll_os _ _ _)
      (World.shaped_of_ZipB (by kernel_rfl) (by kernel_rfl)) (by kernel_rfl) (by kernel_rfl) (by kernel_rfl)
      (by rw [MakeChecks.laidMetH_plain _ _ _ (by kernel_rfl)]; exact laidMet_laidAll _ (by kernel_rfl) (by kernel_rfl))) ?_
  intro W base args ds gs before hval0 hW hcnd _ _ _
  have hval : ∀ (j : Nat) t v, Tryz.f4.params[j]? = some t → args[j]? = some v → Value.okWide Tryz.prog W .any base t v := hval0
  have hW' := hW
  obtain ⟨p, q, hA0, hV, hpq, hfz, hnd⟩ := hW
  have hA : DataW.TrodAll enc Tryz.prog W 0 (fun _ => true) true Tryz.f4.params.toList args.toList ds p := hA0
  rw [Tryz.params4] at hA hval
  obtain ⟨v0, vs0, d0, ds0, p0, q0, hargs, rfl, rfl, h0, r0⟩ := trodAll_cons hA
  obtain ⟨v1, vs1, d1, ds1, p1, q1, rfl, rfl, rfl, h1, r1⟩ := trodAll_cons r0
  obtain ⟨rfl, rfl, rfl⟩ := trodAll_nil r1
  obtain rfl : args = #[v0, v1] := by cases args; simp_all
  obtain ⟨rfl, rfl⟩ := trodVars_none hV
  obtain ⟨b0, A0, n0, c0, xs0, rfl, s0⟩ := open_whole (hval 0 25 v0 rfl rfl) h0
  obtain ⟨b1, A1, n1, c1, xs1, rfl, s1⟩ := open_whole (hval 1 25 v1 rfl rfl) h1
  refine (walk W b0 A0 n0 c0 xs0 s0 b1 A1 n1 c1 xs1 s1).mono fun e W' ⟨he, hb⟩ => ?_
  subst he
  exact ⟨_, rfl, Frame.close laidOut hW' rfl rfl rfl Tryz.underlying4 (fun t ht => by rw [Tryz.params4] at ht; simp at ht; rcases ht with rfl <;> exact ⟨by kernel_rfl, of_decide_eq_true (by kernel_rfl)⟩) hb⟩
theorem over : Rows.wholeSumsRow.holds Tryz.pinned (OpenSpec.ofChange Rows.wholeSumsSpec) :=
  OpenClaim.holds_of_wide 4 Tryz.f4 rfl rfl rfl rfl rfl rfl rfl ⟨rfl, rfl, rfl, rfl, rfl⟩ rfl rfl rfl rfl rfl (by kernel_rfl) Tryz.func4 (by kernel_rfl)
    (of_decide_eq_true (by kernel_rfl)) (by unfold Func.isWrapper; first | (rw [if_pos (by decide +kernel)]; kernel_rfl) | (rw [if_neg (by decide +kernel)]; exact ⟨rfl, rfl⟩))
    (fun os started H enc _ => lifted os started H enc)
/-- the statement -/
theorem proved : Rows.WholeSumsCardSaid :=
  Claim7.holds_tied_plain_at .later [] _ _ _ _ over (fun _ h => by cases h) (by kernel_rfl) (fun _ h => by cases h) wholeSums_row_tie rfl ⟨rfl, rfl⟩ (by kernel_rfl) rfl
    (fun f fn hf hfn => by
      obtain rfl : f = 4 := Option.some.inj ((show Tryz.prog.funcNamed "tombola/tombolalaw05.WholeSums" = some 4 by kernel_rfl).symm.trans hf) |>.symm
      obtain rfl : fn = Tryz.f4 := (Option.some.inj (Tryz.func4.symm.trans hfn)).symm
      exact ⟨by kernel_rfl, (fun j t ht => by
        rw [Tryz.params4] at ht
        have hm : t ∈ [25, 25] := by simpa using Array.mem_of_getElem? ht
        have hall : ([25, 25].all fun u => !Tryz.prog.wantsStandIn u) = true := by kernel_rfl
        exact (show Tryz.prog.wantsStandIn t = false by simpa using List.all_eq_true.1 hall t hm))⟩)
    (by kernel_rfl)
#print axioms proved
end Go.Proofs.YtgahnchfefngeaaGreatDoor.wholeSums
