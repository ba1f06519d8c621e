/-
  PROVED: the statement WholeTold (tombolalaw05.WholeTold) about the landed commit: for every input the law returns true and leaves its arguments as they were. Conditions: none beyond those that the given row itself prints.
-/
import Derived.Test.YtgahnchfefngeaaDoorCards
import Derived.Test.YtgahnchfefngeaaDoorTie
import Derived.LaidMore
import Derived.Lay
import Derived.SevenTiedAt
import Derived.Stop.Joined
import Derived.Test.YtgahnchfefngeaaDoorRows
import Derived.WalkKit
import Derived.ProofKit
import Derived.OpenShut
import Derived.RowKit3
import Derived.Test.YtgahnchfefngeaaDoorGFrame
import Derived.Test.YtgahnchfefngeaaDoorWholeAwake
import Derived.Test.YtgahnchfefngeaaDoorRegSym
import Derived.Test.YtgahnchfefngeaaDoorRegTail
import Derived.Test.YtgahnchfefngeaaDoorWholeOut
import Derived.Test.YtgahnchfefngeaaDoorWholeRefState
import Derived.Deep.DeepCutAuto
namespace Go.Proofs.YtgahnchfefngeaaDoor.wholeTold
open Go.ChangeShapes Go.WideShapes Go.ChangeAt Go.RowKit
set_option linter.unusedVariables false
set_option maxRecDepth 20000
open N
theorem own : ownKnob Tryd.prog.godebug = none := by kernel_rfl
open Go.Lib (decDigits nDigits decDigits_length nDigits_pos)
section
variable {w0 w w' : World} {S : List Ent} {T : List Bx} {A A' : Option Addr} {n c m d k k' : Nat} {xs ys : List Int} {v u z y : Int} {b b' : Bool}
theorem div_y (h : SB w0 w S T) (h1 : (⟨A, n, c, k, xs, v⟩ : Ent) ∈ S) (h2 : (⟨A', m, d, k', ys, u⟩ : Ent) ∈ S) (hk : k ≤ 1000000) (hk' : k' ≤ 1000000) (hz : iv b v = z) (hy : iv b' u = y) {q r e : Int} (hw : Way z y q r e) :
    Calls Tryd.prog 15 #[.agg #[.bool b, .slice A n c], .agg #[.bool b', .slice A' m d]] w fun e1 w' => ∃ A1 n1 c1 A2 n2 c2, e1 = .returned (.tuple #[.agg #[.bool (sg q), .slice A1 n1 c1], .agg #[.bool (sg r), .slice A2 n2 c2], .int .i64 e]) ∧
      SB w0 w' (⟨A2, n2, c2, k + k' + 1, limbs (mg r), mg r⟩ :: ⟨A1, n1, c1, k + k' + 1, limbs (mg q), mg q⟩ :: S) T :=
  (div_o h h1 h2 hk hk' hz hy hw).mono fun e1 w' ho => h.outI2 (Nat.le_refl _) ho
end
set_option maxRecDepth 100000 in
set_option maxHeartbeats 4000000 in
theorem walk (w : World) (b0 : Bool) (A0 : Option Addr) (n0 c0 : Nat) (xs0 : List Int) (h0 : Sl w A0 n0 c0 xs0) (b1 : Bool) (A1 : Option Addr) (n1 c1 : Nat) (xs1 : List Int) (h1 : Sl w A1 n1 c1 xs1) (a2 : Int) (w2 : (Lit.int .u8 a2).wf = true) (a3 : Int) (w3 : (Lit.int .u8 a3).wf = true) (b4 : Bool) :
    Calls Tryd.prog 9 #[.agg #[.bool b0, .slice A0 n0 c0], .agg #[.bool b1, .slice A1 n1 c1], .int .u8 a2, .int .u8 a3, .bool b4] w fun e w' => e = .returned (.bool true) ∧ Below w.heap.size w w' := by
  have hc0 := h0.cap
  have hm0 := h0.max
  unfold maxLen at hm0
  have hc1 := h1.cap
  have hm1 := h1.max
  unfold maxLen at hm1
  have u2 := bounds_u8 w2
  have u3 := bounds_u8 w3
  by_cases hl : n0 ≤ 10 ∧ n1 ≤ 10
  · obtain ⟨hl0, hl1⟩ := hl
    obtain ⟨z0, hz0⟩ : ∃ z, iv b0 (val B xs0) = z := ⟨_, rfl⟩
    obtain ⟨z1, hz1⟩ : ∃ z, iv b1 (val B xs1) = z := ⟨_, rfl⟩
    obtain ⟨zn, hzn⟩ : ∃ z, iv b4 (val B xs0) = z := ⟨_, rfl⟩
    have HZ0 := Lib.hid hz0
    have HZ1 := Lib.hid hz1
    have HZN := Lib.hid hzn
    obtain ⟨M2, hM2⟩ : ∃ N : Nat, a2.tmod 5 = (N : Int) := ⟨(a2.tmod 5).toNat, by rw [Int.tmod_eq_emod_of_nonneg (by omega)]; omega⟩
    obtain ⟨M3, hM3⟩ : ∃ N : Nat, a3.tmod 5 = (N : Int) := ⟨(a3.tmod 5).toNat, by rw [Int.tmod_eq_emod_of_nonneg (by omega)]; omega⟩
    have m2 : M2 ≤ 4 := by rw [Int.tmod_eq_emod_of_nonneg (by omega)] at hM2; omega
    have m3 : M3 ≤ 4 := by rw [Int.tmod_eq_emod_of_nonneg (by omega)] at hM3; omega
    have HM2 := Lib.hid hM2
    have HM3 := Lib.hid hM3
    clear hM2 hM3 u2 u3
    obtain ⟨na, hna⟩ : ∃ q, n0 + M2 = q := ⟨_, rfl⟩
    obtain ⟨nb, hnb⟩ : ∃ q, n1 + M3 = q := ⟨_, rfl⟩
    have lna : na ≤ 14 := by omega
    have lnb : nb ≤ 14 := by omega
    obtain ⟨xsa, hxa⟩ : ∃ l, xs0 ++ List.replicate M2 0 = l := ⟨_, rfl⟩
    obtain ⟨xsb, hxb⟩ : ∃ l, xs1 ++ List.replicate M3 0 = l := ⟨_, rfl⟩
    have HNA := Lib.hid hna
    have HNB := Lib.hid hnb
    have HXA := Lib.hid hxa
    have HXB := Lib.hid hxb
    obtain ⟨p, hp⟩ : ∃ p : Bool, decide (val B xs0 = 0) = p := ⟨_, rfl⟩
    obtain ⟨q, hq⟩ : ∃ q : Bool, decide (val B xs1 = 0) = q := ⟨_, rfl⟩
    have HP := Lib.hid hp
    have HQ := Lib.hid hq
    have hS := Lib.hid (((SB.start w).old h0 hl0 rfl).old h1 hl1 rfl)
    clear h0 hz0 h1 hz1 hzn hna hnb hxa hxb hp hq
    go_enter Tryd.func9, Tryd.ntmps9
    have h1 := ((hS.out.boxed (b := b0) (A := A0) (n := n0) (c := c0) rfl).boxed (b := b1) (A := A1) (n := n1) (c := c1) rfl)
    try simp only [World.size_alloc] at h1
    obtain ⟨p0, q0⟩ := h1.cs 0 rfl
    obtain ⟨p1, q1⟩ := h1.cs 1 rfl
    clear h1
    go_wp2_with fail
    clear p0 q0 p1 q1
    generalize hwa : World.alloc (World.alloc w _) _ = v1
    have h1 := ((hS.out.boxed rfl).boxed hwa)
    simp only [World.size_alloc] at h1
    have hsz : v1.heap.size = w.heap.size + 1 + 1 := by rw [← hwa]; simp only [World.size_alloc]
    try rw [← hsz]
    clear hsz
    clear hwa
    clear hS; have hS := Lib.hid h1; clear h1
    obtain ⟨x0, y0⟩ := hS.out.cs 0 rfl
    obtain ⟨x1, y1⟩ := hS.out.cs 1 rfl
    go_wp2_with fail
    go_at_call 20
    with_reducible refine (wlong2_n hS.out _ _ _ _ _ _ _ _ hl0 hl1).mono ?_
    rintro e v2 ⟨rfl, h1⟩
    clear x0 y0 x1 y1
    clear hS; have hS := Lib.hid h1; clear h1
    obtain ⟨x0, y0⟩ := hS.out.cs 0 rfl
    obtain ⟨x1, y1⟩ := hS.out.cs 1 rfl
    go_wp2_with fail
    go_at_call 10
    with_reducible refine (wawake_s hS.out).mono ?_
    rintro e v3 ⟨rfl, h1⟩
    clear x0 y0 x1 y1
    clear hS; have hS := Lib.hid h1; clear h1
    obtain ⟨x0, y0⟩ := hS.out.cs 0 rfl
    obtain ⟨x1, y1⟩ := hS.out.cs 1 rfl
    have HL1 := Lib.hid (hS.out.lt_ 0 rfl)
    have HL2 := Lib.hid (hS.out.lt_ 1 rfl)
    go_wp2_with fail
    clear x0 y0 x1 y1
    refine T3_region (b := b0) (A0 := A0) (n := n0) (c := c0) (k := 10) (xs := xs0) (v := val B xs0) hS.out (by repeat (first | exact List.mem_cons_self | apply List.mem_cons_of_mem)) (by repeat (first | exact List.mem_cons_self | apply List.mem_cons_of_mem)) (by omega) (by omega) rfl rfl HM2.out (of_decide_eq_true rfl) ?_
    intro a w5 hfr hres
    obtain ⟨ga, Aa, ca, eg, hge, hsb⟩ := hres
    have hc := hfr.closed
    simp only [List.map_cons, List.map_nil] at hc
    rw [eg] at hc
    clear eg hfr
    generalize a.eval (.tmp 32) = u32 at hc
    generalize a.eval (.tmp 33) = u33 at hc
    generalize a.eval (.tmp 34) = u34 at hc
    generalize a.eval (.tmp 35) = u35 at hc
    generalize a.eval (.tmp 36) = u36 at hc
    generalize a.eval (.tmp 37) = u37 at hc
    generalize a.eval (.tmp 38) = u38 at hc
    generalize a.eval (.tmp 39) = u39 at hc
    generalize a.eval (.tmp 40) = u40 at hc
    generalize a.eval (.tmp 41) = u41 at hc
    subst hc
    rw [HNA.out, HXA.out] at hsb
    have HGa := Lib.hid hge
    clear hge
    clear hS
    have hS := Lib.hid hsb
    clear hsb
    simp only [putAll, List.foldl_cons, List.foldl_nil, Act.put, List.setIfInBounds_toArray, List.set_cons_zero, List.set_cons_succ]
    obtain ⟨x0, y0⟩ := hS.out.cs 0 rfl
    obtain ⟨x1, y1⟩ := hS.out.cs 1 rfl
    obtain ⟨x2, y2⟩ := hS.out.cs 2 rfl
    have HL3 := Lib.hid (hS.out.lt_ 0 rfl)
    have HL4 := Lib.hid (hS.out.lt_ 1 rfl)
    have HL5 := Lib.hid (hS.out.lt_ 2 rfl)
    go_wp2_with fail
    clear x0 y0 x1 y1 x2 y2
    refine T4_region (b := b1) (A0 := A1) (n := n1) (c := c1) (k := 10) (xs := xs1) (v := val B xs1) hS.out (by repeat (first | exact List.mem_cons_self | apply List.mem_cons_of_mem)) (by repeat (first | exact List.mem_cons_self | apply List.mem_cons_of_mem)) (by omega) (by omega) rfl rfl HM3.out (of_decide_eq_true rfl) ?_
    intro a w6 hfr hres
    obtain ⟨gb, Ab, cb, eg, hge, hsb⟩ := hres
    have hc := hfr.closed
    simp only [List.map_cons, List.map_nil] at hc
    rw [eg] at hc
    clear eg hfr
    generalize a.eval (.tmp 42) = u42 at hc
    generalize a.eval (.tmp 43) = u43 at hc
    generalize a.eval (.tmp 44) = u44 at hc
    generalize a.eval (.tmp 45) = u45 at hc
    generalize a.eval (.tmp 46) = u46 at hc
    generalize a.eval (.tmp 47) = u47 at hc
    generalize a.eval (.tmp 48) = u48 at hc
    generalize a.eval (.tmp 49) = u49 at hc
    generalize a.eval (.tmp 50) = u50 at hc
    generalize a.eval (.tmp 51) = u51 at hc
    subst hc
    rw [HNB.out, HXB.out] at hsb
    have HGb := Lib.hid hge
    clear hge
    clear hS
    have hS := Lib.hid hsb
    clear hsb
    simp only [putAll, List.foldl_cons, List.foldl_nil, Act.put, List.setIfInBounds_toArray, List.set_cons_zero, List.set_cons_succ]
    obtain ⟨x0, y0⟩ := hS.out.cs 0 rfl
    obtain ⟨x1, y1⟩ := hS.out.cs 1 rfl
    obtain ⟨x2, y2⟩ := hS.out.cs 2 rfl
    obtain ⟨x3, y3⟩ := hS.out.cs 3 rfl
    go_wp2_with fail
    go_at_call 28
    with_reducible refine (zero_q hS.out (by repeat (first | exact List.mem_cons_self | apply List.mem_cons_of_mem)) HP.out).mono ?_
    rintro e v4 ⟨rfl, h1⟩
    clear x0 y0 x1 y1 x2 y2 x3 y3
    clear hS; have hS := Lib.hid h1; clear h1
    obtain ⟨x0, y0⟩ := hS.out.cs 0 rfl
    obtain ⟨x1, y1⟩ := hS.out.cs 1 rfl
    obtain ⟨x2, y2⟩ := hS.out.cs 2 rfl
    obtain ⟨x3, y3⟩ := hS.out.cs 3 rfl
    have HL6 := Lib.hid (hS.out.lt_ 0 rfl)
    have HL7 := Lib.hid (hS.out.lt_ 1 rfl)
    have HL8 := Lib.hid (hS.out.lt_ 2 rfl)
    have HL9 := Lib.hid (hS.out.lt_ 3 rfl)
    go_upto_if 54 with fail
    clear x0 y0 x1 y1 x2 y2 x3 y3
    go_cut [] (fun wx => ∃ ba : Bool, iv ba (val B xs0) = z0 ∧ SB w wx [⟨Ab, nb, cb, 10 + 200, xsb, val B xs1⟩, ⟨Aa, na, ca, 10 + 200, xsa, val B xs0⟩, ⟨A1, n1, c1, 10, xs1, val B xs1⟩, ⟨A0, n0, c0, 10, xs0, val B xs0⟩] [⟨ga, ba, Aa, na, ca⟩, ⟨gb, b1, Ab, nb, cb⟩, ⟨w.heap.size + 1, b1, A1, n1, c1⟩, ⟨w.heap.size, b0, A0, n0, c0⟩])
    case first =>
      have hS1 := Lib.hid (show SB w v4 [⟨Ab, nb, cb, 10 + 200, xsb, val B xs1⟩, ⟨Aa, na, ca, 10 + 200, xsa, val B xs0⟩, ⟨A1, n1, c1, 10, xs1, val B xs1⟩, ⟨A0, n0, c0, 10, xs0, val B xs0⟩] [⟨ga, b0, Aa, na, ca⟩, ⟨gb, b1, Ab, nb, cb⟩, ⟨w.heap.size + 1, b1, A1, n1, c1⟩, ⟨w.heap.size, b0, A0, n0, c0⟩] from hS.out.sub (fun t ht => ht) (fun q hq => by simp only [List.mem_cons, List.not_mem_nil, or_false] at hq ⊢; rcases hq with h | h | h | h <;> simp [h]))
      cases p
      · go_wp2_with fail
        go_meet
        exact ⟨b0, HZ0.out, hS1.out⟩
      · have hv0 : val B xs0 = 0 := of_decide_eq_true HP.out
        have HV0 := Lib.hid hv0
        clear hv0
        have hput := hS1.out.put0 (by intro q hq; simp only [List.mem_cons, List.not_mem_nil, or_false] at hq; have hHL1 := HL1.out; have hHL2 := HL2.out; have hHGa := HGa.out; have hHL3 := HL3.out; have hHL4 := HL4.out; have hHL5 := HL5.out; have hHGb := HGb.out; have hHL6 := HL6.out; have hHL7 := HL7.out; have hHL8 := HL8.out; have hHL9 := HL9.out; rcases hq with rfl | rfl | rfl <;> first | (show gb ≠ ga; omega) | (show w.heap.size + 1 ≠ ga; omega) | (show w.heap.size ≠ ga; omega)) b4
        have HPUT := Lib.hid hput
        clear hput
        obtain ⟨x0, y0⟩ := hS1.out.cs 0 rfl
        obtain ⟨x1, y1⟩ := hS1.out.cs 1 rfl
        obtain ⟨x2, y2⟩ := hS1.out.cs 2 rfl
        obtain ⟨x3, y3⟩ := hS1.out.cs 3 rfl
        obtain ⟨fz0, fz1⟩ := hS1.out.frs 0 rfl
        go_wp2_with fail
        go_meet
        exact ⟨b4, by rw [← HZ0.out, HV0.out, iv_0, iv_0], HPUT.out⟩
    case rest =>
      obtain ⟨ba, hz, hS1⟩ := hcut
      obtain ⟨wc1, hwc⟩ : ∃ x : World, wc = x := ⟨_, rfl⟩
      subst hwc
      have HZA := Lib.hid hz
      clear hz hS
      have hS := Lib.hid hS1
      clear hS1
      obtain ⟨x0, y0⟩ := hS.out.cs 0 rfl
      obtain ⟨x1, y1⟩ := hS.out.cs 1 rfl
      obtain ⟨x2, y2⟩ := hS.out.cs 2 rfl
      obtain ⟨x3, y3⟩ := hS.out.cs 3 rfl
      go_wp2_with fail
      go_at_call 28
      with_reducible refine (zero_q hS.out (by repeat (first | exact List.mem_cons_self | apply List.mem_cons_of_mem)) HQ.out).mono ?_
      rintro e v5 ⟨rfl, h1⟩
      clear x0 y0 x1 y1 x2 y2 x3 y3
      clear hS; have hS := Lib.hid h1; clear h1
      obtain ⟨x0, y0⟩ := hS.out.cs 0 rfl
      obtain ⟨x1, y1⟩ := hS.out.cs 1 rfl
      obtain ⟨x2, y2⟩ := hS.out.cs 2 rfl
      obtain ⟨x3, y3⟩ := hS.out.cs 3 rfl
      have HL10 := Lib.hid (hS.out.lt_ 0 rfl)
      have HL11 := Lib.hid (hS.out.lt_ 1 rfl)
      have HL12 := Lib.hid (hS.out.lt_ 2 rfl)
      have HL13 := Lib.hid (hS.out.lt_ 3 rfl)
      go_upto_if 59 with fail
      clear x0 y0 x1 y1 x2 y2 x3 y3
      go_cut [] (fun wx => ∃ bb : Bool, iv bb (val B xs1) = z1 ∧ SB w wx [⟨Ab, nb, cb, 10 + 200, xsb, val B xs1⟩, ⟨Aa, na, ca, 10 + 200, xsa, val B xs0⟩, ⟨A1, n1, c1, 10, xs1, val B xs1⟩, ⟨A0, n0, c0, 10, xs0, val B xs0⟩] [⟨gb, bb, Ab, nb, cb⟩, ⟨ga, ba, Aa, na, ca⟩, ⟨w.heap.size + 1, b1, A1, n1, c1⟩, ⟨w.heap.size, b0, A0, n0, c0⟩])
      case first =>
        have hS1 := Lib.hid (show SB w v5 [⟨Ab, nb, cb, 10 + 200, xsb, val B xs1⟩, ⟨Aa, na, ca, 10 + 200, xsa, val B xs0⟩, ⟨A1, n1, c1, 10, xs1, val B xs1⟩, ⟨A0, n0, c0, 10, xs0, val B xs0⟩] [⟨gb, b1, Ab, nb, cb⟩, ⟨ga, ba, Aa, na, ca⟩, ⟨w.heap.size + 1, b1, A1, n1, c1⟩, ⟨w.heap.size, b0, A0, n0, c0⟩] from hS.out.sub (fun t ht => ht) (fun q hq => by simp only [List.mem_cons, List.not_mem_nil, or_false] at hq ⊢; rcases hq with h | h | h | h <;> simp [h]))
        cases q
        · go_wp2_with fail
          go_meet
          exact ⟨b1, HZ1.out, hS1.out⟩
        · have hv0 : val B xs1 = 0 := of_decide_eq_true HQ.out
          have HV0 := Lib.hid hv0
          clear hv0
          have hput := hS1.out.put0 (by intro q hq; simp only [List.mem_cons, List.not_mem_nil, or_false] at hq; have hHL1 := HL1.out; have hHL2 := HL2.out; have hHGa := HGa.out; have hHL3 := HL3.out; have hHL4 := HL4.out; have hHL5 := HL5.out; have hHGb := HGb.out; have hHL6 := HL6.out; have hHL7 := HL7.out; have hHL8 := HL8.out; have hHL9 := HL9.out; have hHL10 := HL10.out; have hHL11 := HL11.out; have hHL12 := HL12.out; have hHL13 := HL13.out; rcases hq with rfl | rfl | rfl <;> first | (show ga ≠ gb; omega) | (show w.heap.size + 1 ≠ gb; omega) | (show w.heap.size ≠ gb; omega)) !b4
          have HPUT := Lib.hid hput
          clear hput
          obtain ⟨x0, y0⟩ := hS1.out.cs 0 rfl
          obtain ⟨x1, y1⟩ := hS1.out.cs 1 rfl
          obtain ⟨x2, y2⟩ := hS1.out.cs 2 rfl
          obtain ⟨x3, y3⟩ := hS1.out.cs 3 rfl
          obtain ⟨fz0, fz1⟩ := hS1.out.frs 0 rfl
          go_wp2_with fail
          go_meet
          exact ⟨!b4, by rw [← HZ1.out, HV0.out, iv_0, iv_0], HPUT.out⟩
      case rest =>
        obtain ⟨bb, hz, hS1⟩ := hcut
        obtain ⟨wc2, hwc⟩ : ∃ x : World, wc = x := ⟨_, rfl⟩
        subst hwc
        have HZB := Lib.hid hz
        clear hz hS
        have hS := Lib.hid hS1
        clear hS1
        obtain ⟨x0, y0⟩ := hS.out.cs 0 rfl
        obtain ⟨x1, y1⟩ := hS.out.cs 1 rfl
        obtain ⟨x2, y2⟩ := hS.out.cs 2 rfl
        obtain ⟨x3, y3⟩ := hS.out.cs 3 rfl
        obtain ⟨Q, R, E, hW⟩ : ∃ q r e, Way z0 z1 q r e := by
          by_cases h : z1 = 0
          · exact ⟨_, _, _, by rw [h]; exact way_zero _⟩
          · exact ⟨_, _, _, way_yes _ h⟩
        have HW := Lib.hid hW
        clear hW
        obtain ⟨K, is, hK⟩ := smOk z0
        have HK := Lib.hid hK
        clear hK
        obtain ⟨X, hX⟩ : ∃ X, shI z0 = X := ⟨_, rfl⟩
        have HX := Lib.hid hX
        clear hX
        obtain ⟨s, hs⟩ : ∃ s, sgn z1 = s := ⟨_, rfl⟩
        have HS := Lib.hid hs
        clear hs
        obtain ⟨cc, hcc⟩ : ∃ s, sgn (z0 - z1) = s := ⟨_, rfl⟩
        have HC := Lib.hid hcc
        clear hcc
        go_wp2_with fail
        go_at_call 15
        with_reducible refine (div_y hS.out (by repeat (first | exact List.mem_cons_self | apply List.mem_cons_of_mem)) (by repeat (first | exact List.mem_cons_self | apply List.mem_cons_of_mem)) (by omega) (by omega) HZ0.out HZ1.out HW.out).mono ?_
        rintro e v6 ⟨Aq, nq, cq, Ar, nr, cr, rfl, h1⟩
        clear x0 y0 x1 y1 x2 y2 x3 y3
        clear hS; have hS := Lib.hid h1; clear h1
        obtain ⟨x0, y0⟩ := hS.out.cs 0 rfl
        obtain ⟨x1, y1⟩ := hS.out.cs 1 rfl
        obtain ⟨x2, y2⟩ := hS.out.cs 2 rfl
        obtain ⟨x3, y3⟩ := hS.out.cs 3 rfl
        have h1 := ((hS.out.boxed (b := sg Q) (A := Aq) (n := nq) (c := cq) rfl).boxed (b := sg R) (A := Ar) (n := nr) (c := cr) rfl)
        try simp only [World.size_alloc] at h1
        obtain ⟨p0, q0⟩ := h1.cs 0 rfl
        obtain ⟨p1, q1⟩ := h1.cs 1 rfl
        obtain ⟨p2, q2⟩ := h1.cs 2 rfl
        obtain ⟨p3, q3⟩ := h1.cs 3 rfl
        obtain ⟨p4, q4⟩ := h1.cs 4 rfl
        obtain ⟨p5, q5⟩ := h1.cs 5 rfl
        clear h1
        go_wp2_with fail
        clear x0 y0 x1 y1 x2 y2 x3 y3
        clear p0 q0 p1 q1 p2 q2 p3 q3 p4 q4 p5 q5
        generalize hwa : World.alloc (World.alloc v6 _) _ = v7
        have h1 := ((hS.out.boxed rfl).boxed hwa)
        simp only [World.size_alloc] at h1
        have hsz : v7.heap.size = v6.heap.size + 1 + 1 := by rw [← hwa]; simp only [World.size_alloc]
        try rw [← hsz]
        clear hsz
        have HL14 := Lib.hid (hS.out.lt_ 0 rfl)
        have HL15 := Lib.hid (hS.out.lt_ 1 rfl)
        have HL16 := Lib.hid (hS.out.lt_ 2 rfl)
        have HL17 := Lib.hid (hS.out.lt_ 3 rfl)
        clear hwa
        clear hS; have hS := Lib.hid h1; clear h1
        obtain ⟨x0, y0⟩ := hS.out.cs 0 rfl
        obtain ⟨x1, y1⟩ := hS.out.cs 1 rfl
        obtain ⟨x2, y2⟩ := hS.out.cs 2 rfl
        obtain ⟨x3, y3⟩ := hS.out.cs 3 rfl
        obtain ⟨x4, y4⟩ := hS.out.cs 4 rfl
        obtain ⟨x5, y5⟩ := hS.out.cs 5 rfl
        go_wp2_with fail
        go_at_call 15
        with_reducible refine (div_y hS.out (by repeat (first | exact List.mem_cons_self | apply List.mem_cons_of_mem)) (by repeat (first | exact List.mem_cons_self | apply List.mem_cons_of_mem)) (by omega) (by omega) HZA.out HZB.out HW.out).mono ?_
        rintro e v8 ⟨Ap, np, cp, As, ns, cs, rfl, h1⟩
        clear x0 y0 x1 y1 x2 y2 x3 y3 x4 y4 x5 y5
        clear hS; have hS := Lib.hid h1; clear h1
        obtain ⟨x0, y0⟩ := hS.out.cs 0 rfl
        obtain ⟨x1, y1⟩ := hS.out.cs 1 rfl
        obtain ⟨x2, y2⟩ := hS.out.cs 2 rfl
        obtain ⟨x3, y3⟩ := hS.out.cs 3 rfl
        obtain ⟨x4, y4⟩ := hS.out.cs 4 rfl
        obtain ⟨x5, y5⟩ := hS.out.cs 5 rfl
        have h1 := ((hS.out.boxed (b := sg Q) (A := Ap) (n := np) (c := cp) rfl).boxed (b := sg R) (A := As) (n := ns) (c := cs) rfl)
        try simp only [World.size_alloc] at h1
        obtain ⟨p0, q0⟩ := h1.cs 0 rfl
        obtain ⟨p1, q1⟩ := h1.cs 1 rfl
        obtain ⟨p2, q2⟩ := h1.cs 2 rfl
        obtain ⟨p3, q3⟩ := h1.cs 3 rfl
        obtain ⟨p4, q4⟩ := h1.cs 4 rfl
        obtain ⟨p5, q5⟩ := h1.cs 5 rfl
        obtain ⟨p6, q6⟩ := h1.cs 6 rfl
        obtain ⟨p7, q7⟩ := h1.cs 7 rfl
        clear h1
        go_wp2_with fail
        clear x0 y0 x1 y1 x2 y2 x3 y3 x4 y4 x5 y5
        clear p0 q0 p1 q1 p2 q2 p3 q3 p4 q4 p5 q5 p6 q6 p7 q7
        generalize hwa : World.alloc (World.alloc v8 _) _ = v9
        have h1 := ((hS.out.boxed rfl).boxed hwa)
        simp only [World.size_alloc] at h1
        have hsz : v9.heap.size = v8.heap.size + 1 + 1 := by rw [← hwa]; simp only [World.size_alloc]
        try rw [← hsz]
        clear hsz
        have HL18 := Lib.hid (hS.out.lt_ 0 rfl)
        have HL19 := Lib.hid (hS.out.lt_ 1 rfl)
        have HL20 := Lib.hid (hS.out.lt_ 2 rfl)
        have HL21 := Lib.hid (hS.out.lt_ 3 rfl)
        have HL22 := Lib.hid (hS.out.lt_ 4 rfl)
        have HL23 := Lib.hid (hS.out.lt_ 5 rfl)
        clear hwa
        clear hS; have hS := Lib.hid h1; clear h1
        obtain ⟨x0, y0⟩ := hS.out.cs 0 rfl
        obtain ⟨x1, y1⟩ := hS.out.cs 1 rfl
        obtain ⟨x2, y2⟩ := hS.out.cs 2 rfl
        obtain ⟨x3, y3⟩ := hS.out.cs 3 rfl
        obtain ⟨x4, y4⟩ := hS.out.cs 4 rfl
        obtain ⟨x5, y5⟩ := hS.out.cs 5 rfl
        obtain ⟨x6, y6⟩ := hS.out.cs 6 rfl
        obtain ⟨x7, y7⟩ := hS.out.cs 7 rfl
        go_wp2_with fail
        go_at_call 11
        with_reducible refine (small_g hS.out (by repeat (first | exact List.mem_cons_self | apply List.mem_cons_of_mem)) (by omega) HZ0.out HK.out).mono ?_
        rintro e v10 ⟨rfl, h1⟩
        clear x0 y0 x1 y1 x2 y2 x3 y3 x4 y4 x5 y5 x6 y6 x7 y7
        clear hS; have hS := Lib.hid h1; clear h1
        obtain ⟨x0, y0⟩ := hS.out.cs 0 rfl
        obtain ⟨x1, y1⟩ := hS.out.cs 1 rfl
        obtain ⟨x2, y2⟩ := hS.out.cs 2 rfl
        obtain ⟨x3, y3⟩ := hS.out.cs 3 rfl
        obtain ⟨x4, y4⟩ := hS.out.cs 4 rfl
        obtain ⟨x5, y5⟩ := hS.out.cs 5 rfl
        obtain ⟨x6, y6⟩ := hS.out.cs 6 rfl
        obtain ⟨x7, y7⟩ := hS.out.cs 7 rfl
        go_wp2_with fail
        go_at_call 11
        with_reducible refine (small_g hS.out (by repeat (first | exact List.mem_cons_self | apply List.mem_cons_of_mem)) (by omega) HZA.out HK.out).mono ?_
        rintro e v11 ⟨rfl, h1⟩
        clear x0 y0 x1 y1 x2 y2 x3 y3 x4 y4 x5 y5 x6 y6 x7 y7
        clear hS; have hS := Lib.hid h1; clear h1
        obtain ⟨x0, y0⟩ := hS.out.cs 0 rfl
        obtain ⟨x1, y1⟩ := hS.out.cs 1 rfl
        obtain ⟨x2, y2⟩ := hS.out.cs 2 rfl
        obtain ⟨x3, y3⟩ := hS.out.cs 3 rfl
        obtain ⟨x4, y4⟩ := hS.out.cs 4 rfl
        obtain ⟨x5, y5⟩ := hS.out.cs 5 rfl
        obtain ⟨x6, y6⟩ := hS.out.cs 6 rfl
        obtain ⟨x7, y7⟩ := hS.out.cs 7 rfl
        go_wp2_with fail
        clear x0 y0 x1 y1 x2 y2 x3 y3 x4 y4 x5 y5 x6 y6 x7 y7
        have h1 := hS.out.drew
        clear hS; have hS := Lib.hid h1; clear h1
        try simp only [List.append_eq, List.cons_append, List.nil_append]
        go_region_held3 (fun W => (W.cell? ⟨v8.heap.size + 1, 0, none⟩ = some (.bool (sg R)) ∧ W.cell? ⟨v8.heap.size + 1, 1, none⟩ = some (.slice As ns cs)) ∧ (W.cell? ⟨v8.heap.size, 0, none⟩ = some (.bool (sg Q)) ∧ W.cell? ⟨v8.heap.size, 1, none⟩ = some (.slice Ap np cp)) ∧ (W.cell? ⟨v6.heap.size + 1, 0, none⟩ = some (.bool (sg R)) ∧ W.cell? ⟨v6.heap.size + 1, 1, none⟩ = some (.slice Ar nr cr)) ∧ (W.cell? ⟨v6.heap.size, 0, none⟩ = some (.bool (sg Q)) ∧ W.cell? ⟨v6.heap.size, 1, none⟩ = some (.slice Aq nq cq)) ∧ (W.cell? ⟨gb, 0, none⟩ = some (.bool (bb)) ∧ W.cell? ⟨gb, 1, none⟩ = some (.slice Ab nb cb)) ∧ (W.cell? ⟨ga, 0, none⟩ = some (.bool (ba)) ∧ W.cell? ⟨ga, 1, none⟩ = some (.slice Aa na ca)) ∧ (W.cell? ⟨w.heap.size + 1, 0, none⟩ = some (.bool (b1)) ∧ W.cell? ⟨w.heap.size + 1, 1, none⟩ = some (.slice A1 n1 c1)) ∧ (W.cell? ⟨w.heap.size, 0, none⟩ = some (.bool (b0)) ∧ W.cell? ⟨w.heap.size, 1, none⟩ = some (.slice A0 n0 c0))) (first | with_reducible exact ⟨hS.out.cs 0 rfl, hS.out.cs 1 rfl, hS.out.cs 2 rfl, hS.out.cs 3 rfl, hS.out.cs 4 rfl, hS.out.cs 5 rfl, hS.out.cs 6 rfl, hS.out.cs 7 rfl⟩ | with_reducible exact ⟨hS.out.drew.cs 0 rfl, hS.out.drew.cs 1 rfl, hS.out.drew.cs 2 rfl, hS.out.drew.cs 3 rfl, hS.out.drew.cs 4 rfl, hS.out.drew.cs 5 rfl, hS.out.drew.cs 6 rfl, hS.out.drew.cs 7 rfl⟩ | with_reducible exact ⟨(hS.out.alloc _).cs 0 rfl, (hS.out.alloc _).cs 1 rfl, (hS.out.alloc _).cs 2 rfl, (hS.out.alloc _).cs 3 rfl, (hS.out.alloc _).cs 4 rfl, (hS.out.alloc _).cs 5 rfl, (hS.out.alloc _).cs 6 rfl, (hS.out.alloc _).cs 7 rfl⟩ | with_reducible exact ⟨((hS.out.alloc _).alloc _).cs 0 rfl, ((hS.out.alloc _).alloc _).cs 1 rfl, ((hS.out.alloc _).alloc _).cs 2 rfl, ((hS.out.alloc _).alloc _).cs 3 rfl, ((hS.out.alloc _).alloc _).cs 4 rfl, ((hS.out.alloc _).alloc _).cs 5 rfl, ((hS.out.alloc _).alloc _).cs 6 rfl, ((hS.out.alloc _).alloc _).cs 7 rfl⟩) (first
          | (go_at_call 21; (with_reducible refine (same_v hS.out (by repeat (first | exact List.mem_cons_self | apply List.mem_cons_of_mem)) (by repeat (first | exact List.mem_cons_self | apply List.mem_cons_of_mem)) (by first | rfl | omega | (subst_vars; first | rfl))).mono ?_); rintro e w' ⟨rfl, h1⟩; clear hS; have hS := Lib.hid h1; clear h1)
          | (go_at_call 26; (with_reducible refine (cmp_q hS.out (by repeat (first | exact List.mem_cons_self | apply List.mem_cons_of_mem)) (by repeat (first | exact List.mem_cons_self | apply List.mem_cons_of_mem)) (by omega) (by omega) (by first | exact iv_sm _ | exact HZ0.out | exact HZ1.out | exact HZA.out | exact HZB.out) (by first | exact iv_sm _ | exact HZ0.out | exact HZ1.out | exact HZA.out | exact HZB.out) HC.out).mono ?_); rintro e w' ⟨rfl, h1⟩; clear hS; have hS := Lib.hid h1; clear h1)
          | (go_at_call 18; (with_reducible refine (show_w hS.out (by repeat (first | exact List.mem_cons_self | apply List.mem_cons_of_mem)) (by omega) (by first | exact iv_sm _ | exact HZ0.out | exact HZ1.out | exact HZA.out | exact HZB.out) HX.out).mono ?_); rintro e w' ⟨rfl, h1⟩; clear hS; have hS := Lib.hid h1; clear h1)
          | (go_at_call 19; (with_reducible refine (sign_q hS.out (by repeat (first | exact List.mem_cons_self | apply List.mem_cons_of_mem)) (by omega) (by first | exact iv_sm _ | exact HZ0.out | exact HZ1.out | exact HZA.out | exact HZB.out) HS.out).mono ?_); rintro e w' ⟨rfl, h1⟩; clear hS; have hS := Lib.hid h1; clear h1))
        obtain ⟨x0, y0⟩ := hS.out.cs 0 rfl
        obtain ⟨x1, y1⟩ := hS.out.cs 1 rfl
        obtain ⟨x2, y2⟩ := hS.out.cs 2 rfl
        obtain ⟨x3, y3⟩ := hS.out.cs 3 rfl
        obtain ⟨x4, y4⟩ := hS.out.cs 4 rfl
        obtain ⟨x5, y5⟩ := hS.out.cs 5 rfl
        obtain ⟨x6, y6⟩ := hS.out.cs 6 rfl
        obtain ⟨x7, y7⟩ := hS.out.cs 7 rfl
        go_wp2_with fail
        clear x0 y0 x1 y1 x2 y2 x3 y3 x4 y4 x5 y5 x6 y6 x7 y7
        have h1 := hS.out.drew
        clear hS; have hS := Lib.hid h1; clear h1
        try simp only [List.append_eq, List.cons_append, List.nil_append]
        go_region_held3 (fun W => (W.cell? ⟨v8.heap.size + 1, 0, none⟩ = some (.bool (sg R)) ∧ W.cell? ⟨v8.heap.size + 1, 1, none⟩ = some (.slice As ns cs)) ∧ (W.cell? ⟨v8.heap.size, 0, none⟩ = some (.bool (sg Q)) ∧ W.cell? ⟨v8.heap.size, 1, none⟩ = some (.slice Ap np cp)) ∧ (W.cell? ⟨v6.heap.size + 1, 0, none⟩ = some (.bool (sg R)) ∧ W.cell? ⟨v6.heap.size + 1, 1, none⟩ = some (.slice Ar nr cr)) ∧ (W.cell? ⟨v6.heap.size, 0, none⟩ = some (.bool (sg Q)) ∧ W.cell? ⟨v6.heap.size, 1, none⟩ = some (.slice Aq nq cq)) ∧ (W.cell? ⟨gb, 0, none⟩ = some (.bool (bb)) ∧ W.cell? ⟨gb, 1, none⟩ = some (.slice Ab nb cb)) ∧ (W.cell? ⟨ga, 0, none⟩ = some (.bool (ba)) ∧ W.cell? ⟨ga, 1, none⟩ = some (.slice Aa na ca)) ∧ (W.cell? ⟨w.heap.size + 1, 0, none⟩ = some (.bool (b1)) ∧ W.cell? ⟨w.heap.size + 1, 1, none⟩ = some (.slice A1 n1 c1)) ∧ (W.cell? ⟨w.heap.size, 0, none⟩ = some (.bool (b0)) ∧ W.cell? ⟨w.heap.size, 1, none⟩ = some (.slice A0 n0 c0))) (first | with_reducible exact ⟨hS.out.cs 0 rfl, hS.out.cs 1 rfl, hS.out.cs 2 rfl, hS.out.cs 3 rfl, hS.out.cs 4 rfl, hS.out.cs 5 rfl, hS.out.cs 6 rfl, hS.out.cs 7 rfl⟩ | with_reducible exact ⟨hS.out.drew.cs 0 rfl, hS.out.drew.cs 1 rfl, hS.out.drew.cs 2 rfl, hS.out.drew.cs 3 rfl, hS.out.drew.cs 4 rfl, hS.out.drew.cs 5 rfl, hS.out.drew.cs 6 rfl, hS.out.drew.cs 7 rfl⟩ | with_reducible exact ⟨(hS.out.alloc _).cs 0 rfl, (hS.out.alloc _).cs 1 rfl, (hS.out.alloc _).cs 2 rfl, (hS.out.alloc _).cs 3 rfl, (hS.out.alloc _).cs 4 rfl, (hS.out.alloc _).cs 5 rfl, (hS.out.alloc _).cs 6 rfl, (hS.out.alloc _).cs 7 rfl⟩ | with_reducible exact ⟨((hS.out.alloc _).alloc _).cs 0 rfl, ((hS.out.alloc _).alloc _).cs 1 rfl, ((hS.out.alloc _).alloc _).cs 2 rfl, ((hS.out.alloc _).alloc _).cs 3 rfl, ((hS.out.alloc _).alloc _).cs 4 rfl, ((hS.out.alloc _).alloc _).cs 5 rfl, ((hS.out.alloc _).alloc _).cs 6 rfl, ((hS.out.alloc _).alloc _).cs 7 rfl⟩) (first
          | (go_at_call 22; (with_reducible refine (add_w hS.out (by repeat (first | exact List.mem_cons_self | apply List.mem_cons_of_mem)) (by repeat (first | exact List.mem_cons_self | apply List.mem_cons_of_mem)) (by omega) (by omega) (by first | exact iv_sm _ | exact HZ0.out | exact HZ1.out | exact HZA.out | exact HZB.out) (by first | exact iv_sm _ | exact HZ0.out | exact HZ1.out | exact HZA.out | exact HZB.out)).mono ?_); rintro e w' ⟨r, Ai, ni, ci, hr, rfl, h1⟩; clear hS; have hS := Lib.hid h1; clear h1)
          | (go_at_call 23; (with_reducible refine (sub_w hS.out (by repeat (first | exact List.mem_cons_self | apply List.mem_cons_of_mem)) (by repeat (first | exact List.mem_cons_self | apply List.mem_cons_of_mem)) (by omega) (by omega) (by first | exact iv_sm _ | exact HZ0.out | exact HZ1.out | exact HZA.out | exact HZB.out) (by first | exact iv_sm _ | exact HZ0.out | exact HZ1.out | exact HZA.out | exact HZB.out)).mono ?_); rintro e w' ⟨r, Ai, ni, ci, hr, rfl, h1⟩; clear hS; have hS := Lib.hid h1; clear h1)
          | (go_at_call 25; (with_reducible refine (mul_w hS.out (by repeat (first | exact List.mem_cons_self | apply List.mem_cons_of_mem)) (by repeat (first | exact List.mem_cons_self | apply List.mem_cons_of_mem)) (by omega) (by omega) (by first | exact iv_sm _ | exact HZ0.out | exact HZ1.out | exact HZA.out | exact HZB.out) (by first | exact iv_sm _ | exact HZ0.out | exact HZ1.out | exact HZA.out | exact HZB.out)).mono ?_); rintro e w' ⟨r, Ai, ni, ci, hr, rfl, h1⟩; clear hS; have hS := Lib.hid h1; clear h1)
          | (go_at_call 24; (with_reducible refine (neg_w hS.out (by repeat (first | exact List.mem_cons_self | apply List.mem_cons_of_mem)) (by omega) (by first | exact iv_sm _ | exact HZ0.out | exact HZ1.out | exact HZA.out | exact HZB.out)).mono ?_); rintro e w' ⟨r, Ai, ni, ci, hr, rfl, h1⟩; clear hS; have hS := Lib.hid h1; clear h1)
          | (go_at_call 21; (with_reducible refine (same_v hS.out (by repeat (first | exact List.mem_cons_self | apply List.mem_cons_of_mem)) (by repeat (first | exact List.mem_cons_self | apply List.mem_cons_of_mem)) (by first | rfl | omega | (subst_vars; first | rfl))).mono ?_); rintro e w' ⟨rfl, h1⟩; clear hS; have hS := Lib.hid h1; clear h1))
        obtain ⟨x0, y0⟩ := hS.out.cs 0 rfl
        obtain ⟨x1, y1⟩ := hS.out.cs 1 rfl
        obtain ⟨x2, y2⟩ := hS.out.cs 2 rfl
        obtain ⟨x3, y3⟩ := hS.out.cs 3 rfl
        obtain ⟨x4, y4⟩ := hS.out.cs 4 rfl
        obtain ⟨x5, y5⟩ := hS.out.cs 5 rfl
        obtain ⟨x6, y6⟩ := hS.out.cs 6 rfl
        obtain ⟨x7, y7⟩ := hS.out.cs 7 rfl
        go_wp2_with (first
          | (go_at_call 22; (with_reducible refine (add_w hS.out (by repeat (first | exact List.mem_cons_self | apply List.mem_cons_of_mem)) (by repeat (first | exact List.mem_cons_self | apply List.mem_cons_of_mem)) (by omega) (by omega) (by first | exact iv_sm _ | exact HZ0.out | exact HZ1.out | exact HZA.out | exact HZB.out) (by first | exact iv_sm _ | exact HZ0.out | exact HZ1.out | exact HZA.out | exact HZB.out)).mono ?_); rintro e w' ⟨r, Ai, ni, ci, hr, rfl, h1⟩; clear x0 y0 x1 y1 x2 y2 x3 y3 x4 y4 x5 y5 x6 y6 x7 y7; clear hS; have hS := Lib.hid h1; clear h1; obtain ⟨x0, y0⟩ := hS.out.cs 0 rfl; obtain ⟨x1, y1⟩ := hS.out.cs 1 rfl; obtain ⟨x2, y2⟩ := hS.out.cs 2 rfl; obtain ⟨x3, y3⟩ := hS.out.cs 3 rfl; obtain ⟨x4, y4⟩ := hS.out.cs 4 rfl; obtain ⟨x5, y5⟩ := hS.out.cs 5 rfl; obtain ⟨x6, y6⟩ := hS.out.cs 6 rfl; obtain ⟨x7, y7⟩ := hS.out.cs 7 rfl)
          | (go_at_call 23; (with_reducible refine (sub_w hS.out (by repeat (first | exact List.mem_cons_self | apply List.mem_cons_of_mem)) (by repeat (first | exact List.mem_cons_self | apply List.mem_cons_of_mem)) (by omega) (by omega) (by first | exact iv_sm _ | exact HZ0.out | exact HZ1.out | exact HZA.out | exact HZB.out) (by first | exact iv_sm _ | exact HZ0.out | exact HZ1.out | exact HZA.out | exact HZB.out)).mono ?_); rintro e w' ⟨r, Ai, ni, ci, hr, rfl, h1⟩; clear x0 y0 x1 y1 x2 y2 x3 y3 x4 y4 x5 y5 x6 y6 x7 y7; clear hS; have hS := Lib.hid h1; clear h1; obtain ⟨x0, y0⟩ := hS.out.cs 0 rfl; obtain ⟨x1, y1⟩ := hS.out.cs 1 rfl; obtain ⟨x2, y2⟩ := hS.out.cs 2 rfl; obtain ⟨x3, y3⟩ := hS.out.cs 3 rfl; obtain ⟨x4, y4⟩ := hS.out.cs 4 rfl; obtain ⟨x5, y5⟩ := hS.out.cs 5 rfl; obtain ⟨x6, y6⟩ := hS.out.cs 6 rfl; obtain ⟨x7, y7⟩ := hS.out.cs 7 rfl)
          | (go_at_call 25; (with_reducible refine (mul_w hS.out (by repeat (first | exact List.mem_cons_self | apply List.mem_cons_of_mem)) (by repeat (first | exact List.mem_cons_self | apply List.mem_cons_of_mem)) (by omega) (by omega) (by first | exact iv_sm _ | exact HZ0.out | exact HZ1.out | exact HZA.out | exact HZB.out) (by first | exact iv_sm _ | exact HZ0.out | exact HZ1.out | exact HZA.out | exact HZB.out)).mono ?_); rintro e w' ⟨r, Ai, ni, ci, hr, rfl, h1⟩; clear x0 y0 x1 y1 x2 y2 x3 y3 x4 y4 x5 y5 x6 y6 x7 y7; clear hS; have hS := Lib.hid h1; clear h1; obtain ⟨x0, y0⟩ := hS.out.cs 0 rfl; obtain ⟨x1, y1⟩ := hS.out.cs 1 rfl; obtain ⟨x2, y2⟩ := hS.out.cs 2 rfl; obtain ⟨x3, y3⟩ := hS.out.cs 3 rfl; obtain ⟨x4, y4⟩ := hS.out.cs 4 rfl; obtain ⟨x5, y5⟩ := hS.out.cs 5 rfl; obtain ⟨x6, y6⟩ := hS.out.cs 6 rfl; obtain ⟨x7, y7⟩ := hS.out.cs 7 rfl)
          | (go_at_call 24; (with_reducible refine (neg_w hS.out (by repeat (first | exact List.mem_cons_self | apply List.mem_cons_of_mem)) (by omega) (by first | exact iv_sm _ | exact HZ0.out | exact HZ1.out | exact HZA.out | exact HZB.out)).mono ?_); rintro e w' ⟨r, Ai, ni, ci, hr, rfl, h1⟩; clear x0 y0 x1 y1 x2 y2 x3 y3 x4 y4 x5 y5 x6 y6 x7 y7; clear hS; have hS := Lib.hid h1; clear h1; obtain ⟨x0, y0⟩ := hS.out.cs 0 rfl; obtain ⟨x1, y1⟩ := hS.out.cs 1 rfl; obtain ⟨x2, y2⟩ := hS.out.cs 2 rfl; obtain ⟨x3, y3⟩ := hS.out.cs 3 rfl; obtain ⟨x4, y4⟩ := hS.out.cs 4 rfl; obtain ⟨x5, y5⟩ := hS.out.cs 5 rfl; obtain ⟨x6, y6⟩ := hS.out.cs 6 rfl; obtain ⟨x7, y7⟩ := hS.out.cs 7 rfl)
          | (go_at_call 14; (with_reducible refine (make_w hS.out (by repeat (first | exact List.mem_cons_self | apply List.mem_cons_of_mem)) (by omega) HZN.out).mono ?_); rintro e w' ⟨Ai, ni, ci, rfl, h1⟩; clear x0 y0 x1 y1 x2 y2 x3 y3 x4 y4 x5 y5 x6 y6 x7 y7; clear hS; have hS := Lib.hid h1; clear h1; obtain ⟨x0, y0⟩ := hS.out.cs 0 rfl; obtain ⟨x1, y1⟩ := hS.out.cs 1 rfl; obtain ⟨x2, y2⟩ := hS.out.cs 2 rfl; obtain ⟨x3, y3⟩ := hS.out.cs 3 rfl; obtain ⟨x4, y4⟩ := hS.out.cs 4 rfl; obtain ⟨x5, y5⟩ := hS.out.cs 5 rfl; obtain ⟨x6, y6⟩ := hS.out.cs 6 rfl; obtain ⟨x7, y7⟩ := hS.out.cs 7 rfl)
          | (go_at_call 17; (with_reducible refine (may_w hS.out (by repeat (first | exact List.mem_cons_self | apply List.mem_cons_of_mem)) (by omega) (mayB_told _)).mono ?_); rintro e w' ⟨rfl, h1⟩; clear x0 y0 x1 y1 x2 y2 x3 y3 x4 y4 x5 y5 x6 y6 x7 y7; clear hS; have hS := Lib.hid h1; clear h1; obtain ⟨x0, y0⟩ := hS.out.cs 0 rfl; obtain ⟨x1, y1⟩ := hS.out.cs 1 rfl; obtain ⟨x2, y2⟩ := hS.out.cs 2 rfl; obtain ⟨x3, y3⟩ := hS.out.cs 3 rfl; obtain ⟨x4, y4⟩ := hS.out.cs 4 rfl; obtain ⟨x5, y5⟩ := hS.out.cs 5 rfl; obtain ⟨x6, y6⟩ := hS.out.cs 6 rfl; obtain ⟨x7, y7⟩ := hS.out.cs 7 rfl))
        go_ret
        exact ⟨rfl, hS.out.st.1⟩
  · have hS := Lib.hid (SB.start w)
    clear h0 h1
    go_enter Tryd.func9, Tryd.ntmps9
    have h1 := ((hS.out.boxed (b := b0) (A := A0) (n := n0) (c := c0) rfl).boxed (b := b1) (A := A1) (n := n1) (c := c1) rfl)
    try simp only [World.size_alloc] at h1
    obtain ⟨p0, q0⟩ := h1.cs 0 rfl
    obtain ⟨p1, q1⟩ := h1.cs 1 rfl
    clear h1
    go_wp2_with fail
    clear p0 q0 p1 q1
    generalize hwa : World.alloc (World.alloc w _) _ = v1
    have h1 := ((hS.out.boxed rfl).boxed hwa)
    simp only [World.size_alloc] at h1
    have hsz : v1.heap.size = w.heap.size + 1 + 1 := by rw [← hwa]; simp only [World.size_alloc]
    try rw [← hsz]
    clear hsz
    clear hwa
    clear hS; have hS := Lib.hid h1; clear h1
    obtain ⟨x0, y0⟩ := hS.out.cs 0 rfl
    obtain ⟨x1, y1⟩ := hS.out.cs 1 rfl
    go_wp2_with fail
    go_at_call 20
    with_reducible refine (wlong2_y hS.out _ _ _ _ _ _ _ _ (by omega) (by omega) hl).mono ?_
    rintro e v2 ⟨rfl, h1⟩
    clear x0 y0 x1 y1
    clear hS; have hS := Lib.hid h1; clear h1
    obtain ⟨x0, y0⟩ := hS.out.cs 0 rfl
    obtain ⟨x1, y1⟩ := hS.out.cs 1 rfl
    go_wp2_with fail
    go_at_call 10
    with_reducible refine (wawake_s hS.out).mono ?_
    rintro e v3 ⟨rfl, h1⟩
    clear x0 y0 x1 y1
    clear hS; have hS := Lib.hid h1; clear h1
    obtain ⟨x0, y0⟩ := hS.out.cs 0 rfl
    obtain ⟨x1, y1⟩ := hS.out.cs 1 rfl
    go_wp2
    go_ret
    exact ⟨rfl, hS.out.st.1⟩
set_option maxRecDepth 100000 in
theorem lifted (os : Os) (started : os.Started) (H : Type) (enc : TypeId × Value → H) :
    ReturnsInHanded {} Tryd.checked os 9 .any (fun w args => (Rows.wholeToldSpec.pre enc Tryd.prog Tryd.f9 Rows.wholeToldRow.domain false w args ∧ laidMetH Tryd.prog Rows.wholeToldRow.laid w) ∧ sizedMet enc Tryd.prog Tryd.f9 (OpenSpec.ofChange Rows.wholeToldSpec) false w args) (Rows.wholeToldSpec.post enc Tryd.prog Tryd.f9 false true false false) := by
  refine returnsInHanded_of_change_and (C := Tryd.checked) (X := fun w _ => laidMetH Tryd.prog Rows.wholeToldRow.laid w) (fun _ _ _ hh h => h.of_heap hh) own started (by kernel_rfl) Tryd.func9
    (ChangeSpec.witness_shaped (enc := enc) (C := Tryd.checked) (os := os) (X := fun w _ => laidMetH Tryd.prog Rows.wholeToldRow.laid w) false (World.laidAll Tryd.prog os Rows.wholeToldRow.laid) #[.agg #[.bool false, .slice none 0 0], .agg #[.bool false, .slice none 0 0], .int .u8 0, .int .u8 0, .bool false] 8 (World.laidAll_os _ _ _)
      (World.shaped_of_ZipB (by kernel_rfl) (by kernel_rfl)) (by kernel_rfl) (by kernel_rfl) (by kernel_rfl)
      (by rw [MakeChecks.laidMetH_plain _ _ _ (by kernel_rfl)]; exact laidMet_laidAll _ (by kernel_rfl) (by kernel_rfl))) ?_
  intro W base args ds gs before hval0 hW hcnd _ _ _
  have hval : ∀ (j : Nat) t v, Tryd.f9.params[j]? = some t → args[j]? = some v → Value.okWide Tryd.prog W .any base t v := hval0
  have hW' := hW
  obtain ⟨p, q, hA0, hV, hpq, hfz, hnd⟩ := hW
  have hA : DataW.TrodAll enc Tryd.prog W 0 (fun _ => true) true Tryd.f9.params.toList args.toList ds p := hA0
  rw [Tryd.params9] at hA hval
  obtain ⟨v0, vs0, d0, ds0, p0, q0, hargs, rfl, rfl, h0, r0⟩ := trodAll_cons hA
  obtain ⟨v1, vs1, d1, ds1, p1, q1, rfl, rfl, rfl, h1, r1⟩ := trodAll_cons r0
  obtain ⟨v2, vs2, d2, ds2, p2, q2, rfl, rfl, rfl, h2, r2⟩ := trodAll_cons r1
  obtain ⟨v3, vs3, d3, ds3, p3, q3, rfl, rfl, rfl, h3, r3⟩ := trodAll_cons r2
  obtain ⟨v4, vs4, d4, ds4, p4, q4, rfl, rfl, rfl, h4, r4⟩ := trodAll_cons r3
  obtain ⟨rfl, rfl, rfl⟩ := trodAll_nil r4
  obtain rfl : args = #[v0, v1, v2, v3, v4] := by cases args; simp_all
  obtain ⟨rfl, rfl⟩ := trodVars_none hV
  obtain ⟨b0, A0, n0, c0, xs0, rfl, s0⟩ := open_whole (hval 0 26 v0 rfl rfl) h0
  obtain ⟨b1, A1, n1, c1, xs1, rfl, s1⟩ := open_whole (hval 1 26 v1 rfl rfl) h1
  obtain ⟨a2, rfl, rfl, rfl, w2⟩ := open_int Tryd.underlying5 (hval 2 5 v2 rfl rfl) h2
  obtain ⟨a3, rfl, rfl, rfl, w3⟩ := open_int Tryd.underlying5 (hval 3 5 v3 rfl rfl) h3
  obtain ⟨b4, rfl, rfl, rfl⟩ := Go.RowKit.open_bool Tryd.underlying4 (hval 4 4 v4 rfl rfl) h4
  refine (walk W b0 A0 n0 c0 xs0 s0 b1 A1 n1 c1 xs1 s1 a2 w2 a3 w3 b4).mono fun e W' ⟨he, hb⟩ => ?_
  subst he
  exact ⟨_, rfl, Frame.close laidOut hW' rfl rfl rfl Tryd.underlying4 (fun t ht => by rw [Tryd.params9] at ht; simp at ht; rcases ht with rfl | rfl | rfl <;> exact ⟨by kernel_rfl, of_decide_eq_true (by kernel_rfl)⟩) hb⟩
theorem over : Rows.wholeToldRow.holds Tryd.pinned (OpenSpec.ofChange Rows.wholeToldSpec) :=
  OpenClaim.holds_of_wide 9 Tryd.f9 rfl rfl rfl rfl rfl rfl rfl ⟨rfl, rfl, rfl, rfl, rfl⟩ rfl rfl rfl rfl rfl (by kernel_rfl) Tryd.func9 (by kernel_rfl)
    (of_decide_eq_true (by kernel_rfl)) (by unfold Func.isWrapper; first | (rw [if_pos (by decide +kernel)]; kernel_rfl) | (rw [if_neg (by decide +kernel)]; exact ⟨rfl, rfl⟩))
    (fun os started H enc _ => lifted os started H enc)
/-- the statement -/
theorem proved : Rows.WholeToldCardSaid :=
  Claim7.holds_tied_plain_at .later [] _ _ _ _ over (fun _ h => by cases h) (by kernel_rfl) (fun _ h => by cases h) wholeTold_row_tie rfl ⟨rfl, rfl⟩ (by kernel_rfl) rfl
    (fun f fn hf hfn => by
      obtain rfl : f = 9 := Option.some.inj ((show Tryd.prog.funcNamed "tombola/tombolalaw05.WholeTold" = some 9 by kernel_rfl).symm.trans hf) |>.symm
      obtain rfl : fn = Tryd.f9 := (Option.some.inj (Tryd.func9.symm.trans hfn)).symm
      exact ⟨by kernel_rfl, (fun j t ht => by
        rw [Tryd.params9] at ht
        have hm : t ∈ [26, 26, 5, 5, 4] := by simpa using Array.mem_of_getElem? ht
        have hall : ([26, 26, 5, 5, 4].all fun u => !Tryd.prog.wantsStandIn u) = true := by kernel_rfl
        exact (show Tryd.prog.wantsStandIn t = false by simpa using List.all_eq_true.1 hall t hm))⟩)
    (by kernel_rfl)
#print axioms proved
end Go.Proofs.YtgahnchfefngeaaDoor.wholeTold
