/-
  PROVED: the statement QuoDivides (tombolalaw03.QuoDivides) about the landed commit: for every input the law returns true and leaves its arguments as they were. Conditions: none beyond those that the given row itself prints.
-/
import Derived.Test.YtbjhfnkdflnnoaaRows
import Derived.WalkKit
import Derived.ProofKit
import Derived.OpenShut
import Derived.RowKit3
import Derived.Test.YtbjhfnkdflnnoaaLawFrame
import Derived.Test.YtbjhfnkdflnnoaaNatOpen
import Derived.Test.YtbjhfnkdflnnoaaQuoAwake
import Derived.Test.YtbjhfnkdflnnoaaQuoTail
import Derived.Test.YtbjhfnkdflnnoaaRefDiv
namespace Go.Proofs.Ytbjhfnkdflnnoaa.quoDivides
open Go.ChangeShapes Go.WideShapes Go.ChangeAt Go.RowKit
set_option linter.unusedVariables false
open N
theorem own : ownKnob Try.prog.godebug = none := by kernel_rfl
theorem qsame_yes (w : World) (A A' : Option Addr) (n c m d : Nat) (xs ys : List Int) (hx : Sl w A n c xs) (hy : Sl w A' m d ys) (he : xs = ys) :
    Calls Try.prog 16 #[.slice A n c, .slice A' m d] w fun e w' => e = .returned (.bool true) ∧ ∃ k, w' = w.drewN k :=
  (qsame_any w A A' n c m d xs ys hx hy).mono fun e w' ⟨h1, h2⟩ => ⟨by rw [h1, decide_eq_true he], h2⟩
theorem qsame_d (w : World) (k : Nat) (A A' : Option Addr) (n c m d : Nat) (xs ys : List Int) (hx : Sl w A n c xs) (hy : Sl w A' m d ys) (he : xs = ys) :
    Calls Try.prog 16 #[.slice A n c, .slice A' m d] (w.drewN k) fun e w' => e = .returned (.bool true) ∧ ∃ q, w' = w.drewN q :=
  (qsame_yes _ A A' n c m d xs ys (hx.drewN k) (hy.drewN k) he).mono fun e w' ⟨h1, q, h2⟩ => ⟨h1, k + q, by rw [h2, World.drewN_drewN]⟩
theorem below_dn (w : World) (k : Nat) : Below w.heap.size w (w.drewN k) := ⟨rfl, rfl, rfl, Nat.le_refl _, fun _ _ => rfl⟩
theorem own_apart {w w' : World} {base : Nat} {A A' : Option Addr} {n c : Nat} {xs : List Int} (h : N.Own w base A n c xs) (hg : w.grownBy w' (rowOf A')) (hne : ∀ g, rowOf A' = some g → rowOf A ≠ some g) : N.Own w' base A n c xs :=
  ⟨h.row.kept hg (by
    rw [ownBlock_eq]
    cases hb : rowOf A with
    | none => exact .inl rfl
    | some g => exact .inr (fun e => hne g e.symm hb)), h.dg⟩
/-- writing over what lies from block base on -/
theorem qspoil_s (w : World) (base : Nat) (A : Option Addr) (n c : Nat) (xs : List Int) (h : N.Own w base A n c xs) (hbase : base ≤ w.heap.size) :
    Calls Try.prog 17 #[.slice A n c] w fun e w' => (∃ v, e = .returned v) ∧ Below base w w' ∧ w.grownBy w' (rowOf A) := by
  refine (qspoil_any w base A n c xs h).mono fun e w' ⟨hv, hg⟩ => ⟨hv, below_grow hg hbase (fun k e => (h.row.lt k (by rw [ownBlock_eq]; exact e)).1), hg⟩
theorem rdiv_z {w0 w : World} {S : List Ent} {A A' : Option Addr} {n c m d k k' : Nat} {xs ys : List Int} {va vb : Int} (h : St w0 w S) (h1 : (⟨A, n, c, k, xs, va⟩ : Ent) ∈ S) (h2 : (⟨A', m, d, k', ys, vb⟩ : Ent) ∈ S) (hk' : k' ≤ 1000) (hb : vb = 0) :
    Calls Try.prog 14 #[.slice A n c, .slice A' m d] w fun e w' => e = .returned (.tuple #[.slice none 0 0, .slice none 0 0, .int .i64 7]) ∧ St w0 w' S := by
  have HZ := Lib.hid (show W.len vb = 0 by rw [hb]; exact len_0)
  have hS := Lib.hid h
  have H2 := Lib.hid h2
  clear hb h h2 h1
  go_enter Try.func14, Try.ntmps14
  go_wp2_with (go_at_call 20; refine (rlen_v hS.out H2.out (by omega)).mono ?_; rw [HZ.out]; rintro e w' ⟨rfl, h1⟩; clear hS; have hS := Lib.hid h1; clear h1)
  go_ret3
  exact ⟨rfl, hS.out⟩
theorem val_lt_Q {xs : List Int} {n T : Nat} (h : Dg B xs) (hl : xs.length = n) (hn : n ≤ T) : val B xs < Q B T := by
  have h1 := val_lt (b := B) (by decide) h
  rw [hl, Q_two] at h1
  rw [Q_two]
  have e5 : (2 : Int) ^ (64 * n) ≤ 2 ^ (64 * T) := by rw [← W.cast_pow, ← W.cast_pow]; exact Int.ofNat_le.2 (Nat.pow_le_pow_right (by omega) (by omega))
  exact Int.lt_of_lt_of_le h1 e5
theorem four_lt {a b : Int} {T : Nat} (ha : a < Q B T) (hb : b < Q B T) : a + a + b + b < Q B (T + 1) := by
  have hq := Q_pos (b := B) (by decide) T
  have : Q B (T + 1) = Q B T * 18446744073709551616 := Q_succ ..
  omega
set_option maxRecDepth 100000 in
set_option maxHeartbeats 4000000 in
theorem walk (w : World) (A0 : Option Addr) (n0 c0 : Nat) (xs0 : List Int) (h0 : Sl w A0 n0 c0 xs0) (A1 : Option Addr) (n1 c1 : Nat) (xs1 : List Int) (h1 : Sl w A1 n1 c1 xs1) :
    Calls Try.prog 3 #[.slice A0 n0 c0, .slice A1 n1 c1] w fun e w' => e = .returned (.bool true) ∧ Below w.heap.size w w' := by
  have hc0 := h0.cap
  have hm0 := h0.max
  have hc1 := h1.cap
  have hm1 := h1.max
  unfold maxLen at hm0 hm1
  by_cases hl : n0 ≤ 12 ∧ n1 ≤ 12
  · obtain ⟨l0, l1⟩ := hl
    have HN := Lib.hid (four_lt (T := 12) (val_lt_Q h0.dg h0.len l0) (val_lt_Q h1.dg h1.len l1))
    have pb := val_nonneg (b := B) (by decide) h1.dg
    have hS := Lib.hid (((St.nil_ w).cons h0 l0 rfl).cons h1 l1 rfl)
    clear h0 h1
    by_cases hv : val B xs1 = 0
    · have HV := Lib.hid hv
      clear hv pb
      go_enter Try.func3, Try.ntmps3
      go_wp2_with (first
          | (go_at_call 12; (with_reducible refine (qlong2_n hS.out _ _ _ _ _ _ (by omega) (by omega)).mono ?_); rintro e w' ⟨rfl, h1⟩; clear hS; have hS := Lib.hid h1; clear h1)
          | (at_builtin; refine wp_copy hS.out (A := A0) (v := val B xs0) (by repeat (first | exact List.mem_cons_self | apply List.mem_cons_of_mem)) (by omega) rfl _ _ rfl rfl rfl ?_; intro Ax cx wx hox hbx; have h9 := (hS.out.below hbx).cons (k := 12) hox.sl l0 rfl; clear hS; have hS := Lib.hid h9; clear h9 hox hbx)
          | (at_builtin; refine wp_copy hS.out (A := A1) (v := val B xs1) (by repeat (first | exact List.mem_cons_self | apply List.mem_cons_of_mem)) (by omega) rfl _ _ rfl rfl rfl ?_; intro Ay cy wy hoy hby; have h9 := (hS.out.below hby).cons (k := 12) hoy.sl l1 rfl; clear hS; have hS := Lib.hid h9; clear h9 hoy hby)
          | (go_at_call 14; (with_reducible refine (rdiv_z hS.out (by repeat (first | exact List.mem_cons_self | apply List.mem_cons_of_mem)) (by repeat (first | exact List.mem_cons_self | apply List.mem_cons_of_mem)) (by omega) HV.out).mono ?_); rintro e wb ⟨rfl, h9⟩; clear hS; have hS := Lib.hid h9; clear h9))
      have hx := (hS.out.get (A := Ax) (n := n0) (c := cx) (k := 12) (xs := xs0) (v := val B xs0) (by repeat (first | exact List.mem_cons_self | apply List.mem_cons_of_mem))).1
      have hy := (hS.out.get (A := Ay) (n := n1) (c := cy) (k := 12) (xs := xs1) (v := val B xs1) (by repeat (first | exact List.mem_cons_self | apply List.mem_cons_of_mem))).1
      have ha := (hS.out.get (A := A0) (n := n0) (c := c0) (k := 12) (xs := xs0) (v := val B xs0) (by repeat (first | exact List.mem_cons_self | apply List.mem_cons_of_mem))).1
      have hb := (hS.out.get (A := A1) (n := n1) (c := c1) (k := 12) (xs := xs1) (v := val B xs1) (by repeat (first | exact List.mem_cons_self | apply List.mem_cons_of_mem))).1
      have hbw0 := hS.out.1
      clear hS
      go_loopw [10] (fun i wr => ∃ k : Nat, k ≤ 2 ∧ i = .int .i64 k ∧ Below wb.heap.size wb wr) (fun i _ => 2 - (intOf i).toNat)
      case atStart => exact ⟨0, by omega, rfl, Below.refl _ _⟩
      case round =>
        obtain ⟨k, hk, rfl, hbr⟩ := hrel
        obtain ⟨wi, rfl⟩ : ∃ wi : World, wi = wr := ⟨_, rfl⟩
        by_cases hk2 : k < 2
        · skip
          go_wp2_with fail
          refine (qdiv_zero _ A0 A1 n0 c0 n1 c1 xs0 xs1 (ha.below hbr) (hb.below hbr) (by omega) (by omega) HV.out).mono ?_
          rintro e w1 ⟨rfl, hw1⟩
          rw [hw1]
          clear hw1
          go_wp2_with fail
          refine (qsame_yes wi _ _ _ _ _ _ [] [] Sl.none Sl.none rfl).mono ?_
          rintro e w2 ⟨rfl, q2, rfl⟩
          go_wp2_with fail
          refine (qsame_d wi _ _ _ _ _ _ _ [] [] Sl.none Sl.none rfl).mono ?_
          rintro e w2 ⟨rfl, q3, rfl⟩
          go_wp2_with fail
          refine (qsame_d wi _ _ _ _ _ _ _ _ _ (ha.below hbr) (hx.below hbr) rfl).mono ?_
          rintro e w2 ⟨rfl, q4, rfl⟩
          go_wp2_with fail
          refine (qsame_d wi _ _ _ _ _ _ _ _ _ (hb.below hbr) (hy.below hbr) rfl).mono ?_
          rintro e w2 ⟨rfl, q5, rfl⟩
          go_wp2_with fail
          refine (qspoil_s (wi.drewN q5) wi.heap.size _ _ _ _ (Own.nil_ _ _) (Nat.le_refl _)).mono ?_
          rintro e w6 ⟨⟨v6, rfl⟩, hb6, hg6⟩
          go_wp2_with fail
          refine (qspoil_s w6 wi.heap.size _ _ _ _ (Own.nil_ _ _) hb6.size).mono ?_
          rintro e w7 ⟨⟨v7, rfl⟩, hb7, hg7⟩
          have hbw := (below_dn wi q5).trans (hb6.trans hb7)
          go_wp2
          go_roundw
          case rel => exact ⟨k + 1, by omega, by go_num, hbr.trans (hbw.mono hbr.size)⟩
          case measure => simp [intOf]; omega
        · obtain rfl : k = 2 := by omega
          go_wp2_with fail
          refine (qawake_any _).mono ?_
          rintro e w9 ⟨rfl, hb9⟩
          go_wp2
          go_ret
          exact ⟨rfl, (hbw0.trans (hbr.mono hbw0.size)).trans (hb9.mono (Nat.le_trans hbw0.size hbr.size))⟩
    · have HV := Lib.hid (show 0 < val B xs1 by omega)
      clear hv pb
      go_enter Try.func3, Try.ntmps3
      go_wp2_with (first
          | (go_at_call 12; (with_reducible refine (qlong2_n hS.out _ _ _ _ _ _ (by omega) (by omega)).mono ?_); rintro e w' ⟨rfl, h1⟩; clear hS; have hS := Lib.hid h1; clear h1)
          | (at_builtin; refine wp_copy hS.out (A := A0) (v := val B xs0) (by repeat (first | exact List.mem_cons_self | apply List.mem_cons_of_mem)) (by omega) rfl _ _ rfl rfl rfl ?_; intro Ax cx wx hox hbx; have h9 := (hS.out.below hbx).cons (k := 12) hox.sl l0 rfl; clear hS; have hS := Lib.hid h9; clear h9 hox hbx)
          | (at_builtin; refine wp_copy hS.out (A := A1) (v := val B xs1) (by repeat (first | exact List.mem_cons_self | apply List.mem_cons_of_mem)) (by omega) rfl _ _ rfl rfl rfl ?_; intro Ay cy wy hoy hby; have h9 := (hS.out.below hby).cons (k := 12) hoy.sl l1 rfl; clear hS; have hS := Lib.hid h9; clear h9 hoy hby)
          | (go_at_call 14; (with_reducible refine (rdiv_v (N := 13) hS.out (by repeat (first | exact List.mem_cons_self | apply List.mem_cons_of_mem)) (by repeat (first | exact List.mem_cons_self | apply List.mem_cons_of_mem)) (by omega) (by omega) HV.out HN.out (by omega)).mono ?_); rintro e wb ⟨Ap, np, cp, As, ns, cs, rfl, h9⟩; clear hS; have hS := Lib.hid h9; clear h9))
      have hx := (hS.out.get (A := Ax) (n := n0) (c := cx) (k := 12) (xs := xs0) (v := val B xs0) (by repeat (first | exact List.mem_cons_self | apply List.mem_cons_of_mem))).1
      have hy := (hS.out.get (A := Ay) (n := n1) (c := cy) (k := 12) (xs := xs1) (v := val B xs1) (by repeat (first | exact List.mem_cons_self | apply List.mem_cons_of_mem))).1
      have ha := (hS.out.get (A := A0) (n := n0) (c := c0) (k := 12) (xs := xs0) (v := val B xs0) (by repeat (first | exact List.mem_cons_self | apply List.mem_cons_of_mem))).1
      have hb := (hS.out.get (A := A1) (n := n1) (c := c1) (k := 12) (xs := xs1) (v := val B xs1) (by repeat (first | exact List.mem_cons_self | apply List.mem_cons_of_mem))).1
      have hbw0 := hS.out.1
      have hp := (hS.out.get (A := Ap) (n := np) (c := cp) (k := 13) (xs := limbs (val B xs0 / val B xs1)) (v := val B xs0 / val B xs1) (by repeat (first | exact List.mem_cons_self | apply List.mem_cons_of_mem))).1
      have hs := (hS.out.get (A := As) (n := ns) (c := cs) (k := 13) (xs := limbs (val B xs0 % val B xs1)) (v := val B xs0 % val B xs1) (by repeat (first | exact List.mem_cons_self | apply List.mem_cons_of_mem))).1
      clear hS
      go_loopw [10] (fun i wr => ∃ k : Nat, k ≤ 2 ∧ i = .int .i64 k ∧ Below wb.heap.size wb wr) (fun i _ => 2 - (intOf i).toNat)
      case atStart => exact ⟨0, by omega, rfl, Below.refl _ _⟩
      case round =>
        obtain ⟨k, hk, rfl, hbr⟩ := hrel
        obtain ⟨wi, rfl⟩ : ∃ wi : World, wi = wr := ⟨_, rfl⟩
        by_cases hk2 : k < 2
        · skip
          go_wp2_with fail
          refine (qdiv_any _ A0 A1 n0 c0 n1 c1 xs0 xs1 (ha.below hbr) (hb.below hbr) (by omega) (by omega) HV.out).mono ?_
          rintro e w1 ⟨Aq, nq, cq, Ar, nr, cr, rfl, hnq, hnr, hoq, hor, hne, hb1⟩
          have hbr1 := hbr.trans (hb1.mono hbr.size)
          go_wp2_with fail
          refine (qsame_yes w1 _ _ _ _ _ _ _ _ hoq.sl (hp.below hbr1) rfl).mono ?_
          rintro e w2 ⟨rfl, q2, rfl⟩
          go_wp2_with fail
          refine (qsame_d w1 _ _ _ _ _ _ _ _ _ hor.sl (hs.below hbr1) rfl).mono ?_
          rintro e w2 ⟨rfl, q3, rfl⟩
          go_wp2_with fail
          refine (qsame_d w1 _ _ _ _ _ _ _ _ _ (ha.below hbr1) (hx.below hbr1) rfl).mono ?_
          rintro e w2 ⟨rfl, q4, rfl⟩
          go_wp2_with fail
          refine (qsame_d w1 _ _ _ _ _ _ _ _ _ (hb.below hbr1) (hy.below hbr1) rfl).mono ?_
          rintro e w2 ⟨rfl, q5, rfl⟩
          go_wp2_with fail
          refine (qspoil_s _ wi.heap.size _ _ _ _ (hoq.below (below_dn w1 q5)) hb1.size).mono ?_
          rintro e w6 ⟨⟨v6, rfl⟩, hb6, hg6⟩
          have hor6 := own_apart (hor.below (below_dn w1 q5)) hg6 hne
          go_wp2_with fail
          refine (qspoil_s _ wi.heap.size _ _ _ _ hor6 (Nat.le_trans hb1.size hb6.size)).mono ?_
          rintro e w7 ⟨⟨v7, rfl⟩, hb7, hg7⟩
          have hbw := (hb1.trans ((below_dn w1 q5).mono hb1.size)).trans (hb6.trans hb7)
          go_wp2
          go_roundw
          case rel => exact ⟨k + 1, by omega, by go_num, hbr.trans (hbw.mono hbr.size)⟩
          case measure => simp [intOf]; omega
        · obtain rfl : k = 2 := by omega
          go_wp2_with fail
          refine (qawake_any _).mono ?_
          rintro e w9 ⟨rfl, hb9⟩
          go_wp2
          go_ret
          exact ⟨rfl, (hbw0.trans (hbr.mono hbw0.size)).trans (hb9.mono (Nat.le_trans hbw0.size hbr.size))⟩
  · have HL := Lib.hid hl
    clear hl
    have hS := Lib.hid (St.nil_ w)
    clear h0 h1
    go_enter Try.func3, Try.ntmps3
    go_wp2_with (first
        | (go_at_call 12; (with_reducible refine (qlong2_y hS.out _ _ _ _ _ _ (by omega) (by omega) HL.out).mono ?_); rintro e w' ⟨rfl, h1⟩; clear hS; have hS := Lib.hid h1; clear h1)
        | (go_at_call 13; (with_reducible refine (qawake_s hS.out ).mono ?_); rintro e w' ⟨rfl, h1⟩; clear hS; have hS := Lib.hid h1; clear h1))
    go_ret
    exact ⟨rfl, hS.out.1⟩
set_option maxRecDepth 100000 in
theorem lifted (os : Os) (started : os.Started) (H : Type) (enc : TypeId × Value → H) :
    ReturnsInHanded {} Try.checked os 3 .any (Rows.quoDividesSpec.pre6 enc Try.prog Try.f3 Rows.quoDividesRow.domain false) (Rows.quoDividesSpec.post enc Try.prog Try.f3 false true false false) := by
  refine returnsInHanded_of_change (C := Try.checked) own started (by kernel_rfl) Try.func3
    (ChangeSpec.witness6 (enc := enc) (C := Try.checked) false ⟨#[], #[.slice none 0 0, .slice none 0 0], []⟩ 8 (by kernel_rfl) (by kernel_rfl) (by kernel_rfl) (by kernel_rfl)) ?_
  intro W base args ds gs before hval0 hW hcnd _
  have hval : ∀ (j : Nat) t v, Try.f3.params[j]? = some t → args[j]? = some v → Value.okWide Try.prog W .any base t v := hval0
  have hW' := hW
  obtain ⟨p, q, hA0, hV, hpq, hfz, hnd⟩ := hW
  have hA : DataW.TrodAll enc Try.prog W 0 (fun _ => true) true Try.f3.params.toList args.toList ds p := hA0
  rw [Try.params3] at hA hval
  obtain ⟨v0, vs0, d0, ds0, p0, q0, hargs, rfl, rfl, h0, r0⟩ := trodAll_cons hA
  obtain ⟨v1, vs1, d1, ds1, p1, q1, rfl, rfl, rfl, h1, r1⟩ := trodAll_cons r0
  obtain ⟨rfl, rfl, rfl⟩ := trodAll_nil r1
  obtain rfl : args = #[v0, v1] := by cases args; simp_all
  obtain ⟨rfl, rfl⟩ := trodVars_none hV
  obtain ⟨A0, n0, c0, xs0, rfl, s0⟩ := open_natural (hval 0 23 v0 rfl rfl) h0
  obtain ⟨A1, n1, c1, xs1, rfl, s1⟩ := open_natural (hval 1 23 v1 rfl rfl) h1
  refine (walk W A0 n0 c0 xs0 s0 A1 n1 c1 xs1 s1).mono fun e W' ⟨he, hb⟩ => ?_
  subst he
  exact ⟨_, rfl, Frame.close laidOut hW' rfl rfl rfl Try.underlying4 (fun t ht => by rw [Try.params3] at ht; simp at ht; rcases ht with rfl <;> exact ⟨by kernel_rfl, of_decide_eq_true (by kernel_rfl)⟩) hb⟩
theorem over : Rows.quoDividesRow.holds Try.pinned (OpenSpec.ofChange Rows.quoDividesSpec) :=
  OpenClaim.holds_of_wide 3 Try.f3 rfl rfl rfl rfl rfl rfl rfl ⟨rfl, rfl, rfl, rfl, rfl⟩ rfl rfl rfl rfl rfl (by kernel_rfl) Try.func3 (by kernel_rfl)
    (of_decide_eq_true (by kernel_rfl)) (by unfold Func.isWrapper; first | (rw [if_pos (by decide +kernel)]; kernel_rfl) | (rw [if_neg (by decide +kernel)]; exact ⟨rfl, rfl⟩))
    (fun os started H enc _ => lifted os started H enc)
/-- the statement -/
theorem proved : Rows.QuoDividesSaid :=
  over
#print axioms proved
end Go.Proofs.Ytbjhfnkdflnnoaa.quoDivides
