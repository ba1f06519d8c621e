/-
  PROVED: the statement QuoCommon (tombolalaw03.QuoCommon) about the landed commit: for every input the law returns true and leaves its arguments as they were. Conditions: none beyond those that the given row itself prints.
-/
import Derived.Test.YtbjhfnkdflnnoaaRows
import Derived.WalkKit
import Derived.ProofKit
import Derived.OpenShut
import Derived.RowKit3
import Derived.Test.YtbjhfnkdflnnoaaLawFrame
import Derived.Test.YtbjhfnkdflnnoaaNatOpen
import Derived.Test.YtbjhfnkdflnnoaaQuoAwake
import Derived.Test.YtbjhfnkdflnnoaaRefGcd
namespace Go.Proofs.Ytbjhfnkdflnnoaa.quoCommon
open Go.ChangeShapes Go.WideShapes Go.ChangeAt Go.RowKit
set_option linter.unusedVariables false
open N
theorem own : ownKnob Try.prog.godebug = none := by kernel_rfl
theorem qsame_yes (w : World) (A A' : Option Addr) (n c m d : Nat) (xs ys : List Int) (hx : Sl w A n c xs) (hy : Sl w A' m d ys) (he : xs = ys) :
    Calls Try.prog 16 #[.slice A n c, .slice A' m d] w fun e w' => e = .returned (.bool true) ∧ ∃ k, w' = w.drewN k :=
  (qsame_any w A A' n c m d xs ys hx hy).mono fun e w' ⟨h1, h2⟩ => ⟨by rw [h1, decide_eq_true he], h2⟩
theorem qsame_d (w : World) (k : Nat) (A A' : Option Addr) (n c m d : Nat) (xs ys : List Int) (hx : Sl w A n c xs) (hy : Sl w A' m d ys) (he : xs = ys) :
    Calls Try.prog 16 #[.slice A n c, .slice A' m d] (w.drewN k) fun e w' => e = .returned (.bool true) ∧ ∃ q, w' = w.drewN q :=
  (qsame_yes _ A A' n c m d xs ys (hx.drewN k) (hy.drewN k) he).mono fun e w' ⟨h1, q, h2⟩ => ⟨h1, k + q, by rw [h2, World.drewN_drewN]⟩
theorem below_dn (w : World) (k : Nat) : Below w.heap.size w (w.drewN k) := ⟨rfl, rfl, rfl, Nat.le_refl _, fun _ _ => rfl⟩
theorem own_apart {w w' : World} {base : Nat} {A A' : Option Addr} {n c : Nat} {xs : List Int} (h : N.Own w base A n c xs) (hg : w.grownBy w' (rowOf A')) (hne : ∀ g, rowOf A' = some g → rowOf A ≠ some g) : N.Own w' base A n c xs :=
  ⟨h.row.kept hg (by
    rw [ownBlock_eq]
    cases hb : rowOf A with
    | none => exact .inl rfl
    | some g => exact .inr (fun e => hne g e.symm hb)), h.dg⟩
/-- writing over what lies from block base on -/
theorem qspoil_s (w : World) (base : Nat) (A : Option Addr) (n c : Nat) (xs : List Int) (h : N.Own w base A n c xs) (hbase : base ≤ w.heap.size) :
    Calls Try.prog 17 #[.slice A n c] w fun e w' => (∃ v, e = .returned v) ∧ Below base w w' ∧ w.grownBy w' (rowOf A) := by
  refine (qspoil_any w base A n c xs h).mono fun e w' ⟨hv, hg⟩ => ⟨hv, below_grow hg hbase (fun k e => (h.row.lt k (by rw [ownBlock_eq]; exact e)).1), hg⟩
theorem val_lt_Q {xs : List Int} {n T : Nat} (h : Dg B xs) (hl : xs.length = n) (hn : n ≤ T) : val B xs < Q B T := by
  have h1 := val_lt (b := B) (by decide) h
  rw [hl, Q_two] at h1
  rw [Q_two]
  have e5 : (2 : Int) ^ (64 * n) ≤ 2 ^ (64 * T) := by rw [← W.cast_pow, ← W.cast_pow]; exact Int.ofNat_le.2 (Nat.pow_le_pow_right (by omega) (by omega))
  exact Int.lt_of_lt_of_le h1 e5
set_option maxRecDepth 100000 in
set_option maxHeartbeats 4000000 in
theorem walk (w : World) (A0 : Option Addr) (n0 c0 : Nat) (xs0 : List Int) (h0 : Sl w A0 n0 c0 xs0) (A1 : Option Addr) (n1 c1 : Nat) (xs1 : List Int) (h1 : Sl w A1 n1 c1 xs1) :
    Calls Try.prog 4 #[.slice A0 n0 c0, .slice A1 n1 c1] w fun e w' => e = .returned (.bool true) ∧ Below w.heap.size w w' := by
  have hc0 := h0.cap
  have hm0 := h0.max
  have hc1 := h1.cap
  have hm1 := h1.max
  unfold maxLen at hm0 hm1
  by_cases hl : n0 ≤ 12 ∧ n1 ≤ 12
  · obtain ⟨l0, l1⟩ := hl
    have HVA := Lib.hid (val_lt_Q h0.dg h0.len l0)
    have HVB := Lib.hid (val_lt_Q h1.dg h1.len l1)
    have hS := Lib.hid (((St.nil_ w).cons h0 l0 rfl).cons h1 l1 rfl)
    clear h0 h1
    go_enter Try.func4, Try.ntmps4
    go_wp2_with (first
        | (go_at_call 12; (with_reducible refine (qlong2_n hS.out _ _ _ _ _ _ (by omega) (by omega)).mono ?_); rintro e w' ⟨rfl, h1⟩; clear hS; have hS := Lib.hid h1; clear h1)
        | (go_at_call 18; (with_reducible refine (rgcd_v (K := 12) hS.out (by repeat (first | exact List.mem_cons_self | apply List.mem_cons_of_mem)) (by repeat (first | exact List.mem_cons_self | apply List.mem_cons_of_mem)) (by omega) (by omega) (by omega) HVA.out HVB.out).mono ?_); rintro e wb ⟨Ap, np, cp, rfl, h9⟩; clear hS; have hS := Lib.hid h9; clear h9))
    have ha := (hS.out.get (A := A0) (n := n0) (c := c0) (k := 12) (xs := xs0) (v := val B xs0) (by repeat (first | exact List.mem_cons_self | apply List.mem_cons_of_mem))).1
    have hb := (hS.out.get (A := A1) (n := n1) (c := c1) (k := 12) (xs := xs1) (v := val B xs1) (by repeat (first | exact List.mem_cons_self | apply List.mem_cons_of_mem))).1
    have hp := (hS.out.get (A := Ap) (n := np) (c := cp) (k := 12) (xs := limbs (gI (val B xs0) (val B xs1))) (v := gI (val B xs0) (val B xs1)) (by repeat (first | exact List.mem_cons_self | apply List.mem_cons_of_mem))).1
    have hbw0 := hS.out.1
    clear hS
    go_loopw [6] (fun i wr => ∃ k : Nat, k ≤ 2 ∧ i = .int .i64 k ∧ Below wb.heap.size wb wr) (fun i _ => 2 - (intOf i).toNat)
    case atStart => exact ⟨0, by omega, rfl, Below.refl _ _⟩
    case round =>
      obtain ⟨k, hk, rfl, hbr⟩ := hrel
      obtain ⟨wi, rfl⟩ : ∃ wi : World, wi = wr := ⟨_, rfl⟩
      by_cases hk2 : k < 2
      · skip
        go_wp2_with fail
        refine (qgcd_any _ A0 A1 n0 c0 n1 c1 12 xs0 xs1 (ha.below hbr) (hb.below hbr) l0 l1 (by omega)).mono ?_
        rintro e w1 ⟨Aq, nq, cq, rfl, hnq, hoq, hb1⟩
        have hbr1 := hbr.trans (hb1.mono hbr.size)
        go_wp2_with fail
        refine (qsame_yes w1 _ _ _ _ _ _ _ _ hoq.sl (hp.below hbr1) rfl).mono ?_
        rintro e w2 ⟨rfl, q2, rfl⟩
        go_wp2_with fail
        refine (qspoil_s _ wi.heap.size _ _ _ _ (hoq.below (below_dn w1 q2)) hb1.size).mono ?_
        rintro e w6 ⟨⟨v6, rfl⟩, hb6, hg6⟩
        have hbw := (hb1.trans ((below_dn w1 q2).mono hb1.size)).trans hb6
        go_wp2
        go_roundw
        case rel => exact ⟨k + 1, by omega, by go_num, hbr.trans (hbw.mono hbr.size)⟩
        case measure => simp [intOf]; omega
      · obtain rfl : k = 2 := by omega
        go_wp2_with fail
        refine (qawake_any _).mono ?_
        rintro e w9 ⟨rfl, hb9⟩
        go_wp2
        go_ret
        exact ⟨rfl, (hbw0.trans (hbr.mono hbw0.size)).trans (hb9.mono (Nat.le_trans hbw0.size hbr.size))⟩
  · have HL := Lib.hid hl
    clear hl
    have hS := Lib.hid (St.nil_ w)
    clear h0 h1
    go_enter Try.func4, Try.ntmps4
    go_wp2_with (first
        | (go_at_call 12; (with_reducible refine (qlong2_y hS.out _ _ _ _ _ _ (by omega) (by omega) HL.out).mono ?_); rintro e w' ⟨rfl, h1⟩; clear hS; have hS := Lib.hid h1; clear h1)
        | (go_at_call 13; (with_reducible refine (qawake_s hS.out ).mono ?_); rintro e w' ⟨rfl, h1⟩; clear hS; have hS := Lib.hid h1; clear h1))
    go_ret
    exact ⟨rfl, hS.out.1⟩
set_option maxRecDepth 100000 in
theorem lifted (os : Os) (started : os.Started) (H : Type) (enc : TypeId × Value → H) :
    ReturnsInHanded {} Try.checked os 4 .any (Rows.quoCommonSpec.pre6 enc Try.prog Try.f4 Rows.quoCommonRow.domain false) (Rows.quoCommonSpec.post enc Try.prog Try.f4 false true false false) := by
  refine returnsInHanded_of_change (C := Try.checked) own started (by kernel_rfl) Try.func4
    (ChangeSpec.witness6 (enc := enc) (C := Try.checked) false ⟨#[], #[.slice none 0 0, .slice none 0 0], []⟩ 8 (by kernel_rfl) (by kernel_rfl) (by kernel_rfl) (by kernel_rfl)) ?_
  intro W base args ds gs before hval0 hW hcnd _
  have hval : ∀ (j : Nat) t v, Try.f4.params[j]? = some t → args[j]? = some v → Value.okWide Try.prog W .any base t v := hval0
  have hW' := hW
  obtain ⟨p, q, hA0, hV, hpq, hfz, hnd⟩ := hW
  have hA : DataW.TrodAll enc Try.prog W 0 (fun _ => true) true Try.f4.params.toList args.toList ds p := hA0
  rw [Try.params4] at hA hval
  obtain ⟨v0, vs0, d0, ds0, p0, q0, hargs, rfl, rfl, h0, r0⟩ := trodAll_cons hA
  obtain ⟨v1, vs1, d1, ds1, p1, q1, rfl, rfl, rfl, h1, r1⟩ := trodAll_cons r0
  obtain ⟨rfl, rfl, rfl⟩ := trodAll_nil r1
  obtain rfl : args = #[v0, v1] := by cases args; simp_all
  obtain ⟨rfl, rfl⟩ := trodVars_none hV
  obtain ⟨A0, n0, c0, xs0, rfl, s0⟩ := open_natural (hval 0 23 v0 rfl rfl) h0
  obtain ⟨A1, n1, c1, xs1, rfl, s1⟩ := open_natural (hval 1 23 v1 rfl rfl) h1
  refine (walk W A0 n0 c0 xs0 s0 A1 n1 c1 xs1 s1).mono fun e W' ⟨he, hb⟩ => ?_
  subst he
  exact ⟨_, rfl, Frame.close laidOut hW' rfl rfl rfl Try.underlying4 (fun t ht => by rw [Try.params4] at ht; simp at ht; rcases ht with rfl <;> exact ⟨by kernel_rfl, of_decide_eq_true (by kernel_rfl)⟩) hb⟩
theorem over : Rows.quoCommonRow.holds Try.pinned (OpenSpec.ofChange Rows.quoCommonSpec) :=
  OpenClaim.holds_of_wide 4 Try.f4 rfl rfl rfl rfl rfl rfl rfl ⟨rfl, rfl, rfl, rfl, rfl⟩ rfl rfl rfl rfl rfl (by kernel_rfl) Try.func4 (by kernel_rfl)
    (of_decide_eq_true (by kernel_rfl)) (by unfold Func.isWrapper; first | (rw [if_pos (by decide +kernel)]; kernel_rfl) | (rw [if_neg (by decide +kernel)]; exact ⟨rfl, rfl⟩))
    (fun os started H enc _ => lifted os started H enc)
/-- the statement -/
theorem proved : Rows.QuoCommonSaid :=
  over
#print axioms proved
end Go.Proofs.Ytbjhfnkdflnnoaa.quoCommon
