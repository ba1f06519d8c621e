/-
  PROVED: the statement NatSums (tombolalaw02.NatSums) about the landed commit: for every input the law returns true and leaves its arguments as they were. Conditions: none beyond those that the given row itself prints.
-/
import Derived.Test.YtahokobifikcdaaRows
import Derived.WalkKit
import Derived.ProofKit
import Derived.OpenShut
import Derived.RowKit3
import Derived.Test.YtahokobifikcdaaLawFrame
import Derived.Test.YtahokobifikcdaaNatOpen
import Derived.Test.YtahokobifikcdaaNatAwake
import Derived.Test.YtahokobifikcdaaRefAdd
import Derived.Test.YtahokobifikcdaaRefSub
namespace Go.Proofs.Ytahokobifikcdaa.natSums
open Go.ChangeShapes Go.WideShapes Go.ChangeAt Go.RowKit
set_option linter.unusedVariables false
open N
theorem own : ownKnob Try.prog.godebug = none := by kernel_rfl
theorem same_yes (w : World) (A A' : Option Addr) (n c m d : Nat) (xs ys : List Int) (hx : Sl w A n c xs) (hy : Sl w A' m d ys) (he : xs = ys) :
    Calls Try.prog 18 #[.slice A n c, .slice A' m d] w fun e w' => e = .returned (.bool true) ∧ ∃ k, w' = w.drewN k :=
  (same_any w A A' n c m d xs ys hx hy).mono fun e w' ⟨h1, h2⟩ => ⟨by rw [h1, decide_eq_true he], h2⟩
/-- writing over x turns nothing that lay below it, and no row of another block -/
theorem spoil_s (w : World) (base : Nat) (A : Option Addr) (n c : Nat) (xs : List Int) (h : N.Own w base A n c xs) (hbase : base ≤ w.heap.size) :
    Calls Try.prog 21 #[.slice A n c] w fun e w' => (∃ v, e = .returned v) ∧ Below base w w' ∧
      ∀ (base' : Nat) (A' : Option Addr) (m d : Nat) (ys : List Int), N.Own w base' A' m d ys → (∀ g, rowOf A = some g → g < base') → N.Own w' base' A' m d ys := by
  refine (spoil_any w base A n c xs h).mono fun e w' ⟨hv, hg⟩ => ⟨hv, ⟨hg.os, hg.tape, hg.output, hg.size, fun k hk => hg.block k (by omega) (fun e => ?_)⟩, fun base' A' m d ys ho hlt => ⟨ho.row.kept hg ?_, ho.dg⟩⟩
  · have := (h.row.lt k (by rw [ownBlock_eq]; exact e.symm)).1
    omega
  · cases hr : (Value.slice A' m d).ownBlock with
    | none => exact .inl rfl
    | some g =>
      refine .inr (fun e => ?_)
      have h1 := (ho.row.lt g hr).1
      have h2 := hlt g e.symm
      omega
theorem row_lt {w : World} {base : Nat} {A : Option Addr} {n c : Nat} {xs : List Int} (h : N.Own w base A n c xs) : ∀ g, rowOf A = some g → g < w.heap.size := fun g hg => (h.row.lt g (by rw [ownBlock_eq]; exact hg)).2
set_option maxRecDepth 100000 in
set_option maxHeartbeats 4000000 in
theorem walk (w : World) (A0 : Option Addr) (n0 c0 : Nat) (xs0 : List Int) (h0 : Sl w A0 n0 c0 xs0) (A1 : Option Addr) (n1 c1 : Nat) (xs1 : List Int) (h1 : Sl w A1 n1 c1 xs1) :
    Calls Try.prog 4 #[.slice A0 n0 c0, .slice A1 n1 c1] w fun e w' => e = .returned (.bool true) ∧ Below w.heap.size w w' := by
  have hc0 := h0.cap
  have hm0 := h0.max
  have hc1 := h1.cap
  have hm1 := h1.max
  unfold maxLen at hm0 hm1
  by_cases hl : n0 ≤ 24 ∧ n1 ≤ 24
  · obtain ⟨l0, l1⟩ := hl
    by_cases hab : val B xs0 < val B xs1
    · have HLE := Lib.hid hab
      clear hab
      go_enter Try.func4, Try.ntmps4
      go_wp2_with (first
        | (go_at_call 12; refine (long2_n (St.nil_ w) _ _ _ _ _ _ l0 l1).mono ?_; rintro e w' ⟨rfl, hst⟩)
        | (go_at_call 29; refine (radd_any _ _ _ _ _ _ _ xs0 xs1 (h0.below hst.1) (h1.below hst.1) (by omega) (by omega)).mono ?_; rintro e wa ⟨Aw, nw, cw, rfl, hnw, how, hba⟩; have hsa := hst.1.trans (hba.mono hst.1.size))
        | (go_at_call 30; refine (rsub_no _ _ _ _ _ _ _ xs0 xs1 (h0.below hsa) (h1.below hsa) (by omega) (by omega) HLE.out).mono ?_; rintro e wb ⟨rfl, hbb⟩; have hsb := hsa.trans (hbb.mono hsa.size)))
      have hwb := how.sl.below hbb
      have hlb := Sl.none (w := wb)
      go_loopw [8] (fun i wr => ∃ k : Nat, k ≤ 2 ∧ i = .int .i64 k ∧ Below wb.heap.size wb wr) (fun i _ => 2 - (intOf i).toNat)
      case atStart => exact ⟨0, by omega, rfl, Below.refl _ _⟩
      case round =>
        obtain ⟨k, hk, rfl, hbr⟩ := hrel
        obtain ⟨wi, rfl⟩ : ∃ wi : World, wi = wr := ⟨_, rfl⟩
        have hbr0 := hsb.trans (hbr.mono hsb.size)
        by_cases hk2 : k < 2
        · skip
          go_wp2_with fail
          refine (nadd_any _ A0 A1 n0 c0 n1 c1 xs0 xs1 (h0.below hbr0) (h1.below hbr0) (by omega) (by omega)).mono ?_
          rintro e w1 ⟨Ax, nx, cx, rfl, hnx, hox, hb1⟩
          have hbr1 := hbr0.trans (hb1.mono hbr0.size)
          go_wp2_with fail
          refine (nsub_no _ A0 A1 n0 c0 n1 c1 xs0 xs1 (h0.below hbr1) (h1.below hbr1) (by omega) (by omega) HLE.out).mono ?_
          rintro e w2 ⟨rfl, hb2⟩
          have hoy := Own.nil_ w2 w1.heap.size
          have hbw := hb1.trans (hb2.mono hb1.size)
          have hww := (hwb.below hbr).below hbw
          have hlw := (hlb.below hbr).below hbw
          go_wp2_with fail
          refine (same_yes _ _ _ _ _ _ _ _ _ (hox.below hb2).sl hww rfl).mono ?_
          rintro e w3 ⟨rfl, q3, rfl⟩
          have hd3 : Below w2.heap.size w2 (w2.drewN q3) := ⟨rfl, rfl, rfl, Nat.le_refl _, fun _ _ => rfl⟩
          go_wp2_with fail
          refine (same_yes _ _ _ _ _ _ _ _ _ (hoy.below hd3).sl (hlw.below hd3) rfl).mono ?_
          rintro e w4 ⟨rfl, q4, rfl⟩
          have hd4 : Below w2.heap.size w2 (w2.drewN (q3 + q4)) := ⟨rfl, rfl, rfl, Nat.le_refl _, fun _ _ => rfl⟩
          go_wp2_with fail
          refine (spoil_s _ wi.heap.size _ _ _ _ ((hox.below hb2).below hd4) hbw.size).mono ?_
          rintro e w5 ⟨⟨v5, rfl⟩, hb5, ht5⟩
          have hoy5 := ht5 _ _ _ _ _ (hoy.below hd4) (row_lt hox)
          have hbr5 := (hbw.trans (hd4.mono hbw.size)).trans hb5
          go_wp2_with fail
          refine (spoil_s _ w1.heap.size _ _ _ _ hoy5 (Nat.le_trans hb2.size hb5.size)).mono ?_
          rintro e w6 ⟨⟨v6, rfl⟩, hb6, ht6⟩
          have hbr6 := hbr5.trans (hb6.mono hb1.size)
          have hba6 := hbr0.trans (hbr6.mono hbr0.size)
          go_wp2_with fail
          refine (nadd_any _ A0 A1 n0 c0 n1 c1 xs0 xs1 (h0.below hba6) (h1.below hba6) (by omega) (by omega)).mono ?_
          rintro e w7 ⟨Az, nz, cz, rfl, hnz, hoz, hb7⟩
          have hbr7 := hbr6.trans (hb7.mono hbr6.size)
          go_wp2_with fail
          refine (same_yes _ _ _ _ _ _ _ _ _ hoz.sl ((hwb.below hbr).below hbr7) rfl).mono ?_
          rintro e w8 ⟨rfl, q8, rfl⟩
          have hd8 : Below w7.heap.size w7 (w7.drewN q8) := ⟨rfl, rfl, rfl, Nat.le_refl _, fun _ _ => rfl⟩
          go_wp2
          go_roundw
          case rel => exact ⟨k + 1, by omega, by go_num, hbr.trans ((hbr7.trans (hd8.mono hbr7.size)).mono hbr.size)⟩
          case measure => simp [intOf]; omega
        · obtain rfl : k = 2 := by omega
          go_wp2_with fail
          refine (nawake_any _).mono ?_
          rintro e w9 ⟨rfl, hb9⟩
          go_wp2
          go_ret
          exact ⟨rfl, hbr0.trans (hb9.mono hbr0.size)⟩
    · have HLE := Lib.hid (show val B xs1 ≤ val B xs0 by omega)
      clear hab
      go_enter Try.func4, Try.ntmps4
      go_wp2_with (first
        | (go_at_call 12; refine (long2_n (St.nil_ w) _ _ _ _ _ _ l0 l1).mono ?_; rintro e w' ⟨rfl, hst⟩)
        | (go_at_call 29; refine (radd_any _ _ _ _ _ _ _ xs0 xs1 (h0.below hst.1) (h1.below hst.1) (by omega) (by omega)).mono ?_; rintro e wa ⟨Aw, nw, cw, rfl, hnw, how, hba⟩; have hsa := hst.1.trans (hba.mono hst.1.size))
        | (go_at_call 30; refine (rsub_yes _ _ _ _ _ _ _ xs0 xs1 (h0.below hsa) (h1.below hsa) (by omega) (by omega) HLE.out).mono ?_; rintro e wb ⟨Al, nl, cl, rfl, hnl, hol, hbb⟩; have hsb := hsa.trans (hbb.mono hsa.size)))
      have hwb := how.sl.below hbb
      have hlb := hol.sl
      go_loopw [8] (fun i wr => ∃ k : Nat, k ≤ 2 ∧ i = .int .i64 k ∧ Below wb.heap.size wb wr) (fun i _ => 2 - (intOf i).toNat)
      case atStart => exact ⟨0, by omega, rfl, Below.refl _ _⟩
      case round =>
        obtain ⟨k, hk, rfl, hbr⟩ := hrel
        obtain ⟨wi, rfl⟩ : ∃ wi : World, wi = wr := ⟨_, rfl⟩
        have hbr0 := hsb.trans (hbr.mono hsb.size)
        by_cases hk2 : k < 2
        · skip
          go_wp2_with fail
          refine (nadd_any _ A0 A1 n0 c0 n1 c1 xs0 xs1 (h0.below hbr0) (h1.below hbr0) (by omega) (by omega)).mono ?_
          rintro e w1 ⟨Ax, nx, cx, rfl, hnx, hox, hb1⟩
          have hbr1 := hbr0.trans (hb1.mono hbr0.size)
          go_wp2_with fail
          refine (nsub_yes _ A0 A1 n0 c0 n1 c1 xs0 xs1 (h0.below hbr1) (h1.below hbr1) (by omega) (by omega) HLE.out).mono ?_
          rintro e w2 ⟨Ay, ny, cy, rfl, hny, hoy, hb2⟩
          have hbw := hb1.trans (hb2.mono hb1.size)
          have hww := (hwb.below hbr).below hbw
          have hlw := (hlb.below hbr).below hbw
          go_wp2_with fail
          refine (same_yes _ _ _ _ _ _ _ _ _ (hox.below hb2).sl hww rfl).mono ?_
          rintro e w3 ⟨rfl, q3, rfl⟩
          have hd3 : Below w2.heap.size w2 (w2.drewN q3) := ⟨rfl, rfl, rfl, Nat.le_refl _, fun _ _ => rfl⟩
          go_wp2_with fail
          refine (same_yes _ _ _ _ _ _ _ _ _ (hoy.below hd3).sl (hlw.below hd3) rfl).mono ?_
          rintro e w4 ⟨rfl, q4, rfl⟩
          have hd4 : Below w2.heap.size w2 (w2.drewN (q3 + q4)) := ⟨rfl, rfl, rfl, Nat.le_refl _, fun _ _ => rfl⟩
          go_wp2_with fail
          refine (spoil_s _ wi.heap.size _ _ _ _ ((hox.below hb2).below hd4) hbw.size).mono ?_
          rintro e w5 ⟨⟨v5, rfl⟩, hb5, ht5⟩
          have hoy5 := ht5 _ _ _ _ _ (hoy.below hd4) (row_lt hox)
          have hbr5 := (hbw.trans (hd4.mono hbw.size)).trans hb5
          go_wp2_with fail
          refine (spoil_s _ w1.heap.size _ _ _ _ hoy5 (Nat.le_trans hb2.size hb5.size)).mono ?_
          rintro e w6 ⟨⟨v6, rfl⟩, hb6, ht6⟩
          have hbr6 := hbr5.trans (hb6.mono hb1.size)
          have hba6 := hbr0.trans (hbr6.mono hbr0.size)
          go_wp2_with fail
          refine (nadd_any _ A0 A1 n0 c0 n1 c1 xs0 xs1 (h0.below hba6) (h1.below hba6) (by omega) (by omega)).mono ?_
          rintro e w7 ⟨Az, nz, cz, rfl, hnz, hoz, hb7⟩
          have hbr7 := hbr6.trans (hb7.mono hbr6.size)
          go_wp2_with fail
          refine (same_yes _ _ _ _ _ _ _ _ _ hoz.sl ((hwb.below hbr).below hbr7) rfl).mono ?_
          rintro e w8 ⟨rfl, q8, rfl⟩
          have hd8 : Below w7.heap.size w7 (w7.drewN q8) := ⟨rfl, rfl, rfl, Nat.le_refl _, fun _ _ => rfl⟩
          go_wp2
          go_roundw
          case rel => exact ⟨k + 1, by omega, by go_num, hbr.trans ((hbr7.trans (hd8.mono hbr7.size)).mono hbr.size)⟩
          case measure => simp [intOf]; omega
        · obtain rfl : k = 2 := by omega
          go_wp2_with fail
          refine (nawake_any _).mono ?_
          rintro e w9 ⟨rfl, hb9⟩
          go_wp2
          go_ret
          exact ⟨rfl, hbr0.trans (hb9.mono hbr0.size)⟩
  · have HL := Lib.hid hl
    clear h0 h1 hl
    have hS := Lib.hid (St.nil_ w)
    go_enter Try.func4, Try.ntmps4
    go_wp2_with (first
      | (go_at_call 12; (with_reducible refine (long2_y hS.out _ _ _ _ _ _ (by omega) (by omega) HL.out).mono ?_); rintro e w' ⟨rfl, h1⟩; clear hS; have hS := Lib.hid h1; clear h1)
      | (go_at_call 13; (with_reducible refine (awake_s hS.out ).mono ?_); rintro e w' ⟨rfl, h1⟩; clear hS; have hS := Lib.hid h1; clear h1))
    go_ret
    exact ⟨rfl, hS.out.1⟩
set_option maxRecDepth 100000 in
theorem lifted (os : Os) (started : os.Started) (H : Type) (enc : TypeId × Value → H) :
    ReturnsInHanded {} Try.checked os 4 .any (Rows.natSumsSpec.pre6 enc Try.prog Try.f4 Rows.natSumsRow.domain false) (Rows.natSumsSpec.post enc Try.prog Try.f4 false true false false) := by
  refine returnsInHanded_of_change (C := Try.checked) own started (by kernel_rfl) Try.func4
    (ChangeSpec.witness6 (enc := enc) (C := Try.checked) false ⟨#[], #[.slice none 0 0, .slice none 0 0], []⟩ 8 (by kernel_rfl) (by kernel_rfl) (by kernel_rfl) (by kernel_rfl)) ?_
  intro W base args ds gs before hval0 hW hcnd _
  have hval : ∀ (j : Nat) t v, Try.f4.params[j]? = some t → args[j]? = some v → Value.okWide Try.prog W .any base t v := hval0
  have hW' := hW
  obtain ⟨p, q, hA0, hV, hpq, hfz, hnd⟩ := hW
  have hA : DataW.TrodAll enc Try.prog W 0 (fun _ => true) true Try.f4.params.toList args.toList ds p := hA0
  rw [Try.params4] at hA hval
  obtain ⟨v0, vs0, d0, ds0, p0, q0, hargs, rfl, rfl, h0, r0⟩ := trodAll_cons hA
  obtain ⟨v1, vs1, d1, ds1, p1, q1, rfl, rfl, rfl, h1, r1⟩ := trodAll_cons r0
  obtain ⟨rfl, rfl, rfl⟩ := trodAll_nil r1
  obtain rfl : args = #[v0, v1] := by cases args; simp_all
  obtain ⟨rfl, rfl⟩ := trodVars_none hV
  obtain ⟨A0, n0, c0, xs0, rfl, s0⟩ := open_natural (hval 0 23 v0 rfl rfl) h0
  obtain ⟨A1, n1, c1, xs1, rfl, s1⟩ := open_natural (hval 1 23 v1 rfl rfl) h1
  refine (walk W A0 n0 c0 xs0 s0 A1 n1 c1 xs1 s1).mono fun e W' ⟨he, hb⟩ => ?_
  subst he
  exact ⟨_, rfl, Frame.close laidOut hW' rfl rfl rfl Try.underlying4 (fun t ht => by rw [Try.params4] at ht; simp at ht; rcases ht with rfl <;> exact ⟨by kernel_rfl, of_decide_eq_true (by kernel_rfl)⟩) hb⟩
theorem over : Rows.natSumsRow.holds Try.pinned (OpenSpec.ofChange Rows.natSumsSpec) :=
  OpenClaim.holds_of_wide 4 Try.f4 rfl rfl rfl rfl rfl rfl rfl ⟨rfl, rfl, rfl, rfl, rfl⟩ rfl rfl rfl rfl rfl (by kernel_rfl) Try.func4 (by kernel_rfl)
    (of_decide_eq_true (by kernel_rfl)) (by unfold Func.isWrapper; first | (rw [if_pos (by decide +kernel)]; kernel_rfl) | (rw [if_neg (by decide +kernel)]; exact ⟨rfl, rfl⟩))
    (fun os started H enc _ => lifted os started H enc)
/-- the statement -/
theorem proved : Rows.NatSumsSaid :=
  over
#print axioms proved
end Go.Proofs.Ytahokobifikcdaa.natSums
