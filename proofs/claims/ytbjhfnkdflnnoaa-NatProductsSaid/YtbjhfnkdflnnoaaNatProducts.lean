/-
  PROVED: the statement NatProducts (tombolalaw02.NatProducts) about the landed commit: for every input the law returns true and leaves its arguments as they were. Conditions: none beyond those that the given row itself prints.
-/
import Derived.Test.YtbjhfnkdflnnoaaRows
import Derived.WalkKit
import Derived.ProofKit
import Derived.OpenShut
import Derived.RowKit3
import Derived.Test.YtbjhfnkdflnnoaaLawFrame
import Derived.Test.YtbjhfnkdflnnoaaNatOpen
import Derived.Test.YtbjhfnkdflnnoaaNatAwake
import Derived.Test.YtbjhfnkdflnnoaaNatState2
import Derived.Test.YtbjhfnkdflnnoaaRefShift
namespace Go.Proofs.Ytbjhfnkdflnnoaa.natProducts
open Go.ChangeShapes Go.WideShapes Go.ChangeAt Go.RowKit
set_option linter.unusedVariables false
open N
theorem own : ownKnob Try.prog.godebug = none := by kernel_rfl
theorem same_yes (w : World) (A A' : Option Addr) (n c m d : Nat) (xs ys : List Int) (hx : Sl w A n c xs) (hy : Sl w A' m d ys) (he : xs = ys) :
    Calls Try.prog 35 #[.slice A n c, .slice A' m d] w fun e w' => e = .returned (.bool true) ∧ ∃ k, w' = w.drewN k :=
  (same_any w A A' n c m d xs ys hx hy).mono fun e w' ⟨h1, h2⟩ => ⟨by rw [h1, decide_eq_true he], h2⟩
/-- writing over x turns nothing that lay below it, and no row of another block -/
theorem spoil_s (w : World) (base : Nat) (A : Option Addr) (n c : Nat) (xs : List Int) (h : N.Own w base A n c xs) (hbase : base ≤ w.heap.size) :
    Calls Try.prog 36 #[.slice A n c] w fun e w' => (∃ v, e = .returned v) ∧ Below base w w' ∧
      ∀ (base' : Nat) (A' : Option Addr) (m d : Nat) (ys : List Int), N.Own w base' A' m d ys → (∀ g, rowOf A = some g → g < base') → N.Own w' base' A' m d ys := by
  refine (spoil_any w base A n c xs h).mono fun e w' ⟨hv, hg⟩ => ⟨hv, ⟨hg.os, hg.tape, hg.output, hg.size, fun k hk => hg.block k (by omega) (fun e => ?_)⟩, fun base' A' m d ys ho hlt => ⟨ho.row.kept hg ?_, ho.dg⟩⟩
  · have := (h.row.lt k (by rw [ownBlock_eq]; exact e.symm)).1
    omega
  · cases hr : (Value.slice A' m d).ownBlock with
    | none => exact .inl rfl
    | some g =>
      refine .inr (fun e => ?_)
      have h1 := (ho.row.lt g hr).1
      have h2 := hlt g e.symm
      omega
theorem row_lt {w : World} {base : Nat} {A : Option Addr} {n c : Nat} {xs : List Int} (h : N.Own w base A n c xs) : ∀ g, rowOf A = some g → g < w.heap.size := fun g hg => (h.row.lt g (by rw [ownBlock_eq]; exact hg)).2
theorem below_dn (w : World) (k : Nat) : Below w.heap.size w (w.drewN k) := ⟨rfl, rfl, rfl, Nat.le_refl _, fun _ _ => rfl⟩
theorem rshl_i (w : World) (A : Option Addr) (n c : Nat) (xs : List Int) (h : Sl w A n c xs) (hn : n ≤ 1000000) {q : Int} (h0 : 0 ≤ q) (hq : q ≤ 65536) :
    Calls Try.prog 32 #[.slice A n c, .int .i64 q] w (Out2 w (4 * n + 20002) (val B xs * 2 ^ q.toNat) 0) := by
  obtain ⟨q, rfl⟩ := Int.eq_ofNat_of_zero_le h0
  rw [Int.toNat_natCast]
  exact rshl_any w A n c xs h hn q (by omega)
theorem rshr_i (w : World) (A : Option Addr) (n c : Nat) (xs : List Int) (h : Sl w A n c xs) (hn : n ≤ 1000000) {q : Int} (h0 : 0 ≤ q) (hq : q ≤ 65536) :
    Calls Try.prog 33 #[.slice A n c, .int .i64 q] w (Out2 w (4 * n + 2) (val B xs / 2 ^ q.toNat) 0) := by
  obtain ⟨q, rfl⟩ := Int.eq_ofNat_of_zero_le h0
  rw [Int.toNat_natCast]
  exact rshr_any w A n c xs h hn q (by omega)
set_option maxRecDepth 100000 in
set_option maxHeartbeats 4000000 in
theorem walk (w : World) (A0 : Option Addr) (n0 c0 : Nat) (xs0 : List Int) (h0 : Sl w A0 n0 c0 xs0) (A1 : Option Addr) (n1 c1 : Nat) (xs1 : List Int) (h1 : Sl w A1 n1 c1 xs1) (a2 : Int) (w2 : (Lit.int .i64 a2).wf = true) :
    Calls Try.prog 11 #[.slice A0 n0 c0, .slice A1 n1 c1, .int .i64 a2] w fun e w' => e = .returned (.bool true) ∧ Below w.heap.size w w' := by
  have hc0 := h0.cap
  have hm0 := h0.max
  have hc1 := h1.cap
  have hm1 := h1.max
  unfold maxLen at hm0 hm1
  by_cases hl : n0 ≤ 24 ∧ n1 ≤ 24
  · obtain ⟨l0, l1⟩ := hl
    by_cases kn : a2 < 0
    · have HK := Lib.hid (show a2 < 0 ∨ 65536 < a2 from .inl kn)
      go_enter Try.func11, Try.ntmps11
      go_wp2_with (first
        | (go_at_call 29; refine (long2_n (St.nil_ w) _ _ _ _ _ _ l0 l1).mono ?_; rintro e w' ⟨rfl, hst⟩)
        | (go_at_call 31; refine (rmul_any _ _ _ _ _ _ _ xs0 xs1 (h0.below hst.1) (h1.below hst.1) (by omega) (by omega)).mono ?_; rintro e wa ⟨Aw, nw, cw, rfl, hnw, how, hba⟩; have hsa := hst.1.trans (hba.mono hst.1.size))
        | (go_at_call 32; refine (rshl_no _ A0 n0 c0 a2 HK.out).mono ?_; rintro e wb ⟨rfl, hw⟩; rw [hw]; clear hw)
        | (go_at_call 33; refine (rshr_no _ A0 n0 c0 a2 HK.out).mono ?_; rintro e wb ⟨rfl, hw⟩; rw [hw]; clear hw))
      obtain ⟨wc, rfl⟩ : ∃ wc : World, wc = wa := ⟨_, rfl⟩
      have hwc := how.sl
      have hlc := Sl.none (w := wc)
      have hrc := Sl.none (w := wc)
      have hsc := hsa
      go_loopw [12] (fun i wr => ∃ k : Nat, k ≤ 2 ∧ i = .int .i64 k ∧ Below wc.heap.size wc wr) (fun i _ => 2 - (intOf i).toNat)
      case atStart => exact ⟨0, by omega, rfl, Below.refl _ _⟩
      case round =>
        obtain ⟨k, hk, rfl, hbr⟩ := hrel
        obtain ⟨wi, rfl⟩ : ∃ wi : World, wi = wr := ⟨_, rfl⟩
        have hbr0 := hsc.trans (hbr.mono hsc.size)
        by_cases hk2 : k < 2
        · skip
          go_wp2_with fail
          refine (nmul_any _ A0 A1 n0 c0 n1 c1 xs0 xs1 (h0.below hbr0) (h1.below hbr0) (by omega) (by omega)).mono ?_
          rintro e w1 ⟨Ax, nx, cx, rfl, hnx, hox, hb1⟩
          have hbr1 := hbr0.trans (hb1.mono hbr0.size)
          go_wp2_with fail
          refine (nshl_no _ A0 n0 c0 xs0 (h0.below hbr1) a2 HK.out).mono ?_
          rintro e w2 ⟨rfl, hw2⟩
          rw [hw2]
          clear hw2
          have hb2 : Below w1.heap.size w1 w1 := Below.refl _ _
          have hoy := Own.nil_ w1 w1.heap.size
          go_wp2_with fail
          refine (nshr_no _ A0 n0 c0 xs0 (h0.below hbr1) a2 HK.out).mono ?_
          rintro e w2 ⟨rfl, hw2⟩
          rw [hw2]
          clear hw2
          have hb3 : Below w1.heap.size w1 w1 := Below.refl _ _
          have hoz := Own.nil_ w1 w1.heap.size
          have hb12 := hb1.trans (hb2.mono hb1.size)
          have hbw := hb12.trans (hb3.mono hb12.size)
          have hb23 := hb2.trans (hb3.mono hb2.size)
          have hww := (hwc.below hbr).below hbw
          have hlw := (hlc.below hbr).below hbw
          have hrw := (hrc.below hbr).below hbw
          go_wp2_with fail
          refine (same_yes w1 _ _ _ _ _ _ _ _ (hox.below hb23).sl hww rfl).mono ?_
          rintro e w4 ⟨rfl, q4, rfl⟩
          go_wp2_with fail
          refine (same_yes _ _ _ _ _ _ _ _ _ ((hoy.below hb3).below (below_dn w1 q4)).sl (hlw.below (below_dn w1 q4)) rfl).mono ?_
          rintro e w4 ⟨rfl, q5, rfl⟩
          go_wp2_with fail
          refine (same_yes _ _ _ _ _ _ _ _ _ (hoz.below (below_dn w1 (q4 + q5))).sl (hrw.below (below_dn w1 (q4 + q5))) rfl).mono ?_
          rintro e w4 ⟨rfl, q6, rfl⟩
          have hd := below_dn w1 (q4 + q5 + q6)
          go_wp2_with fail
          refine (spoil_s _ wi.heap.size _ _ _ _ ((hox.below hb23).below hd) hbw.size).mono ?_
          rintro e w5 ⟨⟨v5, rfl⟩, hb5, ht5⟩
          have hoy5 := ht5 _ _ _ _ _ ((hoy.below hb3).below hd) (row_lt hox)
          have hoz5 := ht5 _ _ _ _ _ (hoz.below hd) (fun g hg => Nat.lt_of_lt_of_le (row_lt hox g hg) hb2.size)
          have hbr5 := (hbw.trans (hd.mono hbw.size)).trans hb5
          go_wp2_with fail
          refine (spoil_s _ w1.heap.size _ _ _ _ hoy5 (Nat.le_trans hb23.size hb5.size)).mono ?_
          rintro e w6 ⟨⟨v6, rfl⟩, hb6, ht6⟩
          have hoz6 := ht6 _ _ _ _ _ hoz5 (row_lt hoy)
          have hbr6 := hbr5.trans (hb6.mono hb1.size)
          go_wp2_with fail
          refine (spoil_s _ w1.heap.size _ _ _ _ hoz6 (Nat.le_trans hb3.size (Nat.le_trans hb5.size hb6.size))).mono ?_
          rintro e w7 ⟨⟨v7, rfl⟩, hb7, ht7⟩
          have hbr7 := hbr6.trans (hb7.mono hb12.size)
          go_wp2
          go_roundw
          case rel => exact ⟨k + 1, by omega, by go_num, hbr.trans (hbr7.mono hbr.size)⟩
          case measure => simp [intOf]; omega
        · obtain rfl : k = 2 := by omega
          go_wp2_with fail
          refine (nawake_any _).mono ?_
          rintro e w9 ⟨rfl, hb9⟩
          go_wp2
          go_ret
          exact ⟨rfl, hbr0.trans (hb9.mono hbr0.size)⟩
    · have k0 : 0 ≤ a2 := by omega
      by_cases kb : 65536 < a2
      · have HK := Lib.hid (show a2 < 0 ∨ 65536 < a2 from .inr kb)
        go_enter Try.func11, Try.ntmps11
        go_wp2_with (first
          | (go_at_call 29; refine (long2_n (St.nil_ w) _ _ _ _ _ _ l0 l1).mono ?_; rintro e w' ⟨rfl, hst⟩)
          | (go_at_call 31; refine (rmul_any _ _ _ _ _ _ _ xs0 xs1 (h0.below hst.1) (h1.below hst.1) (by omega) (by omega)).mono ?_; rintro e wa ⟨Aw, nw, cw, rfl, hnw, how, hba⟩; have hsa := hst.1.trans (hba.mono hst.1.size))
          | (go_at_call 32; refine (rshl_no _ A0 n0 c0 a2 HK.out).mono ?_; rintro e wb ⟨rfl, hw⟩; rw [hw]; clear hw)
          | (go_at_call 33; refine (rshr_no _ A0 n0 c0 a2 HK.out).mono ?_; rintro e wb ⟨rfl, hw⟩; rw [hw]; clear hw))
        obtain ⟨wc, rfl⟩ : ∃ wc : World, wc = wa := ⟨_, rfl⟩
        have hwc := how.sl
        have hlc := Sl.none (w := wc)
        have hrc := Sl.none (w := wc)
        have hsc := hsa
        go_loopw [12] (fun i wr => ∃ k : Nat, k ≤ 2 ∧ i = .int .i64 k ∧ Below wc.heap.size wc wr) (fun i _ => 2 - (intOf i).toNat)
        case atStart => exact ⟨0, by omega, rfl, Below.refl _ _⟩
        case round =>
          obtain ⟨k, hk, rfl, hbr⟩ := hrel
          obtain ⟨wi, rfl⟩ : ∃ wi : World, wi = wr := ⟨_, rfl⟩
          have hbr0 := hsc.trans (hbr.mono hsc.size)
          by_cases hk2 : k < 2
          · skip
            go_wp2_with fail
            refine (nmul_any _ A0 A1 n0 c0 n1 c1 xs0 xs1 (h0.below hbr0) (h1.below hbr0) (by omega) (by omega)).mono ?_
            rintro e w1 ⟨Ax, nx, cx, rfl, hnx, hox, hb1⟩
            have hbr1 := hbr0.trans (hb1.mono hbr0.size)
            go_wp2_with fail
            refine (nshl_no _ A0 n0 c0 xs0 (h0.below hbr1) a2 HK.out).mono ?_
            rintro e w2 ⟨rfl, hw2⟩
            rw [hw2]
            clear hw2
            have hb2 : Below w1.heap.size w1 w1 := Below.refl _ _
            have hoy := Own.nil_ w1 w1.heap.size
            go_wp2_with fail
            refine (nshr_no _ A0 n0 c0 xs0 (h0.below hbr1) a2 HK.out).mono ?_
            rintro e w2 ⟨rfl, hw2⟩
            rw [hw2]
            clear hw2
            have hb3 : Below w1.heap.size w1 w1 := Below.refl _ _
            have hoz := Own.nil_ w1 w1.heap.size
            have hb12 := hb1.trans (hb2.mono hb1.size)
            have hbw := hb12.trans (hb3.mono hb12.size)
            have hb23 := hb2.trans (hb3.mono hb2.size)
            have hww := (hwc.below hbr).below hbw
            have hlw := (hlc.below hbr).below hbw
            have hrw := (hrc.below hbr).below hbw
            go_wp2_with fail
            refine (same_yes w1 _ _ _ _ _ _ _ _ (hox.below hb23).sl hww rfl).mono ?_
            rintro e w4 ⟨rfl, q4, rfl⟩
            go_wp2_with fail
            refine (same_yes _ _ _ _ _ _ _ _ _ ((hoy.below hb3).below (below_dn w1 q4)).sl (hlw.below (below_dn w1 q4)) rfl).mono ?_
            rintro e w4 ⟨rfl, q5, rfl⟩
            go_wp2_with fail
            refine (same_yes _ _ _ _ _ _ _ _ _ (hoz.below (below_dn w1 (q4 + q5))).sl (hrw.below (below_dn w1 (q4 + q5))) rfl).mono ?_
            rintro e w4 ⟨rfl, q6, rfl⟩
            have hd := below_dn w1 (q4 + q5 + q6)
            go_wp2_with fail
            refine (spoil_s _ wi.heap.size _ _ _ _ ((hox.below hb23).below hd) hbw.size).mono ?_
            rintro e w5 ⟨⟨v5, rfl⟩, hb5, ht5⟩
            have hoy5 := ht5 _ _ _ _ _ ((hoy.below hb3).below hd) (row_lt hox)
            have hoz5 := ht5 _ _ _ _ _ (hoz.below hd) (fun g hg => Nat.lt_of_lt_of_le (row_lt hox g hg) hb2.size)
            have hbr5 := (hbw.trans (hd.mono hbw.size)).trans hb5
            go_wp2_with fail
            refine (spoil_s _ w1.heap.size _ _ _ _ hoy5 (Nat.le_trans hb23.size hb5.size)).mono ?_
            rintro e w6 ⟨⟨v6, rfl⟩, hb6, ht6⟩
            have hoz6 := ht6 _ _ _ _ _ hoz5 (row_lt hoy)
            have hbr6 := hbr5.trans (hb6.mono hb1.size)
            go_wp2_with fail
            refine (spoil_s _ w1.heap.size _ _ _ _ hoz6 (Nat.le_trans hb3.size (Nat.le_trans hb5.size hb6.size))).mono ?_
            rintro e w7 ⟨⟨v7, rfl⟩, hb7, ht7⟩
            have hbr7 := hbr6.trans (hb7.mono hb12.size)
            go_wp2
            go_roundw
            case rel => exact ⟨k + 1, by omega, by go_num, hbr.trans (hbr7.mono hbr.size)⟩
            case measure => simp [intOf]; omega
          · obtain rfl : k = 2 := by omega
            go_wp2_with fail
            refine (nawake_any _).mono ?_
            rintro e w9 ⟨rfl, hb9⟩
            go_wp2
            go_ret
            exact ⟨rfl, hbr0.trans (hb9.mono hbr0.size)⟩
      · by_cases km : a2 ≤ 2000
        · skip
          go_enter Try.func11, Try.ntmps11
          go_wp2_with (first
            | (go_at_call 29; refine (long2_n (St.nil_ w) _ _ _ _ _ _ l0 l1).mono ?_; rintro e w' ⟨rfl, hst⟩)
            | (go_at_call 31; refine (rmul_any _ _ _ _ _ _ _ xs0 xs1 (h0.below hst.1) (h1.below hst.1) (by omega) (by omega)).mono ?_; rintro e wa ⟨Aw, nw, cw, rfl, hnw, how, hba⟩; have hsa := hst.1.trans (hba.mono hst.1.size))
            | (go_at_call 32; refine (rshl_i _ A0 n0 c0 xs0 (h0.below hsa) (by omega) k0 (by omega)).mono ?_; rintro e wb ⟨Al, nl, cl, rfl, hnl, hol, hbb⟩; have hsb := hsa.trans (hbb.mono hsa.size))
            | (go_at_call 33; refine (rshr_i _ A0 n0 c0 xs0 (h0.below hsb) (by omega) k0 (by omega)).mono ?_; rintro e wc ⟨Ar, nr, cr, rfl, hnr, hor, hbc⟩; have hsc := hsb.trans (hbc.mono hsb.size)))
          have hwc := how.sl.below (hbb.trans (hbc.mono hbb.size))
          have hlc := hol.sl.below hbc
          have hrc := hor.sl
          go_loopw [12] (fun i wr => ∃ k : Nat, k ≤ 2 ∧ i = .int .i64 k ∧ Below wc.heap.size wc wr) (fun i _ => 2 - (intOf i).toNat)
          case atStart => exact ⟨0, by omega, rfl, Below.refl _ _⟩
          case round =>
            obtain ⟨k, hk, rfl, hbr⟩ := hrel
            obtain ⟨wi, rfl⟩ : ∃ wi : World, wi = wr := ⟨_, rfl⟩
            have hbr0 := hsc.trans (hbr.mono hsc.size)
            by_cases hk2 : k < 2
            · skip
              go_wp2_with fail
              refine (nmul_any _ A0 A1 n0 c0 n1 c1 xs0 xs1 (h0.below hbr0) (h1.below hbr0) (by omega) (by omega)).mono ?_
              rintro e w1 ⟨Ax, nx, cx, rfl, hnx, hox, hb1⟩
              have hbr1 := hbr0.trans (hb1.mono hbr0.size)
              go_wp2_with fail
              refine (nshl_any _ A0 n0 c0 xs0 (h0.below hbr1) (by omega) a2 k0 (by omega)).mono ?_
              rintro e w2 ⟨Ay, ny, cy, rfl, hny, hoy, hb2⟩
              have hbr2 := hbr1.trans (hb2.mono hbr1.size)
              go_wp2_with fail
              refine (nshr_any _ A0 n0 c0 xs0 (h0.below hbr2) (by omega) a2 k0 (by omega)).mono ?_
              rintro e w3 ⟨Az, nz, cz, rfl, hnz, hoz, hb3⟩
              have hb12 := hb1.trans (hb2.mono hb1.size)
              have hbw := hb12.trans (hb3.mono hb12.size)
              have hb23 := hb2.trans (hb3.mono hb2.size)
              have hww := (hwc.below hbr).below hbw
              have hlw := (hlc.below hbr).below hbw
              have hrw := (hrc.below hbr).below hbw
              go_wp2_with fail
              refine (same_yes w3 _ _ _ _ _ _ _ _ (hox.below hb23).sl hww rfl).mono ?_
              rintro e w4 ⟨rfl, q4, rfl⟩
              go_wp2_with fail
              refine (same_yes _ _ _ _ _ _ _ _ _ ((hoy.below hb3).below (below_dn w3 q4)).sl (hlw.below (below_dn w3 q4)) rfl).mono ?_
              rintro e w4 ⟨rfl, q5, rfl⟩
              go_wp2_with fail
              refine (same_yes _ _ _ _ _ _ _ _ _ (hoz.below (below_dn w3 (q4 + q5))).sl (hrw.below (below_dn w3 (q4 + q5))) rfl).mono ?_
              rintro e w4 ⟨rfl, q6, rfl⟩
              have hd := below_dn w3 (q4 + q5 + q6)
              go_wp2_with fail
              refine (spoil_s _ wi.heap.size _ _ _ _ ((hox.below hb23).below hd) hbw.size).mono ?_
              rintro e w5 ⟨⟨v5, rfl⟩, hb5, ht5⟩
              have hoy5 := ht5 _ _ _ _ _ ((hoy.below hb3).below hd) (row_lt hox)
              have hoz5 := ht5 _ _ _ _ _ (hoz.below hd) (fun g hg => Nat.lt_of_lt_of_le (row_lt hox g hg) hb2.size)
              have hbr5 := (hbw.trans (hd.mono hbw.size)).trans hb5
              go_wp2_with fail
              refine (spoil_s _ w1.heap.size _ _ _ _ hoy5 (Nat.le_trans hb23.size hb5.size)).mono ?_
              rintro e w6 ⟨⟨v6, rfl⟩, hb6, ht6⟩
              have hoz6 := ht6 _ _ _ _ _ hoz5 (row_lt hoy)
              have hbr6 := hbr5.trans (hb6.mono hb1.size)
              go_wp2_with fail
              refine (spoil_s _ w2.heap.size _ _ _ _ hoz6 (Nat.le_trans hb3.size (Nat.le_trans hb5.size hb6.size))).mono ?_
              rintro e w7 ⟨⟨v7, rfl⟩, hb7, ht7⟩
              have hbr7 := hbr6.trans (hb7.mono hb12.size)
              go_wp2
              go_roundw
              case rel => exact ⟨k + 1, by omega, by go_num, hbr.trans (hbr7.mono hbr.size)⟩
              case measure => simp [intOf]; omega
            · obtain rfl : k = 2 := by omega
              go_wp2_with fail
              refine (nawake_any _).mono ?_
              rintro e w9 ⟨rfl, hb9⟩
              go_wp2
              go_ret
              exact ⟨rfl, hbr0.trans (hb9.mono hbr0.size)⟩
        · clear h0 h1
          have hS := Lib.hid (St.nil_ w)
          go_enter Try.func11, Try.ntmps11
          go_wp2_with (first
            | (go_at_call 29; (with_reducible refine (long2_n hS.out _ _ _ _ _ _ l0 l1).mono ?_); rintro e w' ⟨rfl, h1⟩; clear hS; have hS := Lib.hid h1; clear h1)
            | (go_at_call 30; (with_reducible refine (awake_s hS.out ).mono ?_); rintro e w' ⟨rfl, h1⟩; clear hS; have hS := Lib.hid h1; clear h1))
          go_ret
          exact ⟨rfl, hS.out.1⟩
  · have HL := Lib.hid hl
    clear h0 h1 hl
    have hS := Lib.hid (St.nil_ w)
    go_enter Try.func11, Try.ntmps11
    go_wp2_with (first
      | (go_at_call 29; (with_reducible refine (long2_y hS.out _ _ _ _ _ _ (by omega) (by omega) HL.out).mono ?_); rintro e w' ⟨rfl, h1⟩; clear hS; have hS := Lib.hid h1; clear h1)
      | (go_at_call 30; (with_reducible refine (awake_s hS.out ).mono ?_); rintro e w' ⟨rfl, h1⟩; clear hS; have hS := Lib.hid h1; clear h1))
    go_ret
    exact ⟨rfl, hS.out.1⟩
set_option maxRecDepth 100000 in
theorem lifted (os : Os) (started : os.Started) (H : Type) (enc : TypeId × Value → H) :
    ReturnsInHanded {} Try.checked os 11 .any (Rows.natProductsSpec.pre6 enc Try.prog Try.f11 Rows.natProductsRow.domain false) (Rows.natProductsSpec.post enc Try.prog Try.f11 false true false false) := by
  refine returnsInHanded_of_change (C := Try.checked) own started (by kernel_rfl) Try.func11
    (ChangeSpec.witness6 (enc := enc) (C := Try.checked) false ⟨#[], #[.slice none 0 0, .slice none 0 0, .int .i64 0], []⟩ 8 (by kernel_rfl) (by kernel_rfl) (by kernel_rfl) (by kernel_rfl)) ?_
  intro W base args ds gs before hval0 hW hcnd _
  have hval : ∀ (j : Nat) t v, Try.f11.params[j]? = some t → args[j]? = some v → Value.okWide Try.prog W .any base t v := hval0
  have hW' := hW
  obtain ⟨p, q, hA0, hV, hpq, hfz, hnd⟩ := hW
  have hA : DataW.TrodAll enc Try.prog W 0 (fun _ => true) true Try.f11.params.toList args.toList ds p := hA0
  rw [Try.params11] at hA hval
  obtain ⟨v0, vs0, d0, ds0, p0, q0, hargs, rfl, rfl, h0, r0⟩ := trodAll_cons hA
  obtain ⟨v1, vs1, d1, ds1, p1, q1, rfl, rfl, rfl, h1, r1⟩ := trodAll_cons r0
  obtain ⟨v2, vs2, d2, ds2, p2, q2, rfl, rfl, rfl, h2, r2⟩ := trodAll_cons r1
  obtain ⟨rfl, rfl, rfl⟩ := trodAll_nil r2
  obtain rfl : args = #[v0, v1, v2] := by cases args; simp_all
  obtain ⟨rfl, rfl⟩ := trodVars_none hV
  obtain ⟨A0, n0, c0, xs0, rfl, s0⟩ := open_natural (hval 0 23 v0 rfl rfl) h0
  obtain ⟨A1, n1, c1, xs1, rfl, s1⟩ := open_natural (hval 1 23 v1 rfl rfl) h1
  obtain ⟨a2, rfl, rfl, rfl, w2⟩ := open_int Try.underlying3 (hval 2 3 v2 rfl rfl) h2
  refine (walk W A0 n0 c0 xs0 s0 A1 n1 c1 xs1 s1 a2 w2).mono fun e W' ⟨he, hb⟩ => ?_
  subst he
  exact ⟨_, rfl, Frame.close laidOut hW' rfl rfl rfl Try.underlying4 (fun t ht => by rw [Try.params11] at ht; simp at ht; rcases ht with rfl | rfl <;> exact ⟨by kernel_rfl, of_decide_eq_true (by kernel_rfl)⟩) hb⟩
theorem over : Rows.natProductsRow.holds Try.pinned (OpenSpec.ofChange Rows.natProductsSpec) :=
  OpenClaim.holds_of_wide 11 Try.f11 rfl rfl rfl rfl rfl rfl rfl ⟨rfl, rfl, rfl, rfl, rfl⟩ rfl rfl rfl rfl rfl (by kernel_rfl) Try.func11 (by kernel_rfl)
    (of_decide_eq_true (by kernel_rfl)) (by unfold Func.isWrapper; first | (rw [if_pos (by decide +kernel)]; kernel_rfl) | (rw [if_neg (by decide +kernel)]; exact ⟨rfl, rfl⟩))
    (fun os started H enc _ => lifted os started H enc)
/-- the statement -/
theorem proved : Rows.NatProductsSaid :=
  over
#print axioms proved
end Go.Proofs.Ytbjhfnkdflnnoaa.natProducts
