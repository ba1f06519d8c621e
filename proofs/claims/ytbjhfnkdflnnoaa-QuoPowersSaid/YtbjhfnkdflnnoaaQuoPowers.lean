/-
  PROVED: the statement QuoPowers (tombolalaw03.QuoPowers) about the landed commit: for every input the law returns true and leaves its arguments as they were. Conditions: none beyond those that the given row itself prints.
-/
import Derived.Test.YtbjhfnkdflnnoaaRows
import Derived.WalkKit
import Derived.ProofKit
import Derived.OpenShut
import Derived.RowKit3
import Derived.Test.YtbjhfnkdflnnoaaLawFrame
import Derived.Test.YtbjhfnkdflnnoaaNatOpen
import Derived.Test.YtbjhfnkdflnnoaaQuoAwake
import Derived.Test.YtbjhfnkdflnnoaaRefPow
namespace Go.Proofs.Ytbjhfnkdflnnoaa.quoPowers
open Go.ChangeShapes Go.WideShapes Go.ChangeAt Go.RowKit
set_option linter.unusedVariables false
open N
theorem own : ownKnob Try.prog.godebug = none := by kernel_rfl
theorem qsame_yes (w : World) (A A' : Option Addr) (n c m d : Nat) (xs ys : List Int) (hx : Sl w A n c xs) (hy : Sl w A' m d ys) (he : xs = ys) :
    Calls Try.prog 16 #[.slice A n c, .slice A' m d] w fun e w' => e = .returned (.bool true) ∧ ∃ k, w' = w.drewN k :=
  (qsame_any w A A' n c m d xs ys hx hy).mono fun e w' ⟨h1, h2⟩ => ⟨by rw [h1, decide_eq_true he], h2⟩
theorem qsame_d (w : World) (k : Nat) (A A' : Option Addr) (n c m d : Nat) (xs ys : List Int) (hx : Sl w A n c xs) (hy : Sl w A' m d ys) (he : xs = ys) :
    Calls Try.prog 16 #[.slice A n c, .slice A' m d] (w.drewN k) fun e w' => e = .returned (.bool true) ∧ ∃ q, w' = w.drewN q :=
  (qsame_yes _ A A' n c m d xs ys (hx.drewN k) (hy.drewN k) he).mono fun e w' ⟨h1, q, h2⟩ => ⟨h1, k + q, by rw [h2, World.drewN_drewN]⟩
theorem below_dn (w : World) (k : Nat) : Below w.heap.size w (w.drewN k) := ⟨rfl, rfl, rfl, Nat.le_refl _, fun _ _ => rfl⟩
theorem own_apart {w w' : World} {base : Nat} {A A' : Option Addr} {n c : Nat} {xs : List Int} (h : N.Own w base A n c xs) (hg : w.grownBy w' (rowOf A')) (hne : ∀ g, rowOf A' = some g → rowOf A ≠ some g) : N.Own w' base A n c xs :=
  ⟨h.row.kept hg (by
    rw [ownBlock_eq]
    cases hb : rowOf A with
    | none => exact .inl rfl
    | some g => exact .inr (fun e => hne g e.symm hb)), h.dg⟩
/-- writing over what lies from block base on -/
theorem qspoil_s (w : World) (base : Nat) (A : Option Addr) (n c : Nat) (xs : List Int) (h : N.Own w base A n c xs) (hbase : base ≤ w.heap.size) :
    Calls Try.prog 17 #[.slice A n c] w fun e w' => (∃ v, e = .returned v) ∧ Below base w w' ∧ w.grownBy w' (rowOf A) := by
  refine (qspoil_any w base A n c xs h).mono fun e w' ⟨hv, hg⟩ => ⟨hv, below_grow hg hbase (fun k e => (h.row.lt k (by rw [ownBlock_eq]; exact e)).1), hg⟩
theorem val_lt_Q {xs : List Int} {n T : Nat} (h : Dg B xs) (hl : xs.length = n) (hn : n ≤ T) : val B xs < Q B T := by
  have h1 := val_lt (b := B) (by decide) h
  rw [hl, Q_two] at h1
  rw [Q_two]
  have e5 : (2 : Int) ^ (64 * n) ≤ 2 ^ (64 * T) := by rw [← W.cast_pow, ← W.cast_pow]; exact Int.ofNat_le.2 (Nat.pow_le_pow_right (by omega) (by omega))
  exact Int.lt_of_lt_of_le h1 e5
theorem len_768 {xs : List Int} {n T : Nat} (h : Dg B xs) (hl : xs.length = n) (hn : n ≤ T) : W.len (val B xs) ≤ 64 * T := by
  obtain ⟨k, e1, e2, e3⟩ := len_spec (val B xs) (val_nonneg (by decide) h)
  have h1 := val_lt_Q (T := T) h hl hn
  rw [Q_two] at h1
  apply Classical.byContradiction; intro hc
  have e4 : 2 ^ (k - 1) ≤ val B xs := by rcases e3 with e3 | e3; omega; exact e3
  have e5 : (2 : Int) ^ (64 * T) ≤ 2 ^ (k - 1) := by rw [← W.cast_pow, ← W.cast_pow]; exact Int.ofNat_le.2 (Nat.pow_le_pow_right (by omega) (by omega))
  exact absurd (Int.lt_of_lt_of_le h1 e5) (Int.not_lt.2 e4)
theorem rpow_i {w0 w : World} {S : List Ent} {A : Option Addr} {n c k : Nat} {xs : List Int} {v : Int} (h : St w0 w S) (h1 : (⟨A, n, c, k, xs, v⟩ : Ent) ∈ S) (hk : k ≤ 1000000) {q : Int} (h0 : 0 ≤ q) (hq : q ≤ 9223372036854775807) (hok : PowOk v q.toNat) :
    Calls Try.prog 21 #[.slice A n c, .int .i64 q] w fun e w' => ∃ A n c, e = .returned (.tuple #[.slice A n c, .int .i64 0]) ∧ St w0 w' (⟨A, n, c, 16385, limbs (v ^ q.toNat), v ^ q.toNat⟩ :: S) := by
  obtain ⟨q, rfl⟩ := Int.eq_ofNat_of_zero_le h0
  rw [Int.toNat_natCast] at hok ⊢
  exact rpow_v h h1 hk q (by omega) hok
theorem qpow_i (w : World) (A : Option Addr) (n c : Nat) (xs : List Int) (h : Sl w A n c xs) (hn : n ≤ 1099511627775) {q : Int} (h0 : 0 ≤ q) (hq : q ≤ 9223372036854775807) (hok : PowOk (val B xs) q.toNat) :
    Calls Try.prog 22 #[.slice A n c, .int .i64 q] w (Out2 w 16385 (val B xs ^ q.toNat) 0) := by
  obtain ⟨q, rfl⟩ := Int.eq_ofNat_of_zero_le h0
  rw [Int.toNat_natCast] at hok ⊢
  exact qpow_any w A n c xs h hn q (by omega) hok
theorem mul_over {L q : Int} (hL : 0 < L) (h : 1048576 / L < q) : 1048576 < L * q := by
  have h1 := Int.mul_ediv_add_emod 1048576 L
  have h2 := Int.emod_lt_of_pos 1048576 hL
  have h3 : L * (1048576 / L + 1) ≤ L * q := Int.mul_le_mul_of_nonneg_left (by omega) (by omega)
  rw [Int.mul_add, Int.mul_one] at h3
  omega
theorem mul_under {L q : Int} (hL : 0 < L) (h0 : 0 ≤ q) (h : q ≤ 1048576 / L) : 0 ≤ L * q ∧ L * q ≤ 1048576 := by
  have h1 := (Int.le_ediv_iff_mul_le hL).1 h
  rw [Int.mul_comm] at h1
  exact ⟨Int.mul_nonneg (by omega) h0, h1⟩
set_option maxRecDepth 100000 in
set_option maxHeartbeats 4000000 in
theorem walk (w : World) (A0 : Option Addr) (n0 c0 : Nat) (xs0 : List Int) (h0 : Sl w A0 n0 c0 xs0) (a1 : Int) (w1 : (Lit.int .i64 a1).wf = true) :
    Calls Try.prog 5 #[.slice A0 n0 c0, .int .i64 a1] w fun e w' => e = .returned (.bool true) ∧ Below w.heap.size w w' := by
  have hc0 := h0.cap
  have hm0 := h0.max
  unfold maxLen at hm0
  have bq := bounds_i64 w1
  obtain ⟨v, hv⟩ : ∃ v : Int, val B xs0 = v := ⟨_, rfl⟩
  by_cases hl : n0 ≤ 12
  · have hL7 := len_768 h0.dg h0.len hl
    have hLn := len_nonneg (val B xs0)
    have pv : 0 ≤ v := by rw [← hv]; exact val_nonneg (by decide) h0.dg
    obtain ⟨L, hL⟩ : ∃ L, W.len v = L := ⟨_, rfl⟩
    rw [hv, hL] at hL7 hLn
    have hL8 : L ≤ 768 := by omega
    clear hL7
    have HL := Lib.hid hL
    have HV := Lib.hid hv
    have hS := Lib.hid ((St.nil_ w).cons h0 hl hv)
    by_cases hqn : a1 < 0
    · have HQN := Lib.hid hqn
      clear h0 hv hL pv
      go_enter Try.func5, Try.ntmps5
      go_wp2_with (first
          | (go_at_call 12; (with_reducible refine (qlong1_n hS.out _ _ _ (by omega)).mono ?_); rintro e w' ⟨rfl, h1⟩; clear hS; have hS := Lib.hid h1; clear h1)
          | (go_at_call 20; (with_reducible refine (rlen_v (v := v) hS.out (by repeat (first | exact List.mem_cons_self | apply List.mem_cons_of_mem)) (by omega)).mono ?_); rw [HL.out]; rintro e w' ⟨rfl, h1⟩; clear hS; have hS := Lib.hid h1; clear h1)
          | (go_at_call 21; (with_reducible refine (rpow_neg hS.out HQN.out).mono ?_); rintro e wb ⟨rfl, h9⟩; clear hS; have hS := Lib.hid h9; clear h9))
      have ha := (hS.out.get (A := A0) (n := n0) (c := c0) (k := 12) (xs := xs0) (v := v) (by repeat (first | exact List.mem_cons_self | apply List.mem_cons_of_mem))).1
      have hbw0 := hS.out.1
      clear hS
      go_loopw [7] (fun i wr => ∃ k : Nat, k ≤ 2 ∧ i = .int .i64 k ∧ Below wb.heap.size wb wr) (fun i _ => 2 - (intOf i).toNat)
      case atStart => exact ⟨0, by omega, rfl, Below.refl _ _⟩
      case round =>
        obtain ⟨k, hk, rfl, hbr⟩ := hrel
        obtain ⟨wi, rfl⟩ : ∃ wi : World, wi = wr := ⟨_, rfl⟩
        by_cases hk2 : k < 2
        · skip
          go_wp2_with fail
          refine (qpow_neg _ A0 n0 c0 a1 HQN.out).mono ?_
          rintro e w1 ⟨rfl, hw1⟩
          rw [hw1]
          clear hw1
          have hb1 : Below wi.heap.size wi wi := Below.refl _ _
          have hoq := Own.nil_ wi wi.heap.size
          go_wp2_with fail
          refine (qsame_yes wi _ _ _ _ _ _ [] [] Sl.none Sl.none rfl).mono ?_
          rintro e w2 ⟨rfl, q2, rfl⟩
          go_wp2_with fail
          refine (qspoil_s (wi.drewN q2) wi.heap.size _ _ _ _ (hoq.below (below_dn wi q2)) hb1.size).mono ?_
          rintro e w6 ⟨⟨v6, rfl⟩, hb6, hg6⟩
          have hbw := (hb1.trans ((below_dn wi q2).mono hb1.size)).trans hb6
          go_wp2
          go_roundw
          case rel => exact ⟨k + 1, by omega, by go_num, hbr.trans (hbw.mono hbr.size)⟩
          case measure => simp [intOf]; omega
        · obtain rfl : k = 2 := by omega
          go_wp2_with fail
          refine (qawake_any _).mono ?_
          rintro e w9 ⟨rfl, hb9⟩
          go_wp2
          go_ret
          exact ⟨rfl, (hbw0.trans (hbr.mono hbw0.size)).trans (hb9.mono (Nat.le_trans hbw0.size hbr.size))⟩
    · have hq0 : 0 ≤ a1 := by omega
      by_cases hlong : 0 < L ∧ 1048576 / L < a1
      · obtain ⟨hLp, hql⟩ := hlong
        have HQL := Lib.hid hql
        have hov := mul_over hLp hql
        have h40 : 40 < a1 := by
          have : 1365 ≤ 1048576 / L := (Int.le_ediv_iff_mul_le hLp).2 (by omega)
          omega
        clear h0 hv hL pv hqn
        by_cases hn20 : a1 < 1048576
        · have hL1 : 1 < L := by
            apply Classical.byContradiction; intro hc
            have : L = 1 := by omega
            subst this
            omega
          have hov2 : L * a1 ≤ 9223372036854775807 := by
            have := Int.mul_le_mul hL8 (Int.le_of_lt hn20) hq0 (by omega)
            omega
          clear hql
          go_enter Try.func5, Try.ntmps5
          go_wp2_with (first
              | (go_at_call 12; (with_reducible refine (qlong1_n hS.out _ _ _ (by omega)).mono ?_); rintro e w' ⟨rfl, h1⟩; clear hS; have hS := Lib.hid h1; clear h1)
              | (go_at_call 20; (with_reducible refine (rlen_v (v := v) hS.out (by repeat (first | exact List.mem_cons_self | apply List.mem_cons_of_mem)) (by omega)).mono ?_); rw [HL.out]; rintro e w' ⟨rfl, h1⟩; clear hS; have hS := Lib.hid h1; clear h1)
              | (go_at_call 21; (with_reducible refine (rpow_long (v := v) hS.out (by repeat (first | exact List.mem_cons_self | apply List.mem_cons_of_mem)) (by omega) hq0 HL.out hLp HQL.out).mono ?_); rintro e wb ⟨rfl, h9⟩; clear hS; have hS := Lib.hid h9; clear h9))
          have ha := (hS.out.get (A := A0) (n := n0) (c := c0) (k := 12) (xs := xs0) (v := v) (by repeat (first | exact List.mem_cons_self | apply List.mem_cons_of_mem))).1
          have hbw0 := hS.out.1
          clear hS
          go_loopw [7] (fun i wr => ∃ k : Nat, k ≤ 2 ∧ i = .int .i64 k ∧ Below wb.heap.size wb wr) (fun i _ => 2 - (intOf i).toNat)
          case atStart => exact ⟨0, by omega, rfl, Below.refl _ _⟩
          case round =>
            obtain ⟨k, hk, rfl, hbr⟩ := hrel
            obtain ⟨wi, rfl⟩ : ∃ wi : World, wi = wr := ⟨_, rfl⟩
            by_cases hk2 : k < 2
            · skip
              go_wp2_with fail
              refine (qpow_long _ A0 n0 c0 xs0 (ha.below hbr) (by omega) a1 hq0 (by rw [HV.out, HL.out]; exact hLp) (by rw [HV.out, HL.out]; exact HQL.out)).mono ?_
              rintro e w1 ⟨rfl, hw1⟩
              rw [hw1]
              clear hw1
              have hb1 : Below wi.heap.size wi wi := Below.refl _ _
              have hoq := Own.nil_ wi wi.heap.size
              go_wp2_with fail
              refine (qsame_yes wi _ _ _ _ _ _ [] [] Sl.none Sl.none rfl).mono ?_
              rintro e w2 ⟨rfl, q2, rfl⟩
              go_wp2_with fail
              refine (qspoil_s (wi.drewN q2) wi.heap.size _ _ _ _ (hoq.below (below_dn wi q2)) hb1.size).mono ?_
              rintro e w6 ⟨⟨v6, rfl⟩, hb6, hg6⟩
              have hbw := (hb1.trans ((below_dn wi q2).mono hb1.size)).trans hb6
              go_wp2
              go_roundw
              case rel => exact ⟨k + 1, by omega, by go_num, hbr.trans (hbw.mono hbr.size)⟩
              case measure => simp [intOf]; omega
            · obtain rfl : k = 2 := by omega
              go_wp2_with fail
              refine (qawake_any _).mono ?_
              rintro e w9 ⟨rfl, hb9⟩
              go_wp2
              go_ret
              exact ⟨rfl, (hbw0.trans (hbr.mono hbw0.size)).trans (hb9.mono (Nat.le_trans hbw0.size hbr.size))⟩
        · have hn21 : 1048576 ≤ a1 := by omega
          clear hql hn20 hov
          go_enter Try.func5, Try.ntmps5
          go_wp2_with (first
              | (go_at_call 12; (with_reducible refine (qlong1_n hS.out _ _ _ (by omega)).mono ?_); rintro e w' ⟨rfl, h1⟩; clear hS; have hS := Lib.hid h1; clear h1)
              | (go_at_call 20; (with_reducible refine (rlen_v (v := v) hS.out (by repeat (first | exact List.mem_cons_self | apply List.mem_cons_of_mem)) (by omega)).mono ?_); rw [HL.out]; rintro e w' ⟨rfl, h1⟩; clear hS; have hS := Lib.hid h1; clear h1)
              | (go_at_call 21; (with_reducible refine (rpow_long (v := v) hS.out (by repeat (first | exact List.mem_cons_self | apply List.mem_cons_of_mem)) (by omega) hq0 HL.out hLp HQL.out).mono ?_); rintro e wb ⟨rfl, h9⟩; clear hS; have hS := Lib.hid h9; clear h9))
          have ha := (hS.out.get (A := A0) (n := n0) (c := c0) (k := 12) (xs := xs0) (v := v) (by repeat (first | exact List.mem_cons_self | apply List.mem_cons_of_mem))).1
          have hbw0 := hS.out.1
          clear hS
          go_loopw [7] (fun i wr => ∃ k : Nat, k ≤ 2 ∧ i = .int .i64 k ∧ Below wb.heap.size wb wr) (fun i _ => 2 - (intOf i).toNat)
          case atStart => exact ⟨0, by omega, rfl, Below.refl _ _⟩
          case round =>
            obtain ⟨k, hk, rfl, hbr⟩ := hrel
            obtain ⟨wi, rfl⟩ : ∃ wi : World, wi = wr := ⟨_, rfl⟩
            by_cases hk2 : k < 2
            · skip
              go_wp2_with fail
              refine (qpow_long _ A0 n0 c0 xs0 (ha.below hbr) (by omega) a1 hq0 (by rw [HV.out, HL.out]; exact hLp) (by rw [HV.out, HL.out]; exact HQL.out)).mono ?_
              rintro e w1 ⟨rfl, hw1⟩
              rw [hw1]
              clear hw1
              have hb1 : Below wi.heap.size wi wi := Below.refl _ _
              have hoq := Own.nil_ wi wi.heap.size
              go_wp2_with fail
              refine (qsame_yes wi _ _ _ _ _ _ [] [] Sl.none Sl.none rfl).mono ?_
              rintro e w2 ⟨rfl, q2, rfl⟩
              go_wp2_with fail
              refine (qspoil_s (wi.drewN q2) wi.heap.size _ _ _ _ (hoq.below (below_dn wi q2)) hb1.size).mono ?_
              rintro e w6 ⟨⟨v6, rfl⟩, hb6, hg6⟩
              have hbw := (hb1.trans ((below_dn wi q2).mono hb1.size)).trans hb6
              go_wp2
              go_roundw
              case rel => exact ⟨k + 1, by omega, by go_num, hbr.trans (hbw.mono hbr.size)⟩
              case measure => simp [intOf]; omega
            · obtain rfl : k = 2 := by omega
              go_wp2_with fail
              refine (qawake_any _).mono ?_
              rintro e w9 ⟨rfl, hb9⟩
              go_wp2
              go_ret
              exact ⟨rfl, (hbw0.trans (hbr.mono hbw0.size)).trans (hb9.mono (Nat.le_trans hbw0.size hbr.size))⟩
      · have hok : PowOk v a1.toNat := by
          by_cases hz : L = 0
          · exact .inl (len_zero pv (by rw [hL]; exact hz))
          · right
            rw [hL, Int.toNat_of_nonneg hq0]
            omega
        have hq1 : a1 ≤ 9223372036854775807 := bq.2
        have HOK := Lib.hid hok
        by_cases h40 : a1 ≤ 40
        · clear h0 hv hL pv hqn hlong hok
          go_enter Try.func5, Try.ntmps5
          go_wp2_with (first
              | (go_at_call 12; (with_reducible refine (qlong1_n hS.out _ _ _ (by omega)).mono ?_); rintro e w' ⟨rfl, h1⟩; clear hS; have hS := Lib.hid h1; clear h1)
              | (go_at_call 20; (with_reducible refine (rlen_v (v := v) hS.out (by repeat (first | exact List.mem_cons_self | apply List.mem_cons_of_mem)) (by omega)).mono ?_); rw [HL.out]; rintro e w' ⟨rfl, h1⟩; clear hS; have hS := Lib.hid h1; clear h1)
              | (go_at_call 21; (with_reducible refine (rpow_i (v := v) hS.out (by repeat (first | exact List.mem_cons_self | apply List.mem_cons_of_mem)) (by omega) hq0 hq1 HOK.out).mono ?_); rintro e wb ⟨Ap, np, cp, rfl, h9⟩; clear hS; have hS := Lib.hid h9; clear h9))
          have ha := (hS.out.get (A := A0) (n := n0) (c := c0) (k := 12) (xs := xs0) (v := v) (by repeat (first | exact List.mem_cons_self | apply List.mem_cons_of_mem))).1
          have hp := (hS.out.get (A := Ap) (n := np) (c := cp) (k := 16385) (xs := limbs (v ^ a1.toNat)) (v := v ^ a1.toNat) (by repeat (first | exact List.mem_cons_self | apply List.mem_cons_of_mem))).1
          have hbw0 := hS.out.1
          clear hS
          go_loopw [7] (fun i wr => ∃ k : Nat, k ≤ 2 ∧ i = .int .i64 k ∧ Below wb.heap.size wb wr) (fun i _ => 2 - (intOf i).toNat)
          case atStart => exact ⟨0, by omega, rfl, Below.refl _ _⟩
          case round =>
            obtain ⟨k, hk, rfl, hbr⟩ := hrel
            obtain ⟨wi, rfl⟩ : ∃ wi : World, wi = wr := ⟨_, rfl⟩
            by_cases hk2 : k < 2
            · skip
              go_wp2_with fail
              refine (qpow_i _ A0 n0 c0 xs0 (ha.below hbr) (by omega) hq0 hq1 (by rw [HV.out]; exact HOK.out)).mono ?_
              rintro e w1 ⟨Aq, nq, cq, rfl, hnq, hoq, hb1⟩
              rw [HV.out] at hoq
              have hbr1 := hbr.trans (hb1.mono hbr.size)
              go_wp2_with fail
              refine (qsame_yes w1 _ _ _ _ _ _ _ _ hoq.sl (hp.below hbr1) rfl).mono ?_
              rintro e w2 ⟨rfl, q2, rfl⟩
              go_wp2_with fail
              refine (qspoil_s (w1.drewN q2) wi.heap.size _ _ _ _ (hoq.below (below_dn w1 q2)) hb1.size).mono ?_
              rintro e w6 ⟨⟨v6, rfl⟩, hb6, hg6⟩
              have hbw := (hb1.trans ((below_dn w1 q2).mono hb1.size)).trans hb6
              go_wp2
              go_roundw
              case rel => exact ⟨k + 1, by omega, by go_num, hbr.trans (hbw.mono hbr.size)⟩
              case measure => simp [intOf]; omega
            · obtain rfl : k = 2 := by omega
              go_wp2_with fail
              refine (qawake_any _).mono ?_
              rintro e w9 ⟨rfl, hb9⟩
              go_wp2
              go_ret
              exact ⟨rfl, (hbw0.trans (hbr.mono hbw0.size)).trans (hb9.mono (Nat.le_trans hbw0.size hbr.size))⟩
        · have h41 : 40 < a1 := by omega
          by_cases hL1 : L ≤ 1
          · by_cases hn20 : a1 < 1048576
            · clear h0 hv hL pv hqn hlong hok
              go_enter Try.func5, Try.ntmps5
              go_wp2_with (first
                  | (go_at_call 12; (with_reducible refine (qlong1_n hS.out _ _ _ (by omega)).mono ?_); rintro e w' ⟨rfl, h1⟩; clear hS; have hS := Lib.hid h1; clear h1)
                  | (go_at_call 20; (with_reducible refine (rlen_v (v := v) hS.out (by repeat (first | exact List.mem_cons_self | apply List.mem_cons_of_mem)) (by omega)).mono ?_); rw [HL.out]; rintro e w' ⟨rfl, h1⟩; clear hS; have hS := Lib.hid h1; clear h1)
                  | (go_at_call 21; (with_reducible refine (rpow_i (v := v) hS.out (by repeat (first | exact List.mem_cons_self | apply List.mem_cons_of_mem)) (by omega) hq0 hq1 HOK.out).mono ?_); rintro e wb ⟨Ap, np, cp, rfl, h9⟩; clear hS; have hS := Lib.hid h9; clear h9))
              have ha := (hS.out.get (A := A0) (n := n0) (c := c0) (k := 12) (xs := xs0) (v := v) (by repeat (first | exact List.mem_cons_self | apply List.mem_cons_of_mem))).1
              have hp := (hS.out.get (A := Ap) (n := np) (c := cp) (k := 16385) (xs := limbs (v ^ a1.toNat)) (v := v ^ a1.toNat) (by repeat (first | exact List.mem_cons_self | apply List.mem_cons_of_mem))).1
              have hbw0 := hS.out.1
              clear hS
              go_loopw [7] (fun i wr => ∃ k : Nat, k ≤ 2 ∧ i = .int .i64 k ∧ Below wb.heap.size wb wr) (fun i _ => 2 - (intOf i).toNat)
              case atStart => exact ⟨0, by omega, rfl, Below.refl _ _⟩
              case round =>
                obtain ⟨k, hk, rfl, hbr⟩ := hrel
                obtain ⟨wi, rfl⟩ : ∃ wi : World, wi = wr := ⟨_, rfl⟩
                by_cases hk2 : k < 2
                · skip
                  go_wp2_with fail
                  refine (qpow_i _ A0 n0 c0 xs0 (ha.below hbr) (by omega) hq0 hq1 (by rw [HV.out]; exact HOK.out)).mono ?_
                  rintro e w1 ⟨Aq, nq, cq, rfl, hnq, hoq, hb1⟩
                  rw [HV.out] at hoq
                  have hbr1 := hbr.trans (hb1.mono hbr.size)
                  go_wp2_with fail
                  refine (qsame_yes w1 _ _ _ _ _ _ _ _ hoq.sl (hp.below hbr1) rfl).mono ?_
                  rintro e w2 ⟨rfl, q2, rfl⟩
                  go_wp2_with fail
                  refine (qspoil_s (w1.drewN q2) wi.heap.size _ _ _ _ (hoq.below (below_dn w1 q2)) hb1.size).mono ?_
                  rintro e w6 ⟨⟨v6, rfl⟩, hb6, hg6⟩
                  have hbw := (hb1.trans ((below_dn w1 q2).mono hb1.size)).trans hb6
                  go_wp2
                  go_roundw
                  case rel => exact ⟨k + 1, by omega, by go_num, hbr.trans (hbw.mono hbr.size)⟩
                  case measure => simp [intOf]; omega
                · obtain rfl : k = 2 := by omega
                  go_wp2_with fail
                  refine (qawake_any _).mono ?_
                  rintro e w9 ⟨rfl, hb9⟩
                  go_wp2
                  go_ret
                  exact ⟨rfl, (hbw0.trans (hbr.mono hbw0.size)).trans (hb9.mono (Nat.le_trans hbw0.size hbr.size))⟩
            · have hn21 : 1048576 ≤ a1 := by omega
              clear h0 hv hL pv hqn hlong hok hn20
              go_enter Try.func5, Try.ntmps5
              go_wp2_with (first
                  | (go_at_call 12; (with_reducible refine (qlong1_n hS.out _ _ _ (by omega)).mono ?_); rintro e w' ⟨rfl, h1⟩; clear hS; have hS := Lib.hid h1; clear h1)
                  | (go_at_call 20; (with_reducible refine (rlen_v (v := v) hS.out (by repeat (first | exact List.mem_cons_self | apply List.mem_cons_of_mem)) (by omega)).mono ?_); rw [HL.out]; rintro e w' ⟨rfl, h1⟩; clear hS; have hS := Lib.hid h1; clear h1)
                  | (go_at_call 21; (with_reducible refine (rpow_i (v := v) hS.out (by repeat (first | exact List.mem_cons_self | apply List.mem_cons_of_mem)) (by omega) hq0 hq1 HOK.out).mono ?_); rintro e wb ⟨Ap, np, cp, rfl, h9⟩; clear hS; have hS := Lib.hid h9; clear h9))
              have ha := (hS.out.get (A := A0) (n := n0) (c := c0) (k := 12) (xs := xs0) (v := v) (by repeat (first | exact List.mem_cons_self | apply List.mem_cons_of_mem))).1
              have hp := (hS.out.get (A := Ap) (n := np) (c := cp) (k := 16385) (xs := limbs (v ^ a1.toNat)) (v := v ^ a1.toNat) (by repeat (first | exact List.mem_cons_self | apply List.mem_cons_of_mem))).1
              have hbw0 := hS.out.1
              clear hS
              go_loopw [7] (fun i wr => ∃ k : Nat, k ≤ 2 ∧ i = .int .i64 k ∧ Below wb.heap.size wb wr) (fun i _ => 2 - (intOf i).toNat)
              case atStart => exact ⟨0, by omega, rfl, Below.refl _ _⟩
              case round =>
                obtain ⟨k, hk, rfl, hbr⟩ := hrel
                obtain ⟨wi, rfl⟩ : ∃ wi : World, wi = wr := ⟨_, rfl⟩
                by_cases hk2 : k < 2
                · skip
                  go_wp2_with fail
                  refine (qpow_i _ A0 n0 c0 xs0 (ha.below hbr) (by omega) hq0 hq1 (by rw [HV.out]; exact HOK.out)).mono ?_
                  rintro e w1 ⟨Aq, nq, cq, rfl, hnq, hoq, hb1⟩
                  rw [HV.out] at hoq
                  have hbr1 := hbr.trans (hb1.mono hbr.size)
                  go_wp2_with fail
                  refine (qsame_yes w1 _ _ _ _ _ _ _ _ hoq.sl (hp.below hbr1) rfl).mono ?_
                  rintro e w2 ⟨rfl, q2, rfl⟩
                  go_wp2_with fail
                  refine (qspoil_s (w1.drewN q2) wi.heap.size _ _ _ _ (hoq.below (below_dn w1 q2)) hb1.size).mono ?_
                  rintro e w6 ⟨⟨v6, rfl⟩, hb6, hg6⟩
                  have hbw := (hb1.trans ((below_dn w1 q2).mono hb1.size)).trans hb6
                  go_wp2
                  go_roundw
                  case rel => exact ⟨k + 1, by omega, by go_num, hbr.trans (hbw.mono hbr.size)⟩
                  case measure => simp [intOf]; omega
                · obtain rfl : k = 2 := by omega
                  go_wp2_with fail
                  refine (qawake_any _).mono ?_
                  rintro e w9 ⟨rfl, hb9⟩
                  go_wp2
                  go_ret
                  exact ⟨rfl, (hbw0.trans (hbr.mono hbw0.size)).trans (hb9.mono (Nat.le_trans hbw0.size hbr.size))⟩
          · have hL2 : 1 < L := by omega
            have hql : a1 ≤ 1048576 / L := by omega
            obtain ⟨u1, u2⟩ := mul_under (show 0 < L by omega) hq0 hql
            have hn20 : a1 < 1048576 := by
              have : a1 ≤ 1048576 / L := hql
              have h3 : 1048576 / L < 1048576 := Int.ediv_lt_of_lt_mul (by omega) (by omega)
              omega
            clear h0 hv hL pv hqn hlong hok hql hL1
            go_enter Try.func5, Try.ntmps5
            go_wp2_with (first
                | (go_at_call 12; (with_reducible refine (qlong1_n hS.out _ _ _ (by omega)).mono ?_); rintro e w' ⟨rfl, h1⟩; clear hS; have hS := Lib.hid h1; clear h1)
                | (go_at_call 20; (with_reducible refine (rlen_v (v := v) hS.out (by repeat (first | exact List.mem_cons_self | apply List.mem_cons_of_mem)) (by omega)).mono ?_); rw [HL.out]; rintro e w' ⟨rfl, h1⟩; clear hS; have hS := Lib.hid h1; clear h1)
                | (go_at_call 13; (with_reducible refine (qawake_s hS.out ).mono ?_); rintro e w' ⟨rfl, h1⟩; clear hS; have hS := Lib.hid h1; clear h1))
            go_ret
            exact ⟨rfl, hS.out.1⟩
  · have HL := Lib.hid hl
    clear hl hv
    have hS := Lib.hid (St.nil_ w)
    clear h0
    go_enter Try.func5, Try.ntmps5
    go_wp2_with (first
        | (go_at_call 12; (with_reducible refine (qlong1_y hS.out _ _ _ (by omega) HL.out).mono ?_); rintro e w' ⟨rfl, h1⟩; clear hS; have hS := Lib.hid h1; clear h1)
        | (go_at_call 13; (with_reducible refine (qawake_s hS.out ).mono ?_); rintro e w' ⟨rfl, h1⟩; clear hS; have hS := Lib.hid h1; clear h1))
    go_ret
    exact ⟨rfl, hS.out.1⟩
set_option maxRecDepth 100000 in
theorem lifted (os : Os) (started : os.Started) (H : Type) (enc : TypeId × Value → H) :
    ReturnsInHanded {} Try.checked os 5 .any (Rows.quoPowersSpec.pre6 enc Try.prog Try.f5 Rows.quoPowersRow.domain false) (Rows.quoPowersSpec.post enc Try.prog Try.f5 false true false false) := by
  refine returnsInHanded_of_change (C := Try.checked) own started (by kernel_rfl) Try.func5
    (ChangeSpec.witness6 (enc := enc) (C := Try.checked) false ⟨#[], #[.slice none 0 0, .int .i64 0], []⟩ 8 (by kernel_rfl) (by kernel_rfl) (by kernel_rfl) (by kernel_rfl)) ?_
  intro W base args ds gs before hval0 hW hcnd _
  have hval : ∀ (j : Nat) t v, Try.f5.params[j]? = some t → args[j]? = some v → Value.okWide Try.prog W .any base t v := hval0
  have hW' := hW
  obtain ⟨p, q, hA0, hV, hpq, hfz, hnd⟩ := hW
  have hA : DataW.TrodAll enc Try.prog W 0 (fun _ => true) true Try.f5.params.toList args.toList ds p := hA0
  rw [Try.params5] at hA hval
  obtain ⟨v0, vs0, d0, ds0, p0, q0, hargs, rfl, rfl, h0, r0⟩ := trodAll_cons hA
  obtain ⟨v1, vs1, d1, ds1, p1, q1, rfl, rfl, rfl, h1, r1⟩ := trodAll_cons r0
  obtain ⟨rfl, rfl, rfl⟩ := trodAll_nil r1
  obtain rfl : args = #[v0, v1] := by cases args; simp_all
  obtain ⟨rfl, rfl⟩ := trodVars_none hV
  obtain ⟨A0, n0, c0, xs0, rfl, s0⟩ := open_natural (hval 0 23 v0 rfl rfl) h0
  obtain ⟨a1, rfl, rfl, rfl, w1⟩ := open_int Try.underlying3 (hval 1 3 v1 rfl rfl) h1
  refine (walk W A0 n0 c0 xs0 s0 a1 w1).mono fun e W' ⟨he, hb⟩ => ?_
  subst he
  exact ⟨_, rfl, Frame.close laidOut hW' rfl rfl rfl Try.underlying4 (fun t ht => by rw [Try.params5] at ht; simp at ht; rcases ht with rfl | rfl <;> exact ⟨by kernel_rfl, of_decide_eq_true (by kernel_rfl)⟩) hb⟩
theorem over : Rows.quoPowersRow.holds Try.pinned (OpenSpec.ofChange Rows.quoPowersSpec) :=
  OpenClaim.holds_of_wide 5 Try.f5 rfl rfl rfl rfl rfl rfl rfl ⟨rfl, rfl, rfl, rfl, rfl⟩ rfl rfl rfl rfl rfl (by kernel_rfl) Try.func5 (by kernel_rfl)
    (of_decide_eq_true (by kernel_rfl)) (by unfold Func.isWrapper; first | (rw [if_pos (by decide +kernel)]; kernel_rfl) | (rw [if_neg (by decide +kernel)]; exact ⟨rfl, rfl⟩))
    (fun os started H enc _ => lifted os started H enc)
/-- the statement -/
theorem proved : Rows.QuoPowersSaid :=
  over
#print axioms proved
end Go.Proofs.Ytbjhfnkdflnnoaa.quoPowers
