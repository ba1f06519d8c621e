/- The calls of layer 6 at hand in a statement: states SC that keep the naturals and the blocks (nothing is written over). -/
import Derived.Test.YtnebeffpidlgmaaGreatDoorRatG
namespace Go.Proofs.YtnebeffpidlgmaaGreatDoor
open Go.RowKit
set_option linter.unusedVariables false
set_option linter.unusedSimpArgs false
set_option maxRecDepth 20000
open N
open Go.Lib (decDigits nDigits decDigits_length nDigits_pos)
open RC
theorem fread_all (w : World) (bs : List UInt8) (hl : bs.length ≤ maxLen) : (rdK bs = 0 → Calls Tryz.prog 22 #[.string ⟨bs.toArray⟩] w (OutRE w 20001 (rdR bs) 0)) ∧ (rdK bs ≠ 0 → Calls Tryz.prog 22 #[.string ⟨bs.toArray⟩] w (OutRZ w (rdK bs))) := by
  unfold rdK rdR
  cases hn : noS bs with
  | true =>
    rw [if_pos rfl, if_pos rfl]
    exact ⟨fun h => fread_yes w bs hl hn h rfl rfl, fun h => fread_no w bs hl hn rfl rfl h⟩
  | false =>
    rw [if_neg Bool.false_ne_true, if_neg Bool.false_ne_true]
    by_cases h1 : rdJ (fP bs) = 0
    · rw [if_pos h1]
      by_cases h2 : rdE (fQ bs) = 0
      · rw [if_pos h2]
        have hd0 := rdV_nonneg (fQ bs)
        have hrv : rv (sg (rdW (fP bs))) (val B (limbs (mg (rdW (fP bs))))) (val B (limbs (rdV (fQ bs)))) = mkRat (rdW (fP bs)) (rdV (fQ bs)).toNat := by rw [limbs_val (mg_nn _), limbs_val hd0]; unfold rv; rw [iv_sm]
        have hmg : mayR (sg (rdW (fP bs))) (limbs (mg (rdW (fP bs)))) (limbs (rdV (fQ bs))) = (decide (0 < rdV (fQ bs)) && decide (gI (mg (rdW (fP bs))) (rdV (fQ bs)) = 1)) := by
          unfold mayR
          rw [mayB_told, Bool.true_and, limbs_val (mg_nn _), limbs_val hd0]
          have hb : mayB false (limbs (rdV (fQ bs))) = true := by
            have := mayB_told (rdV (fQ bs))
            rwa [sg_f hd0, mg_f hd0] at this
          rw [hb, Bool.true_and]
          by_cases hz : rdV (fQ bs) = 0
          · rw [decide_eq_true hz, decide_eq_false (show ¬ 0 < rdV (fQ bs) by omega)]; rfl
          · rw [decide_eq_false hz, decide_eq_true (show 0 < rdV (fQ bs) by omega)]; rfl
        by_cases h3 : 1 < rdV (fQ bs) ∧ gI (mg (rdW (fP bs))) (rdV (fQ bs)) = 1
        · rw [if_pos h3]
          refine ⟨fun _ => fread_good w bs hl hn h1 rfl h2 rfl (by omega) ?_ rfl, fun h => absurd rfl h⟩
          rw [hmg, decide_eq_true h3.2, decide_eq_true (by omega)]; rfl
        · rw [if_neg h3]
          refine ⟨fun h => absurd h (by decide), fun _ => ?_⟩
          by_cases h4 : rdV (fQ bs) = 1
          · exact fread_one w bs hl hn h1 rfl h2 rfl h4
          · refine fread_bad w bs hl hn h1 rfl h2 rfl h4 ?_
            rw [hmg]
            by_cases h5 : 0 < rdV (fQ bs)
            · rw [decide_eq_false (fun h => h3 ⟨by omega, h⟩), Bool.and_false]
            · rw [decide_eq_false h5]; rfl
      · rw [if_neg h2]
        exact ⟨fun h => absurd h h2, fun h => fread_pq w bs hl hn h1 rfl rfl rfl h⟩
    · rw [if_neg h1]
      exact ⟨fun h => absurd h h1, fun h => fread_px w bs hl hn rfl rfl h⟩
section
variable {w0 v0 w w' : World} {S : List Ent} {T : List Blk} {A0 A0' A1 A1' : Option Addr} {n0 c0 n0' c0' n1 c1 n1' c1' k0 k1 k : Nat} {x0 y0 x1 y1 : List Int} {p0 q0 p1 q1 : Int} {b0 b1 : Bool} {r0 r1 r : Rat}
theorem SC.tR (h : SC w0 v0 w S T []) {m : Nat} {e : Ending} (hm : m ≤ k) (ho : OutR w m r e w') : ∃ A n c A' n' c', e = .returned (.agg #[.bool (sg r.num), .slice A n c, .slice A' n' c']) ∧ SC w0 v0 w' (⟨A, n, c, k, limbs (mg r.num), mg r.num⟩ :: ⟨A', n', c', k, limbs r.den, r.den⟩ :: S) T [] := by
  obtain ⟨A, n, c, A', n', c', he, h1⟩ := h.rR hm ho
  exact ⟨A, n, c, A', n', c', he, h1.sub (fun t ht => ht) (List.Sublist.refl _) (fun t ht => by cases ht)⟩
theorem SC.tRE (h : SC w0 v0 w S T []) {m : Nat} {j : Int} {e : Ending} (hm : m ≤ k) (ho : OutRE w m r j e w') : ∃ A n c A' n' c', e = .returned (.tuple #[.agg #[.bool (sg r.num), .slice A n c, .slice A' n' c'], .int .i64 j]) ∧ SC w0 v0 w' (⟨A, n, c, k, limbs (mg r.num), mg r.num⟩ :: ⟨A', n', c', k, limbs r.den, r.den⟩ :: S) T [] := by
  obtain ⟨A, n, c, A', n', c', he, h1⟩ := h.rRE hm ho
  exact ⟨A, n, c, A', n', c', he, h1.sub (fun t ht => ht) (List.Sublist.refl _) (fun t ht => by cases ht)⟩
theorem fadd_s (h : SC w0 v0 w S T []) (h1 : (⟨A0, n0, c0, k0, x0, p0⟩ : Ent) ∈ S) (h2 : (⟨A0', n0', c0', k0, y0, q0⟩ : Ent) ∈ S) (g1 : (⟨A1, n1, c1, k1, x1, p1⟩ : Ent) ∈ S) (g2 : (⟨A1', n1', c1', k1, y1, q1⟩ : Ent) ∈ S) (hk0 : 1 ≤ k0 ∧ k0 ≤ 2500) (hk1 : 1 ≤ k1 ∧ k1 ≤ 2500) (hr0 : rv b0 p0 q0 = r0) (hr1 : rv b1 p1 q1 = r1) :
    Calls Tryz.prog 30 #[.agg #[.bool b0, .slice A0 n0 c0, .slice A0' n0' c0'], .agg #[.bool b1, .slice A1 n1 c1, .slice A1' n1' c1']] w fun e w' => ∃ (r : Rat), ∃ A n c A' n' c', r0 + r1 = r ∧ e = .returned (.agg #[.bool (sg r.num), .slice A n c, .slice A' n' c']) ∧ SC w0 v0 w' (⟨A, n, c, 60 * (k0 + k1), limbs (mg r.num), mg r.num⟩ :: ⟨A', n', c', 60 * (k0 + k1), limbs r.den, r.den⟩ :: S) T [] := by
  exact (fadd_any w ((h.frm h1 h2 (Nat.le_refl _) (Nat.le_refl _) hr0).wide (Nat.le_add_right _ _)) ((h.frm g1 g2 (Nat.le_refl _) (Nat.le_refl _) hr1).wide (Nat.le_add_left _ _)) (by omega) (by omega)).mono fun e w' ho => have ⟨A, n, c, A', n', c', he, h3⟩ := h.tR (Nat.le_refl _) ho; ⟨_, A, n, c, A', n', c', rfl, he, h3⟩
theorem fsub_s (h : SC w0 v0 w S T []) (h1 : (⟨A0, n0, c0, k0, x0, p0⟩ : Ent) ∈ S) (h2 : (⟨A0', n0', c0', k0, y0, q0⟩ : Ent) ∈ S) (g1 : (⟨A1, n1, c1, k1, x1, p1⟩ : Ent) ∈ S) (g2 : (⟨A1', n1', c1', k1, y1, q1⟩ : Ent) ∈ S) (hk0 : 1 ≤ k0 ∧ k0 ≤ 2500) (hk1 : 1 ≤ k1 ∧ k1 ≤ 2500) (hr0 : rv b0 p0 q0 = r0) (hr1 : rv b1 p1 q1 = r1) :
    Calls Tryz.prog 35 #[.agg #[.bool b0, .slice A0 n0 c0, .slice A0' n0' c0'], .agg #[.bool b1, .slice A1 n1 c1, .slice A1' n1' c1']] w fun e w' => ∃ (r : Rat), ∃ A n c A' n' c', r0 - r1 = r ∧ e = .returned (.agg #[.bool (sg r.num), .slice A n c, .slice A' n' c']) ∧ SC w0 v0 w' (⟨A, n, c, 60 * (k0 + k1), limbs (mg r.num), mg r.num⟩ :: ⟨A', n', c', 60 * (k0 + k1), limbs r.den, r.den⟩ :: S) T [] := by
  exact (fsub_any w ((h.frm h1 h2 (Nat.le_refl _) (Nat.le_refl _) hr0).wide (Nat.le_add_right _ _)) ((h.frm g1 g2 (Nat.le_refl _) (Nat.le_refl _) hr1).wide (Nat.le_add_left _ _)) (by omega) (by omega)).mono fun e w' ho => have ⟨A, n, c, A', n', c', he, h3⟩ := h.tR (Nat.le_refl _) ho; ⟨_, A, n, c, A', n', c', rfl, he, h3⟩
theorem fmul_s (h : SC w0 v0 w S T []) (h1 : (⟨A0, n0, c0, k0, x0, p0⟩ : Ent) ∈ S) (h2 : (⟨A0', n0', c0', k0, y0, q0⟩ : Ent) ∈ S) (g1 : (⟨A1, n1, c1, k1, x1, p1⟩ : Ent) ∈ S) (g2 : (⟨A1', n1', c1', k1, y1, q1⟩ : Ent) ∈ S) (hk0 : 1 ≤ k0 ∧ k0 ≤ 100000) (hk1 : 1 ≤ k1 ∧ k1 ≤ 100000) (hr0 : rv b0 p0 q0 = r0) (hr1 : rv b1 p1 q1 = r1) :
    Calls Tryz.prog 31 #[.agg #[.bool b0, .slice A0 n0 c0, .slice A0' n0' c0'], .agg #[.bool b1, .slice A1 n1 c1, .slice A1' n1' c1']] w fun e w' => ∃ (r : Rat), ∃ A n c A' n' c', r0 * r1 = r ∧ e = .returned (.agg #[.bool (sg r.num), .slice A n c, .slice A' n' c']) ∧ SC w0 v0 w' (⟨A, n, c, k0 + k1, limbs (mg r.num), mg r.num⟩ :: ⟨A', n', c', k0 + k1, limbs r.den, r.den⟩ :: S) T [] := by
  exact (fmul_any w (h.frm h1 h2 (Nat.le_refl _) (Nat.le_refl _) hr0) (h.frm g1 g2 (Nat.le_refl _) (Nat.le_refl _) hr1) hk0.1 hk0.2 hk1.1 hk1.2).mono fun e w' ho => have ⟨A, n, c, A', n', c', he, h3⟩ := h.tR (Nat.le_refl _) ho; ⟨_, A, n, c, A', n', c', rfl, he, h3⟩
theorem fneg_s (h : SC w0 v0 w S T []) (h1 : (⟨A0, n0, c0, k0, x0, p0⟩ : Ent) ∈ S) (h2 : (⟨A0', n0', c0', k0, y0, q0⟩ : Ent) ∈ S) (hk0 : 1 ≤ k0 ∧ k0 ≤ 100000) (hr0 : rv b0 p0 q0 = r0) :
    Calls Tryz.prog 34 #[.agg #[.bool b0, .slice A0 n0 c0, .slice A0' n0' c0']] w fun e w' => ∃ (r : Rat), ∃ A n c A' n' c', -r0 = r ∧ e = .returned (.agg #[.bool (sg r.num), .slice A n c, .slice A' n' c']) ∧ SC w0 v0 w' (⟨A, n, c, k0, limbs (mg r.num), mg r.num⟩ :: ⟨A', n', c', k0, limbs r.den, r.den⟩ :: S) T [] := by
  have hF := (h.frm h1 h2 (Nat.le_refl _) (Nat.le_refl _) hr0)
  exact (fneg_any w b0 hF.num hF.den hF.ln hF.ld hk0.1 (by omega) hF.val).mono fun e w' ho => have ⟨A, n, c, A', n', c', he, h3⟩ := h.tR (Nat.le_refl _) ho; ⟨_, A, n, c, A', n', c', rfl, he, h3⟩
theorem fquo_s (h : SC w0 v0 w S T []) (h1 : (⟨A0, n0, c0, k0, x0, p0⟩ : Ent) ∈ S) (h2 : (⟨A0', n0', c0', k0, y0, q0⟩ : Ent) ∈ S) (g1 : (⟨A1, n1, c1, k1, x1, p1⟩ : Ent) ∈ S) (g2 : (⟨A1', n1', c1', k1, y1, q1⟩ : Ent) ∈ S) (hk0 : 1 ≤ k0 ∧ k0 ≤ 100000) (hk1 : 1 ≤ k1 ∧ k1 ≤ 100000) (hr0 : rv b0 p0 q0 = r0) (hr1 : rv b1 p1 q1 = r1) (hz : ¬ r1 = 0) :
    Calls Tryz.prog 32 #[.agg #[.bool b0, .slice A0 n0 c0, .slice A0' n0' c0'], .agg #[.bool b1, .slice A1 n1 c1, .slice A1' n1' c1']] w fun e w' => ∃ (r : Rat), ∃ A n c A' n' c', r0 / r1 = r ∧ e = .returned (.tuple #[.agg #[.bool (sg r.num), .slice A n c, .slice A' n' c'], .int .i64 0]) ∧ SC w0 v0 w' (⟨A, n, c, k0 + k1, limbs (mg r.num), mg r.num⟩ :: ⟨A', n', c', k0 + k1, limbs r.den, r.den⟩ :: S) T [] := by
  exact (fquo_any w (h.frm h1 h2 (Nat.le_refl _) (Nat.le_refl _) hr0) (h.frm g1 g2 (Nat.le_refl _) (Nat.le_refl _) hr1) hk0.1 hk0.2 hk1.1 hk1.2 hz).mono fun e w' ho => have ⟨A, n, c, A', n', c', he, h3⟩ := h.tRE (Nat.le_refl _) ho; ⟨_, A, n, c, A', n', c', rfl, he, h3⟩
theorem fquo_x (h : SC w0 v0 w S T []) (h1 : (⟨A0, n0, c0, k0, x0, p0⟩ : Ent) ∈ S) (h2 : (⟨A0', n0', c0', k0, y0, q0⟩ : Ent) ∈ S) (g1 : (⟨A1, n1, c1, k1, x1, p1⟩ : Ent) ∈ S) (g2 : (⟨A1', n1', c1', k1, y1, q1⟩ : Ent) ∈ S) (hk0 : 1 ≤ k0 ∧ k0 ≤ 100000) (hk1 : 1 ≤ k1 ∧ k1 ≤ 100000) (hr0 : rv b0 p0 q0 = r0) (hr1 : rv b1 p1 q1 = r1) (hz : r1 = 0) :
    Calls Tryz.prog 32 #[.agg #[.bool b0, .slice A0 n0 c0, .slice A0' n0' c0'], .agg #[.bool b1, .slice A1 n1 c1, .slice A1' n1' c1']] w fun e w' => e = .returned (.tuple #[.agg #[.bool false, .slice none 0 0, .slice none 0 0], .int .i64 7]) ∧ SC w0 v0 w' S T [] := by
  exact (fquo_zero w (h.frm h1 h2 (Nat.le_refl _) (Nat.le_refl _) hr0) (h.frm g1 g2 (Nat.le_refl _) (Nat.le_refl _) hr1) hk0.1 hk0.2 hk1.1 hk1.2 hz).mono fun e w' ho => h.rRZ ho
theorem fcmp_s (h : SC w0 v0 w S T []) (h1 : (⟨A0, n0, c0, k0, x0, p0⟩ : Ent) ∈ S) (h2 : (⟨A0', n0', c0', k0, y0, q0⟩ : Ent) ∈ S) (g1 : (⟨A1, n1, c1, k1, x1, p1⟩ : Ent) ∈ S) (g2 : (⟨A1', n1', c1', k1, y1, q1⟩ : Ent) ∈ S) (hk0 : 1 ≤ k0 ∧ k0 ≤ 100000) (hk1 : 1 ≤ k1 ∧ k1 ≤ 100000) (hr0 : rv b0 p0 q0 = r0) (hr1 : rv b1 p1 q1 = r1) {q : Int} (hq : rs (r0 - r1) = q) :
    Calls Tryz.prog 33 #[.agg #[.bool b0, .slice A0 n0 c0, .slice A0' n0' c0'], .agg #[.bool b1, .slice A1 n1 c1, .slice A1' n1' c1']] w fun e w' => e = .returned (.int .i64 q) ∧ SC w0 v0 w' S T [] := by
  subst hq
  exact (fcmp_any w (h.frm h1 h2 (Nat.le_refl _) (Nat.le_refl _) hr0) (h.frm g1 g2 (Nat.le_refl _) (Nat.le_refl _) hr1) hk0.1 hk0.2 hk1.1 hk1.2).mono fun e w' ⟨he, hb⟩ => ⟨he, h.below hb⟩
theorem fsame_s (h : SC w0 v0 w S T []) (h1 : (⟨A0, n0, c0, k0, x0, p0⟩ : Ent) ∈ S) (h2 : (⟨A0', n0', c0', k0, y0, q0⟩ : Ent) ∈ S) (g1 : (⟨A1, n1, c1, k1, x1, p1⟩ : Ent) ∈ S) (g2 : (⟨A1', n1', c1', k1, y1, q1⟩ : Ent) ∈ S) (hk0 : 1 ≤ k0 ∧ k0 ≤ 100000) (hk1 : 1 ≤ k1 ∧ k1 ≤ 100000) (hr0 : rv b0 p0 q0 = r0) (hr1 : rv b1 p1 q1 = r1) {q : Bool} (hq : (rs (r0 - r1) == 0) = q) :
    Calls Tryz.prog 28 #[.agg #[.bool b0, .slice A0 n0 c0, .slice A0' n0' c0'], .agg #[.bool b1, .slice A1 n1 c1, .slice A1' n1' c1']] w fun e w' => e = .returned (.bool q) ∧ SC w0 v0 w' S T [] := by
  exact (fsame_any w (h.frm h1 h2 (Nat.le_refl _) (Nat.le_refl _) hr0) (h.frm g1 g2 (Nat.le_refl _) (Nat.le_refl _) hr1) hk0.1 hk0.2 hk1.1 hk1.2 hq).mono fun e w' ⟨he, hb⟩ => ⟨he, h.below hb⟩
theorem fmay_s (h : SC w0 v0 w S T []) (h1 : (⟨A0, n0, c0, k0, x0, p0⟩ : Ent) ∈ S) (h2 : (⟨A0', n0', c0', k0, y0, q0⟩ : Ent) ∈ S) (hk0 : k0 ≤ 100000) {q : Bool} (hq : mayR b0 x0 y0 = q) :
    Calls Tryz.prog 19 #[.agg #[.bool b0, .slice A0 n0 c0, .slice A0' n0' c0']] w fun e w' => e = .returned (.bool q) ∧ SC w0 v0 w' S T [] :=
  fmay_c h h1 h2 (by omega) (by omega) hq
theorem fshow_s (h : SC w0 v0 w S T []) (h1 : (⟨A0, n0, c0, k0, x0, p0⟩ : Ent) ∈ S) (h2 : (⟨A0', n0', c0', k0, y0, q0⟩ : Ent) ∈ S) (hk0 : 1 ≤ k0 ∧ k0 ≤ 100000) (hr0 : rv b0 p0 q0 = r0) {Z : List UInt8} (hZ : shR r0 = Z) :
    Calls Tryz.prog 23 #[.agg #[.bool b0, .slice A0 n0 c0, .slice A0' n0' c0']] w fun e w' => e = .returned (.string ⟨Z.toArray⟩) ∧ SC w0 v0 w' S T [] := by
  exact (fshow_any w (h.frm h1 h2 (Nat.le_refl _) (Nat.le_refl _) hr0) hk0.1 hk0.2 hZ).mono fun e w' ⟨he, hb⟩ => ⟨he, h.below hb⟩
theorem fread_s (h : SC w0 v0 w S T []) (bs : List UInt8) (hl : bs.length ≤ maxLen) (hk : rdK bs = 0) :
    Calls Tryz.prog 22 #[.string ⟨bs.toArray⟩] w fun e w' => ∃ (r : Rat), ∃ A n c A' n' c', rdR bs = r ∧ e = .returned (.tuple #[.agg #[.bool (sg r.num), .slice A n c, .slice A' n' c'], .int .i64 0]) ∧ SC w0 v0 w' (⟨A, n, c, 20001, limbs (mg r.num), mg r.num⟩ :: ⟨A', n', c', 20001, limbs r.den, r.den⟩ :: S) T [] := by
  exact ((fread_all w bs hl).1 hk).mono fun e w' ho => have ⟨A, n, c, A', n', c', he, h3⟩ := h.tRE (Nat.le_refl _) ho; ⟨_, A, n, c, A', n', c', rfl, he, h3⟩
theorem fread_x (h : SC w0 v0 w S T []) (bs : List UInt8) (hl : bs.length ≤ maxLen) {j : Int} (hj : rdK bs = j) (hk : j ≠ 0) :
    Calls Tryz.prog 22 #[.string ⟨bs.toArray⟩] w fun e w' => e = .returned (.tuple #[.agg #[.bool false, .slice none 0 0, .slice none 0 0], .int .i64 j]) ∧ SC w0 v0 w' S T [] := by
  subst hj
  exact ((fread_all w bs hl).2 hk).mono fun e w' ho => h.rRZ ho
theorem fof_s (h : SC w0 v0 w S T []) {x : Int} (h1 : -9223372036854775808 ≤ x) (h2 : x ≤ 9223372036854775807) :
    Calls Tryz.prog 15 #[.int .i64 x] w fun e w' => ∃ (r : Rat), ∃ A n c A' n' c', mkRat x 1 = r ∧ e = .returned (.agg #[.bool (sg r.num), .slice A n c, .slice A' n' c']) ∧ SC w0 v0 w' (⟨A, n, c, 1, limbs (mg r.num), mg r.num⟩ :: ⟨A', n', c', 1, limbs r.den, r.den⟩ :: S) T [] := by
  exact (fof_any w x h1 h2).mono fun e w' ho => have ⟨A, n, c, A', n', c', he, h3⟩ := h.tR (Nat.le_refl _) ho; ⟨_, A, n, c, A', n', c', rfl, he, h3⟩
theorem fhalf_s (h : SC w0 v0 w S T []) {q : Int} (h0 : 0 ≤ q) (hq : q ≤ 65536) :
    Calls Tryz.prog 14 #[.int .i64 q] w fun e w' => ∃ (r : Rat), ∃ A n c A' n' c', rh q.toNat = r ∧ e = .returned (.tuple #[.agg #[.bool (sg r.num), .slice A n c, .slice A' n' c'], .int .i64 0]) ∧ SC w0 v0 w' (⟨A, n, c, 1026, limbs (mg r.num), mg r.num⟩ :: ⟨A', n', c', 1026, limbs r.den, r.den⟩ :: S) T [] := by
  exact (fhalf_any w h0 hq).mono fun e w' ho => have ⟨A, n, c, A', n', c', he, h3⟩ := h.tRE (Nat.le_refl _) ho; ⟨_, A, n, c, A', n', c', rfl, he, h3⟩
theorem fpow_s (h : SC w0 v0 w S T []) (h1 : (⟨A0, n0, c0, k0, x0, p0⟩ : Ent) ∈ S) (h2 : (⟨A0', n0', c0', k0, y0, q0⟩ : Ent) ∈ S) (hk0 : 1 ≤ k0 ∧ k0 ≤ 100000) (hr0 : rv b0 p0 q0 = r0) {q : Nat} {z : Int} (hz : (q : Int) = z) (hq : q ≤ 9223372036854775807) (hok1 : PowOk (mg r0.num) q) (hok2 : PowOk r0.den q) :
    Calls Tryz.prog 26 #[.agg #[.bool b0, .slice A0 n0 c0, .slice A0' n0' c0'], .int .i64 z] w fun e w' => ∃ (r : Rat), ∃ A n c A' n' c', r0 ^ q = r ∧ e = .returned (.tuple #[.agg #[.bool (sg r.num), .slice A n c, .slice A' n' c'], .int .i64 0]) ∧ SC w0 v0 w' (⟨A, n, c, 16385, limbs (mg r.num), mg r.num⟩ :: ⟨A', n', c', 16385, limbs r.den, r.den⟩ :: S) T [] := by
  subst hz
  exact (fpow_any w (h.frm h1 h2 (Nat.le_refl _) (Nat.le_refl _) hr0) hk0.1 hk0.2 hq hok1 hok2).mono fun e w' ho => have ⟨A, n, c, A', n', c', he, h3⟩ := h.tRE (Nat.le_refl _) ho; ⟨_, A, n, c, A', n', c', rfl, he, h3⟩
theorem over_s (h : SC w0 v0 w S T []) {x y : Int} {M : Nat} {j : Int} (H : ∀ W, Calls Tryz.prog 13 #[.int .i64 x, .int .i64 y] W (OutRE W M r0 j)) :
    Calls Tryz.prog 25 #[.int .i64 x, .int .i64 y] w fun e w' => ∃ (r : Rat), ∃ A n c A' n' c', r0 = r ∧ e = .returned (.agg #[.bool (sg r.num), .slice A n c, .slice A' n' c']) ∧ SC w0 v0 w' (⟨A, n, c, M, limbs (mg r.num), mg r.num⟩ :: ⟨A', n', c', M, limbs r.den, r.den⟩ :: S) T [] := by
  exact (over_of H w).mono fun e w' ho => have ⟨A, n, c, A', n', c', he, h3⟩ := h.tR (Nat.le_refl _) ho; ⟨_, A, n, c, A', n', c', rfl, he, h3⟩
theorem is_s (h : SC w0 v0 w S T []) {k1 : Nat} (h1 : (⟨A0, n0, c0, k0, x0, p0⟩ : Ent) ∈ S) (h2 : (⟨A0', n0', c0', k0, y0, q0⟩ : Ent) ∈ S) (g1 : (⟨A1, n1, c1, k1, x1, p1⟩ : Ent) ∈ S) (g2 : (⟨A1', n1', c1', k1, y1, q1⟩ : Ent) ∈ S) (hb : b0 = b1) (hx : x0 = x1) (hy : y0 = y1) :
    Calls Tryz.prog 16 #[.agg #[.bool b0, .slice A0 n0 c0, .slice A0' n0' c0'], .agg #[.bool b1, .slice A1 n1 c1, .slice A1' n1' c1']] w fun e w' => e = .returned (.bool true) ∧ SC w0 v0 w' S T [] := by
  subst hb hx hy
  exact (is_any w b0 (h.get h1).1 (h.get h2).1 (h.get g1).1 (h.get g2).1).mono fun e w' ⟨he, hb⟩ => ⟨he, h.below hb⟩
theorem is_v (h : SC w0 v0 w S T []) (h1 : (⟨A0, n0, c0, k0, limbs (mg (r0).num), mg (r0).num⟩ : Ent) ∈ S) (h2 : (⟨A0', n0', c0', k0, limbs (r0).den, (r0).den⟩ : Ent) ∈ S) (g1 : (⟨A1, n1, c1, k1, limbs (mg (r1).num), mg (r1).num⟩ : Ent) ∈ S) (g2 : (⟨A1', n1', c1', k1, limbs (r1).den, (r1).den⟩ : Ent) ∈ S) (he : r0 = r1) :
    Calls Tryz.prog 16 #[.agg #[.bool (sg r0.num), .slice A0 n0 c0, .slice A0' n0' c0'], .agg #[.bool (sg r1.num), .slice A1 n1 c1, .slice A1' n1' c1']] w fun e w' => e = .returned (.bool true) ∧ SC w0 v0 w' S T [] := by
  subst he
  exact is_s h h1 h2 g1 g2 rfl rfl rfl
theorem long1_n (h : SC w0 v0 w S T []) {b0_ : Bool} {P0 P0' : Option Addr} {i0 j0 i0' j0' : Nat} (h0 : i0 ≤ 6 ∧ i0' ≤ 6) :
    Calls Tryz.prog 7 #[.slice (some ⟨w.heap.size, 0, none⟩) 1 1] (w.alloc (.cells #[.bool b0_, .slice P0 i0 j0, .slice P0' i0' j0'] 27)) fun e w' => e = .returned (.bool false) ∧ SC w0 v0 w' S T [] :=
  (long_no _ _ [⟨b0_, P0, i0, j0, [], P0', i0', j0', [], 0⟩] 1 (fms_lit w [⟨b0_, P0, i0, j0, [], P0', i0', j0', [], 0⟩] _ 27 rfl) (by simp) (by intro f hf; simp only [List.mem_cons, List.not_mem_nil, or_false] at hf; rcases hf with rfl <;> assumption)).mono fun e w' ⟨he, hb⟩ => ⟨he, by rw [hb]; exact h.alloc _⟩
theorem long1_y (h : SC w0 v0 w S T []) {b0_ : Bool} {P0 P0' : Option Addr} {i0 j0 i0' j0' : Nat} (h0 : i0 ≤ 9223372036854775807 ∧ i0' ≤ 9223372036854775807) (hl : ¬ ((i0 ≤ 6 ∧ i0' ≤ 6))) :
    Calls Tryz.prog 7 #[.slice (some ⟨w.heap.size, 0, none⟩) 1 1] (w.alloc (.cells #[.bool b0_, .slice P0 i0 j0, .slice P0' i0' j0'] 27)) fun e w' => e = .returned (.bool true) ∧ SC w0 v0 w' S T [] :=
  (long_yes _ _ [⟨b0_, P0, i0, j0, [], P0', i0', j0', [], 0⟩] 1 (fms_lit w [⟨b0_, P0, i0, j0, [], P0', i0', j0', [], 0⟩] _ 27 rfl) (by simp) (by intro f hf; simp only [List.mem_cons, List.not_mem_nil, or_false] at hf; rcases hf with rfl <;> assumption) (by
    apply Classical.byContradiction
    intro hc
    exact hc ⟨⟨b0_, P0, i0, j0, [], P0', i0', j0', [], 0⟩, by simp, hl⟩)).mono fun e w' ⟨he, hb⟩ => ⟨he, by rw [hb]; exact h.alloc _⟩
theorem long2_n (h : SC w0 v0 w S T []) {b0_ : Bool} {P0 P0' : Option Addr} {i0 j0 i0' j0' : Nat} {b1_ : Bool} {P1 P1' : Option Addr} {i1 j1 i1' j1' : Nat} (h0 : i0 ≤ 6 ∧ i0' ≤ 6) (h1 : i1 ≤ 6 ∧ i1' ≤ 6) :
    Calls Tryz.prog 7 #[.slice (some ⟨w.heap.size, 0, none⟩) 2 2] (w.alloc (.cells #[.bool b0_, .slice P0 i0 j0, .slice P0' i0' j0', .bool b1_, .slice P1 i1 j1, .slice P1' i1' j1'] 27)) fun e w' => e = .returned (.bool false) ∧ SC w0 v0 w' S T [] :=
  (long_no _ _ [⟨b0_, P0, i0, j0, [], P0', i0', j0', [], 0⟩, ⟨b1_, P1, i1, j1, [], P1', i1', j1', [], 0⟩] 2 (fms_lit w [⟨b0_, P0, i0, j0, [], P0', i0', j0', [], 0⟩, ⟨b1_, P1, i1, j1, [], P1', i1', j1', [], 0⟩] _ 27 rfl) (by simp) (by intro f hf; simp only [List.mem_cons, List.not_mem_nil, or_false] at hf; rcases hf with rfl | rfl <;> assumption)).mono fun e w' ⟨he, hb⟩ => ⟨he, by rw [hb]; exact h.alloc _⟩
theorem long2_y (h : SC w0 v0 w S T []) {b0_ : Bool} {P0 P0' : Option Addr} {i0 j0 i0' j0' : Nat} {b1_ : Bool} {P1 P1' : Option Addr} {i1 j1 i1' j1' : Nat} (h0 : i0 ≤ 9223372036854775807 ∧ i0' ≤ 9223372036854775807) (h1 : i1 ≤ 9223372036854775807 ∧ i1' ≤ 9223372036854775807) (hl : ¬ ((i0 ≤ 6 ∧ i0' ≤ 6) ∧ (i1 ≤ 6 ∧ i1' ≤ 6))) :
    Calls Tryz.prog 7 #[.slice (some ⟨w.heap.size, 0, none⟩) 2 2] (w.alloc (.cells #[.bool b0_, .slice P0 i0 j0, .slice P0' i0' j0', .bool b1_, .slice P1 i1 j1, .slice P1' i1' j1'] 27)) fun e w' => e = .returned (.bool true) ∧ SC w0 v0 w' S T [] :=
  (long_yes _ _ [⟨b0_, P0, i0, j0, [], P0', i0', j0', [], 0⟩, ⟨b1_, P1, i1, j1, [], P1', i1', j1', [], 0⟩] 2 (fms_lit w [⟨b0_, P0, i0, j0, [], P0', i0', j0', [], 0⟩, ⟨b1_, P1, i1, j1, [], P1', i1', j1', [], 0⟩] _ 27 rfl) (by simp) (by intro f hf; simp only [List.mem_cons, List.not_mem_nil, or_false] at hf; rcases hf with rfl | rfl <;> assumption) (by
    apply Classical.byContradiction
    intro hc
    exact hl ⟨Classical.byContradiction fun hn => hc ⟨⟨b0_, P0, i0, j0, [], P0', i0', j0', [], 0⟩, by simp, hn⟩, Classical.byContradiction fun hn => hc ⟨⟨b1_, P1, i1, j1, [], P1', i1', j1', [], 0⟩, by simp, hn⟩⟩)).mono fun e w' ⟨he, hb⟩ => ⟨he, by rw [hb]; exact h.alloc _⟩
theorem long3_n (h : SC w0 v0 w S T []) {b0_ : Bool} {P0 P0' : Option Addr} {i0 j0 i0' j0' : Nat} {b1_ : Bool} {P1 P1' : Option Addr} {i1 j1 i1' j1' : Nat} {b2_ : Bool} {P2 P2' : Option Addr} {i2 j2 i2' j2' : Nat} (h0 : i0 ≤ 6 ∧ i0' ≤ 6) (h1 : i1 ≤ 6 ∧ i1' ≤ 6) (h2 : i2 ≤ 6 ∧ i2' ≤ 6) :
    Calls Tryz.prog 7 #[.slice (some ⟨w.heap.size, 0, none⟩) 3 3] (w.alloc (.cells #[.bool b0_, .slice P0 i0 j0, .slice P0' i0' j0', .bool b1_, .slice P1 i1 j1, .slice P1' i1' j1', .bool b2_, .slice P2 i2 j2, .slice P2' i2' j2'] 27)) fun e w' => e = .returned (.bool false) ∧ SC w0 v0 w' S T [] :=
  (long_no _ _ [⟨b0_, P0, i0, j0, [], P0', i0', j0', [], 0⟩, ⟨b1_, P1, i1, j1, [], P1', i1', j1', [], 0⟩, ⟨b2_, P2, i2, j2, [], P2', i2', j2', [], 0⟩] 3 (fms_lit w [⟨b0_, P0, i0, j0, [], P0', i0', j0', [], 0⟩, ⟨b1_, P1, i1, j1, [], P1', i1', j1', [], 0⟩, ⟨b2_, P2, i2, j2, [], P2', i2', j2', [], 0⟩] _ 27 rfl) (by simp) (by intro f hf; simp only [List.mem_cons, List.not_mem_nil, or_false] at hf; rcases hf with rfl | rfl | rfl <;> assumption)).mono fun e w' ⟨he, hb⟩ => ⟨he, by rw [hb]; exact h.alloc _⟩
theorem long3_y (h : SC w0 v0 w S T []) {b0_ : Bool} {P0 P0' : Option Addr} {i0 j0 i0' j0' : Nat} {b1_ : Bool} {P1 P1' : Option Addr} {i1 j1 i1' j1' : Nat} {b2_ : Bool} {P2 P2' : Option Addr} {i2 j2 i2' j2' : Nat} (h0 : i0 ≤ 9223372036854775807 ∧ i0' ≤ 9223372036854775807) (h1 : i1 ≤ 9223372036854775807 ∧ i1' ≤ 9223372036854775807) (h2 : i2 ≤ 9223372036854775807 ∧ i2' ≤ 9223372036854775807) (hl : ¬ ((i0 ≤ 6 ∧ i0' ≤ 6) ∧ (i1 ≤ 6 ∧ i1' ≤ 6) ∧ (i2 ≤ 6 ∧ i2' ≤ 6))) :
    Calls Tryz.prog 7 #[.slice (some ⟨w.heap.size, 0, none⟩) 3 3] (w.alloc (.cells #[.bool b0_, .slice P0 i0 j0, .slice P0' i0' j0', .bool b1_, .slice P1 i1 j1, .slice P1' i1' j1', .bool b2_, .slice P2 i2 j2, .slice P2' i2' j2'] 27)) fun e w' => e = .returned (.bool true) ∧ SC w0 v0 w' S T [] :=
  (long_yes _ _ [⟨b0_, P0, i0, j0, [], P0', i0', j0', [], 0⟩, ⟨b1_, P1, i1, j1, [], P1', i1', j1', [], 0⟩, ⟨b2_, P2, i2, j2, [], P2', i2', j2', [], 0⟩] 3 (fms_lit w [⟨b0_, P0, i0, j0, [], P0', i0', j0', [], 0⟩, ⟨b1_, P1, i1, j1, [], P1', i1', j1', [], 0⟩, ⟨b2_, P2, i2, j2, [], P2', i2', j2', [], 0⟩] _ 27 rfl) (by simp) (by intro f hf; simp only [List.mem_cons, List.not_mem_nil, or_false] at hf; rcases hf with rfl | rfl | rfl <;> assumption) (by
    apply Classical.byContradiction
    intro hc
    exact hl ⟨Classical.byContradiction fun hn => hc ⟨⟨b0_, P0, i0, j0, [], P0', i0', j0', [], 0⟩, by simp, hn⟩, Classical.byContradiction fun hn => hc ⟨⟨b1_, P1, i1, j1, [], P1', i1', j1', [], 0⟩, by simp, hn⟩, Classical.byContradiction fun hn => hc ⟨⟨b2_, P2, i2, j2, [], P2', i2', j2', [], 0⟩, by simp, hn⟩⟩)).mono fun e w' ⟨he, hb⟩ => ⟨he, by rw [hb]; exact h.alloc _⟩
end
end Go.Proofs.YtnebeffpidlgmaaGreatDoor
