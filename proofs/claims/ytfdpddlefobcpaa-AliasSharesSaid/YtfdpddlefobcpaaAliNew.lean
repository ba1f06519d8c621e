/- What the program's New of layer 11 answers over this translation. -/
import Derived.Test.YtfdpddlefobcpaaAliUncut
import Derived.Test.YtfdpddlefobcpaaAliCut
namespace Go.Proofs.Ytfdpddlefobcpaa
open Go.RowKit Go.Shelf
set_option linter.unusedVariables false
set_option linter.unusedSimpArgs false
set_option maxRecDepth 20000
open N
/-- a table of these weights -/
def Ta (w : World) (t g1 g2 : Nat) (ws : List Int) : Prop := AlOk w t g1 g2 ws.length (pre ws ws.length) (cutA ws) (othA ws)
/-- what New tells of weights that may be a table's -/
def ANewOk (w : World) (ws : List Int) (e : Ending) (w' : World) : Prop :=
  ∃ t g1 g2, e = .returned (.tuple #[.pointer (some ⟨t, 0, none⟩), .int .i64 0]) ∧ Ta w' t g1 g2 ws ∧ w.heap.size ≤ t ∧ w.heap.size ≤ g1 ∧ w.heap.size ≤ g2 ∧ Below w.heap.size w w'
theorem anew_any {w : World} {A : Option Addr} {n c : Nat} {ws : List Int} (h : Il w A n c ws) :
    Calls Try.prog 7 #[.slice A n c] w fun e w' => (mayW ws = 0 ∧ ANewOk w ws e w') ∨ (¬ mayW ws = 0 ∧ e = .returned (.tuple #[.pointer none, .int .i64 (mayW ws)]) ∧ Below w.heap.size w w') := by
  have hl := h.len
  by_cases c0 : n = 0
  · subst c0
    have hm : mayW ws = 4 := by unfold mayW; rw [if_pos hl]
    clear h hl
    rw [hm]
    go_enter Try.func7, Try.ntmps7
    go_wp2
    go_ret2
    exact .inr ⟨by decide, rfl, Below.refl _ _⟩
  by_cases c1 : 64 < n
  · have hm : mayW ws = 5 := by unfold mayW; rw [if_neg (by omega), if_pos (by omega)]
    have hn0 : ¬ (n : Int) = 0 := by omega
    have hn1 : (64 : Int) < (n : Int) := by omega
    clear h hl c0 c1
    rw [hm]
    go_enter Try.func7, Try.ntmps7
    go_wp2
    go_ret2
    exact .inr ⟨by decide, rfl, Below.refl _ _⟩
  have hn0 : ¬ (n : Int) = 0 := by omega
  have hn1 : ¬ (64 : Int) < (n : Int) := by omega
  have hn9 : n ≤ 64 := by omega
  have HI := Lib.hid h
  have HL := Lib.hid (show ws.length = n ∧ 0 < n ∧ n ≤ 64 by omega)
  clear h hl c0 c1
  go_enter Try.func7, Try.ntmps7
  go_wp2_with fail
  go_loop [4, 16] (fun s i => ∃ k : Nat, k ≤ n ∧ okTo ws k ∧ s = .int .i64 (pre ws k) ∧ i = .int .i64 k) (fun _ i => n - (intOf i).toNat)
  case atStart => exact ⟨0, Nat.zero_le _, okTo.zero, by rw [pre_zero], rfl⟩
  case round =>
    obtain ⟨k, hk, hok, rfl, rfl⟩ := hrel
    by_cases hlt : k < n
    · obtain ⟨ad, x, rfl, hx, hwf, hcw⟩ := HI.out.one hlt
      by_cases hbad : 0 ≤ x ∧ x ≤ 1048576
      · have hok2 := hok.succ hx hbad.1 hbad.2
        have hle := hok.le (by rw [HL.out.1]; omega)
        have hps := pre_succ hx
        obtain ⟨s, hs⟩ : ∃ s, pre ws k = s := ⟨_, rfl⟩
        rw [hs] at hps hle
        have hwr : IntKind.i64.wrap (s + x) = s + x := by rw [IntKind.wrap_i64]; omega
        have hx2 : ¬ x < 0 := by omega
        have hx3 : ¬ 1048576 < x := by omega
        have HP := Lib.hid hps
        have HO := Lib.hid hok2
        clear hx hwf hps hle hbad hok hok2
        rw [hs]
        clear hs
        go_wp2
        go_round
        case rel => exact ⟨k + 1, hlt, HO.out, by rw [HP.out], by go_num⟩
        case measure => simp [intOf]; omega
      · have HM := Lib.hid (mayW_bad (by rw [HL.out.1]; exact HL.out.2.1) (by rw [HL.out.1]; exact HL.out.2.2) hx hbad)
        rcases Int.lt_or_le x 0 with hx2 | hx2
        · clear hx hwf hbad hok
          go_wp2
          go_ret2
          exact .inr ⟨by rw [HM.out]; decide, by rw [HM.out]; rfl, Below.refl _ _⟩
        · have hx3 : 1048576 < x := by omega
          have hx2 : ¬ x < 0 := by omega
          clear hx hwf hbad hok
          go_wp2
          go_ret2
          exact .inr ⟨by rw [HM.out]; decide, by rw [HM.out]; rfl, Below.refl _ _⟩
    · obtain rfl : k = n := by omega
      have hokw : okW ws := by
        have := HL.out.1
        exact okTo.all (by rw [this]; exact hok)
      by_cases hz : pre ws k = 0
      · have HM := Lib.hid (mayW_null (by rw [HL.out.1]; exact HL.out.2.1) (by rw [HL.out.1]; exact HL.out.2.2) hokw (by rw [HL.out.1]; exact hz))
        rw [hz]
        clear hok hokw hz
        go_wp2
        go_ret2
        exact .inr ⟨by rw [HM.out]; decide, by rw [HM.out]; rfl, Below.refl _ _⟩
      · have hwt : Wt ws := ⟨by rw [HL.out.1]; exact HL.out.2.1, by rw [HL.out.1]; exact HL.out.2.2, hokw, by
          have := (pre_le hokw k).1
          rw [HL.out.1]
          omega⟩
        obtain ⟨s, hs⟩ : ∃ s, pre ws k = s := ⟨_, rfl⟩
        rw [hs] at hz
        rw [hs]
        have HW := Lib.hid hwt
        have HSM := Lib.hid hs
        have HU := Lib.hid (fun W : World => uncut_any W k s hn9)
        have HIN := Lib.hid (fun (W : World) (hb : Below w.heap.size w W) => initial_any (HI.out.below hb) hwt)
        have HCT := Lib.hid (fun (W : World) (t g1 g2 gh : Nat) (hT : AlOk W t g1 g2 k s (fun _ => s) (fun i => i)) (hh : BlkOk W (CU gh k (hts ws))) (hne : gh ≠ g1) (hg : w.heap.size ≤ g1 ∧ w.heap.size ≤ g2 ∧ w.heap.size ≤ gh ∧ w.heap.size ≤ W.heap.size) => by
          have h1 := cutLow_any (w := W) (B := w.heap.size) (t := t) (g1 := g1) (g2 := g2) (gh := gh) (n := ws.length) (W := pre ws ws.length) (q := hts ws) (s := al0 ws) (by rw [HL.out.1, hs]; show AlOk W t g1 g2 k s (fun _ => pre ws ws.length) _; rw [HL.out.1, hs]; exact hT) (by rw [HL.out.1]; exact hh) hne (al0_inv hwt) (fun j hj => (hts_le hwt hj).2) ⟨hwt.pos, (hwt.le (Nat.le_refl _)).2.2⟩ ⟨hwt.l0, hwt.l1⟩ rfl rfl hg
          rw [show (Value.slice (some ⟨gh, 0, none⟩) ws.length ws.length) = .slice (some ⟨gh, 0, none⟩) k k by rw [HL.out.1]] at h1
          exact h1)
        clear hok hokw hs hwt
        go_wp2_with (first
          | (go_at_call 20; refine (HU.out _).mono ?_; rintro e w1 ⟨t, g1, g2, rfl, hT, ht, hg1, hg2, hb1⟩; have HT := Lib.hid hT; have HB1 := Lib.hid hb1; have HG := Lib.hid (show w.heap.size ≤ t ∧ w.heap.size ≤ g1 ∧ w.heap.size ≤ g2 from ⟨ht, hg1, hg2⟩); clear hT hb1 ht hg1 hg2)
          | (go_at_call 22; refine (HIN.out _ HB1.out).mono ?_; rintro e w2 ⟨gh, rfl, hh, hgh, hb2⟩; have HH := Lib.hid hh; have HB2 := Lib.hid (HB1.out.trans (hb2.mono HB1.out.size)); have HT2 := Lib.hid (HT.out.on hb2); have HG2 := Lib.hid (show gh ≠ g1 ∧ w.heap.size ≤ gh by have h1 := BlkOk.lt HT.out.cu; have h2 := HB1.out.size; simp only [CU] at h1; omega); clear hh hgh hb2)
          | (go_at_call 21; refine (HCT.out _ _ _ _ _ HT2.out HH.out HG2.out.1 ⟨HG.out.2.1, HG.out.2.2, HG2.out.2, HB2.out.size⟩).mono ?_; rintro e w3 ⟨rfl, hT3, hb3⟩; have HT3 := Lib.hid hT3; have HB3 := Lib.hid (HB2.out.trans hb3); clear hT3 hb3))
        go_ret2
        exact .inl ⟨mayW_zero.2 HW.out, t, g1, g2, rfl, HT3.out, HG.out.1, HG.out.2.1, HG.out.2.2, HB3.out⟩
end Go.Proofs.Ytfdpddlefobcpaa
