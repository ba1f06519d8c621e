/- What the document's Width and Draw of layer 9 answer over this translation. -/
import Derived.Test.YtfdpddlefobcpaaGreatDoorBelRefW
namespace Go.Proofs.YtfdpddlefobcpaaGreatDoor
open Go.RowKit Go.Shelf
set_option linter.unusedVariables false
set_option linter.unusedSimpArgs false
set_option maxRecDepth 20000
open N
theorem rtake_k {w : World} {g a a2 v : Nat} {l : List UInt8} {o o2 gd : Bool} {n : Int} (h : RuOk w g l a o) (hB : isB l = true) (ha : a ≤ l.length) (hk : Tk l a o n v gd a2 o2) :
    Calls Tryz.prog 59 #[.pointer (some ⟨g, 0, none⟩), .int .i64 n] w fun e w' => e = .returned (.tuple #[.int .u64 (v : Nat), .bool gd]) ∧ w.grownBy w' (some g) ∧ RuOk w' g l a2 o2 := by
  obtain ⟨rfl, rfl, rfl, rfl⟩ := hk
  exact rtake_any h hB ha n
theorem rposC_of {w : World} {g a : Nat} {l : List UInt8} {o : Bool} (h : RuOk w g l a o) : posC w g = a := by unfold posC; rw [h.cs.2.1]; simp
theorem rdraw_over {w : World} {g a m : Nat} {l : List UInt8} (h : RuOk w g l a true) (hB : isB l = true) (ha : a ≤ l.length) (hm : m < 18446744073709551616) :
    Calls Tryz.prog 39 #[.pointer (some ⟨g, 0, none⟩), .int .u64 (m : Nat)] w fun e w' => e = .returned (.tuple #[.int .u64 ((0 : Nat) : Int), .bool false]) ∧ w.grownBy w' (some g) ∧ RuOk w' g l a true := by
  have HC := Lib.hid h
  by_cases h0 : m = 0
  · subst h0
    clear h hm
    go_enter Tryz.func39, Tryz.ntmps39
    go_wp2
    go_ret2
    exact ⟨rfl, grownBy_below (Below.refl _ _) _, HC.out⟩
  · have hne : ¬ (m : Int) = 0 := by omega
    have HB := Lib.hid hB
    have HA := Lib.hid ha
    have HK := Lib.hid (Tk.bad (l := l) (a := a) (o := true) (n := ((wd m : Nat) : Int)) (.inl rfl))
    have HW := Lib.hid (fun W : World => rwidth_any W m hm)
    have H := Lib.hid (show w.grownBy w (some g) ∧ RuOk w g l a true from ⟨grownBy_below (Below.refl _ _) _, h⟩)
    clear h hB ha h0 hm HC
    go_enter Tryz.func39, Tryz.ntmps39
    go_wp2_with fail
    go_loopw [6, 7] (fun _ _ wr => w.grownBy wr (some g) ∧ RuOk wr g l a true) (fun _ _ wr => 0)
    case atStart => exact H.out
    case round =>
      have HR := Lib.hid hrel
      clear hrel H
      go_wp2_with (first
        | (go_at_call 60; refine (HW.out _).mono ?_; rintro e w1 ⟨rfl, hb1⟩)
        | (go_at_call 59; refine (rtake_k (HR.out.2.on hb1) HB.out HA.out HK.out).mono ?_; rintro e w2 ⟨rfl, hg2, hc2⟩))
      go_ret2
      exact ⟨rfl, grownBy_on HR.out.1 (grownBy_on (grownBy_below hb1 _) hg2), hc2⟩
theorem rdraw_in {w : World} {g a m k v a2 : Nat} {gd o2 : Bool} {l : List UInt8} (h : RuOk w g l a false) (hB : isB l = true) (ha : a ≤ l.length) (hm : m < 18446744073709551616) (h0 : 0 < m) (hk : l.length < a + k) (hd : drF l (wd m) m k a = (v, gd, a2, o2)) :
    Calls Tryz.prog 39 #[.pointer (some ⟨g, 0, none⟩), .int .u64 (m : Nat)] w fun e w' => e = .returned (.tuple #[.int .u64 (v : Nat), .bool gd]) ∧ w.grownBy w' (some g) ∧ RuOk w' g l a2 o2 := by
  have HW := Lib.hid (fun W : World => rwidth_any W m hm)
  have hne : ((m : Int) == 0) = false := by rw [beq_eq_false_iff_ne]; omega
  obtain ⟨b, hwb⟩ : ∃ b, wd m = b := ⟨_, rfl⟩
  have hb := wd_64 hm
  rw [hwb] at hd hb HW
  clear hwb
  have HB := Lib.hid hB
  have H := Lib.hid (show ∃ k a', a' ≤ l.length ∧ l.length < a' + k ∧ drF l b m k a' = (v, gd, a2, o2) ∧ w.grownBy w (some g) ∧ RuOk w g l a' false from ⟨k, a, ha, hk, hd, grownBy_below (Below.refl _ _) _, h⟩)
  clear h hB ha hk hd
  go_enter Tryz.func39, Tryz.ntmps39
  go_wp2_with fail
  go_loopw [6, 7] (fun _ _ wr => ∃ k a', a' ≤ l.length ∧ l.length < a' + k ∧ drF l b m k a' = (v, gd, a2, o2) ∧ w.grownBy wr (some g) ∧ RuOk wr g l a' false) (fun _ _ wr => l.length + 1 - posC wr g)
  case atStart => exact H.out
  case round =>
    obtain ⟨k, a', ha, hk, hd, hg, hc⟩ := hrel
    obtain ⟨k, rfl⟩ : ∃ j, k = j + 1 := ⟨k - 1, by omega⟩
    have HG := Lib.hid hg
    have HC := Lib.hid hc
    have HA := Lib.hid ha
    clear H hg hc
    by_cases h1 : l.length < a' + b
    · rw [drF_over h1] at hd
      injection hd with e1 hd; injection hd with e2 hd; injection hd with e3 e4
      subst e1 e2 e3 e4
      have HK := Lib.hid (Tk.over (l := l) (a := a') (n := (b : Int)) (by omega) (by omega) (by omega))
      clear h1 hk ha
      go_wp2_with (first
        | (go_at_call 60; refine (HW.out _).mono ?_; rintro e w1 ⟨rfl, hb1⟩)
        | (go_at_call 59; refine (rtake_k (HC.out.on hb1) HB.out HA.out HK.out).mono ?_; rintro e w2 ⟨rfl, hg1, hc1⟩))
      go_ret2
      exact ⟨rfl, grownBy_on HG.out (grownBy_on (grownBy_below hb1 _) hg1), hc1⟩
    · obtain ⟨nv, hv⟩ : ∃ v, numB ((l.drop a').take b) = v := ⟨_, rfl⟩
      have HK := Lib.hid (Tk.good (l := l) (a := a') (k := b) (by omega) (by omega) hv)
      by_cases h2 : nv < m
      · rw [drF_hit (by omega) (by rw [hv]; exact h2), hv] at hd
        injection hd with e1 hd; injection hd with e2 hd; injection hd with e3 e4
        subst e1 e2 e3 e4
        have h3 : (nv : Int) < (m : Int) := by omega
        clear h1 hk ha hv
        go_wp2_with (first
          | (go_at_call 60; refine (HW.out _).mono ?_; rintro e w1 ⟨rfl, hb1⟩)
          | (go_at_call 59; refine (rtake_k (HC.out.on hb1) HB.out HA.out HK.out).mono ?_; rintro e w2 ⟨rfl, hg1, hc1⟩))
        go_ret2
        exact ⟨rfl, grownBy_on HG.out (grownBy_on (grownBy_below hb1 _) hg1), hc1⟩
      · rw [drF_miss (by omega) (by rw [hv]; exact h2)] at hd
        have hb0 : 0 < b := by
          rcases Nat.eq_zero_or_pos b with e | e
          · subst e
            rw [List.take_zero, numB] at hv
            omega
          · exact e
        have h3 : ¬ (nv : Int) < (m : Int) := by omega
        have HD := Lib.hid hd
        have HX := Lib.hid (show a' + b ≤ l.length ∧ l.length < a' + b + k by omega)
        have HP := Lib.hid (show l.length + 1 - (a' + b) < l.length + 1 - a' by omega)
        clear h1 hk ha hv hd
        go_wp2_with (first
          | (go_at_call 60; refine (HW.out _).mono ?_; rintro e w1 ⟨rfl, hb1⟩)
          | (go_at_call 59; refine (rtake_k (HC.out.on hb1) HB.out HA.out HK.out).mono ?_; rintro e w2 ⟨rfl, hg1, hc1⟩))
        go_roundw
        case rel => exact ⟨k, a' + b, HX.out.1, HX.out.2, HD.out, grownBy_on HG.out (grownBy_on (grownBy_below hb1 _) hg1), hc1⟩
        case measure => rw [rposC_of hc1, rposC_of HC.out]; exact HP.out
theorem rdraw_any {w : World} {g a m v a2 : Nat} {gd o o2 : Bool} {l : List UInt8} (h : RuOk w g l a o) (hB : isB l = true) (ha : a ≤ l.length) (hm : m < 18446744073709551616) (hd : dr l a o m = (v, gd, a2, o2)) :
    Calls Tryz.prog 39 #[.pointer (some ⟨g, 0, none⟩), .int .u64 (m : Nat)] w fun e w' => e = .returned (.tuple #[.int .u64 (v : Nat), .bool gd]) ∧ w.grownBy w' (some g) ∧ RuOk w' g l a2 o2 := by
  by_cases h0 : m = 0
  · subst h0
    rw [dr_no (.inl rfl)] at hd
    injection hd with e1 hd; injection hd with e2 hd; injection hd with e3 e4
    subst e1 e2 e3 e4
    have HC := Lib.hid h
    clear h hm
    go_enter Tryz.func39, Tryz.ntmps39
    go_wp2
    go_ret2
    exact ⟨rfl, grownBy_below (Below.refl _ _) _, HC.out⟩
  · cases o with
    | false => exact rdraw_in (k := l.length + 1) h hB ha hm (by omega) (by omega) (by rw [← dr_in h0]; exact hd)
    | true =>
      rw [dr_no (.inr rfl)] at hd
      injection hd with e1 hd; injection hd with e2 hd; injection hd with e3 e4
      subst e1 e2 e3 e4
      exact rdraw_over h hB ha hm
section
variable {w0 w : World} {T : List Blk} {g a m v a2 : Nat} {l : List UInt8} {o gd o2 : Bool}
theorem draw_n (h : CS w0 w T) (i : Nat) (hi : T[i]? = some (K g l a o)) (hB : isB l = true) (ha : a ≤ l.length) (hm : m < 18446744073709551616) (hd : dr l a o m = (v, gd, a2, o2)) :
    Calls Tryz.prog 28 #[.pointer (some ⟨g, 0, none⟩), .int .u64 (m : Nat)] w fun e w' => e = .returned (.tuple #[.int .u64 (v : Nat), .bool gd]) ∧ CS w0 w' (T.set i (K g l a2 o2)) := by
  refine (draw_any (h.get i hi) hB ha hm hd).mono ?_
  rintro e w' ⟨rfl, hg, hq⟩
  exact ⟨rfl, h.turn i hi hg hq⟩
theorem rdraw_n (h : CS w0 w T) (i : Nat) (hi : T[i]? = some (R g l a o)) (hB : isB l = true) (ha : a ≤ l.length) (hm : m < 18446744073709551616) (hd : dr l a o m = (v, gd, a2, o2)) :
    Calls Tryz.prog 39 #[.pointer (some ⟨g, 0, none⟩), .int .u64 (m : Nat)] w fun e w' => e = .returned (.tuple #[.int .u64 (v : Nat), .bool gd]) ∧ CS w0 w' (T.set i (R g l a2 o2)) := by
  refine (rdraw_any (h.get i hi) hB ha hm hd).mono ?_
  rintro e w' ⟨rfl, hg, hq⟩
  exact ⟨rfl, h.turn i hi hg hq⟩
end
end Go.Proofs.YtfdpddlefobcpaaGreatDoor
