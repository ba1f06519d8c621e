/- What the program's Width, Draw, and the law's own call 'by', answer over this translation. -/
import Derived.Test.YtfdpddlefobcpaaGreatDoorCurState
import Derived.Test.YtfdpddlefobcpaaGreatDoorBelWidth
namespace Go.Proofs.YtfdpddlefobcpaaGreatDoor
open Go.RowKit Go.Shelf
set_option linter.unusedVariables false
set_option linter.unusedSimpArgs false
set_option maxRecDepth 20000
open N
theorem grownBy_on {w w1 w2 : World} {g : Nat} (h : w.grownBy w1 (some g)) (k : w1.grownBy w2 (some g)) : w.grownBy w2 (some g) :=
  ⟨k.os.trans h.os, k.tape.trans h.tape, k.output.trans h.output, Nat.le_trans h.size k.size, fun i hi hne => (k.block i (Nat.lt_of_lt_of_le hi h.size) hne).trans (h.block i hi hne)⟩
theorem take_k {w : World} {g a a2 v : Nat} {l : List UInt8} {o o2 gd : Bool} {n : Int} (h : CuOk w g l a o) (hB : isB l = true) (ha : a ≤ l.length) (hk : Tk l a o n v gd a2 o2) :
    Calls Tryz.prog 51 #[.pointer (some ⟨g, 0, none⟩), .int .i64 n] w fun e w' => e = .returned (.tuple #[.int .u64 (v : Nat), .bool gd]) ∧ w.grownBy w' (some g) ∧ CuOk w' g l a2 o2 := by
  obtain ⟨rfl, rfl, rfl, rfl⟩ := hk
  exact ctake_any h hB ha n
/-- where a cursor stands -/
def posC (W : World) (g : Nat) : Nat := match W.cell? ⟨g, 1, none⟩ with
  | some (.int _ i) => i.toNat
  | _ => 0
theorem posC_of {w : World} {g a : Nat} {l : List UInt8} {o : Bool} (h : CuOk w g l a o) : posC w g = a := by unfold posC; rw [h.cs.2.1]; simp
theorem first_any {w : World} {g a b m k v a2 : Nat} {gd o2 : Bool} {l : List UInt8} (h : CuOk w g l a false) (hB : isB l = true) (ha : a ≤ l.length) (hm : m < 18446744073709551616) (hb : b ≤ 64) (h0 : 0 < b ∨ 0 < m) (hk : l.length < a + k) (hd : drF l b m k a = (v, gd, a2, o2)) :
    Calls Tryz.prog 49 #[.int .u64 (m : Nat), .int .i64 (b : Nat), .func (.func 51) #[.pointer (some ⟨g, 0, none⟩)] #[]] w fun e w' => e = .returned (.tuple #[.int .u64 (v : Nat), .bool gd]) ∧ w.grownBy w' (some g) ∧ CuOk w' g l a2 o2 := by
  have HB := Lib.hid hB
  have H := Lib.hid (show ∃ k a', a' ≤ l.length ∧ l.length < a' + k ∧ drF l b m k a' = (v, gd, a2, o2) ∧ w.grownBy w (some g) ∧ CuOk w g l a' false from ⟨k, a, ha, hk, hd, grownBy_below (Below.refl _ _) _, h⟩)
  clear h hB ha hk hd
  go_enter Tryz.func49, Tryz.ntmps49
  go_wp2_with fail
  go_loopw [8, 9] (fun _ _ wr => ∃ k a', a' ≤ l.length ∧ l.length < a' + k ∧ drF l b m k a' = (v, gd, a2, o2) ∧ w.grownBy wr (some g) ∧ CuOk wr g l a' false) (fun _ _ wr => l.length + 1 - posC wr g)
  case atStart => exact H.out
  case round =>
    obtain ⟨k, a', ha, hk, hd, hg, hc⟩ := hrel
    obtain ⟨k, rfl⟩ : ∃ j, k = j + 1 := ⟨k - 1, by omega⟩
    have HG := Lib.hid hg
    have HC := Lib.hid hc
    have HA := Lib.hid ha
    clear H hg hc
    by_cases h1 : l.length < a' + b
    · rw [drF_over h1] at hd
      injection hd with e1 hd; injection hd with e2 hd; injection hd with e3 e4
      subst e1 e2 e3 e4
      have HK := Lib.hid (Tk.over (l := l) (a := a') (n := (b : Int)) (by omega) (by omega) (by omega))
      clear h1 hk ha
      go_wp2_with (go_at_call 51; refine (take_k HC.out HB.out HA.out HK.out).mono ?_; rintro e w1 ⟨rfl, hg1, hc1⟩)
      go_ret2
      exact ⟨rfl, grownBy_on HG.out hg1, hc1⟩
    · obtain ⟨nv, hv⟩ : ∃ v, numB ((l.drop a').take b) = v := ⟨_, rfl⟩
      have HK := Lib.hid (Tk.good (l := l) (a := a') (k := b) (by omega) (by omega) hv)
      by_cases h2 : nv < m
      · rw [drF_hit (by omega) (by rw [hv]; exact h2), hv] at hd
        injection hd with e1 hd; injection hd with e2 hd; injection hd with e3 e4
        subst e1 e2 e3 e4
        have h3 : (nv : Int) < (m : Int) := by omega
        clear h1 hk ha hv
        go_wp2_with (go_at_call 51; refine (take_k HC.out HB.out HA.out HK.out).mono ?_; rintro e w1 ⟨rfl, hg1, hc1⟩)
        go_ret2
        exact ⟨rfl, grownBy_on HG.out hg1, hc1⟩
      · rw [drF_miss (by omega) (by rw [hv]; exact h2)] at hd
        have hb0 : 0 < b := by
          rcases Nat.eq_zero_or_pos b with e | e
          · subst e
            rw [List.take_zero, numB] at hv
            omega
          · exact e
        have h3 : ¬ (nv : Int) < (m : Int) := by omega
        have HD := Lib.hid hd
        have HX := Lib.hid (show a' + b ≤ l.length ∧ l.length < a' + b + k by omega)
        have HP := Lib.hid (show l.length + 1 - (a' + b) < l.length + 1 - a' by omega)
        clear h1 hk ha hv hd
        go_wp2_with (go_at_call 51; refine (take_k HC.out HB.out HA.out HK.out).mono ?_; rintro e w1 ⟨rfl, hg1, hc1⟩)
        go_roundw
        case rel => exact ⟨k, a' + b, HX.out.1, HX.out.2, HD.out, grownBy_on HG.out hg1, hc1⟩
        case measure => rw [posC_of hc1, posC_of HC.out]; exact HP.out
theorem first_over {w : World} {g a : Nat} {l : List UInt8} (h : CuOk w g l a true) (hB : isB l = true) (ha : a ≤ l.length) (m b : Nat) :
    Calls Tryz.prog 49 #[.int .u64 (m : Nat), .int .i64 (b : Nat), .func (.func 51) #[.pointer (some ⟨g, 0, none⟩)] #[]] w fun e w' => e = .returned (.tuple #[.int .u64 ((0 : Nat) : Int), .bool false]) ∧ w.grownBy w' (some g) ∧ CuOk w' g l a true := by
  have HB := Lib.hid hB
  have HA := Lib.hid ha
  have HK := Lib.hid (Tk.bad (l := l) (a := a) (o := true) (n := (b : Int)) (.inl rfl))
  have H := Lib.hid (show w.grownBy w (some g) ∧ CuOk w g l a true from ⟨grownBy_below (Below.refl _ _) _, h⟩)
  clear h hB ha
  go_enter Tryz.func49, Tryz.ntmps49
  go_wp2_with fail
  go_loopw [8, 9] (fun _ _ wr => w.grownBy wr (some g) ∧ CuOk wr g l a true) (fun _ _ wr => 0)
  case atStart => exact H.out
  case round =>
    have HR := Lib.hid hrel
    clear hrel H
    go_wp2_with (go_at_call 51; refine (take_k HR.out.2 HB.out HA.out HK.out).mono ?_; rintro e w1 ⟨rfl, hg1, hc1⟩)
    go_ret2
    exact ⟨rfl, grownBy_on HR.out.1 hg1, hc1⟩
theorem first_nil (w : World) (m b : Nat) :
    Calls Tryz.prog 49 #[.int .u64 (m : Nat), .int .i64 (b : Nat), .func (.func 51) #[.pointer none] #[]] w fun e w' => e = .returned (.tuple #[.int .u64 0, .bool false]) ∧ Below w.heap.size w w' := by
  go_enter Tryz.func49, Tryz.ntmps49
  go_wp2_with fail
  go_loopw [8, 9] (fun _ _ wr => Below w.heap.size w wr) (fun _ _ wr => 0)
  case atStart => exact Below.refl _ _
  case round =>
    have HB := Lib.hid hrel
    clear hrel
    go_wp2_with (go_at_call 51; refine (take_nil _ _).mono ?_; rintro e w1 ⟨rfl, hb1⟩)
    go_ret2
    exact ⟨rfl, HB.out.trans (hb1.mono HB.out.size)⟩
theorem draw_any {w : World} {g a m v a2 : Nat} {gd o o2 : Bool} {l : List UInt8} (h : CuOk w g l a o) (hB : isB l = true) (ha : a ≤ l.length) (hm : m < 18446744073709551616) (hd : dr l a o m = (v, gd, a2, o2)) :
    Calls Tryz.prog 28 #[.pointer (some ⟨g, 0, none⟩), .int .u64 (m : Nat)] w fun e w' => e = .returned (.tuple #[.int .u64 (v : Nat), .bool gd]) ∧ w.grownBy w' (some g) ∧ CuOk w' g l a2 o2 := by
  have hmf : ∀ (fn : Fn) (first cap : Array Value) (w : World), (Instr.makeFunc fn first cap).run Tryz.prog w = .ok (.func fn first cap) w := fun _ _ _ _ => rfl
  have HC := Lib.hid h
  have HW := Lib.hid (fun W : World => width_any W m hm)
  by_cases h0 : m = 0
  · subst h0
    rw [dr_no (.inl rfl)] at hd
    injection hd with e1 hd; injection hd with e2 hd; injection hd with e3 e4
    subst e1 e2 e3 e4
    clear h hm
    go_enter Tryz.func28, Tryz.ntmps28
    go_wp2
    go_ret2
    exact ⟨rfl, grownBy_below (Below.refl _ _) _, HC.out⟩
  · have hne : ¬ (m : Int) = 0 := by omega
    have HF := Lib.hid (fun (W : World) (hb : Below w.heap.size w W) => show Calls Tryz.prog 49 #[.int .u64 (m : Nat), .int .i64 (wd m : Nat), .func (.func 51) #[.pointer (some ⟨g, 0, none⟩)] #[]] W fun e w' => e = .returned (.tuple #[.int .u64 (v : Nat), .bool gd]) ∧ W.grownBy w' (some g) ∧ CuOk w' g l a2 o2 by
      cases o with
      | false => exact first_any (k := l.length + 1) (h.on hb) hB ha hm (wd_64 hm) (.inr (by omega)) (by omega) (by rw [← dr_in h0]; exact hd)
      | true =>
        rw [dr_no (.inr rfl)] at hd
        injection hd with e1 hd; injection hd with e2 hd; injection hd with e3 e4
        subst e1 e2 e3 e4
        exact first_over (h.on hb) hB ha m (wd m))
    clear h h0 hm hd
    go_enter Tryz.func28, Tryz.ntmps28
    go_wp2_with (first
      | (go_at_call 50; refine (HW.out _).mono ?_; rintro e w1 ⟨rfl, hb1⟩)
      | (go_at_call 49; refine (HF.out _ hb1).mono ?_; rintro e w2 ⟨rfl, hg2, hc2⟩))
    go_ret2
    exact ⟨rfl, grownBy_on (grownBy_below hb1 _) hg2, hc2⟩
theorem draw_nil (w : World) (m : Nat) (hm : m < 18446744073709551616) :
    Calls Tryz.prog 28 #[.pointer none, .int .u64 (m : Nat)] w fun e w' => e = .returned (.tuple #[.int .u64 0, .bool false]) ∧ Below w.heap.size w w' := by
  have hmf : ∀ (fn : Fn) (first cap : Array Value) (w : World), (Instr.makeFunc fn first cap).run Tryz.prog w = .ok (.func fn first cap) w := fun _ _ _ _ => rfl
  have HW := Lib.hid (fun W : World => width_any W m hm)
  by_cases h0 : m = 0
  · subst h0
    clear hm
    go_enter Tryz.func28, Tryz.ntmps28
    go_wp2
    go_ret2
    exact ⟨rfl, Below.refl _ _⟩
  · have hne : ¬ (m : Int) = 0 := by omega
    clear h0 hm
    go_enter Tryz.func28, Tryz.ntmps28
    go_wp2_with (first
      | (go_at_call 50; refine (HW.out _).mono ?_; rintro e w1 ⟨rfl, hb1⟩)
      | (go_at_call 49; refine (first_nil _ _ _).mono ?_; rintro e w2 ⟨rfl, hb2⟩))
    go_ret2
    exact ⟨rfl, hb1.trans (hb2.mono hb1.size)⟩
end Go.Proofs.YtfdpddlefobcpaaGreatDoor
