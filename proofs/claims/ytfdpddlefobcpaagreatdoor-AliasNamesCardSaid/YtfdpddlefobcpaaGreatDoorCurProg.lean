/- What the calls of the program's layer 8 answer, over this translation: a cursor as a block of three cells. -/
import Derived.Test.YtfdpddlefobcpaaGreatDoorBitProg
import Derived.Test.YtfdpddlefobcpaaGreatDoorRegV
import Derived.Test.YtfdpddlefobcpaaGreatDoorCurMath
import Derived.Test.YtfdpddlefobcpaaGreatDoorBlk
import Derived.Shelf.Strings.SlTrimAscii
import Derived.Deep.RegionWith
import Derived.Deep.RegionHeld3
namespace Go.Proofs.YtfdpddlefobcpaaGreatDoor
open Go.RowKit Go.Shelf
set_option linter.unusedVariables false
set_option linter.unusedSimpArgs false
set_option maxRecDepth 20000
open N
theorem clone_any (w : World) (l : List UInt8) (hl : l.length ≤ 1099511627776) :
    Calls Tryz.prog 36 #[.string ⟨l.toArray⟩] w fun e w' => e = .returned (.string ⟨l.toArray⟩) ∧ Below w.heap.size w w' := by
  have HC := Lib.hid (fun W : World => Tryz.stringslite_Clone ⟨l.toArray⟩ W (by show l.length ≤ _; omega))
  go_enter Tryz.func36, Tryz.ntmps36
  go_wp2_with (go_at_call 58; refine (HC.out _).mono ?_; rintro e w1 ⟨rfl, hb⟩; have HB := Lib.hid hb; clear hb)
  go_ret
  exact ⟨rfl, HB.out⟩
theorem below_drew {w w1 : World} (h : Below w.drew.heap.size w.drew w1) : Below w.heap.size w w1 := Below.trans (b := w.drew) ⟨rfl, rfl, rfl, Nat.le_refl _, fun _ _ => rfl⟩ h
/-- a block of a cursor -/
def CuOk (w : World) (g : Nat) (l : List UInt8) (a : Nat) (o : Bool) : Prop := BlkOk w ⟨g, cu l a o, 89⟩
section
variable {w w' : World} {g a : Nat} {l : List UInt8} {o : Bool}
theorem CuOk.cs (h : CuOk w g l a o) : w.cell? ⟨g, 0, none⟩ = some (.string ⟨l.toArray⟩) ∧ w.cell? ⟨g, 1, none⟩ = some (.int .i64 (a : Int)) ∧ w.cell? ⟨g, 2, none⟩ = some (.bool o) := ⟨BlkOk.cell h rfl, BlkOk.cell h rfl, BlkOk.cell h rfl⟩
theorem CuOk.frs (h : CuOk w g l a o) : w.frozen? ⟨g, 0, none⟩ = false ∧ w.frozen? ⟨g, 1, none⟩ = false ∧ w.frozen? ⟨g, 2, none⟩ = false := ⟨BlkOk.fr h 0, BlkOk.fr h 1, BlkOk.fr h 2⟩
theorem CuOk.c01 (h : CuOk w g l a o) : w.cell? ⟨g, 0, none⟩ = some (.string ⟨l.toArray⟩) ∧ w.cell? ⟨g, 1, none⟩ = some (.int .i64 (a : Int)) := ⟨h.cs.1, h.cs.2.1⟩
theorem CuOk.drew (h : CuOk w g l a o) : CuOk w.drew g l a o := h
theorem CuOk.on (h : CuOk w g l a o) (hb : Below w.heap.size w w') : CuOk w' g l a o := BlkOk.on h hb
end
theorem new_no (w : World) (l : List UInt8) (hl : l.length ≤ maxLen) (h : isB l = false) :
    Calls Tryz.prog 10 #[.string ⟨l.toArray⟩] w fun e w' => e = .returned (.tuple #[.pointer none, .int .i64 3]) ∧ Below w.heap.size w w' := by
  have HI := Lib.hid (bis_any w l hl)
  rw [h] at HI
  clear h
  go_enter Tryz.func10, Tryz.ntmps10
  go_wp2_with (go_at_call 26; refine HI.out.mono ?_; rintro e w1 ⟨rfl, hb⟩; have HB := Lib.hid hb; clear hb)
  go_ret2
  exact ⟨rfl, HB.out⟩
theorem new_yes (w : World) (l : List UInt8) (h : isB l = true) :
    Calls Tryz.prog 10 #[.string ⟨l.toArray⟩] w fun e w' => ∃ g, e = .returned (.tuple #[.pointer (some ⟨g, 0, none⟩), .int .i64 0]) ∧ w.heap.size ≤ g ∧ CuOk w' g l 0 false ∧ Below w.heap.size w w' := by
  have hl := (isB_iff.1 h).1
  have HI := Lib.hid (bis_any w l (by unfold maxLen; omega))
  have HC := Lib.hid (fun W : World => clone_any W l (by omega))
  rw [h] at HI
  clear h hl
  go_enter Tryz.func10, Tryz.ntmps10
  go_wp2_with (first
    | (go_at_call 26; refine HI.out.mono ?_; rintro e w1 ⟨rfl, hb⟩; have HB := Lib.hid hb; clear hb)
    | (go_at_call 36; refine (HC.out _).mono ?_; rintro e w2 ⟨rfl, hb⟩; have HB2 := Lib.hid (HB.out.trans (hb.mono HB.out.size)); clear hb HB; have HB := HB2; clear HB2))
  go_ret2
  exact ⟨_, rfl, HB.out.size, heap_alloc_new _ _, HB.out.alloc HB.out.size _⟩
theorem at_any {w : World} {g a : Nat} {l : List UInt8} {o : Bool} (h : CuOk w g l a o) :
    Calls Tryz.prog 14 #[.pointer (some ⟨g, 0, none⟩)] w fun e w' => e = .returned (.int .i64 (a : Int)) ∧ Below w.heap.size w w' := by
  obtain ⟨h0, h1, h2⟩ := h.cs
  clear h0 h2 h
  go_enter Tryz.func14, Tryz.ntmps14
  go_wp2
  go_ret
  exact ⟨rfl, Below.refl _ _⟩
theorem over_any {w : World} {g a : Nat} {l : List UInt8} {o : Bool} (h : CuOk w g l a o) :
    Calls Tryz.prog 15 #[.pointer (some ⟨g, 0, none⟩)] w fun e w' => e = .returned (.bool o) ∧ Below w.heap.size w w' := by
  obtain ⟨h0, h1, h2⟩ := h.cs
  clear h0 h1 h
  go_enter Tryz.func15, Tryz.ntmps15
  go_wp2
  go_ret
  exact ⟨rfl, Below.refl _ _⟩
theorem left_any {w : World} {g a : Nat} {l : List UInt8} {o : Bool} (h : CuOk w g l a o) (hl : l.length ≤ maxLen) (ha : a ≤ l.length) :
    Calls Tryz.prog 76 #[.pointer (some ⟨g, 0, none⟩)] w fun e w' => e = .returned (.int .i64 ((l.length : Int) - (a : Int))) ∧ Below w.heap.size w w' := by
  obtain ⟨h0, h1, h2⟩ := h.cs
  clear h2 h
  have hw : IntKind.i64.wrap ((l.length : Int) - (a : Int)) = (l.length : Int) - (a : Int) := by unfold maxLen at hl; rw [IntKind.wrap_i64]; omega
  clear hl ha
  go_enter Tryz.func76, Tryz.ntmps76
  go_wp2
  go_quiet (fail)
  go_wp2
  go_ret
  exact ⟨rfl, ⟨rfl, rfl, rfl, Nat.le_refl _, fun _ _ => rfl⟩⟩
theorem at_nil (w : World) :
    Calls Tryz.prog 14 #[.pointer none] w fun e w' => e = .returned (.int .i64 0) ∧ Below w.heap.size w w' := by
  go_enter Tryz.func14, Tryz.ntmps14
  go_wp2
  go_ret
  exact ⟨rfl, Below.refl _ _⟩
theorem left_nil (w : World) :
    Calls Tryz.prog 76 #[.pointer none] w fun e w' => e = .returned (.int .i64 0) ∧ Below w.heap.size w w' := by
  go_enter Tryz.func76, Tryz.ntmps76
  go_wp2
  go_ret
  exact ⟨rfl, Below.refl _ _⟩
theorem over_nil (w : World) :
    Calls Tryz.prog 15 #[.pointer none] w fun e w' => e = .returned (.bool false) ∧ Below w.heap.size w w' := by
  go_enter Tryz.func15, Tryz.ntmps15
  go_wp2
  go_ret
  exact ⟨rfl, Below.refl _ _⟩
theorem copy_nil (w : World) :
    Calls Tryz.prog 27 #[.pointer none] w fun e w' => e = .returned (.pointer none) ∧ Below w.heap.size w w' := by
  go_enter Tryz.func27, Tryz.ntmps27
  go_wp2
  go_ret
  exact ⟨rfl, Below.refl _ _⟩
theorem take_nil (w : World) (n : Int) :
    Calls Tryz.prog 51 #[.pointer none, .int .i64 n] w fun e w' => e = .returned (.tuple #[.int .u64 0, .bool false]) ∧ Below w.heap.size w w' := by
  go_enter Tryz.func51, Tryz.ntmps51
  go_wp2
  go_ret2
  exact ⟨rfl, Below.refl _ _⟩
theorem copy_any {w : World} {g a : Nat} {l : List UInt8} {o : Bool} (h : CuOk w g l a o) (hl : l.length ≤ 2000) :
    Calls Tryz.prog 27 #[.pointer (some ⟨g, 0, none⟩)] w fun e w' => ∃ g', e = .returned (.pointer (some ⟨g', 0, none⟩)) ∧ w.heap.size ≤ g' ∧ CuOk w' g' l a o ∧ Below w.heap.size w w' := by
  have HC := Lib.hid (fun W : World => clone_any W l (by omega))
  obtain ⟨h0, h1, h2⟩ := h.cs
  have HQ := Lib.hid h
  clear h
  go_enter Tryz.func27, Tryz.ntmps27
  go_wp2_with fail
  go_region_held3 (fun W => W.cell? ⟨g, 0, none⟩ = some (.string ⟨l.toArray⟩) ∧ W.cell? ⟨g, 1, none⟩ = some (.int .i64 (a : Int)) ∧ W.cell? ⟨g, 2, none⟩ = some (.bool o)) (first | exact ⟨h0, h1, h2⟩ | exact (HQ.out.drew.on hb).cs | exact ((HQ.out.drew.on hb).on ((Below.refl _ _).alloc (Nat.le_refl _) _)).cs) (first
    | (go_at_call 36; refine (HC.out _).mono ?_; rintro e w1 ⟨rfl, hb⟩))
  go_wp2
  go_ret
  exact ⟨_, rfl, hb.size, heap_alloc_new _ _, (below_drew hb).alloc hb.size _⟩
theorem take_bad {w : World} {g a : Nat} {l : List UInt8} {o : Bool} {n : Int} (h : CuOk w g l a o) (hn : o = true ∨ n < 0 ∨ 64 < n) :
    Calls Tryz.prog 51 #[.pointer (some ⟨g, 0, none⟩), .int .i64 n] w fun e w' => e = .returned (.tuple #[.int .u64 0, .bool false]) ∧ Below w.heap.size w w' := by
  obtain ⟨h0, h1, h2⟩ := h.cs
  clear h0 h1 h
  by_cases ho : o = true
  · subst ho
    clear hn
    go_enter Tryz.func51, Tryz.ntmps51
    go_wp2
    go_ret2
    exact ⟨rfl, Below.refl _ _⟩
  · obtain rfl : o = false := by simpa using ho
    clear ho
    by_cases h3 : n < 0
    · clear hn
      go_enter Tryz.func51, Tryz.ntmps51
      go_wp2
      go_ret2
      exact ⟨rfl, Below.refl _ _⟩
    · have h4 : 64 < n := by rcases hn with e | e | e; cases e; omega; exact e
      clear hn
      go_enter Tryz.func51, Tryz.ntmps51
      go_wp2
      go_ret2
      exact ⟨rfl, Below.refl _ _⟩
theorem take_over {w : World} {g a : Nat} {l : List UInt8} {n : Int} (h : CuOk w g l a false) (hl : l.length ≤ 1024) (ha : a ≤ l.length) (hn0 : 0 ≤ n) (hn1 : n ≤ 64) (hn2 : (l.length : Int) < a + n) :
    Calls Tryz.prog 51 #[.pointer (some ⟨g, 0, none⟩), .int .i64 n] w fun e w' => e = .returned (.tuple #[.int .u64 0, .bool false]) ∧ w.grownBy w' (some g) ∧ CuOk w' g l a true := by
  have HQ := Lib.hid h
  have HL := Lib.hid (fun (W : World) (hq : CuOk W g l a false) => left_any hq (by unfold maxLen; omega) ha)
  obtain ⟨h0, h1, h2⟩ := h.cs
  obtain ⟨f0, f1, f2⟩ := h.frs
  have h3 : ¬ n < 0 := by omega
  have h4 : ¬ 64 < n := by omega
  have h5 : (l.length : Int) - (a : Int) < n := by omega
  clear h h0 h1 f0 f1 hl ha hn0 hn1 hn2
  go_enter Tryz.func51, Tryz.ntmps51
  go_wp2_with (go_at_call 76; refine (HL.out _ HQ.out).mono ?_; rintro e w1 ⟨rfl, hb⟩; have HB := Lib.hid hb; have HQ1 := Lib.hid (HQ.out.on hb); clear hb; have f2' := HQ1.out.frs.2.2; have c2' := HQ1.out.cs.2.2)
  go_ret2
  exact ⟨rfl, grownBy_set (grownBy_below HB.out _) 2 _, BlkOk.set HQ1.out 2 _⟩
/-- one bit more -/
theorem step_shl {l : List UInt8} (hb : bitsL l = true) (hl : l.length ≤ 64) (k : Nat) (h : k < l.length) :
    bits .or .u64 (IntKind.u64.wrap (((numB (l.take k) : Nat) : Int) * 2)) ((bat l k - 48) % 256) = ((numB (l.take (k + 1)) : Nat) : Int) := step_num hb hl k h
theorem take_good {w : World} {g a k : Nat} {l : List UInt8} (h : CuOk w g l a false) (hl : l.length ≤ 1024) (hb : bitsL l = true) (hk : k ≤ 64) (ha : a + k ≤ l.length) :
    Calls Tryz.prog 51 #[.pointer (some ⟨g, 0, none⟩), .int .i64 (k : Int)] w fun e w' => e = .returned (.tuple #[.int .u64 (numB ((l.drop a).take k) : Nat), .bool true]) ∧ w.grownBy w' (some g) ∧ CuOk w' g l (a + k) false := by
  have HQ := Lib.hid h
  have HL := Lib.hid (fun (W : World) (hq : CuOk W g l a false) => left_any hq (by unfold maxLen; omega) (by omega))
  obtain ⟨h0, h1, h2⟩ := h.cs
  obtain ⟨f0, f1, f2⟩ := h.frs
  have hx : ∀ j : Nat, j < k → ∀ W : World, (Instr.index 9 (.string ⟨l.toArray⟩) (.int .i64 (IntKind.i64.wrap ((a : Int) + (j : Int))))).run Tryz.prog W = .ok (.int .u8 (bat l (a + j))) W := fun j hj W => by
    rw [show IntKind.i64.wrap ((a : Int) + (j : Int)) = ((a + j : Nat) : Int) by rw [IntKind.wrap_i64]; omega]
    exact str_at l 9 strU .i64 (a + j) (by omega) W
  have hs : ∀ j : Nat, j < k → bits .or .u64 (IntKind.u64.wrap (((numB ((l.drop a).take j) : Nat) : Int) * 2)) ((bat l (a + j) - 48) % 256) = ((numB ((l.drop a).take (j + 1)) : Nat) : Int) := fun j hj => by
    have h6 := step_num (l := (l.drop a).take k) (bitsL_take (bitsL_drop hb a) k) (by rw [List.length_take]; omega) j (by rw [List.length_take, List.length_drop]; omega)
    have e1 : ((l.drop a).take k).take j = (l.drop a).take j := by rw [List.take_take, Nat.min_eq_left (by omega)]
    have e2 : ((l.drop a).take k).take (j + 1) = (l.drop a).take (j + 1) := by rw [List.take_take, Nat.min_eq_left (by omega)]
    have e3 : bat ((l.drop a).take k) j = bat l (a + j) := by
      rw [← drop_bat]
      unfold bat
      simp only [List.getD_eq_getElem?_getD, List.getElem?_take_of_lt hj]
    rwa [e1, e2, e3] at h6
  have HX := Lib.hid hx
  have HS := Lib.hid hs
  have h3 : ¬ (k : Int) < 0 := by omega
  have h4 : ¬ 64 < (k : Int) := by omega
  have h5 : ¬ (l.length : Int) - (a : Int) < k := by omega
  have hl2 := Lib.hid hl
  have ha2 := Lib.hid ha
  clear h h0 h1 f0 f1 f2 hl ha hx hs
  go_enter Tryz.func51, Tryz.ntmps51
  go_wp2_with (go_at_call 76; refine (HL.out _ HQ.out).mono ?_; rintro e w1 ⟨rfl, hb⟩; have HB := Lib.hid hb; have HQ1 := Lib.hid (HQ.out.on hb); clear hb)
  clear h2 h5
  go_loopw [6, 32] (fun n i wr => ∃ j : Nat, j ≤ k ∧ i = .int .i64 j ∧ n = .int .u64 (numB ((l.drop a).take j) : Nat) ∧ Below w1.heap.size w1 wr) (fun _ i _ => k - (intOf i).toNat)
  case atStart => exact ⟨0, by omega, rfl, rfl, Below.refl _ _⟩
  case round =>
    obtain ⟨j, hj, rfl, rfl, hbw⟩ := hrel
    have HBW := Lib.hid hbw
    obtain ⟨c0, c1, c2⟩ := (HQ1.out.on hbw).cs
    clear hbw
    by_cases hlt : j < k
    · have hix := HX.out j hlt
      have hst := Lib.hid (HS.out j hlt)
      have hu := Lib.hid (show IntKind.u64.wrap (IntKind.u8.wrap (bat l (a + j) - 48)) = (bat l (a + j) - 48) % 256 by rw [IntKind.wrap_u64, IntKind.wrap_u8]; omega)
      go_wp2
      go_quiet (fail)
      go_wp2
      go_roundw
      case rel => exact ⟨j + 1, by omega, by go_num, by rw [hu.out, hst.out], HBW.out.trans ⟨rfl, rfl, rfl, Nat.le_refl _, fun _ _ => rfl⟩⟩
      case measure => simp [intOf]; omega
    · obtain rfl : j = k := by omega
      have hwr : IntKind.i64.wrap ((a : Int) + (j : Int)) = (a : Int) + (j : Int) := by have := ha2.out; have := hl2.out; rw [IntKind.wrap_i64]; omega
      obtain ⟨f0, f1, f2⟩ := (HQ1.out.on HBW.out).frs
      go_wp2
      go_ret2
      exact ⟨rfl, grownBy_set (grownBy_below (HB.out.trans (HBW.out.mono HB.out.size)) _) 1 _, BlkOk.set (HQ1.out.on HBW.out) 1 _⟩
end Go.Proofs.YtfdpddlefobcpaaGreatDoor
