/-
  PROVED: the statement BelowNames (tombolalaw09.BelowNames) about the landed commit: for every input the law returns true and leaves its arguments as they were. Conditions: none beyond those that the given row itself prints.
-/
import Derived.Test.YtfmhghemlcbapaaGreatDoorCards
import Derived.Test.YtfmhghemlcbapaaGreatDoorTie
import Derived.LaidMore
import Derived.Lay
import Derived.SevenTiedAt
import Derived.Stop.Joined
import Derived.Test.YtfmhghemlcbapaaGreatDoorRows
import Derived.WalkKit
import Derived.ProofKit
import Derived.OpenShut
import Derived.RowKit3
import Derived.Test.YtfmhghemlcbapaaGreatDoorGFrame
import Derived.Test.YtfmhghemlcbapaaGreatDoorBelAwake
import Derived.Test.YtfmhghemlcbapaaGreatDoorRatS
import Derived.Test.YtfmhghemlcbapaaGreatDoorRefRatO
import Derived.Deep.RegionHeld3
namespace Go.Proofs.YtfmhghemlcbapaaGreatDoor.belowNames
open Go.ChangeShapes Go.WideShapes Go.ChangeAt Go.RowKit
set_option linter.unusedVariables false
set_option linter.unusedSimpArgs false
set_option maxRecDepth 20000
open N
theorem own : ownKnob Tryz.prog.godebug = none := by kernel_rfl
open RC
open Go.Shelf
section
variable {w0 w : World} {T : List Blk} {g a m v a2 : Nat} {l : List UInt8} {o gd o2 : Bool}
theorem draw9 (h : CS w0 w T) (i : Nat) (hi : T[i]? = some (K g l a o)) (hB : isB l = true) (ha : a ≤ l.length) (hm : m < 18446744073709551616) {x y : Int} (hx : (m : Int) = x) (hy : (v : Int) = y) (hd : dr l a o m = (v, gd, a2, o2)) :
    Calls Tryz.prog 15 #[.pointer (some ⟨g, 0, none⟩), .int .u64 x] w fun e w' => e = .returned (.tuple #[.int .u64 y, .bool gd]) ∧ CS w0 w' (T.set i (K g l a2 o2)) := by
  subst hx hy
  refine (draw_any (h.get i hi) hB ha hm hd).mono ?_
  rintro e w' ⟨rfl, hg, hq⟩
  exact ⟨rfl, h.turn i hi hg hq⟩
theorem draw9_nil (h : CS w0 w T) : Calls Tryz.prog 15 #[.pointer none, .int .u64 1] w fun e w' => e = .returned (.tuple #[.int .u64 0, .bool false]) ∧ CS w0 w' T := by
  refine (draw_nil w 1 (by decide)).mono ?_
  rintro e w' ⟨rfl, hb⟩
  exact ⟨rfl, h.below hb⟩
theorem cost9_z (h : CS w0 w T) : Calls Tryz.prog 7 #[.int .u64 0] w fun e w' => e = .returned (.tuple #[.agg #[.bool false, .slice none 0 0, .slice none 0 0], .int .i64 1]) ∧ CS w0 w' T := by
  refine (cost_zero w).mono ?_
  rintro e w' ⟨rfl, hb⟩
  exact ⟨rfl, h.below hb⟩
theorem width9 (h : CS w0 w T) {x y : Int} (hx : (m : Int) = x) (hm : m < 18446744073709551616) (hy : (wd m : Int) = y) : Calls Tryz.prog 9 #[.int .u64 x] w fun e w' => e = .returned (.int .i64 y) ∧ CS w0 w' T := by
  refine (width_lit w hx hm hy).mono ?_
  rintro e w' ⟨rfl, hb⟩
  exact ⟨rfl, h.below hb⟩
theorem at9 (h : CS w0 w T) (i : Nat) (hi : T[i]? = some (K g l a o)) {x : Int} (hx : (a : Int) = x) :
    Calls Tryz.prog 16 #[.pointer (some ⟨g, 0, none⟩)] w fun e w' => e = .returned (.int .i64 x) ∧ CS w0 w' T := by
  subst hx
  exact at_s h i hi
end
theorem r6of9 {w0 v0 w : World} {S : List Ent} {T : List Blk} (h : SC w0 v0 w S T []) {x : Int} (h1 : -9223372036854775808 ≤ x) (h2 : x ≤ 9223372036854775807) :
    Calls Tryz.prog 13 #[.int .i64 x] w fun e w' => ∃ (r : Rat), ∃ A n c A' n' c', mkRat x 1 = r ∧ e = .returned (.agg #[.bool (sg r.num), .slice A n c, .slice A' n' c']) ∧ SC w0 v0 w' (⟨A, n, c, 1, limbs (mg r.num), mg r.num⟩ :: ⟨A', n', c', 1, limbs r.den, r.den⟩ :: S) T [] := by
  exact (r6of_any w h1 h2 rfl).mono fun e w' ho => have ⟨A, n, c, A', n', c', he, h3⟩ := h.tR9 (Nat.le_refl _) ho; ⟨_, A, n, c, A', n', c', rfl, he, h3⟩
theorem wd_two {k : Nat} (h : 0 < k) : wd (2 ^ k) = k := by
  have h1 := Nat.two_pow_pos k
  have h2 : 2 ^ k = 2 * 2 ^ (k - 1) := by rw [← Nat.pow_succ']; congr 1; omega
  have h3 := Nat.two_pow_pos (k - 1)
  exact W.lenN_of _ _ (by omega) (.inr (by omega))
theorem wd_more (k : Nat) : wd (2 ^ k + 1) = k + 1 := by
  have h1 := Nat.two_pow_pos k
  refine W.lenN_of _ _ ?_ (.inr ?_)
  · rw [Nat.pow_succ]; omega
  · rw [Nat.add_sub_cancel, Nat.add_sub_cancel]; exact Nat.le_refl _
theorem wd_less {k : Nat} (h : 1 < k) : wd (2 ^ k - 1) = k := by
  have h2 : 2 ^ k = 4 * 2 ^ (k - 2) := by rw [show 4 = 2 ^ 2 from rfl, ← Nat.pow_add]; congr 1; omega
  have h4 : 2 ^ (k - 1) = 2 * 2 ^ (k - 2) := by rw [← Nat.pow_succ']; congr 1; omega
  have h3 := Nat.two_pow_pos (k - 2)
  exact W.lenN_of _ _ (by omega) (.inr (by omega))
theorem cR_two {k : Nat} (h : 0 < k) : cR (2 ^ k) = mkRat k 1 := by
  unfold cR
  rw [wd_two h]
  have h1 := Nat.two_pow_pos k
  have h2 := Rat.mkRat_mul_right (n := (k : Int)) (d := 1) (a := 2 ^ k) (by omega)
  rw [Nat.one_mul, Int.natCast_pow] at h2
  exact h2
/-- 1s alone: no try is below m, where m is less than 2 to the power of the width -/
theorem drF_ones {b m n : Nat} (hb : 0 < b) (hm : m < 2 ^ b) (q a k : Nat) (hn : n = a + q * b) (hk : q < k) : drF (List.replicate n 49) b m k a = (0, false, n, true) := by
  induction q generalizing a k with
  | zero =>
    obtain ⟨k, rfl⟩ : ∃ j, k = j + 1 := ⟨k - 1, by omega⟩
    rw [drF_over (by rw [List.length_replicate]; omega)]
    rw [hn, Nat.zero_mul, Nat.add_zero]
  | succ q ih =>
    obtain ⟨k, rfl⟩ : ∃ j, k = j + 1 := ⟨k - 1, by omega⟩
    rw [Nat.add_mul, Nat.one_mul] at hn
    rw [drF_miss (by rw [List.length_replicate]; omega) ?_]
    · exact ih (a + b) k (by omega) (by omega)
    · rw [List.drop_replicate, List.take_replicate, Nat.min_eq_left (by omega)]
      have := numB_ones b
      omega
theorem dr_ones {m q : Nat} (hm0 : m ≠ 0) (hb : 0 < wd m) (hm : m < 2 ^ wd m) (hn : 1024 = q * wd m) (hq : q < 1025) : dr (List.replicate 1024 49) 0 false m = (0, false, 1024, true) := by
  rw [dr_in hm0]
  exact drF_ones hb hm q 0 _ (by omega) (by rw [List.length_replicate]; exact hq)
set_option maxRecDepth 100000 in
set_option maxHeartbeats 40000000 in
theorem walk (w : World)  :
    Calls Tryz.prog 4 #[] w fun e w' => e = .returned (.bool true) ∧ Below w.heap.size w w' := by
  have hS := Lib.hid (SC.start w)
  go_enter Tryz.func4, Tryz.ntmps4
  go_wp2_with fail
  go_at_call 12
  with_reducible refine (awake9 _).mono ?_
  rintro e v1 ⟨rfl, hb⟩
  have h1 := hS.out.below hb
  clear hb
  clear hS; have hS := Lib.hid h1; clear h1
  go_wp2_with fail
  go_loopw [1] (fun n wr => ∃ k : Nat, 1 ≤ k ∧ k ≤ 64 ∧ n = .int .i64 (k : Nat) ∧ Below w.heap.size w wr) (fun n _ => 64 - (intOf n).toNat)
  case atStart => exact ⟨1, by omega, by omega, rfl, hS.out.st.1⟩
  case round =>
    obtain ⟨k, hk1, hk, rfl, hbw⟩ := hrel
    clear hS
    by_cases hlt : k < 64
    · by_cases h1 : 1 < k
      · obtain ⟨P, hP⟩ : ∃ P : Nat, 2 ^ k = P := ⟨_, rfl⟩
        have hP9 : P ≤ 2 ^ 63 := by rw [← hP]; exact Nat.pow_le_pow_right (n := 2) (by decide) (by omega)
        have h63 : (2 : Nat) ^ 63 = 9223372036854775808 := by decide
        have hP2 : 2 ≤ P := by rw [← hP]; exact Nat.pow_le_pow_right (n := 2) (by decide) hk1
        have hPi : (2 : Int) ^ k = (P : Int) := by rw [← hP]; exact (Int.natCast_pow 2 k).symm
        have hsh : IntKind.u64.wrap ((2 : Int) ^ min k 64) = (P : Int) := by rw [Nat.min_eq_left (by omega), hPi, IntKind.wrap_u64]; omega
        have hsh2 : IntKind.u64.wrap ((2 : Int) ^ k) = (P : Int) := by rw [hPi, IntKind.wrap_u64]; omega
        have hwp : IntKind.u64.wrap ((P : Int) + 1) = (P : Int) + 1 := by rw [IntKind.wrap_u64]; omega
        have hwk : IntKind.i64.wrap ((k : Int) + 1) = (k : Int) + 1 := by rw [IntKind.wrap_i64]; omega
        obtain ⟨P0, hP0⟩ : ∃ P0 : Nat, P - 1 = P0 := ⟨_, rfl⟩
        have hwm : IntKind.u64.wrap ((P : Int) - 1) = (P0 : Int) := by rw [IntKind.wrap_u64]; omega
        obtain ⟨rc, hrc⟩ : ∃ r, cR P = r := ⟨_, rfl⟩
        have HRC := Lib.hid hrc
        have HRK := Lib.hid (show rc = mkRat (k : Int) 1 by rw [← hrc, ← hP]; exact cR_two hk1)
        have HP0 := Lib.hid (show 0 < P by omega)
        have HP := Lib.hid (show P < 18446744073709551616 ∧ (wd P : Int) = (k : Int) ∧ P + 1 < 18446744073709551616 ∧ (wd (P + 1) : Int) = (k : Int) + 1 ∧ P0 < 18446744073709551616 ∧ (wd P0 : Int) = (k : Int) from
          ⟨by omega, by rw [← hP, wd_two hk1], by omega, by rw [← hP, wd_more]; simp, by omega, by rw [← hP0, ← hP, wd_less h1]⟩)
        clear hrc hP hP9 h63 hP2 hPi hP0
        have hS := Lib.hid (SC.of_blocks (T := []) hbw (fun q hq => by cases hq) (fun q hq => by cases hq) List.nodup_nil)
        clear hbw
        go_wp2_with fail
        go_at_call 9
        with_reducible refine (width_lit _ (m := P) (x := (P : Int)) (y := (k : Int)) rfl HP.out.1 HP.out.2.1).mono ?_
        rintro e v1 ⟨rfl, hb⟩
        have h1 := hS.out.below hb
        clear hb
        clear hS; have hS := Lib.hid h1; clear h1
        go_wp2_with fail
        go_at_call 9
        with_reducible refine (width_lit _ (m := P + 1) (x := (P : Int) + 1) (y := (k : Int) + 1) (by simp) HP.out.2.2.1 HP.out.2.2.2.1).mono ?_
        rintro e v2 ⟨rfl, hb⟩
        have h1 := hS.out.below hb
        clear hb
        clear hS; have hS := Lib.hid h1; clear h1
        go_wp2_with fail
        go_at_call 9
        with_reducible refine (width_lit _ (m := P0) (x := (P0 : Int)) (y := (k : Int)) rfl HP.out.2.2.2.2.1 HP.out.2.2.2.2.2).mono ?_
        rintro e v3 ⟨rfl, hb⟩
        have h1 := hS.out.below hb
        clear hb
        clear hS; have hS := Lib.hid h1; clear h1
        go_wp2_with fail
        go_at_call 7
        with_reducible refine (cost_lit _ (m := P) (x := (P : Int)) (r := rc) rfl HP.out.1 HP0.out HRC.out).mono ?_
        rintro e v4 ho
        obtain ⟨Ac, nc, cc, Ac', nc', cc', rfl, h1⟩ := hS.out.tRE9 (Nat.le_refl _) ho
        clear hS; have hS := Lib.hid h1; clear h1
        have h1 := (hS.out.boxed (vs := [.bool (sg (rc).num), .slice Ac nc cc, .slice Ac' nc' cc']) (ty := 28) rfl rfl)
        try simp only [World.size_alloc] at h1
        obtain ⟨p0_0, p1_0, p2_0⟩ := h1.cs3 0 rfl
        clear h1
        go_wp2_with fail
        clear p0_0 p1_0 p2_0
        generalize hwa : World.alloc v4 _ = v5
        have h1 := (hS.out.boxed (vs := [.bool (sg (rc).num), .slice Ac nc cc, .slice Ac' nc' cc']) (ty := 28) rfl hwa)
        have hsz : v5.heap.size = v4.heap.size + 1 := by rw [← hwa]; simp only [World.size_alloc]
        try rw [← hsz]
        clear hwa hsz
        clear hS; have hS := Lib.hid h1; clear h1
        obtain ⟨x0_0, x1_0, x2_0⟩ := hS.out.cs3 0 rfl
        go_wp2_with fail
        clear x0_0 x1_0 x2_0
        have h1 := hS.out.drew
        clear hS; have hS := Lib.hid h1; clear h1
        try simp only [List.append_eq, List.cons_append, List.nil_append]
        go_region_held3 (fun W => (W.cell? ⟨v4.heap.size, 0, none⟩ = some (.bool (sg (rc).num)) ∧ W.cell? ⟨v4.heap.size, 1, none⟩ = some (.slice Ac nc cc) ∧ W.cell? ⟨v4.heap.size, 2, none⟩ = some (.slice Ac' nc' cc'))) (first | with_reducible exact hS.out.cs3 0 rfl | with_reducible exact hS.out.drew.cs3 0 rfl | with_reducible exact (hS.out.alloc _).cs3 0 rfl | with_reducible exact ((hS.out.alloc _).alloc _).cs3 0 rfl) (first
          | (go_at_call 13; (with_reducible refine (r6of9 hS.out (x := (k : Int)) (by omega) (by omega)).mono ?_); rintro e w' ⟨r, Ai, ni, ci, Ai', ni', ci', hr, rfl, h1⟩; clear hS; have hS := Lib.hid h1; clear h1)
          | (go_at_call 11; (with_reducible refine (is9_told hS.out (by repeat (first | exact List.mem_cons_self | apply List.mem_cons_of_mem)) (by repeat (first | exact List.mem_cons_self | apply List.mem_cons_of_mem)) (by repeat (first | exact List.mem_cons_self | apply List.mem_cons_of_mem)) (by repeat (first | exact List.mem_cons_self | apply List.mem_cons_of_mem)) (by subst_vars; exact HRK.out)).mono ?_); rintro e w' ⟨rfl, h1⟩; clear hS; have hS := Lib.hid h1; clear h1))
        obtain ⟨x0_0, x1_0, x2_0⟩ := hS.out.cs3 0 rfl
        go_wp2
        go_roundw
        case rel => exact ⟨k + 1, by omega, by omega, by go_num, hS.out.st.1⟩
        case measure => simp [intOf]; omega
      · obtain ⟨P, hP⟩ : ∃ P : Nat, 2 ^ k = P := ⟨_, rfl⟩
        have hP9 : P ≤ 2 ^ 63 := by rw [← hP]; exact Nat.pow_le_pow_right (n := 2) (by decide) (by omega)
        have h63 : (2 : Nat) ^ 63 = 9223372036854775808 := by decide
        have hP2 : 2 ≤ P := by rw [← hP]; exact Nat.pow_le_pow_right (n := 2) (by decide) hk1
        have hPi : (2 : Int) ^ k = (P : Int) := by rw [← hP]; exact (Int.natCast_pow 2 k).symm
        have hsh : IntKind.u64.wrap ((2 : Int) ^ min k 64) = (P : Int) := by rw [Nat.min_eq_left (by omega), hPi, IntKind.wrap_u64]; omega
        have hsh2 : IntKind.u64.wrap ((2 : Int) ^ k) = (P : Int) := by rw [hPi, IntKind.wrap_u64]; omega
        have hwp : IntKind.u64.wrap ((P : Int) + 1) = (P : Int) + 1 := by rw [IntKind.wrap_u64]; omega
        have hwk : IntKind.i64.wrap ((k : Int) + 1) = (k : Int) + 1 := by rw [IntKind.wrap_i64]; omega
        obtain ⟨P0, hP0⟩ : ∃ P0 : Nat, P - 1 = P0 := ⟨_, rfl⟩
        have hwm : IntKind.u64.wrap ((P : Int) - 1) = (P0 : Int) := by rw [IntKind.wrap_u64]; omega
        obtain ⟨rc, hrc⟩ : ∃ r, cR P = r := ⟨_, rfl⟩
        have HRC := Lib.hid hrc
        have HRK := Lib.hid (show rc = mkRat (k : Int) 1 by rw [← hrc, ← hP]; exact cR_two hk1)
        have HP0 := Lib.hid (show 0 < P by omega)
        have hkn : ¬ (0 : Int) = (k : Int) := by omega
        have hk0 : ¬ 1 < (k : Int) := by omega
        have HP := Lib.hid (show P < 18446744073709551616 ∧ (wd P : Int) = (k : Int) ∧ P + 1 < 18446744073709551616 ∧ (wd (P + 1) : Int) = (k : Int) + 1 ∧ P0 < 18446744073709551616 ∧ (wd P0 : Int) = 0 from
          ⟨by omega, by rw [← hP, wd_two hk1], by omega, by rw [← hP, wd_more]; simp, by omega, by
            have e : k = 1 := by omega
            have e2 : P0 = 1 := by rw [← hP0, ← hP, e]
            rw [e2]; decide⟩)
        clear hrc hP hP9 h63 hP2 hPi hP0
        have hS := Lib.hid (SC.of_blocks (T := []) hbw (fun q hq => by cases hq) (fun q hq => by cases hq) List.nodup_nil)
        clear hbw
        go_wp2_with fail
        go_at_call 9
        with_reducible refine (width_lit _ (m := P) (x := (P : Int)) (y := (k : Int)) rfl HP.out.1 HP.out.2.1).mono ?_
        rintro e v1 ⟨rfl, hb⟩
        have h1 := hS.out.below hb
        clear hb
        clear hS; have hS := Lib.hid h1; clear h1
        go_wp2_with fail
        go_at_call 9
        with_reducible refine (width_lit _ (m := P + 1) (x := (P : Int) + 1) (y := (k : Int) + 1) (by simp) HP.out.2.2.1 HP.out.2.2.2.1).mono ?_
        rintro e v2 ⟨rfl, hb⟩
        have h1 := hS.out.below hb
        clear hb
        clear hS; have hS := Lib.hid h1; clear h1
        go_wp2_with fail
        go_at_call 9
        with_reducible refine (width_lit _ (m := P0) (x := (P0 : Int)) (y := 0) rfl HP.out.2.2.2.2.1 HP.out.2.2.2.2.2).mono ?_
        rintro e v3 ⟨rfl, hb⟩
        have h1 := hS.out.below hb
        clear hb
        clear hS; have hS := Lib.hid h1; clear h1
        go_wp2_with fail
        go_at_call 7
        with_reducible refine (cost_lit _ (m := P) (x := (P : Int)) (r := rc) rfl HP.out.1 HP0.out HRC.out).mono ?_
        rintro e v4 ho
        obtain ⟨Ac, nc, cc, Ac', nc', cc', rfl, h1⟩ := hS.out.tRE9 (Nat.le_refl _) ho
        clear hS; have hS := Lib.hid h1; clear h1
        have h1 := (hS.out.boxed (vs := [.bool (sg (rc).num), .slice Ac nc cc, .slice Ac' nc' cc']) (ty := 28) rfl rfl)
        try simp only [World.size_alloc] at h1
        obtain ⟨p0_0, p1_0, p2_0⟩ := h1.cs3 0 rfl
        clear h1
        go_wp2_with fail
        clear p0_0 p1_0 p2_0
        generalize hwa : World.alloc v4 _ = v5
        have h1 := (hS.out.boxed (vs := [.bool (sg (rc).num), .slice Ac nc cc, .slice Ac' nc' cc']) (ty := 28) rfl hwa)
        have hsz : v5.heap.size = v4.heap.size + 1 := by rw [← hwa]; simp only [World.size_alloc]
        try rw [← hsz]
        clear hwa hsz
        clear hS; have hS := Lib.hid h1; clear h1
        obtain ⟨x0_0, x1_0, x2_0⟩ := hS.out.cs3 0 rfl
        go_wp2_with fail
        clear x0_0 x1_0 x2_0
        have h1 := hS.out.drew
        clear hS; have hS := Lib.hid h1; clear h1
        try simp only [List.append_eq, List.cons_append, List.nil_append]
        go_region_held3 (fun W => (W.cell? ⟨v4.heap.size, 0, none⟩ = some (.bool (sg (rc).num)) ∧ W.cell? ⟨v4.heap.size, 1, none⟩ = some (.slice Ac nc cc) ∧ W.cell? ⟨v4.heap.size, 2, none⟩ = some (.slice Ac' nc' cc'))) (first | with_reducible exact hS.out.cs3 0 rfl | with_reducible exact hS.out.drew.cs3 0 rfl | with_reducible exact (hS.out.alloc _).cs3 0 rfl | with_reducible exact ((hS.out.alloc _).alloc _).cs3 0 rfl) (first
          | (go_at_call 13; (with_reducible refine (r6of9 hS.out (x := (k : Int)) (by omega) (by omega)).mono ?_); rintro e w' ⟨r, Ai, ni, ci, Ai', ni', ci', hr, rfl, h1⟩; clear hS; have hS := Lib.hid h1; clear h1)
          | (go_at_call 11; (with_reducible refine (is9_told hS.out (by repeat (first | exact List.mem_cons_self | apply List.mem_cons_of_mem)) (by repeat (first | exact List.mem_cons_self | apply List.mem_cons_of_mem)) (by repeat (first | exact List.mem_cons_self | apply List.mem_cons_of_mem)) (by repeat (first | exact List.mem_cons_self | apply List.mem_cons_of_mem)) (by subst_vars; exact HRK.out)).mono ?_); rintro e w' ⟨rfl, h1⟩; clear hS; have hS := Lib.hid h1; clear h1))
        obtain ⟨x0_0, x1_0, x2_0⟩ := hS.out.cs3 0 rfl
        go_wp2
        go_roundw
        case rel => exact ⟨k + 1, by omega, by omega, by go_num, hS.out.st.1⟩
        case measure => simp [intOf]; omega
    · obtain rfl : k = 64 := by omega
      have h9 : CS w wr [] := (CS.start w).below hbw
      have hS := Lib.hid h9
      clear h9 hbw hk hk1 hlt
      have HB1 := Lib.hid (show isB [49, 49, 48, 49, 49, 49, 49, 49, 49, 48] = true by decide)
      have HBE := Lib.hid (show isB [] = true by decide)
      go_wp2_with fail
      go_at_call 7
      refine (cost9_z hS.out).mono ?_
      rintro e v41 ⟨rfl, h1⟩
      have h2 : CS w v41 [] := h1
      clear hS h1; have hS := Lib.hid h2; clear h2
      go_wp2_with fail
      go_at_call 14
      refine (new_s (l := [49, 49, 48, 49, 49, 49, 49, 49, 49, 48]) (hS.out.below ((Below.refl _ _).alloc (Nat.le_refl _) _)) HB1.out).mono ?_
      rintro e v42 ⟨g, rfl, h1⟩
      have h2 : CS w v42 [K g [49, 49, 48, 49, 49, 49, 49, 49, 49, 48] 0 false] := h1
      clear hS h1; have hS := Lib.hid h2; clear h2
      go_wp2_with fail
      go_at_call 15
      refine (draw9 (l := [49, 49, 48, 49, 49, 49, 49, 49, 49, 48]) (a := 0) (o := false) (m := 0) (v := 0) (gd := false) (a2 := 0) (o2 := false) (x := 0) (y := 0) hS.out 0 rfl HB1.out (by decide) (by decide) rfl rfl (by decide +kernel)).mono ?_
      rintro e v43 ⟨rfl, h1⟩
      have h2 : CS w v43 [K g [49, 49, 48, 49, 49, 49, 49, 49, 49, 48] 0 false] := h1
      clear hS h1; have hS := Lib.hid h2; clear h2
      go_wp2_with fail
      go_at_call 16
      refine (at9 (x := 0) hS.out 0 rfl rfl).mono ?_
      rintro e v44 ⟨rfl, h1⟩
      have h2 : CS w v44 [K g [49, 49, 48, 49, 49, 49, 49, 49, 49, 48] 0 false] := h1
      clear hS h1; have hS := Lib.hid h2; clear h2
      go_wp2_with fail
      go_at_call 15
      refine (draw9 (l := [49, 49, 48, 49, 49, 49, 49, 49, 49, 48]) (a := 0) (o := false) (m := 1) (v := 0) (gd := true) (a2 := 0) (o2 := false) (x := 1) (y := 0) hS.out 0 rfl HB1.out (by decide) (by decide) rfl rfl (by decide +kernel)).mono ?_
      rintro e v45 ⟨rfl, h1⟩
      have h2 : CS w v45 [K g [49, 49, 48, 49, 49, 49, 49, 49, 49, 48] 0 false] := h1
      clear hS h1; have hS := Lib.hid h2; clear h2
      go_wp2_with fail
      go_at_call 15
      refine (draw9 (l := [49, 49, 48, 49, 49, 49, 49, 49, 49, 48]) (a := 0) (o := false) (m := 6) (v := 0) (gd := false) (a2 := 9) (o2 := true) (x := 6) (y := 0) hS.out 0 rfl HB1.out (by decide) (by decide) rfl rfl (by decide +kernel)).mono ?_
      rintro e v46 ⟨rfl, h1⟩
      have h2 : CS w v46 [K g [49, 49, 48, 49, 49, 49, 49, 49, 49, 48] 9 true] := h1
      clear hS h1; have hS := Lib.hid h2; clear h2
      go_wp2_with fail
      go_at_call 15
      refine (draw9 (l := [49, 49, 48, 49, 49, 49, 49, 49, 49, 48]) (a := 9) (o := true) (m := 1) (v := 0) (gd := false) (a2 := 9) (o2 := true) (x := 1) (y := 0) hS.out 0 rfl HB1.out (by decide) (by decide) rfl rfl (by decide +kernel)).mono ?_
      rintro e v47 ⟨rfl, h1⟩
      have h2 : CS w v47 [K g [49, 49, 48, 49, 49, 49, 49, 49, 49, 48] 9 true] := h1
      clear hS h1; have hS := Lib.hid h2; clear h2
      go_wp2_with fail
      go_at_call 15
      refine (draw9_nil hS.out).mono ?_
      rintro e v48 ⟨rfl, h1⟩
      have h2 : CS w v48 [K g [49, 49, 48, 49, 49, 49, 49, 49, 49, 48] 9 true] := h1
      clear hS h1; have hS := Lib.hid h2; clear h2
      go_wp2_with fail
      generalize hwa : World.alloc v48 _ = v49
      obtain ⟨f, hf⟩ : ∃ f, v48.heap.size = f := ⟨_, rfl⟩
      have h2 : CS w v49 [K f [] 0 false, K g [49, 49, 48, 49, 49, 49, 49, 49, 49, 48] 9 true] := by
        rw [← hwa, ← hf]
        exact hS.out.new (q := K v48.heap.size [] 0 false) ((Below.refl _ _).alloc (Nat.le_refl _) _) (heap_alloc_new _ _) (Nat.le_refl _)
      rw [hf]
      clear hwa hf hS; have hS := Lib.hid h2; clear h2
      go_at_call 15
      refine (draw9 (l := []) (a := 0) (o := false) (m := 1) (v := 0) (gd := true) (a2 := 0) (o2 := false) (x := 1) (y := 0) hS.out 0 rfl HBE.out (by decide) (by decide) rfl rfl (by decide +kernel)).mono ?_
      rintro e v50 ⟨rfl, h1⟩
      have h2 : CS w v50 [K f [] 0 false, K g [49, 49, 48, 49, 49, 49, 49, 49, 49, 48] 9 true] := h1
      clear hS h1; have hS := Lib.hid h2; clear h2
      go_wp2_with fail
      go_loopw [21, 22] (fun os i wr => ∃ k : Nat, k ≤ 1024 ∧ os = .string ⟨(List.replicate k (49 : UInt8)).toArray⟩ ∧ i = .int .i64 (k : Nat) ∧ CS w wr [K f [] 0 false, K g [49, 49, 48, 49, 49, 49, 49, 49, 49, 48] 9 true]) (fun _ i _ => 1024 - (intOf i).toNat)
      case atStart => exact ⟨0, by omega, rfl, rfl, hS.out⟩
      case round =>
        obtain ⟨k, hk, rfl, rfl, hS0⟩ := hrel
        clear hS
        have hS := Lib.hid hS0
        clear hS0
        by_cases hlt : k < 1024
        · obtain ⟨p, hp⟩ : ∃ p, List.replicate k (49 : UInt8) = p := ⟨_, rfl⟩
          have np : p.length ≤ 1024 := by rw [← hp, List.length_replicate]; omega
          have hap : (⟨p.toArray⟩ : ByteArray) ++ ⟨([49] : List UInt8).toArray⟩ = ⟨(List.replicate (k + 1) (49 : UInt8)).toArray⟩ := by
            rw [List.replicate_succ', ← hp]; exact ByteArray.mk_append_mk _ [49]
          obtain ⟨p2, hp2⟩ : ∃ p, List.replicate (k + 1) (49 : UInt8) = p := ⟨_, rfl⟩
          rw [hp2] at hap
          rw [hp]
          have HP2 := Lib.hid hp2
          clear hp hp2
          go_wp2
          go_roundw
          case rel => exact ⟨k + 1, by omega, by rw [HP2.out], by go_num, hS.out⟩
          case measure => simp [intOf]; omega
        · obtain rfl : k = 1024 := by omega
          obtain ⟨l, hl⟩ : ∃ l : List UInt8, List.replicate 1024 49 = l := ⟨_, rfl⟩
          have HBL := Lib.hid (show isB l = true by rw [isB_iff, ← hl]; exact ⟨by rw [List.length_replicate]; omega, bitsL_rep 1024 rfl⟩)
          have HLN := Lib.hid (show l.length = 1024 by rw [← hl, List.length_replicate])
          have HD3 := Lib.hid (show dr l 0 false 3 = (0, false, 1024, true) by rw [← hl]; exact dr_ones (q := 512) (by decide) (by decide +kernel) (by decide +kernel) (by decide +kernel) (by decide))
          have HD64 := Lib.hid (show dr l 0 false 18446744073709551615 = (0, false, 1024, true) by rw [← hl]; exact dr_ones (q := 16) (by decide) (by decide +kernel) (by decide +kernel) (by decide +kernel) (by decide))
          have HD63 := Lib.hid (show dr l 1024 true 9223372036854775808 = (0, false, 1024, true) from dr_no (.inr rfl))
          rw [hl]
          clear hl hk hlt
          go_wp2_with fail
          go_at_call 14
          refine (new_s (l := l) hS.out HBL.out).mono ?_
          rintro e v81 ⟨g3, rfl, h1⟩
          have h2 : CS w v81 [K g3 l 0 false, K f [] 0 false, K g [49, 49, 48, 49, 49, 49, 49, 49, 49, 48] 9 true] := h1
          clear hS h1; have hS := Lib.hid h2; clear h2
          go_wp2_with fail
          go_at_call 15
          refine (draw9 (l := l) (a := 0) (o := false) (m := 3) (v := 0) (gd := false) (a2 := 1024) (o2 := true) (x := 3) (y := 0) hS.out 0 rfl HBL.out (Nat.zero_le _) (by decide) rfl rfl HD3.out).mono ?_
          rintro e v82 ⟨rfl, h1⟩
          have h2 : CS w v82 [K g3 l 1024 true, K f [] 0 false, K g [49, 49, 48, 49, 49, 49, 49, 49, 49, 48] 9 true] := h1
          clear hS h1; have hS := Lib.hid h2; clear h2
          go_wp2_with fail
          go_at_call 14
          refine (new_s (l := l) hS.out HBL.out).mono ?_
          rintro e v83 ⟨g4, rfl, h1⟩
          have h2 : CS w v83 [K g4 l 0 false, K g3 l 1024 true, K f [] 0 false, K g [49, 49, 48, 49, 49, 49, 49, 49, 49, 48] 9 true] := h1
          clear hS h1; have hS := Lib.hid h2; clear h2
          go_wp2_with fail
          go_at_call 15
          refine (draw9 (l := l) (a := 0) (o := false) (m := 18446744073709551615) (v := 0) (gd := false) (a2 := 1024) (o2 := true) (x := 18446744073709551615) (y := 0) hS.out 0 rfl HBL.out (Nat.zero_le _) (by decide) rfl rfl HD64.out).mono ?_
          rintro e v84 ⟨rfl, h1⟩
          have h2 : CS w v84 [K g4 l 1024 true, K g3 l 1024 true, K f [] 0 false, K g [49, 49, 48, 49, 49, 49, 49, 49, 49, 48] 9 true] := h1
          clear hS h1; have hS := Lib.hid h2; clear h2
          go_wp2_with fail
          go_at_call 15
          refine (draw9 (l := l) (a := 1024) (o := true) (m := 9223372036854775808) (v := 0) (gd := false) (a2 := 1024) (o2 := true) (x := 9223372036854775808) (y := 0) hS.out 0 rfl HBL.out (by rw [HLN.out]; decide) (by decide) rfl rfl HD63.out).mono ?_
          rintro e v85 ⟨rfl, h1⟩
          have h2 : CS w v85 [K g4 l 1024 true, K g3 l 1024 true, K f [] 0 false, K g [49, 49, 48, 49, 49, 49, 49, 49, 49, 48] 9 true] := h1
          clear hS h1; have hS := Lib.hid h2; clear h2
          go_wp2_with fail
          go_at_call 9
          refine (width9 (m := 0) (x := 0) (y := 0) hS.out rfl (by decide) (by decide +kernel)).mono ?_
          rintro e v86 ⟨rfl, h1⟩
          have h2 : CS w v86 [K g4 l 1024 true, K g3 l 1024 true, K f [] 0 false, K g [49, 49, 48, 49, 49, 49, 49, 49, 49, 48] 9 true] := h1
          clear hS h1; have hS := Lib.hid h2; clear h2
          go_wp2_with fail
          go_at_call 9
          refine (width9 (m := 1) (x := 1) (y := 0) hS.out rfl (by decide) (by decide +kernel)).mono ?_
          rintro e v87 ⟨rfl, h1⟩
          have h2 : CS w v87 [K g4 l 1024 true, K g3 l 1024 true, K f [] 0 false, K g [49, 49, 48, 49, 49, 49, 49, 49, 49, 48] 9 true] := h1
          clear hS h1; have hS := Lib.hid h2; clear h2
          go_wp2_with fail
          go_at_call 9
          refine (width9 (m := 18446744073709551615) (x := 18446744073709551615) (y := 64) hS.out rfl (by decide) (by decide +kernel)).mono ?_
          rintro e v88 ⟨rfl, h1⟩
          have h2 : CS w v88 [K g4 l 1024 true, K g3 l 1024 true, K f [] 0 false, K g [49, 49, 48, 49, 49, 49, 49, 49, 49, 48] 9 true] := h1
          clear hS h1; have hS := Lib.hid h2; clear h2
          go_wp2_with fail
          go_at_call 17
          refine (cover_s hS.out 3 rfl).mono ?_
          rintro e v89 ⟨rfl, h1⟩
          have h2 : CS w v89 [K g4 l 1024 true, K g3 l 1024 true, K f [] 0 false, K g [49, 49, 48, 49, 49, 49, 49, 49, 49, 48] 9 true] := h1
          clear hS h1; have hS := Lib.hid h2; clear h2
          go_wp2_with fail
          go_at_call 16
          refine (at9 (x := 9) hS.out 3 rfl rfl).mono ?_
          rintro e v90 ⟨rfl, h1⟩
          have h2 : CS w v90 [K g4 l 1024 true, K g3 l 1024 true, K f [] 0 false, K g [49, 49, 48, 49, 49, 49, 49, 49, 49, 48] 9 true] := h1
          clear hS h1; have hS := Lib.hid h2; clear h2
          go_wp2_with fail
          go_at_call 16
          refine (at9 (x := 1024) hS.out 1 rfl rfl).mono ?_
          rintro e v91 ⟨rfl, h1⟩
          have h2 : CS w v91 [K g4 l 1024 true, K g3 l 1024 true, K f [] 0 false, K g [49, 49, 48, 49, 49, 49, 49, 49, 49, 48] 9 true] := h1
          clear hS h1; have hS := Lib.hid h2; clear h2
          go_wp2_with fail
          go_at_call 17
          refine (cover_s hS.out 1 rfl).mono ?_
          rintro e v92 ⟨rfl, h1⟩
          have h2 : CS w v92 [K g4 l 1024 true, K g3 l 1024 true, K f [] 0 false, K g [49, 49, 48, 49, 49, 49, 49, 49, 49, 48] 9 true] := h1
          clear hS h1; have hS := Lib.hid h2; clear h2
          go_wp2_with fail
          go_at_call 17
          refine (cover_s hS.out 0 rfl).mono ?_
          rintro e v93 ⟨rfl, h1⟩
          have h2 : CS w v93 [K g4 l 1024 true, K g3 l 1024 true, K f [] 0 false, K g [49, 49, 48, 49, 49, 49, 49, 49, 49, 48] 9 true] := h1
          clear hS h1; have hS := Lib.hid h2; clear h2
          go_wp2_with fail
          go_at_call 16
          refine (at9 (x := 1024) hS.out 0 rfl rfl).mono ?_
          rintro e v94 ⟨rfl, h1⟩
          have h2 : CS w v94 [K g4 l 1024 true, K g3 l 1024 true, K f [] 0 false, K g [49, 49, 48, 49, 49, 49, 49, 49, 49, 48] 9 true] := h1
          clear hS h1; have hS := Lib.hid h2; clear h2
          go_wp2
          go_ret
          exact ⟨rfl, hS.out.bl⟩
set_option maxRecDepth 100000 in
theorem lifted (os : Os) (started : os.Started) (H : Type) (enc : TypeId × Value → H) :
    ReturnsInHanded {} Tryz.checked os 4 .any (fun w args => (Rows.belowNamesSpec.pre enc Tryz.prog Tryz.f4 Rows.belowNamesRow.domain false w args ∧ laidMetH Tryz.prog Rows.belowNamesRow.laid w) ∧ sizedMet enc Tryz.prog Tryz.f4 (OpenSpec.ofChange Rows.belowNamesSpec) false w args) (Rows.belowNamesSpec.post enc Tryz.prog Tryz.f4 false true false false) := by
  refine returnsInHanded_of_change_and (C := Tryz.checked) (X := fun w _ => laidMetH Tryz.prog Rows.belowNamesRow.laid w) (fun _ _ _ hh h => h.of_heap hh) own started (by kernel_rfl) Tryz.func4
    (ChangeSpec.witness_shaped (enc := enc) (C := Tryz.checked) (os := os) (X := fun w _ => laidMetH Tryz.prog Rows.belowNamesRow.laid w) false (World.laidAll Tryz.prog os Rows.belowNamesRow.laid) #[] 8 (World.laidAll_os _ _ _)
      (World.shaped_of_ZipB (by kernel_rfl) (by kernel_rfl)) (by kernel_rfl) (by kernel_rfl) (by kernel_rfl)
      (by rw [MakeChecks.laidMetH_plain _ _ _ (by kernel_rfl)]; exact laidMet_laidAll _ (by kernel_rfl) (by kernel_rfl))) ?_
  intro W base args ds gs before hval0 hW hcnd _ _ _
  have hval : ∀ (j : Nat) t v, Tryz.f4.params[j]? = some t → args[j]? = some v → Value.okWide Tryz.prog W .any base t v := hval0
  have hW' := hW
  obtain ⟨p, q, hA0, hV, hpq, hfz, hnd⟩ := hW
  have hA : DataW.TrodAll enc Tryz.prog W 0 (fun _ => true) true Tryz.f4.params.toList args.toList ds p := hA0
  rw [Tryz.params4] at hA hval
  obtain ⟨hargs, rfl, rfl⟩ := trodAll_nil hA
  obtain rfl : args = #[] := by cases args; simp_all
  obtain ⟨rfl, rfl⟩ := trodVars_none hV
  refine (walk W ).mono fun e W' ⟨he, hb⟩ => ?_
  subst he
  exact ⟨_, rfl, Frame.close laidOut hW' rfl rfl rfl Tryz.underlying4 (fun t ht => by rw [Tryz.params4] at ht; cases ht) hb⟩
theorem over : Rows.belowNamesRow.holds Tryz.pinned (OpenSpec.ofChange Rows.belowNamesSpec) :=
  OpenClaim.holds_of_wide 4 Tryz.f4 rfl rfl rfl rfl rfl rfl rfl ⟨rfl, rfl, rfl, rfl, rfl⟩ rfl rfl rfl rfl rfl (by kernel_rfl) Tryz.func4 (by kernel_rfl)
    (of_decide_eq_true (by kernel_rfl)) (by unfold Func.isWrapper; first | (rw [if_pos (by decide +kernel)]; kernel_rfl) | (rw [if_neg (by decide +kernel)]; exact ⟨rfl, rfl⟩))
    (fun os started H enc _ => lifted os started H enc)
/-- the statement -/
theorem proved : Rows.BelowNamesCardSaid :=
  Claim7.holds_tied_plain_at .later [] _ _ _ _ over (fun _ h => by cases h) (by kernel_rfl) (fun _ h => by cases h) belowNames_row_tie rfl ⟨rfl, rfl⟩ (by kernel_rfl) rfl
    (fun f fn hf hfn => by
      obtain rfl : f = 4 := Option.some.inj ((show Tryz.prog.funcNamed "tombola/tombolalaw09.BelowNames" = some 4 by kernel_rfl).symm.trans hf) |>.symm
      obtain rfl : fn = Tryz.f4 := (Option.some.inj (Tryz.func4.symm.trans hfn)).symm
      exact ⟨by kernel_rfl, (fun j t ht => by rw [Tryz.params4] at ht; cases ht)⟩)
    (by kernel_rfl)
#print axioms proved
end Go.Proofs.YtfmhghemlcbapaaGreatDoor.belowNames
