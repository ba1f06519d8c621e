/-
  PROVED: the statement WordNames (tombolalaw01.WordNames) about the landed commit: for every input the law returns true and leaves its arguments as they were. Conditions: none beyond those that the given row itself prints.
  The frame is the kit's shell (proof-skeleton.mjs) at this function; the walk is ours.
-/
import Derived.Test.YtimddcledipekaaRows
import Derived.WalkKit
import Derived.ProofKit
import Derived.OpenShut
import Derived.RowKit3
import Derived.Test.YtimddcledipekaaWordAwake
import Derived.Test.YtimddcledipekaaWordLawMath
import Derived.Deep.RegionWith
import Derived.Deep.CutBlock
import Derived.Deep.DeepCutAuto
namespace Go.Proofs.Ytimddcledipekaa.wordNames
open Go.ChangeShapes Go.WideShapes Go.ChangeAt Go.RowKit
set_option linter.unusedVariables false      -- a walk need not use every 'w<i>' (that an integer argument fits its kind)

theorem own : ownKnob Try.prog.godebug = none := by kernel_rfl

/-- a table of rows of five words in one block, of each of which P holds -/
def Rows5 (B n : Nat) (P : Int → Int → Int → Int → Int → Prop) (w : World) : Prop :=
  ∀ k, k < n → ∃ a b c s x : Int, W.Wd a ∧ W.Wd b ∧ W.Wd c ∧ P a b c s x ∧ w.cell? ⟨B, k * 5, none⟩ = some (.int .u64 a) ∧ w.cell? ⟨B, k * 5 + 1, none⟩ = some (.int .u64 b) ∧ w.cell? ⟨B, k * 5 + 2, none⟩ = some (.int .u64 c) ∧ w.cell? ⟨B, k * 5 + 3, none⟩ = some (.int .u64 s) ∧ w.cell? ⟨B, k * 5 + 4, none⟩ = some (.int .u64 x)
def SumRow (a b c s x : Int) : Prop := W.addS a b c = s ∧ W.addC a b c = x
def DiffRow (a b c s x : Int) : Prop := W.subS a b c = s ∧ W.subC a b c = x
theorem Rows5.alloc {B n : Nat} {P : Int → Int → Int → Int → Int → Prop} {w : World} (h : Rows5 B n P w) (hB : B < w.heap.size) (o : Obj) : Rows5 B n P (w.alloc o) := by
  intro k hk
  obtain ⟨a, b, c, s, x, h1, h2, h3, h4, h5, h6, h7, h8, h9⟩ := h k hk
  exact ⟨a, b, c, s, x, h1, h2, h3, h4, by rw [World.cell?_alloc_past _ _ _ hB]; exact h5, by rw [World.cell?_alloc_past _ _ _ hB]; exact h6, by rw [World.cell?_alloc_past _ _ _ hB]; exact h7, by rw [World.cell?_alloc_past _ _ _ hB]; exact h8, by rw [World.cell?_alloc_past _ _ _ hB]; exact h9⟩
theorem rows_of (w : World) (C : Array Value) (t : TypeId) (n : Nat) (P : Int → Int → Int → Int → Int → Prop)
    (h : ∀ k, k < n → ∃ a b c s x : Int, W.Wd a ∧ W.Wd b ∧ W.Wd c ∧ P a b c s x ∧ C[k * 5]? = some (.int .u64 a) ∧ C[k * 5 + 1]? = some (.int .u64 b) ∧ C[k * 5 + 2]? = some (.int .u64 c) ∧ C[k * 5 + 3]? = some (.int .u64 s) ∧ C[k * 5 + 4]? = some (.int .u64 x)) :
    Rows5 w.heap.size n P (w.alloc (.cells C t)) := by
  intro k hk
  obtain ⟨a, b, c, s, x, h1, h2, h3, h4, h5, h6, h7, h8, h9⟩ := h k hk
  exact ⟨a, b, c, s, x, h1, h2, h3, h4, by rw [World.cell?_alloc_new]; exact h5, by rw [World.cell?_alloc_new]; exact h6, by rw [World.cell?_alloc_new]; exact h7, by rw [World.cell?_alloc_new]; exact h8, by rw [World.cell?_alloc_new]; exact h9⟩
theorem len_pow (k : Nat) (hk : k < 64) : W.len (2 ^ k) = k + 1 ∧ W.len (2 ^ k - 1) = k ∧ W.Wd (2 ^ k) ∧ W.Wd (2 ^ k - 1) := by
  have hp := W.pow_pos k
  have hw := W.two_pow_wd (k := (k : Int)) (by omega) (by omega)
  rw [Int.toNat_natCast] at hw
  have e1 : (2 : Int) ^ k = ((2 ^ k : Nat) : Int) := (W.cast_pow k).symm
  have n1 := Nat.two_pow_pos k
  refine ⟨?_, ?_, hw, by unfold W.Wd at *; omega⟩
  · unfold W.len
    rw [e1, Int.toNat_natCast, W.lenN_of (2 ^ k) (k + 1) (Nat.pow_lt_pow_right (by omega) (by omega)) (Or.inr (by simp))]
    rfl
  · unfold W.len
    rw [e1, show (((2 ^ k : Nat) : Int) - 1).toNat = 2 ^ k - 1 by omega, W.lenN_of (2 ^ k - 1) k (by omega) ?_]
    rcases Nat.eq_zero_or_pos k with h | h
    · exact Or.inl h
    · right
      have e2 : 2 ^ k = 2 * 2 ^ (k - 1) := by rw [show k = k - 1 + 1 by omega, Nat.pow_succ]; simp; omega
      have := Nat.two_pow_pos (k - 1)
      omega
theorem len_pow' (k : Nat) (hk : k < 64) : ∃ p : Int, IntKind.u64.wrap (2 ^ k) = p ∧ 1 ≤ p ∧ p < 18446744073709551616 ∧ 0 ≤ p - 1 ∧
    (∀ w, Calls Try.prog 25 #[.int .u64 p] w fun e w' => e = .returned (.int .i64 ((k : Int) + 1)) ∧ w' = w) ∧
    (∀ w, Calls Try.prog 25 #[.int .u64 (p - 1)] w fun e w' => e = .returned (.int .i64 (k : Int)) ∧ w' = w) := by
  obtain ⟨e1, e2, h1, h2⟩ := len_pow k hk
  have hp := W.pow_pos k
  refine ⟨2 ^ k, IntWalk.u64_in _ (by unfold W.Wd at h1; omega), by omega, h1.2, h2.1, fun w => ?_, fun w => ?_⟩
  · exact (len_any _ h1 w).mono fun e w' ⟨g1, g2⟩ => ⟨by rw [g1, e1], g2⟩
  · exact (len_any _ h2 w).mono fun e w' ⟨g1, g2⟩ => ⟨by rw [g1, e2], g2⟩
theorem nm_div1 (w : World) : Calls Try.prog 19 #[.int .u64 18446744073709551614, .int .u64 18446744073709551615, .int .u64 18446744073709551615] w fun e w' => e = .returned (.tuple #[.int .u64 18446744073709551615, .int .u64 18446744073709551614, .int .i64 0]) ∧ ∃ k, w' = w.drewN k := by
  refine (div_any _ _ _ (by unfold W.Wd; omega) (by unfold W.Wd; omega) (by unfold W.Wd; omega) (by omega) w).mono fun e w' ⟨h1, h2⟩ => ⟨?_, h2⟩
  rw [h1]; exact ret3 (by unfold W.divQ; omega) (by unfold W.divR; omega) rfl
theorem nm_div2 (w : World) : Calls Try.prog 19 #[.int .u64 18446744073709551615, .int .u64 0, .int .u64 18446744073709551615] w fun e w' => e = .returned (.tuple #[.int .u64 0, .int .u64 0, .int .i64 5]) ∧ ∃ k, w' = w.drewN k := by
  refine (div_long _ _ _ (by unfold W.Wd; omega) (by unfold W.Wd; omega) (by unfold W.Wd; omega) (by omega) (by omega) w).mono fun e w' ⟨h1, h2⟩ => ⟨?_, 0, h2⟩
  exact h1
theorem nm_div3 (w : World) : Calls Try.prog 19 #[.int .u64 5, .int .u64 5, .int .u64 0] w fun e w' => e = .returned (.tuple #[.int .u64 0, .int .u64 0, .int .i64 7]) ∧ ∃ k, w' = w.drewN k := by
  refine (div_zero _ _ (by unfold W.Wd; omega) (by unfold W.Wd; omega) w).mono fun e w' ⟨h1, h2⟩ => ⟨?_, 0, h2⟩
  exact h1
theorem nm_shl64 (w : World) : Calls Try.prog 21 #[.int .u64 18446744073709551615, .int .i64 64] w fun e w' => e = .returned (.tuple #[.int .u64 18446744073709551615, .int .u64 0, .int .i64 0]) ∧ ∃ k, w' = w.drewN k := by
  refine (shl_yes _ _ (by unfold W.Wd; omega) (by omega) (by omega) w).mono fun e w' ⟨h1, h2⟩ => ⟨?_, h2⟩
  rw [h1]; exact ret3 (by decide) (by decide) rfl
theorem nm_shl0 (w : World) : Calls Try.prog 21 #[.int .u64 18446744073709551615, .int .i64 0] w fun e w' => e = .returned (.tuple #[.int .u64 0, .int .u64 18446744073709551615, .int .i64 0]) ∧ ∃ k, w' = w.drewN k := by
  refine (shl_yes _ _ (by unfold W.Wd; omega) (by omega) (by omega) w).mono fun e w' ⟨h1, h2⟩ => ⟨?_, h2⟩
  rw [h1]; exact ret3 (by decide) (by decide) rfl
theorem nm_shr64 (w : World) : Calls Try.prog 23 #[.int .u64 18446744073709551615, .int .u64 0, .int .i64 64] w fun e w' => e = .returned (.tuple #[.int .u64 18446744073709551615, .int .i64 0]) ∧ ∃ k, w' = w.drewN k := by
  refine (shr_yes _ _ _ (by unfold W.Wd; omega) (by unfold W.Wd; omega) (by omega) (by omega) w).mono fun e w' ⟨h1, h2⟩ => ⟨?_, h2⟩
  rw [h1]; exact ret2' (by decide) rfl
theorem nm_shr1 (w : World) : Calls Try.prog 23 #[.int .u64 1, .int .u64 0, .int .i64 1] w fun e w' => e = .returned (.tuple #[.int .u64 9223372036854775808, .int .i64 0]) ∧ ∃ k, w' = w.drewN k := by
  refine (shr_yes _ _ _ (by unfold W.Wd; omega) (by unfold W.Wd; omega) (by omega) (by omega) w).mono fun e w' ⟨h1, h2⟩ => ⟨?_, h2⟩
  rw [h1]; exact ret2' (by decide) rfl
theorem nm_shlm (w : World) : Calls Try.prog 21 #[.int .u64 1, .int .i64 (-1)] w fun e w' => e = .returned (.tuple #[.int .u64 0, .int .u64 0, .int .i64 1]) ∧ ∃ k, w' = w.drewN k := by
  refine (shl_no _ _ (by omega) w).mono fun e w' ⟨h1, h2⟩ => ⟨?_, 0, h2⟩
  exact h1
theorem nm_shr65 (w : World) : Calls Try.prog 23 #[.int .u64 1, .int .u64 1, .int .i64 65] w fun e w' => e = .returned (.tuple #[.int .u64 0, .int .i64 1]) ∧ ∃ k, w' = w.drewN k := by
  refine (shr_no _ _ _ (by omega) w).mono fun e w' ⟨h1, h2⟩ => ⟨?_, 0, h2⟩
  exact h1
theorem nm_shrm (w : World) : Calls Try.prog 23 #[.int .u64 1, .int .u64 1, .int .i64 (-9223372036854775808)] w fun e w' => e = .returned (.tuple #[.int .u64 0, .int .i64 1]) ∧ ∃ k, w' = w.drewN k := by
  refine (shr_no _ _ _ (by omega) w).mono fun e w' ⟨h1, h2⟩ => ⟨?_, 0, h2⟩
  exact h1
set_option maxRecDepth 100000 in
set_option maxHeartbeats 8000000 in
theorem names_any (w : World) : Calls Try.prog 6 #[] w fun e w' => e = .returned (.bool true) ∧ Grown w w' := by
  go_enter Try.func6, Try.ntmps6
  go_upto_block 0 with ((go_at_call 16; refine (awake_any _).mono ?_; rintro e w' ⟨rfl, k, rfl⟩))
  go_cut [0] (fun r wx => r = .bool false ∧ Grown w wx)
  case first =>
    go_wp2
    go_loopw [0, 53] (fun r i wr => r = .bool false ∧ ∃ k : Nat, k ≤ 7 ∧ i = .int .i64 k ∧ Rows5 w.heap.size 7 SumRow wr ∧ Grown w wr ∧ w.heap.size < wr.heap.size) (fun _ i _ => 7 - (intOf i).toNat)
    case atStart =>
      refine ⟨rfl, 0, Nat.zero_le _, rfl, rows_of _ _ _ _ _ ?_, Grown.alloc (Grown.refl _) _ _, by simp⟩
      intro k hk
      rcases (show k = 0 ∨ k = 1 ∨ k = 2 ∨ k = 3 ∨ k = 4 ∨ k = 5 ∨ k = 6 by omega) with rfl | rfl | rfl | rfl | rfl | rfl | rfl
      all_goals
        refine ⟨_, _, _, _, _, ?_, ?_, ?_, ?_, rfl, rfl, rfl, rfl, rfl⟩
        all_goals first | (unfold W.Wd; omega) | (unfold SumRow W.addS W.addC; omega) | (unfold DiffRow W.subS W.subC; omega)
    case round =>
      obtain ⟨rfl, k, hk, rfl, hT, hG, hsz⟩ := hrel
      by_cases hlt : k < 7
      · obtain ⟨a, b, c, s, x, ha, hb, hc, ⟨e1, e2⟩, c0, c1, c2, c3, c4⟩ := hT k hlt
        have HT := Lib.hid hT
        clear hT
        go_wp2_with (go_at_call 12; refine (add_any _ _ _ ha hb hc _).mono ?_; rintro e w' ⟨rfl, rfl⟩)
        go_roundw
        case rel => exact ⟨rfl, k + 1, by omega, by go_num, HT.out.alloc hsz _, hG.alloc _ _, by simp; omega⟩
        case measure => first | (simp [intOf]; done) | (simp [intOf]; omega)
      · go_wp2
        go_meet
        case rel => exact ⟨rfl, hG⟩
  case rest =>
    obtain ⟨rfl, hG0⟩ := hcut
    go_upto_block 2 with (fail)
    go_cut [0] (fun r wx => r = .bool false ∧ Grown w wx)
    case first =>
      go_wp2
      go_loopw [0, 86] (fun r i wr => r = .bool false ∧ ∃ k : Nat, k ≤ 6 ∧ i = .int .i64 k ∧ Rows5 wc.heap.size 6 DiffRow wr ∧ Grown w wr ∧ wc.heap.size < wr.heap.size) (fun _ i _ => 6 - (intOf i).toNat)
      case atStart =>
        refine ⟨rfl, 0, Nat.zero_le _, rfl, rows_of _ _ _ _ _ ?_, hG0.alloc _ _, by simp⟩
        intro k hk
        rcases (show k = 0 ∨ k = 1 ∨ k = 2 ∨ k = 3 ∨ k = 4 ∨ k = 5 by omega) with rfl | rfl | rfl | rfl | rfl | rfl
        all_goals
          refine ⟨_, _, _, _, _, ?_, ?_, ?_, ?_, rfl, rfl, rfl, rfl, rfl⟩
          all_goals first | (unfold W.Wd; omega) | (unfold SumRow W.addS W.addC; omega) | (unfold DiffRow W.subS W.subC; omega)
      case round =>
        obtain ⟨rfl, k, hk, rfl, hT, hG, hsz⟩ := hrel
        by_cases hlt : k < 6
        · obtain ⟨a, b, c, s, x, ha, hb, hc, ⟨e1, e2⟩, c0, c1, c2, c3, c4⟩ := hT k hlt
          have HT := Lib.hid hT
          clear hT
          go_wp2_with (go_at_call 14; refine (sub_any _ _ _ ha hb hc _).mono ?_; rintro e w' ⟨rfl, rfl⟩)
          go_roundw
          case rel => exact ⟨rfl, k + 1, by omega, by go_num, HT.out.alloc hsz _, hG.alloc _ _, by simp; omega⟩
          case measure => first | (simp [intOf]; done) | (simp [intOf]; omega)
        · go_wp2
          go_meet
          case rel => exact ⟨rfl, hG⟩
    case rest =>
      obtain ⟨rfl, hG1⟩ := hcut
      go_wp2
      go_loop [9] (fun i => ∃ k : Nat, k ≤ 64 ∧ i = .int .i64 k) (fun i => 64 - (intOf i).toNat)
      case atStart => exact ⟨0, Nat.zero_le _, rfl⟩
      case round =>
        obtain ⟨k, hk, rfl⟩ := hrel
        by_cases hlt : k < 64
        · obtain ⟨p, e0, h1, h2, h3, c1, c2⟩ := len_pow' k hlt
          go_wp2_with (first | (go_at_call_of 25 (Value.int .u64 p); refine (c1 _).mono ?_; rintro e w' ⟨rfl, rfl⟩) | (go_at_call 25; refine (c2 _).mono ?_; rintro e w' ⟨rfl, rfl⟩))
          go_round
          case rel => exact ⟨k + 1, by omega, by go_num⟩
          case measure => first | (simp [intOf]; done) | (simp [intOf]; omega)
        · go_wp2_with (first | (go_at_call 19; with_reducible refine (nm_div1 _).mono ?_; rintro e w' ⟨rfl, k, rfl⟩) | (go_at_call 19; with_reducible refine (nm_div2 _).mono ?_; rintro e w' ⟨rfl, k, rfl⟩) | (go_at_call 19; with_reducible refine (nm_div3 _).mono ?_; rintro e w' ⟨rfl, k, rfl⟩) | (go_at_call 21; with_reducible refine (nm_shl64 _).mono ?_; rintro e w' ⟨rfl, k, rfl⟩) | (go_at_call 21; with_reducible refine (nm_shl0 _).mono ?_; rintro e w' ⟨rfl, k, rfl⟩) | (go_at_call 21; with_reducible refine (nm_shlm _).mono ?_; rintro e w' ⟨rfl, k, rfl⟩) | (go_at_call 23; with_reducible refine (nm_shr64 _).mono ?_; rintro e w' ⟨rfl, k, rfl⟩) | (go_at_call 23; with_reducible refine (nm_shr1 _).mono ?_; rintro e w' ⟨rfl, k, rfl⟩) | (go_at_call 23; with_reducible refine (nm_shr65 _).mono ?_; rintro e w' ⟨rfl, k, rfl⟩) | (go_at_call 23; with_reducible refine (nm_shrm _).mono ?_; rintro e w' ⟨rfl, k, rfl⟩))
          go_ret
          exact ⟨rfl, hG1⟩
/-! ### STEP 1: THE WALK: the Go text returns true. 'Grown w w'': the world has at most new blocks (Derived/RowKit3.lean). Part the cases AHEAD of 'go_enter' where a test parts the walk; take each callee by a contract of your own. -/
theorem walk  (w : World) :
    Calls Try.prog 6 #[] w fun e w' => e = .returned (.bool true) ∧ Grown w w' := by
  exact names_any w

/-! ### THE ROW's STEP: WRITTEN OUT: LEAVE IT -/
set_option maxRecDepth 100000 in
theorem lifted (os : Os) (started : os.Started) (H : Type) (enc : TypeId × Value → H) :
    ReturnsInHanded {} Try.checked os 6 .any (Rows.wordNamesSpec.pre6 enc Try.prog Try.f6 Rows.wordNamesRow.domain false) (Rows.wordNamesSpec.post enc Try.prog Try.f6 false true false false) := by
  refine returnsInHanded_of_change (C := Try.checked) own started (by kernel_rfl) Try.func6
    (ChangeSpec.witness6 (enc := enc) (C := Try.checked) false ⟨#[], #[], []⟩ 8 (by kernel_rfl) (by kernel_rfl) (by kernel_rfl) (by kernel_rfl)) ?_
  intro W base args ds gs before hval0 hW hcnd _
  have hval : ∀ (j : Nat) t v, Try.f6.params[j]? = some t → args[j]? = some v → Value.okWide Try.prog W .any base t v := hval0
  have hW' := hW
  obtain ⟨p, q, hA0, hV, rfl, hfz, hnd⟩ := hW
  have hA : DataW.TrodAll enc Try.prog W 0 (fun _ => true) true Try.f6.params.toList args.toList ds p := hA0
  rw [Try.params6] at hA hval
  obtain ⟨rfl, rfl, rfl⟩ := trodAll_none hA
  obtain ⟨rfl, rfl⟩ := trodVars_none hV
  clear hA0 hval0
  simp only [List.append_nil] at hW'
  refine (walk  W).mono fun e W' ⟨he, hg⟩ => ?_
  subst he
  exact ⟨_, rfl, post_of_same (pa := []) (pv := []) hW' (fun _ _ _ => (trodAll_cons_mk (shut_bool Try.underlying4 _) trodAll_mk0)) (fun sp _ => rfl) (fun _ _ => rfl) rfl
    (hg.frame _) hg.2.1 (ok_one (by kernel_rfl) rfl (okWide_bool_mk Try.underlying4 _))⟩

theorem over : Rows.wordNamesRow.holds Try.pinned (OpenSpec.ofChange Rows.wordNamesSpec) :=
  OpenClaim.holds_of_wide 6 Try.f6 rfl rfl rfl rfl rfl rfl rfl ⟨rfl, rfl, rfl, rfl, rfl⟩ rfl rfl rfl rfl rfl (by kernel_rfl) Try.func6 (by kernel_rfl)
    (of_decide_eq_true (by kernel_rfl)) (by unfold Func.isWrapper; first | (rw [if_pos (by decide +kernel)]; kernel_rfl) | (rw [if_neg (by decide +kernel)]; exact ⟨rfl, rfl⟩))
    (fun os started H enc _ => lifted os started H enc)

/-- ████ THE STATEMENT ████ -/
theorem proved : Rows.WordNamesSaid :=
  over
#print axioms proved
end Go.Proofs.Ytimddcledipekaa.wordNames
