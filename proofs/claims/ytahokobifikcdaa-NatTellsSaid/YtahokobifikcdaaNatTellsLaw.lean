/-
  PROVED: the statement NatTells (tombolalaw02.NatTells) about the landed commit: for every input the law returns true and leaves its arguments as they were. Conditions: none beyond those that the given row itself prints.
-/
import Derived.Test.YtahokobifikcdaaRows
import Derived.WalkKit
import Derived.ProofKit
import Derived.OpenShut
import Derived.RowKit3
import Derived.Test.YtahokobifikcdaaLawFrame
import Derived.Test.YtahokobifikcdaaNatOpen
import Derived.Test.YtahokobifikcdaaNatAwake
import Derived.Test.YtahokobifikcdaaRefTell
import Derived.Test.YtahokobifikcdaaRefCmp
namespace Go.Proofs.Ytahokobifikcdaa.natTells
open Go.ChangeShapes Go.WideShapes Go.ChangeAt Go.RowKit
set_option linter.unusedVariables false
open N
theorem own : ownKnob Try.prog.godebug = none := by kernel_rfl
theorem same_yes' (w : World) (A A' : Option Addr) (n c m d : Nat) (xs ys : List Int) (hx : Sl w A n c xs) (hy : Sl w A' m d ys) (he : xs = ys) :
    Calls Try.prog 18 #[.slice A n c, .slice A' m d] w fun e w' => e = .returned (.bool true) ∧ Below w.heap.size w w' :=
  (same_any w A A' n c m d xs ys hx hy).mono fun e w' ⟨h1, q, h2⟩ => ⟨by rw [h1, decide_eq_true he], by rw [h2]; exact ⟨rfl, rfl, rfl, Nat.le_refl _, fun _ _ => rfl⟩⟩
/-- writing over x turns nothing that lay below it, and no row of another block -/
theorem spoil_s' (w : World) (base : Nat) (A : Option Addr) (n c : Nat) (xs : List Int) (h : N.Own w base A n c xs) :
    Calls Try.prog 21 #[.slice A n c] w fun e w' => (∃ v, e = .returned v) ∧ (base ≤ w.heap.size → Below base w w') ∧
      ∀ (base' : Nat) (A' : Option Addr) (m d : Nat) (ys : List Int), N.Own w base' A' m d ys → (∀ g, rowOf A = some g → g < base') → N.Own w' base' A' m d ys := by
  refine (spoil_any w base A n c xs h).mono fun e w' ⟨hv, hg⟩ => ⟨hv, fun hbase => ⟨hg.os, hg.tape, hg.output, hg.size, fun k hk => hg.block k (by omega) (fun e => ?_)⟩, fun base' A' m d ys ho hlt => ⟨ho.row.kept hg ?_, ho.dg⟩⟩
  · have := (h.row.lt k (by rw [ownBlock_eq]; exact e.symm)).1
    omega
  · cases hr : (Value.slice A' m d).ownBlock with
    | none => exact .inl rfl
    | some g =>
      refine .inr (fun e => ?_)
      have h1 := (ho.row.lt g hr).1
      have h2 := hlt g e.symm
      omega
theorem row_lt' {w : World} {base : Nat} {A : Option Addr} {n c : Nat} {xs : List Int} (h : N.Own w base A n c xs) : ∀ g, rowOf A = some g → g < w.heap.size := fun g hg => (h.row.lt g (by rw [ownBlock_eq]; exact hg)).2
theorem smalls (xs : List Int) : ∃ (X : Int) (I : Bool), (∀ w A n c, Sl w A n c xs → Calls Try.prog 14 #[.slice A n c] w fun e w' => e = .returned (.tuple #[.int .u64 X, .bool I]) ∧ w' = w) ∧
    (∀ w A n c, Sl w A n c xs → n ≤ 1000000 → Calls Try.prog 15 #[.slice A n c] w fun e w' => e = .returned (.tuple #[.int .u64 X, .bool I]) ∧ Below w.heap.size w w') := by
  by_cases hv : val B xs < 18446744073709551616
  · exact ⟨_, _, fun w A n c h => small_yes w A n c xs h hv, fun w A n c h hn => rsmall_yes w A n c xs h (by omega) hv⟩
  · exact ⟨_, _, fun w A n c h => small_no w A n c xs h (by omega), fun w A n c h hn => rsmall_no w A n c xs h (by omega) (by omega)⟩
theorem zeros (xs : List Int) (hd : Dg B xs) : ∃ (Z : Bool) (L : Int), (∀ w A n c, Sl w A n c xs → Calls Try.prog 22 #[.slice A n c] w fun e w' => e = .returned (.bool Z) ∧ w' = w) ∧
    (∀ w A n c, Sl w A n c xs → n ≤ 1000000 → Calls Try.prog 26 #[.slice A n c] w fun e w' => e = .returned (.int .i64 L) ∧ w' = w) ∧
    (∀ w A n c, Sl w A n c xs → n ≤ 1000000 → Calls Try.prog 23 #[.slice A n c] w fun e w' => e = .returned (.int .i64 L) ∧ Below w.heap.size w w') ∧ (L == 0) = Z := by
  have hg := val_nonneg (b := B) (by decide) hd
  rcases Int.lt_or_eq_of_le hg with hp | hp
  · refine ⟨false, W.len (val B xs), fun w A n c h => zero_no w A n c xs h hp, fun w A n c h hn => nlen_any w A n c xs h (by omega), fun w A n c h hn => rlen_any w A n c xs h hn, ?_⟩
    obtain ⟨k, e1, e2, e3⟩ := len_spec (val B xs) hg
    rw [e1]
    have : k ≠ 0 := by
      rintro rfl
      simp at e2; omega
    simp [this]
  · refine ⟨true, W.len (val B xs), fun w A n c h => zero_yes w A n c xs h hp.symm, fun w A n c h hn => nlen_any w A n c xs h (by omega), fun w A n c h hn => rlen_any w A n c xs h hn, ?_⟩
    rw [← hp, len_0]; rfl
theorem bits (xs : List Int) (p : Int) (hp : p ≤ 9223372036854775807) : ∃ I : Bool, (∀ w A n c, Sl w A n c xs → Calls Try.prog 27 #[.slice A n c, .int .i64 p] w fun e w' => e = .returned (.bool I) ∧ w' = w) ∧
    (∀ w A n c, Sl w A n c xs → n ≤ 1000000 → Calls Try.prog 28 #[.slice A n c, .int .i64 p] w fun e w' => e = .returned (.bool I) ∧ Below w.heap.size w w') := by
  by_cases h0 : p < 0
  · exact ⟨_, fun w A n c h => bit_neg w A n c xs h p h0, fun w A n c h hn => rbit_neg w A n c xs h hn p h0⟩
  · obtain ⟨i, rfl⟩ := Int.eq_ofNat_of_zero_le (by omega : 0 ≤ p)
    exact ⟨_, fun w A n c h => bit_any w A n c xs h i (by omega), fun w A n c h hn => rbit_any w A n c xs h hn i (by omega)⟩
theorem cmps (xs ys : List Int) : ∃ C : Int, (∀ w A A' n c m d, Sl w A n c xs → Sl w A' m d ys → n ≤ 1000000 → m ≤ 1000000 → Calls Try.prog 24 #[.slice A n c, .slice A' m d] w fun e w' => e = .returned (.int .i64 C) ∧ Below w.heap.size w w') ∧
    (∀ w A A' n c m d, Sl w A n c xs → Sl w A' m d ys → n ≤ 1000000 → m ≤ 1000000 → Calls Try.prog 25 #[.slice A n c, .slice A' m d] w fun e w' => e = .returned (.int .i64 C) ∧ Below w.heap.size w w') :=
  ⟨_, fun w A A' n c m d h h' hn hm => ncmp_any w A A' n c m d xs ys h h' (by omega) (by omega), fun w A A' n c m d h h' hn hm => rcmp_any w A A' n c m d xs ys h h' hn hm⟩
set_option maxRecDepth 100000 in
set_option maxHeartbeats 4000000 in
theorem walk (w : World) (A0 : Option Addr) (n0 c0 : Nat) (xs0 : List Int) (h0 : Sl w A0 n0 c0 xs0) (A1 : Option Addr) (n1 c1 : Nat) (xs1 : List Int) (h1 : Sl w A1 n1 c1 xs1) (a2 : Int) (w2 : (Lit.int .u64 a2).wf = true) (a3 : Int) (w3 : (Lit.int .i64 a3).wf = true) :
    Calls Try.prog 3 #[.slice A0 n0 c0, .slice A1 n1 c1, .int .u64 a2, .int .i64 a3] w fun e w' => e = .returned (.bool true) ∧ Below w.heap.size w w' := by
  have hc0 := h0.cap
  have hm0 := h0.max
  have hc1 := h1.cap
  have hm1 := h1.max
  unfold maxLen at hm0 hm1
  have b2 := bounds_u64 w2
  have b3 := bounds_i64 w3
  have hwd : W.Wd a2 := by unfold W.Wd; omega
  by_cases hl : n0 ≤ 24 ∧ n1 ≤ 24
  · obtain ⟨l0, l1⟩ := hl
    obtain ⟨X, I, s1, s2⟩ := smalls xs0
    obtain ⟨Z, L, z1, z2, z3, hz⟩ := zeros xs0 h0.dg
    obtain ⟨J, j1, j2⟩ := bits xs0 a3 (by omega)
    obtain ⟨C, c1', c2'⟩ := cmps xs0 xs1
    go_enter Try.func3, Try.ntmps3
    go_wp2_with fail
    go_at_call 12
    refine (long2_n (St.nil_ w) _ _ _ _ _ _ l0 l1).mono ?_
    rintro e W1 ⟨rfl, hst⟩
    have hb := Lib.hid hst.1
    clear hst
    go_wp2_with fail
    go_at_call 14
    refine (s1 _ _ _ _ (h0.below hb.out)).mono ?_
    rintro e W2 ⟨rfl, rfl⟩
    go_wp2_with fail
    go_at_call 15
    refine (s2 _ _ _ _ (h0.below hb.out) (by omega)).mono ?_
    rintro e W3 ⟨rfl, hnew⟩
    have hb' := Lib.hid (hb.out.trans (hnew.mono hb.out.size))
    clear hb
    have hb := hb'
    clear hb'
    clear hnew
    go_wp2_with fail
    go_at_call 16
    refine (trim_any _ _ _ _ xs0 (h0.below hb.out) (by omega)).mono ?_
    rintro e W4 ⟨At, nt, ct, rfl, hnt, hot, hnew⟩
    have q3 := hb.out.size
    have q4 := hnew.size
    have hb' := Lib.hid (hb.out.trans (hnew.mono hb.out.size))
    clear hb
    have hb := hb'
    clear hb'
    clear hnew
    go_wp2_with fail
    go_at_call 17
    refine (of_any _ _ hwd).mono ?_
    rintro e W5 ⟨Ao, no, co, rfl, hno, hoo, hnew⟩
    have q5 := hnew.size
    have hb' := Lib.hid (hb.out.trans (hnew.mono hb.out.size))
    clear hb
    have hb := hb'
    clear hb'
    have hr := Lib.hid (row_lt' hot)
    have ht := hot.below hnew
    clear hnew hot
    go_wp2_with fail
    go_at_call 19
    refine (rtrim_any _ _ _ _ xs0 (h0.below hb.out) (by omega)).mono ?_
    rintro e W6 ⟨Ar, nr, cr, rfl, hnr, hor, hnew⟩
    have q6 := hnew.size
    have hb' := Lib.hid (hb.out.trans (hnew.mono hb.out.size))
    clear hb
    have hb := hb'
    clear hb'
    have ht6 := ht.below hnew
    have ho6 := hoo.below hnew
    clear hnew ht hoo
    go_wp2_with fail
    go_at_call 18
    refine (same_yes' _ _ _ _ _ _ _ _ _ ht6.sl hor.sl rfl).mono ?_
    rintro e W7 ⟨rfl, hnew⟩
    have q7 := hnew.size
    have hb' := Lib.hid (hb.out.trans (hnew.mono hb.out.size))
    clear hb
    have hb := hb'
    clear hb'
    have ht7 := ht6.below hnew
    have ho7 := ho6.below hnew
    clear hnew ht6 ho6 hor
    go_wp2_with fail
    go_at_call 20
    refine (rof_any _ _ hwd).mono ?_
    rintro e W8 ⟨Aq, nq, cq, rfl, hnq, hoq, hnew⟩
    have q8 := hnew.size
    have hb' := Lib.hid (hb.out.trans (hnew.mono hb.out.size))
    clear hb
    have hb := hb'
    clear hb'
    have ht8 := ht7.below hnew
    have ho8 := ho7.below hnew
    clear hnew ht7 ho7
    go_wp2_with fail
    go_at_call 18
    refine (same_yes' _ _ _ _ _ _ _ _ _ ho8.sl hoq.sl rfl).mono ?_
    rintro e W9 ⟨rfl, hnew⟩
    have q9 := hnew.size
    have hb' := Lib.hid (hb.out.trans (hnew.mono hb.out.size))
    clear hb
    have hb := hb'
    clear hb'
    have ht9 := ht8.below hnew
    have ho9 := ho8.below hnew
    clear hnew ht8 ho8 hoq
    have hbt := Lib.hid (show w.heap.size ≤ W3.heap.size ∧ W3.heap.size ≤ W9.heap.size by omega)
    have hbo := Lib.hid (show w.heap.size ≤ W4.heap.size ∧ W4.heap.size ≤ W9.heap.size by omega)
    clear q3 q4 q5 q6 q7 q8 q9
    go_wp2_with fail
    go_at_call 21
    refine (spoil_s' _ _ _ _ _ _ ht9).mono ?_
    rintro e W10 ⟨⟨v10, rfl⟩, hs, hk⟩
    have hnew := (hs hbt.out.2).mono hbt.out.1
    have ho10 := hk _ _ _ _ _ ho9 hr.out
    have hz10 := (hs hbt.out.2).size
    have hb' := Lib.hid (hb.out.trans hnew)
    clear hb
    have hb := hb'
    clear hb' hs hk ht9 ho9 hnew
    go_wp2_with fail
    go_at_call 21
    refine (spoil_s' _ _ _ _ _ _ ho10).mono ?_
    rintro e W11 ⟨⟨v11, rfl⟩, hs, hk⟩
    have hnew := (hs (by have := hbo.out.2; omega)).mono hbo.out.1
    have hb' := Lib.hid (hb.out.trans hnew)
    clear hb
    have hb := hb'
    clear hb' hs hk ho10 hnew
    go_wp2_with fail
    go_at_call 16
    refine (trim_any _ _ _ _ xs0 (h0.below hb.out) (by omega)).mono ?_
    rintro e W12 ⟨At, nt, ct, rfl, hnt, hot, hnew⟩
    have hb' := Lib.hid (hb.out.trans (hnew.mono hb.out.size))
    clear hb
    have hb := hb'
    clear hb'
    clear hnew
    go_wp2_with fail
    go_at_call 19
    refine (rtrim_any _ _ _ _ xs0 (h0.below hb.out) (by omega)).mono ?_
    rintro e W13 ⟨Ar, nr, cr, rfl, hnr, hor, hnew⟩
    have hb' := Lib.hid (hb.out.trans (hnew.mono hb.out.size))
    clear hb
    have hb := hb'
    clear hb'
    have ht6 := hot.below hnew
    clear hnew
    go_wp2_with fail
    go_at_call 18
    refine (same_yes' _ _ _ _ _ _ _ _ _ ht6.sl hor.sl rfl).mono ?_
    rintro e W14 ⟨rfl, hnew⟩
    have hb' := Lib.hid (hb.out.trans (hnew.mono hb.out.size))
    clear hb
    have hb := hb'
    clear hb'
    clear hnew ht6 hor hot
    go_wp2_with fail
    go_at_call 22
    refine (z1 _ _ _ _ (h0.below hb.out)).mono ?_
    rintro e W15 ⟨rfl, rfl⟩
    go_wp2_with fail
    go_at_call 23
    refine (z3 _ _ _ _ (h0.below hb.out) (by omega)).mono ?_
    rintro e W16 ⟨rfl, hnew⟩
    have hb' := Lib.hid (hb.out.trans (hnew.mono hb.out.size))
    clear hb
    have hb := hb'
    clear hb'
    clear hnew
    go_wp2_with fail
    go_at_call 24
    refine (c1' _ _ _ _ _ _ _ (h0.below hb.out) (h1.below hb.out) (by omega) (by omega)).mono ?_
    rintro e W17 ⟨rfl, hnew⟩
    have hb' := Lib.hid (hb.out.trans (hnew.mono hb.out.size))
    clear hb
    have hb := hb'
    clear hb'
    clear hnew
    go_wp2_with fail
    go_at_call 25
    refine (c2' _ _ _ _ _ _ _ (h0.below hb.out) (h1.below hb.out) (by omega) (by omega)).mono ?_
    rintro e W18 ⟨rfl, hnew⟩
    have hb' := Lib.hid (hb.out.trans (hnew.mono hb.out.size))
    clear hb
    have hb := hb'
    clear hb'
    clear hnew
    go_wp2_with fail
    go_at_call 26
    refine (z2 _ _ _ _ (h0.below hb.out) (by omega)).mono ?_
    rintro e W19 ⟨rfl, rfl⟩
    go_wp2_with fail
    go_at_call 23
    refine (z3 _ _ _ _ (h0.below hb.out) (by omega)).mono ?_
    rintro e W20 ⟨rfl, hnew⟩
    have hb' := Lib.hid (hb.out.trans (hnew.mono hb.out.size))
    clear hb
    have hb := hb'
    clear hb'
    clear hnew
    go_wp2_with fail
    go_at_call 27
    refine (j1 _ _ _ _ (h0.below hb.out)).mono ?_
    rintro e W21 ⟨rfl, rfl⟩
    go_wp2_with fail
    go_at_call 28
    refine (j2 _ _ _ _ (h0.below hb.out) (by omega)).mono ?_
    rintro e W22 ⟨rfl, hnew⟩
    have hb' := Lib.hid (hb.out.trans (hnew.mono hb.out.size))
    clear hb
    have hb := hb'
    clear hb'
    clear hnew
    go_wp2_with fail
    go_at_call 13
    refine (nawake_any _).mono ?_
    rintro e W23 ⟨rfl, hnew⟩
    have hb' := Lib.hid (hb.out.trans (hnew.mono hb.out.size))
    clear hb
    have hb := hb'
    clear hb'
    clear hnew
    go_wp2
    go_ret
    exact ⟨rfl, hb.out⟩
  · have HL := Lib.hid hl
    clear h0 h1 hl
    have hS := Lib.hid (St.nil_ w)
    go_enter Try.func3, Try.ntmps3
    go_wp2_with (first
      | (go_at_call 12; (with_reducible refine (long2_y hS.out _ _ _ _ _ _ (by omega) (by omega) HL.out).mono ?_); rintro e w' ⟨rfl, h1⟩; clear hS; have hS := Lib.hid h1; clear h1)
      | (go_at_call 13; (with_reducible refine (awake_s hS.out ).mono ?_); rintro e w' ⟨rfl, h1⟩; clear hS; have hS := Lib.hid h1; clear h1))
    go_ret
    exact ⟨rfl, hS.out.1⟩
set_option maxRecDepth 100000 in
theorem lifted (os : Os) (started : os.Started) (H : Type) (enc : TypeId × Value → H) :
    ReturnsInHanded {} Try.checked os 3 .any (Rows.natTellsSpec.pre6 enc Try.prog Try.f3 Rows.natTellsRow.domain false) (Rows.natTellsSpec.post enc Try.prog Try.f3 false true false false) := by
  refine returnsInHanded_of_change (C := Try.checked) own started (by kernel_rfl) Try.func3
    (ChangeSpec.witness6 (enc := enc) (C := Try.checked) false ⟨#[], #[.slice none 0 0, .slice none 0 0, .int .u64 0, .int .i64 0], []⟩ 8 (by kernel_rfl) (by kernel_rfl) (by kernel_rfl) (by kernel_rfl)) ?_
  intro W base args ds gs before hval0 hW hcnd _
  have hval : ∀ (j : Nat) t v, Try.f3.params[j]? = some t → args[j]? = some v → Value.okWide Try.prog W .any base t v := hval0
  have hW' := hW
  obtain ⟨p, q, hA0, hV, hpq, hfz, hnd⟩ := hW
  have hA : DataW.TrodAll enc Try.prog W 0 (fun _ => true) true Try.f3.params.toList args.toList ds p := hA0
  rw [Try.params3] at hA hval
  obtain ⟨v0, vs0, d0, ds0, p0, q0, hargs, rfl, rfl, h0, r0⟩ := trodAll_cons hA
  obtain ⟨v1, vs1, d1, ds1, p1, q1, rfl, rfl, rfl, h1, r1⟩ := trodAll_cons r0
  obtain ⟨v2, vs2, d2, ds2, p2, q2, rfl, rfl, rfl, h2, r2⟩ := trodAll_cons r1
  obtain ⟨v3, vs3, d3, ds3, p3, q3, rfl, rfl, rfl, h3, r3⟩ := trodAll_cons r2
  obtain ⟨rfl, rfl, rfl⟩ := trodAll_nil r3
  obtain rfl : args = #[v0, v1, v2, v3] := by cases args; simp_all
  obtain ⟨rfl, rfl⟩ := trodVars_none hV
  obtain ⟨A0, n0, c0, xs0, rfl, s0⟩ := open_natural (hval 0 23 v0 rfl rfl) h0
  obtain ⟨A1, n1, c1, xs1, rfl, s1⟩ := open_natural (hval 1 23 v1 rfl rfl) h1
  obtain ⟨a2, rfl, rfl, rfl, w2⟩ := open_int Try.underlying24 (hval 2 24 v2 rfl rfl) h2
  obtain ⟨a3, rfl, rfl, rfl, w3⟩ := open_int Try.underlying3 (hval 3 3 v3 rfl rfl) h3
  refine (walk W A0 n0 c0 xs0 s0 A1 n1 c1 xs1 s1 a2 w2 a3 w3).mono fun e W' ⟨he, hb⟩ => ?_
  subst he
  exact ⟨_, rfl, Frame.close laidOut hW' rfl rfl rfl Try.underlying4 (fun t ht => by rw [Try.params3] at ht; simp at ht; rcases ht with rfl | rfl | rfl <;> exact ⟨by kernel_rfl, of_decide_eq_true (by kernel_rfl)⟩) hb⟩
theorem over : Rows.natTellsRow.holds Try.pinned (OpenSpec.ofChange Rows.natTellsSpec) :=
  OpenClaim.holds_of_wide 3 Try.f3 rfl rfl rfl rfl rfl rfl rfl ⟨rfl, rfl, rfl, rfl, rfl⟩ rfl rfl rfl rfl rfl (by kernel_rfl) Try.func3 (by kernel_rfl)
    (of_decide_eq_true (by kernel_rfl)) (by unfold Func.isWrapper; first | (rw [if_pos (by decide +kernel)]; kernel_rfl) | (rw [if_neg (by decide +kernel)]; exact ⟨rfl, rfl⟩))
    (fun os started H enc _ => lifted os started H enc)
/-- the statement -/
theorem proved : Rows.NatTellsSaid :=
  over
#print axioms proved
end Go.Proofs.Ytahokobifikcdaa.natTells
