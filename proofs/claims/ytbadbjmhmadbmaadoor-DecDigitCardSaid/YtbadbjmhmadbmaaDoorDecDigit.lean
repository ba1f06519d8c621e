/-
  PROVED: the statement DecDigit (tombolalaw04.DecDigit) about the landed commit: for every input the law returns true and leaves its arguments as they were. Conditions: none beyond those that the given row itself prints.
-/
import Derived.Test.YtbadbjmhmadbmaaDoorCards
import Derived.Test.YtbadbjmhmadbmaaDoorTie
import Derived.LaidMore
import Derived.Lay
import Derived.SevenTiedAt
import Derived.Stop.Joined
import Derived.Test.YtbadbjmhmadbmaaDoorRows
import Derived.WalkKit
import Derived.ProofKit
import Derived.OpenShut
import Derived.RowKit3
import Derived.Test.YtbadbjmhmadbmaaDoorLawFrame
import Derived.Test.YtbadbjmhmadbmaaDoorNatOpen
import Derived.Test.YtbadbjmhmadbmaaDoorDecAwake
namespace Go.Proofs.YtbadbjmhmadbmaaDoor.decDigit
open Go.ChangeShapes Go.WideShapes Go.ChangeAt Go.RowKit
set_option linter.unusedVariables false
set_option maxRecDepth 20000
open N
theorem own : ownKnob Tryd.prog.godebug = none := by kernel_rfl
open Go.Lib (decDigits nDigits decDigits_length nDigits_pos)
attribute [local go_sem] Oper.semAt_some
/-- naturals at hand, and rows of bytes -/
def StB (w0 w : World) (S : List Ent) (L : List (Nat × List UInt8)) : Prop := St w0 w S ∧ ∀ t ∈ L, ArrB w t.1 t.2
section
variable {w0 w w' : World} {S : List Ent} {L : List (Nat × List UInt8)}
theorem StB.below (h : StB w0 w S L) (hb : Below w.heap.size w w') : StB w0 w' S L := ⟨h.1.below hb, fun t ht => (h.2 t ht).below hb (h.2 t ht).lt⟩
theorem StB.drew (h : StB w0 w S L) : StB w0 w.drew S L := h.below ⟨rfl, rfl, rfl, Nat.le_refl _, fun _ _ => rfl⟩
theorem StB.lit (h : StB w0 w S L) {x : Int} {b : UInt8} (hx : x = (b.toNat : Int)) : StB w0 (w.alloc (.cells #[.int .u8 x] 5)) S [(w.heap.size, [b])] := by
  subst hx
  refine ⟨h.1.alloc _, fun t ht => ?_⟩
  rw [List.mem_singleton.1 ht]
  exact ArrB.lit w [b] _ rfl
theorem StB.cv {g : Nat} {b : UInt8} (h : StB w0 w S [(g, [b])]) : (convert 35 9 (.slice (some ⟨g, 0, none⟩) 1 1)).run Tryd.prog w = .ok (.string ⟨#[b]⟩) w :=
  str_back [b] _ 1 1 w ((h.2 _ List.mem_cons_self).sl rfl (by unfold maxLen; omega))
theorem showB_t {A : Option Addr} {n c k : Nat} {xs : List Int} {v : Int} (h : StB w0 w S L) (h1 : (⟨A, n, c, k, xs, v⟩ : Ent) ∈ S) (hk : k ≤ 1000000) (bs : List UInt8) (he : decDigits v.toNat = bs) :
    Calls Tryd.prog 14 #[.slice A n c] w fun e w' => e = .returned (.string ⟨bs.toArray⟩) ∧ StB w0 w' S L := by
  obtain ⟨a1, a2, _⟩ := h.1.get h1
  rw [← he]
  exact (pshow_any w A n c xs a1 (by omega) _ (h.1.v_nat h1)).mono fun e w' ⟨he, hb⟩ => ⟨he, h.below hb⟩
end
theorem wf_u8 {a : Int} (h : (Lit.int .u8 a).wf = true) : 0 ≤ a ∧ a < 256 := by
  have := bounds_u8 h
  omega
set_option maxRecDepth 100000 in
set_option maxHeartbeats 4000000 in
theorem walk (w : World) (A0 : Option Addr) (n0 c0 : Nat) (xs0 : List Int) (h0 : Sl w A0 n0 c0 xs0) (a1 : Int) (w1 : (Lit.int .u8 a1).wf = true) :
    Calls Tryd.prog 7 #[.slice A0 n0 c0, .int .u8 a1] w fun e w' => e = .returned (.bool true) ∧ Below w.heap.size w w' := by
  have hc0 := h0.cap
  have hm0 := h0.max
  unfold maxLen at hm0
  obtain ⟨d0, d1⟩ := wf_u8 w1
  by_cases hl : n0 ≤ 24
  · obtain ⟨va, hva⟩ : ∃ v : Int, val B xs0 = v := ⟨_, rfl⟩
    have pa : 0 ≤ va := by rw [← hva]; exact val_nonneg (by decide) h0.dg
    have hf := nDigits_val h0.dg h0.len (Int.toNat_of_nonneg (val_nonneg (b := B) (by decide) h0.dg)).symm
    rw [hva] at hf
    have hS := Lib.hid ((St.nil_ w).cons h0 hl hva)
    clear hva h0
    by_cases hv : va = 0
    · have HV := Lib.hid hv
      clear hv hf pa
      go_enter Tryd.func7, Tryd.ntmps7
      go_wp2_with fail
      go_at_call 12
      refine (long1_n hS.out _ _ _ (by omega)).mono ?_
      rintro e w' ⟨rfl, h1⟩
      clear hS; have hS := Lib.hid h1; clear h1
      go_wp2_with fail
      go_at_call 25
      refine (zero_s hS.out (A := A0) (xs := xs0) (v := va) (by repeat (first | exact List.mem_cons_self | apply List.mem_cons_of_mem)) HV.out).mono ?_
      rintro e w' ⟨rfl, h1⟩
      clear hS; have hS := Lib.hid h1; clear h1
      go_wp2_with fail
      go_at_call 13
      refine (dawake_s hS.out).mono ?_
      rintro e w' ⟨rfl, h1⟩
      clear hS; have hS := Lib.hid h1; clear h1
      go_wp2
      go_ret
      exact ⟨rfl, hS.out.1⟩
    · obtain ⟨r, hr⟩ : ∃ r : Nat, a1 % 10 = (r : Int) := ⟨(a1 % 10).toNat, by omega⟩
      have hr9 : r < 10 := by omega
      obtain ⟨S, hs⟩ : ∃ S, decDigits va.toNat = S := ⟨_, rfl⟩
      have hsl : S.length ≤ 481 := by rw [← hs, decDigits_length]; omega
      have hb : decDigits (va * 10 + (r : Int)).toNat = S ++ [UInt8.ofNat (48 + r)] := by
        rw [← hs, ← dd_ten (by omega) hr9]; congr 1; omega
      obtain ⟨dg, hdg⟩ : ∃ dg, UInt8.ofNat (48 + r) = dg := ⟨_, rfl⟩
      have hdn : (dg.toNat : Int) = 48 + (r : Int) := by rw [← hdg, dig_nat hr9]; omega
      rw [hdg] at hb
      have HV := Lib.hid (show 0 < va by omega)
      have HA := Lib.hid hs
      have HB := Lib.hid hb
      have hap : (⟨S.toArray⟩ : ByteArray) ++ ⟨#[dg]⟩ = ⟨(S ++ [dg]).toArray⟩ := ByteArray.mk_append_mk S [dg]
      have hsz : (⟨S.toArray⟩ : ByteArray).size + (⟨#[dg]⟩ : ByteArray).size ≤ 9223372036854775807 := by
        show S.length + 1 ≤ _
        omega
      have hsl3 : ¬ (9223372036854775807 < S.length + 1) := by omega
      have hsl4 : ¬ (9223372036854775807 < S.toArray.size + 1) := by show ¬ (_ < S.length + 1); omega
      have hx8 : IntKind.u8.wrap (48 + a1.tmod 10) = (dg.toNat : Int) := by
        rw [Int.tmod_eq_emod_of_nonneg d0, hdn, hr, IntKind.wrap_u8]; omega
      have HX := Lib.hid hx8
      have hw8 : IntKind.u8.wrap (48 + a1 % 10) = 48 + a1 % 10 := by rw [IntKind.wrap_u8]; omega
      have HR := Lib.hid hr
      have HR9 := Lib.hid hr9
      clear hv hf pa hr hs hb hdg hdn hr9 hsl hx8
      refine calls_of_wp_q 6 Tryd.func7 rfl ?_
      simp only [Tryd.ntmps7, List.size_toArray, List.length_cons, List.length_nil, Nat.reduceAdd, Nat.reduceSub, Array.replicate_succ, Array.replicate_zero, List.push_toArray, List.append_toArray, List.nil_append, List.cons_append]
      go_wp2_with fail
      go_at_call 12
      refine (long1_n hS.out _ _ _ (by omega)).mono ?_
      rintro e w' ⟨rfl, h1⟩
      clear hS; have hS := Lib.hid h1; clear h1
      go_wp2_with fail
      go_at_call 25
      refine (zero_n hS.out (A := A0) (xs := xs0) (v := va) (by repeat (first | exact List.mem_cons_self | apply List.mem_cons_of_mem)) HV.out).mono ?_
      rintro e w' ⟨rfl, h1⟩
      clear hS; have hS := Lib.hid h1; clear h1
      go_wp2_with fail
      go_at_call 13
      refine (dawake_s hS.out).mono ?_
      rintro e w' ⟨rfl, h1⟩
      clear hS; have hS := Lib.hid h1; clear h1
      go_wp2_with fail
      go_at_call 27
      refine (mul_s (hS.out.lit1 10 (by omega)) (A := A0) (xs := xs0) (v := va) (by repeat (first | exact List.mem_cons_self | apply List.mem_cons_of_mem)) List.mem_cons_self (by omega) (by omega)).mono ?_
      rintro e w' ⟨A2, n2, c2, rfl, h1⟩
      clear hS; have hS := Lib.hid h1; clear h1
      go_wp2_with fail
      go_at_call 26
      refine (add_s (hS.out.lit1 (a1 % 10) (by omega)) (A := A2) (v := va * 10) (by repeat (first | exact List.mem_cons_self | apply List.mem_cons_of_mem)) List.mem_cons_self (by omega) (by omega)).mono ?_
      rintro e w' ⟨A3, n3, c3, rfl, h1⟩
      clear hS; have hS := Lib.hid h1; clear h1
      go_wp2_with fail
      have hSB : StB w _ _ [] := ⟨hS.out, fun t ht => (by cases ht)⟩
      clear hS
      have hS := Lib.hid hSB
      clear hSB
      go_region_with (first
        | (go_at_call_of 14 (Value.slice A3 n3 c3); (with_reducible refine (showB_t hS.out.drew (by repeat (first | exact List.mem_cons_self | apply List.mem_cons_of_mem)) (by omega) (S ++ [dg]) (by rw [HR.out]; exact HB.out)).mono ?_); rintro e w' ⟨rfl, h1⟩; clear hS; have hS := Lib.hid h1; clear h1)
        | (go_at_call_of 14 (Value.slice A0 n0 c0); (with_reducible refine (showB_t hS.out.drew (A := A0) (xs := xs0) (v := va) (by repeat (first | exact List.mem_cons_self | apply List.mem_cons_of_mem)) (by omega) S HA.out).mono ?_); rintro e w' ⟨rfl, h1⟩; clear hS; have hS := Lib.hid h1; clear h1)
        | (go_at_call_of 14 (Value.slice A3 n3 c3); (with_reducible refine (showB_t (hS.out.lit HX.out).drew (by repeat (first | exact List.mem_cons_self | apply List.mem_cons_of_mem)) (by omega) (S ++ [dg]) (by rw [HR.out]; exact HB.out)).mono ?_); rintro e w' ⟨rfl, h1⟩; clear hS; have hS := Lib.hid h1; clear h1)
        | (go_at_call_of 14 (Value.slice A0 n0 c0); (with_reducible refine (showB_t (hS.out.lit HX.out).drew (A := A0) (xs := xs0) (v := va) (by repeat (first | exact List.mem_cons_self | apply List.mem_cons_of_mem)) (by omega) S HA.out).mono ?_); rintro e w' ⟨rfl, h1⟩; clear hS; have hS := Lib.hid h1; clear h1)
        | (go_at_call_of 14 (Value.slice A3 n3 c3); (with_reducible refine (showB_t hS.out (by repeat (first | exact List.mem_cons_self | apply List.mem_cons_of_mem)) (by omega) (S ++ [dg]) (by rw [HR.out]; exact HB.out)).mono ?_); rintro e w' ⟨rfl, h1⟩; clear hS; have hS := Lib.hid h1; clear h1)
        | (go_at_call_of 14 (Value.slice A0 n0 c0); (with_reducible refine (showB_t hS.out (A := A0) (xs := xs0) (v := va) (by repeat (first | exact List.mem_cons_self | apply List.mem_cons_of_mem)) (by omega) S HA.out).mono ?_); rintro e w' ⟨rfl, h1⟩; clear hS; have hS := Lib.hid h1; clear h1)
        | (go_at_call_of 14 (Value.slice A3 n3 c3); (with_reducible refine (showB_t (hS.out.lit HX.out) (by repeat (first | exact List.mem_cons_self | apply List.mem_cons_of_mem)) (by omega) (S ++ [dg]) (by rw [HR.out]; exact HB.out)).mono ?_); rintro e w' ⟨rfl, h1⟩; clear hS; have hS := Lib.hid h1; clear h1)
        | (go_at_call_of 14 (Value.slice A0 n0 c0); (with_reducible refine (showB_t (hS.out.lit HX.out) (A := A0) (xs := xs0) (v := va) (by repeat (first | exact List.mem_cons_self | apply List.mem_cons_of_mem)) (by omega) S HA.out).mono ?_); rintro e w' ⟨rfl, h1⟩; clear hS; have hS := Lib.hid h1; clear h1)
        | (rw [StB.cv (hS.out.lit HX.out).drew])
        | (rw [StB.cv (hS.out.lit HX.out)])
        | (rw [StB.cv hS.out]))
      all_goals go_wp2
      all_goals (refine leave_q rfl (.bool true) (by simp [results, Tryd.f7, go_sem]) ⟨rfl, ?_⟩; first | exact hS.out.1.1 | exact (hS.out.lit HX.out).1.1 | exact (hS.out.lit HX.out).drew.1.1 | exact hS.out.drew.1.1)
  · have hS := Lib.hid (St.nil_ w)
    clear h0
    go_enter Tryd.func7, Tryd.ntmps7
    go_wp2_with fail
    go_at_call 12
    refine (long1_y hS.out _ _ _ (by omega) hl).mono ?_
    rintro e w' ⟨rfl, h1⟩
    clear hS; have hS := Lib.hid h1; clear h1
    go_wp2_with fail
    go_at_call 13
    refine (dawake_s hS.out).mono ?_
    rintro e w' ⟨rfl, h1⟩
    clear hS; have hS := Lib.hid h1; clear h1
    go_wp2
    go_ret
    exact ⟨rfl, hS.out.1⟩
set_option maxRecDepth 100000 in
theorem lifted (os : Os) (started : os.Started) (H : Type) (enc : TypeId × Value → H) :
    ReturnsInHanded {} Tryd.checked os 7 .any (fun w args => (Rows.decDigitSpec.pre enc Tryd.prog Tryd.f7 Rows.decDigitRow.domain false w args ∧ laidMetH Tryd.prog Rows.decDigitRow.laid w) ∧ sizedMet enc Tryd.prog Tryd.f7 (OpenSpec.ofChange Rows.decDigitSpec) false w args) (Rows.decDigitSpec.post enc Tryd.prog Tryd.f7 false true false false) := by
  refine returnsInHanded_of_change_and (C := Tryd.checked) (X := fun w _ => laidMetH Tryd.prog Rows.decDigitRow.laid w) (fun _ _ _ hh h => h.of_heap hh) own started (by kernel_rfl) Tryd.func7
    (ChangeSpec.witness_shaped (enc := enc) (C := Tryd.checked) (os := os) (X := fun w _ => laidMetH Tryd.prog Rows.decDigitRow.laid w) false (World.laidAll Tryd.prog os Rows.decDigitRow.laid) #[.slice none 0 0, .int .u8 0] 8 (World.laidAll_os _ _ _)
      (World.shaped_of_ZipB (by kernel_rfl) (by kernel_rfl)) (by kernel_rfl) (by kernel_rfl) (by kernel_rfl)
      (by rw [MakeChecks.laidMetH_plain _ _ _ (by kernel_rfl)]; exact laidMet_laidAll _ (by kernel_rfl) (by kernel_rfl))) ?_
  intro W base args ds gs before hval0 hW hcnd _ _ _
  have hval : ∀ (j : Nat) t v, Tryd.f7.params[j]? = some t → args[j]? = some v → Value.okWide Tryd.prog W .any base t v := hval0
  have hW' := hW
  obtain ⟨p, q, hA0, hV, hpq, hfz, hnd⟩ := hW
  have hA : DataW.TrodAll enc Tryd.prog W 0 (fun _ => true) true Tryd.f7.params.toList args.toList ds p := hA0
  rw [Tryd.params7] at hA hval
  obtain ⟨v0, vs0, d0, ds0, p0, q0, hargs, rfl, rfl, h0, r0⟩ := trodAll_cons hA
  obtain ⟨v1, vs1, d1, ds1, p1, q1, rfl, rfl, rfl, h1, r1⟩ := trodAll_cons r0
  obtain ⟨rfl, rfl, rfl⟩ := trodAll_nil r1
  obtain rfl : args = #[v0, v1] := by cases args; simp_all
  obtain ⟨rfl, rfl⟩ := trodVars_none hV
  obtain ⟨A0, n0, c0, xs0, rfl, s0⟩ := open_natural (hval 0 23 v0 rfl rfl) h0
  obtain ⟨a1, rfl, rfl, rfl, w1⟩ := open_int Tryd.underlying5 (hval 1 5 v1 rfl rfl) h1
  refine (walk W A0 n0 c0 xs0 s0 a1 w1).mono fun e W' ⟨he, hb⟩ => ?_
  subst he
  exact ⟨_, rfl, Frame.close laidOut hW' rfl rfl rfl Tryd.underlying4 (fun t ht => by rw [Tryd.params7] at ht; simp at ht; rcases ht with rfl | rfl <;> exact ⟨by kernel_rfl, of_decide_eq_true (by kernel_rfl)⟩) hb⟩
theorem over : Rows.decDigitRow.holds Tryd.pinned (OpenSpec.ofChange Rows.decDigitSpec) :=
  OpenClaim.holds_of_wide 7 Tryd.f7 rfl rfl rfl rfl rfl rfl rfl ⟨rfl, rfl, rfl, rfl, rfl⟩ rfl rfl rfl rfl rfl (by kernel_rfl) Tryd.func7 (by kernel_rfl)
    (of_decide_eq_true (by kernel_rfl)) (by unfold Func.isWrapper; first | (rw [if_pos (by decide +kernel)]; kernel_rfl) | (rw [if_neg (by decide +kernel)]; exact ⟨rfl, rfl⟩))
    (fun os started H enc _ => lifted os started H enc)
/-- the statement -/
theorem proved : Rows.DecDigitCardSaid :=
  Claim7.holds_tied_plain_at .later [] _ _ _ _ over (fun _ h => by cases h) (by kernel_rfl) (fun _ h => by cases h) decDigit_row_tie rfl ⟨rfl, rfl⟩ (by kernel_rfl) rfl
    (fun f fn hf hfn => by
      obtain rfl : f = 7 := Option.some.inj ((show Tryd.prog.funcNamed "tombola/tombolalaw04.DecDigit" = some 7 by kernel_rfl).symm.trans hf) |>.symm
      obtain rfl : fn = Tryd.f7 := (Option.some.inj (Tryd.func7.symm.trans hfn)).symm
      exact ⟨by kernel_rfl, (fun j t ht => by
        rw [Tryd.params7] at ht
        have hm : t ∈ [23, 5] := by simpa using Array.mem_of_getElem? ht
        have hall : ([23, 5].all fun u => !Tryd.prog.wantsStandIn u) = true := by kernel_rfl
        exact (show Tryd.prog.wantsStandIn t = false by simpa using List.all_eq_true.1 hall t hm))⟩)
    (by kernel_rfl)
#print axioms proved
end Go.Proofs.YtbadbjmhmadbmaaDoor.decDigit
