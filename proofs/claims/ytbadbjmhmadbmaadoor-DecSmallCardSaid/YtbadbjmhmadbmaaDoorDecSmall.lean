/-
  PROVED: the statement DecSmall (tombolalaw04.DecSmall) about the landed commit: for every input the law returns true and leaves its arguments as they were. Conditions: none beyond those that the given row itself prints.
-/
import Derived.Test.YtbadbjmhmadbmaaDoorCards
import Derived.Test.YtbadbjmhmadbmaaDoorTie
import Derived.LaidMore
import Derived.Lay
import Derived.SevenTiedAt
import Derived.Stop.Joined
import Derived.Test.YtbadbjmhmadbmaaDoorRows
import Derived.WalkKit
import Derived.ProofKit
import Derived.OpenShut
import Derived.RowKit3
import Derived.Test.YtbadbjmhmadbmaaDoorLawFrame
import Derived.Test.YtbadbjmhmadbmaaDoorNatOpen
import Derived.Test.YtbadbjmhmadbmaaDoorDecAwake
namespace Go.Proofs.YtbadbjmhmadbmaaDoor.decSmall
open Go.ChangeShapes Go.WideShapes Go.ChangeAt Go.RowKit
set_option linter.unusedVariables false
set_option maxRecDepth 20000
open N
theorem own : ownKnob Tryd.prog.godebug = none := by kernel_rfl
open Go.Lib (decDigits nDigits decDigits_length nDigits_pos)
theorem dd_split (u : Nat) : decDigits u = topD (u / 10) ++ [UInt8.ofNat (48 + u % 10)] := by
  by_cases h' : u < 10
  · rw [dd_small h', show u / 10 = 0 by omega, topD_zero, show u % 10 = u by omega]; rfl
  · rw [dd_big h', topD_pos (by omega)]
def lenS : Value → Nat
  | .string s => s.size
  | _ => 0
def SmRel (v : Nat) (s x : Value) : Prop := ∃ (u : Nat) (T : List UInt8), u ≤ v ∧ x = .int .u64 (u : Int) ∧ s = .string ⟨T.toArray⟩ ∧ ((T = [] ∧ u = v) ∨ (T ≠ [] ∧ decDigits v = topD u ++ T))
set_option maxRecDepth 100000 in
set_option maxHeartbeats 4000000 in
theorem walk (w : World) (a0 : Int) (w0 : (Lit.int .u64 a0).wf = true) :
    Calls Tryd.prog 10 #[.int .u64 a0] w fun e w' => e = .returned (.bool true) ∧ Below w.heap.size w w' := by
  obtain ⟨d0, d1⟩ := bounds_u64 w0
  obtain ⟨v, rfl⟩ := Int.eq_ofNat_of_zero_le d0
  have hn20 : nDigits v ≤ 20 := nDigits_le (by omega) (by omega)
  obtain ⟨r1, r2⟩ := rdV_dd (v := v) (by omega)
  have HR1 := Lib.hid r1
  have HR2 := Lib.hid r2
  have hdl : (decDigits v).length ≤ maxLen := by rw [decDigits_length]; unfold maxLen; omega
  have HDL := Lib.hid hdl
  have HN := Lib.hid hn20
  clear r1 r2 hdl hn20
  go_enter Tryd.func10, Tryd.ntmps10
  go_wp2
  go_loopw [3, 4] (fun s x wr => SmRel v s x ∧ Below w.heap.size w wr) (fun s x _ => 2 * (intOf x).toNat + 1 - min 1 (lenS s))
  case atStart => exact ⟨⟨v, [], Nat.le_refl _, rfl, rfl, .inl ⟨rfl, rfl⟩⟩, Below.refl _ _⟩
  case round =>
    obtain ⟨⟨u, T, hu, rfl, rfl, hT⟩, hb⟩ := hrel
    obtain ⟨wi, rfl⟩ : ∃ wi : World, wi = wr := ⟨_, rfl⟩
    have HB := Lib.hid hb
    clear hb
    by_cases hgo : T = [] ∨ 0 < u
    · have hTl : T.length ≤ 20 := by
        rcases hT with ⟨e, _⟩ | ⟨_, e⟩
        · rw [e]; exact Nat.zero_le _
        · have := congrArg List.length e
          rw [decDigits_length, List.length_append] at this
          have := HN.out
          omega
      have hnew : decDigits v = topD (u / 10) ++ (UInt8.ofNat (48 + u % 10) :: T) := by
        rcases hT with ⟨e, e2⟩ | ⟨e, e2⟩
        · rw [e, e2]; exact dd_split v
        · have hup : 0 < u := by rcases hgo with h | h; exact absurd h e; exact h
          rw [e2, topD_step hup, List.append_assoc]; rfl
      have hr9 : u % 10 < 10 := Nat.mod_lt _ (by omega)
      obtain ⟨dg, hdg⟩ : ∃ dg, UInt8.ofNat (48 + u % 10) = dg := ⟨_, rfl⟩
      rw [hdg] at hnew
      have hap : (⟨#[dg]⟩ : ByteArray) ++ ⟨T.toArray⟩ = ⟨(dg :: T).toArray⟩ := ByteArray.mk_append_mk [dg] T
      have hsz : (⟨#[dg]⟩ : ByteArray).size + (⟨T.toArray⟩ : ByteArray).size ≤ 9223372036854775807 := by
        show 1 + T.length ≤ _
        omega
      have hcv : ∀ W : World, (convert 35 9 (.slice (some ⟨W.heap.size, 0, none⟩) 1 1)).run Tryd.prog (W.alloc (.cells #[.int .u8 (48 + (u : Int) % 10)] 5)) = .ok (.string ⟨#[dg]⟩) (W.alloc (.cells #[.int .u8 (48 + (u : Int) % 10)] 5)) := fun W => by
        refine str_back [dg] _ 1 1 _ ((ArrB.lit W [dg] #[.int .u8 (48 + (u : Int) % 10)] ?_).sl rfl (by unfold maxLen; omega))
        rw [← hdg]; exact bv_dig u
      have hw8 : IntKind.u8.wrap (48 + (u : Int) % 10) = 48 + (u : Int) % 10 := by rw [IntKind.wrap_u8]; omega
      have hw64 : IntKind.u64.wrap (48 + (u : Int) % 10) = 48 + (u : Int) % 10 := by rw [IntKind.wrap_u64]; omega
      have HNEW := Lib.hid hnew
      have HHU := Lib.hid hu
      have hba := HB.out.alloc HB.out.size (.cells #[.int .u8 (48 + (u : Int) % 10)] 5)
      have HBA := Lib.hid hba
      have hT2 : T = [] ∨ (T ≠ [] ∧ 0 < u) := by
        rcases Classical.em (T = []) with h | h
        · exact .inl h
        · exact .inr ⟨h, by rcases hgo with h' | h'; exact absurd h' h; exact h'⟩
      clear hT hgo hdg hnew hba hr9 hu
      have hwd : IntKind.u64.wrap ((u : Int) / 10) = (u : Int) / 10 := by rw [IntKind.wrap_u64]; have := HHU.out; omega
      by_cases hup : 0 < u
      · have hm : 2 * (u / 10) + 1 - min 1 (T.length + 1) < 2 * u + 1 - min 1 T.length := by omega
        have HM := Lib.hid hm
        clear hT2 hm
        go_wp2
        go_roundw
        case rel => exact ⟨⟨u / 10, dg :: T, by have := HHU.out; omega, by congr 1, rfl, .inr ⟨List.cons_ne_nil _ _, HNEW.out⟩⟩, HBA.out⟩
        case measure =>
          have := HM.out
          have e : ((u : Int) / 10).toNat = u / 10 := by omega
          show 2 * ((u : Int) / 10).toNat + 1 - min 1 (T.length + 1) < 2 * ((u : Int)).toNat + 1 - min 1 T.length
          omega
      · obtain rfl : u = 0 := by omega
        obtain rfl : T = [] := by rcases hT2 with h | h; exact h; exact absurd h.2 (by omega)
        have hcv0 : ∀ W : World, (convert 35 9 (.slice (some ⟨W.heap.size, 0, none⟩) 1 1)).run Tryd.prog (W.alloc (.cells #[.int .u8 48] 5)) = .ok (.string ⟨#[dg]⟩) (W.alloc (.cells #[.int .u8 48] 5)) := hcv
        clear hT2 hcv hw8 hw64 hwd
        go_wp2
        go_roundw
        case rel => exact ⟨⟨0, [dg], Nat.zero_le _, rfl, rfl, .inr ⟨List.cons_ne_nil _ _, HNEW.out⟩⟩, HBA.out⟩
        case measure => exact (show (2 * 0 + 1 - min 1 1) < (2 * 0 + 1 - min 1 0) from by decide)
    · have hu0 : u = 0 := by
        rcases Nat.eq_zero_or_pos u with h | h
        · exact h
        · exact absurd (.inr h) hgo
      subst hu0
      have hne : T ≠ [] := fun e => hgo (.inl e)
      have hS := Lib.hid ((St.nil_ w).below HB.out)
      obtain rfl : decDigits v = T := by
        rcases hT with ⟨e, _⟩ | ⟨_, e⟩
        · exact absurd e hne
        · rw [e, topD_zero]; rfl
      have hTe : (decDigits v == []) = false := by rw [beq_eq_false_iff_ne]; exact hne
      clear hT hgo hne
      go_wp2_with fail
      go_at_call 19
      refine (read_t hS.out (decDigits v) 0 (v : Int) HDL.out HR1.out HR2.out).mono ?_
      rintro e w' ⟨A2, n2, c2, rfl, h1⟩
      clear hS; have hS := Lib.hid h1; clear h1
      go_wp2_with fail
      go_at_call 21
      refine (small_s hS.out List.mem_cons_self (by omega)).mono ?_
      rintro e w' ⟨rfl, h1⟩
      clear hS; have hS := Lib.hid h1; clear h1
      go_wp2_with fail
      go_at_call 29
      refine (of_s hS.out ⟨by omega, by omega⟩).mono ?_
      rintro e w' ⟨A3, n3, c3, rfl, h1⟩
      clear hS; have hS := Lib.hid h1; clear h1
      go_wp2_with fail
      go_at_call 14
      refine (show_s hS.out List.mem_cons_self (by omega)).mono ?_
      rw [Int.toNat_natCast]
      rintro e w' ⟨rfl, h1⟩
      clear hS; have hS := Lib.hid h1; clear h1
      go_wp2_with fail
      go_at_call 13
      refine (dawake_s hS.out).mono ?_
      rintro e w' ⟨rfl, h1⟩
      clear hS; have hS := Lib.hid h1; clear h1
      go_wp2
      go_ret
      exact ⟨rfl, hS.out.1⟩
set_option maxRecDepth 100000 in
theorem lifted (os : Os) (started : os.Started) (H : Type) (enc : TypeId × Value → H) :
    ReturnsInHanded {} Tryd.checked os 10 .any (fun w args => (Rows.decSmallSpec.pre enc Tryd.prog Tryd.f10 Rows.decSmallRow.domain false w args ∧ laidMetH Tryd.prog Rows.decSmallRow.laid w) ∧ sizedMet enc Tryd.prog Tryd.f10 (OpenSpec.ofChange Rows.decSmallSpec) false w args) (Rows.decSmallSpec.post enc Tryd.prog Tryd.f10 false true false false) := by
  refine returnsInHanded_of_change_and (C := Tryd.checked) (X := fun w _ => laidMetH Tryd.prog Rows.decSmallRow.laid w) (fun _ _ _ hh h => h.of_heap hh) own started (by kernel_rfl) Tryd.func10
    (ChangeSpec.witness_shaped (enc := enc) (C := Tryd.checked) (os := os) (X := fun w _ => laidMetH Tryd.prog Rows.decSmallRow.laid w) false (World.laidAll Tryd.prog os Rows.decSmallRow.laid) #[.int .u64 0] 8 (World.laidAll_os _ _ _)
      (World.shaped_of_ZipB (by kernel_rfl) (by kernel_rfl)) (by kernel_rfl) (by kernel_rfl) (by kernel_rfl)
      (by rw [MakeChecks.laidMetH_plain _ _ _ (by kernel_rfl)]; exact laidMet_laidAll _ (by kernel_rfl) (by kernel_rfl))) ?_
  intro W base args ds gs before hval0 hW hcnd _ _ _
  have hval : ∀ (j : Nat) t v, Tryd.f10.params[j]? = some t → args[j]? = some v → Value.okWide Tryd.prog W .any base t v := hval0
  have hW' := hW
  obtain ⟨p, q, hA0, hV, hpq, hfz, hnd⟩ := hW
  have hA : DataW.TrodAll enc Tryd.prog W 0 (fun _ => true) true Tryd.f10.params.toList args.toList ds p := hA0
  rw [Tryd.params10] at hA hval
  obtain ⟨v0, vs0, d0, ds0, p0, q0, hargs, rfl, rfl, h0, r0⟩ := trodAll_cons hA
  obtain ⟨rfl, rfl, rfl⟩ := trodAll_nil r0
  obtain rfl : args = #[v0] := by cases args; simp_all
  obtain ⟨rfl, rfl⟩ := trodVars_none hV
  obtain ⟨a0, rfl, rfl, rfl, w0⟩ := open_int Tryd.underlying33 (hval 0 33 v0 rfl rfl) h0
  refine (walk W a0 w0).mono fun e W' ⟨he, hb⟩ => ?_
  subst he
  exact ⟨_, rfl, Frame.close laidOut hW' rfl rfl rfl Tryd.underlying4 (fun t ht => by rw [Tryd.params10] at ht; simp at ht; rcases ht with rfl <;> exact ⟨by kernel_rfl, of_decide_eq_true (by kernel_rfl)⟩) hb⟩
theorem over : Rows.decSmallRow.holds Tryd.pinned (OpenSpec.ofChange Rows.decSmallSpec) :=
  OpenClaim.holds_of_wide 10 Tryd.f10 rfl rfl rfl rfl rfl rfl rfl ⟨rfl, rfl, rfl, rfl, rfl⟩ rfl rfl rfl rfl rfl (by kernel_rfl) Tryd.func10 (by kernel_rfl)
    (of_decide_eq_true (by kernel_rfl)) (by unfold Func.isWrapper; first | (rw [if_pos (by decide +kernel)]; kernel_rfl) | (rw [if_neg (by decide +kernel)]; exact ⟨rfl, rfl⟩))
    (fun os started H enc _ => lifted os started H enc)
/-- the statement -/
theorem proved : Rows.DecSmallCardSaid :=
  Claim7.holds_tied_plain_at .later [] _ _ _ _ over (fun _ h => by cases h) (by kernel_rfl) (fun _ h => by cases h) decSmall_row_tie rfl ⟨rfl, rfl⟩ (by kernel_rfl) rfl
    (fun f fn hf hfn => by
      obtain rfl : f = 10 := Option.some.inj ((show Tryd.prog.funcNamed "tombola/tombolalaw04.DecSmall" = some 10 by kernel_rfl).symm.trans hf) |>.symm
      obtain rfl : fn = Tryd.f10 := (Option.some.inj (Tryd.func10.symm.trans hfn)).symm
      exact ⟨by kernel_rfl, (fun j t ht => by
        rw [Tryd.params10] at ht
        have hm : t ∈ [33] := by simpa using Array.mem_of_getElem? ht
        have hall : ([33].all fun u => !Tryd.prog.wantsStandIn u) = true := by kernel_rfl
        exact (show Tryd.prog.wantsStandIn t = false by simpa using List.all_eq_true.1 hall t hm))⟩)
    (by kernel_rfl)
#print axioms proved
end Go.Proofs.YtbadbjmhmadbmaaDoor.decSmall
