/-
  PROVED: the statement CursorJoins (tombolalaw08.CursorJoins) about the landed commit: for every input the law returns true and leaves its arguments as they were. Conditions: none beyond those that the given row itself prints.
-/
import Derived.Test.YtifobfbeddlglaaDoorCards
import Derived.Test.YtifobfbeddlglaaDoorTie
import Derived.LaidMore
import Derived.Lay
import Derived.SevenTiedAt
import Derived.Stop.Joined
import Derived.Test.YtifobfbeddlglaaDoorRows
import Derived.WalkKit
import Derived.ProofKit
import Derived.OpenShut
import Derived.RowKit3
import Derived.Test.YtifobfbeddlglaaDoorGFrame
import Derived.Test.YtifobfbeddlglaaDoorCurAwake
import Derived.Test.YtifobfbeddlglaaDoorIntOpen
namespace Go.Proofs.YtifobfbeddlglaaDoor.cursorJoins
open Go.ChangeShapes Go.WideShapes Go.ChangeAt Go.RowKit
set_option linter.unusedVariables false
set_option linter.unusedSimpArgs false
set_option maxRecDepth 20000
open N
theorem own : ownKnob Tryd.prog.godebug = none := by kernel_rfl
theorem joined {l : List UInt8} {a p q x y z : Nat} (hB : isB l = true) (h : a + (p + q) ≤ l.length) (hx : numB ((l.drop a).take p) = x) (hy : numB ((l.drop (a + p)).take q) = y) (hz : numB ((l.drop a).take (p + q)) = z) : z = x * 2 ^ q + y ∧ x < 2 ^ p ∧ y < 2 ^ q := by
  have hb := (isB_iff.1 hB).2
  have e : (l.drop a).take (p + q) = (l.drop a).take p ++ (l.drop (a + p)).take q := by rw [List.take_add, List.drop_drop]
  have n1 : ((l.drop a).take p).length = p := by rw [List.length_take, List.length_drop]; omega
  have n2 : ((l.drop (a + p)).take q).length = q := by rw [List.length_take, List.length_drop]; omega
  have h1 := numB_lt (bitsL_take (bitsL_drop hb a) p)
  have h2 := numB_lt (bitsL_take (bitsL_drop hb (a + p)) q)
  rw [e, numB_append, n2, hx, hy] at hz
  rw [n1, hx] at h1
  rw [n2, hy] at h2
  exact ⟨hz.symm, h1, h2⟩
theorem or_join {x y p q z : Nat} (hz : z = x * 2 ^ q + y) (hx : x < 2 ^ p) (hy : y < 2 ^ q) (h : p + q ≤ 64) : bits .or .u64 (IntKind.u64.wrap ((x : Int) * 2 ^ q)) (y : Int) = (z : Int) := by
  have h1 : (x + 1) * 2 ^ q ≤ 2 ^ p * 2 ^ q := Nat.mul_le_mul_right _ hx
  have h2 : 2 ^ p * 2 ^ q ≤ 2 ^ 64 := by rw [← Nat.pow_add]; exact Nat.pow_le_pow_right (by decide) h
  have h3 : (x + 1) * 2 ^ q = x * 2 ^ q + 2 ^ q := by rw [Nat.add_mul, Nat.one_mul]
  have h4 : ((x : Int) * 2 ^ q) = ((x * 2 ^ q : Nat) : Int) := by push_cast; rfl
  rw [h4]
  obtain ⟨m, hm⟩ : ∃ m, x * 2 ^ q = m := ⟨_, rfl⟩
  have h5 := W.nat_or x y q hy
  rw [hm] at h3 hz h5 ⊢
  have h6 : IntKind.u64.wrap (m : Int) = (m : Int) := by rw [IntKind.wrap_u64]; omega
  rw [h6, bits_or_u64_nat _ _ (by omega) (by omega), Nat.or_comm, h5, hz]
theorem shl_one {x p : Nat} (h : p < 64) (hx : x < 2 ^ p) : IntKind.u64.wrap (2 ^ p) = ((2 ^ p : Nat) : Int) ∧ (x : Int) < ((2 ^ p : Nat) : Int) := by
  have h1 : 2 ^ p ≤ 2 ^ 63 := Nat.pow_le_pow_right (by decide) (by omega)
  have h4 : ((2 : Int) ^ p) = ((2 ^ p : Nat) : Int) := by push_cast; rfl
  rw [h4]
  obtain ⟨m, hm⟩ : ∃ m, 2 ^ p = m := ⟨_, rfl⟩
  rw [hm] at h1 hx ⊢
  exact ⟨by rw [IntKind.wrap_u64]; omega, by omega⟩
set_option maxRecDepth 100000 in
set_option maxHeartbeats 40000000 in
theorem walk (w : World) (b0 : List UInt8) (l0 : b0.length ≤ maxLen) (a1 : Int) (w1 : (Lit.int .u8 a1).wf = true) (a2 : Int) (w2 : (Lit.int .u8 a2).wf = true) (a3 : Int) (w3 : (Lit.int .u8 a3).wf = true) :
    Calls Tryd.prog 5 #[.string ⟨b0.toArray⟩, .int .u8 a1, .int .u8 a2, .int .u8 a3] w fun e w' => e = .returned (.bool true) ∧ Below w.heap.size w w' := by
  have hS := Lib.hid (CS.start w)
  have hx1 : 0 ≤ a1 ∧ a1 ≤ 255 := by simpa [Lit.wf, IntKind.min, IntKind.max, IntKind.signed, IntKind.bits] using w1
  have hx2 : 0 ≤ a2 ∧ a2 ≤ 255 := by simpa [Lit.wf, IntKind.min, IntKind.max, IntKind.signed, IntKind.bits] using w2
  have hx3 : 0 ≤ a3 ∧ a3 ≤ 255 := by simpa [Lit.wf, IntKind.min, IntKind.max, IntKind.signed, IntKind.bits] using w3
  obtain ⟨m, rfl⟩ := Int.eq_ofNat_of_zero_le hx1.1
  obtain ⟨p, hp, hp64⟩ : ∃ p : Nat, a2 % 65 = (p : Int) ∧ p ≤ 64 := ⟨(a2 % 65).toNat, by omega, by omega⟩
  obtain ⟨q, hq, hq64⟩ : ∃ q : Nat, a3 % 65 = (q : Int) ∧ q ≤ 64 := ⟨(a3 % 65).toNat, by omega, by omega⟩
  have hwp : IntKind.i64.wrap ((p : Int) + (q : Int)) = (p : Int) + (q : Int) := by rw [IntKind.wrap_i64]; omega
  by_cases g0 : 2000 < b0.length
  · go_enter Tryd.func5, Tryd.ntmps5
    go_wp2_with fail
    go_at_call 9
    refine (cawake_s hS.out).mono ?_
    rintro e v1 ⟨rfl, h1⟩
    have h2 : CS w v1 [] := h1
    clear hS h1; have hS := Lib.hid h2; clear h2
    go_wp2
    go_ret
    exact ⟨rfl, hS.out.bl⟩
  · have hl0 : b0.length ≤ 2000 := by omega
    clear g0
    by_cases g1 : 64 < p + q
    · go_enter Tryd.func5, Tryd.ntmps5
      go_wp2_with fail
      go_at_call 9
      refine (cawake_s hS.out).mono ?_
      rintro e v1 ⟨rfl, h1⟩
      have h2 : CS w v1 [] := h1
      clear hS h1; have hS := Lib.hid h2; clear h2
      go_wp2
      go_ret
      exact ⟨rfl, hS.out.bl⟩
    · have HL0 := Lib.hid hl0
      by_cases h : isB b0 = true
      · have HB := Lib.hid h
        clear h
        go_enter Tryd.func5, Tryd.ntmps5
        go_wp2_with fail
        go_at_call 9
        refine (cawake_s hS.out).mono ?_
        rintro e v1 ⟨rfl, h1⟩
        have h2 : CS w v1 [] := h1
        clear hS h1; have hS := Lib.hid h2; clear h2
        go_wp2_with fail
        go_at_call 10
        refine (new_s hS.out HB.out).mono ?_
        rintro e v2 ⟨g, rfl, h1⟩
        have h2 : CS w v2 [K g b0 0 false] := h1
        clear hS h1; have hS := Lib.hid h2; clear h2
        go_wp2_with fail
        go_loopw [13] (fun i wr => ∃ (k a : Nat) (o : Bool), k ≤ m ∧ a ≤ b0.length ∧ i = .int .i64 k ∧ CS w wr [K g b0 a o]) (fun i _ => m - (intOf i).toNat)
        case atStart => exact ⟨0, 0, false, by omega, by omega, rfl, hS.out⟩
        case round =>
          obtain ⟨k, a, o, hk, ha, rfl, hS0⟩ := hrel
          clear hS
          have hS := Lib.hid hS0
          clear hS0
          have HA := Lib.hid ha
          by_cases hlt : k < m
          · obtain ⟨nv, gd, a', o', hk, ha⟩ := tk_some HA.out o 1
            have HK := Lib.hid hk
            have HA' := Lib.hid ha
            clear hk ha
            go_wp2_with fail
            go_at_call 12
            refine (take_n hS.out 0 rfl HB.out HA.out HK.out).mono ?_
            rintro e v3 ⟨rfl, h1⟩
            have h2 : CS w v3 [K g b0 a' o'] := h1
            clear hS h1; have hS := Lib.hid h2; clear h2
            go_wp2
            go_roundw
            case rel => exact ⟨k + 1, a', o', by omega, HA'.out, by go_num, hS.out⟩
            case measure => simp [intOf]; omega
          · obtain rfl : k = m := by omega
            cases o with
            | true =>
              go_wp2_with fail
              go_at_call 18
              refine (over_s hS.out 0 rfl).mono ?_
              rintro e v3 ⟨rfl, h1⟩
              have h2 : CS w v3 [K g b0 a true] := h1
              clear hS h1; have hS := Lib.hid h2; clear h2
              go_wp2
              go_ret
              exact ⟨rfl, hS.out.bl⟩
            | false =>
              have h64 : p + q ≤ 64 := by omega
              by_cases c1 : b0.length < a + p
              · have HK1 := Lib.hid (Tk.over (l := b0) (a := a) (n := (p : Int)) (by omega) (by omega) (by omega))
                have HK2 := Lib.hid (Tk.bad (l := b0) (a := a) (o := true) (n := (q : Int)) (.inl rfl))
                have HK3 := Lib.hid (Tk.over (l := b0) (a := a) (n := (p : Int) + (q : Int)) (by omega) (by omega) (by omega))
                go_wp2_with fail
                go_at_call 18
                refine (over_s hS.out 0 rfl).mono ?_
                rintro e v3 ⟨rfl, h1⟩
                have h2 : CS w v3 [K g b0 a false] := h1
                clear hS h1; have hS := Lib.hid h2; clear h2
                go_wp2_with fail
                go_at_call 21
                refine (copy_s hS.out 0 rfl HB.out).mono ?_
                rintro e v4 ⟨d, rfl, h1⟩
                have h2 : CS w v4 [K d b0 a false, K g b0 a false] := h1
                clear hS h1; have hS := Lib.hid h2; clear h2
                go_wp2_with fail
                go_at_call 12
                refine (take_n hS.out 1 rfl HB.out HA.out HK1.out).mono ?_
                rintro e v5 ⟨rfl, h1⟩
                have h2 : CS w v5 [K d b0 a false, K g b0 a true] := h1
                clear hS h1; have hS := Lib.hid h2; clear h2
                go_wp2_with fail
                go_at_call 12
                refine (take_n hS.out 1 rfl HB.out HA.out HK2.out).mono ?_
                rintro e v6 ⟨rfl, h1⟩
                have h2 : CS w v6 [K d b0 a false, K g b0 a true] := h1
                clear hS h1; have hS := Lib.hid h2; clear h2
                go_wp2_with fail
                go_at_call 12
                refine (take_n hS.out 0 rfl HB.out HA.out HK3.out).mono ?_
                rintro e v7 ⟨rfl, h1⟩
                have h2 : CS w v7 [K d b0 a true, K g b0 a true] := h1
                clear hS h1; have hS := Lib.hid h2; clear h2
                go_wp2
                go_ret
                exact ⟨rfl, hS.out.bl⟩
              · by_cases c2 : b0.length < a + (p + q)
                · have HA2 := Lib.hid (show a + p ≤ b0.length by omega)
                  obtain ⟨x, hx⟩ : ∃ x, numB ((b0.drop a).take p) = x := ⟨_, rfl⟩
                  have HK1 := Lib.hid (Tk.good (l := b0) hp64 HA2.out hx)
                  clear hx
                  have HK2 := Lib.hid (Tk.over (l := b0) (a := a + p) (n := (q : Int)) (by omega) (by omega) (by omega))
                  have HK3 := Lib.hid (Tk.over (l := b0) (a := a) (n := (p : Int) + (q : Int)) (by omega) (by omega) (by omega))
                  go_wp2_with fail
                  go_at_call 18
                  refine (over_s hS.out 0 rfl).mono ?_
                  rintro e v3 ⟨rfl, h1⟩
                  have h2 : CS w v3 [K g b0 a false] := h1
                  clear hS h1; have hS := Lib.hid h2; clear h2
                  go_wp2_with fail
                  go_at_call 21
                  refine (copy_s hS.out 0 rfl HB.out).mono ?_
                  rintro e v4 ⟨d, rfl, h1⟩
                  have h2 : CS w v4 [K d b0 a false, K g b0 a false] := h1
                  clear hS h1; have hS := Lib.hid h2; clear h2
                  go_wp2_with fail
                  go_at_call 12
                  refine (take_n hS.out 1 rfl HB.out HA.out HK1.out).mono ?_
                  rintro e v5 ⟨rfl, h1⟩
                  have h2 : CS w v5 [K d b0 a false, K g b0 (a + p) false] := h1
                  clear hS h1; have hS := Lib.hid h2; clear h2
                  go_wp2_with fail
                  go_at_call 12
                  refine (take_n hS.out 1 rfl HB.out HA2.out HK2.out).mono ?_
                  rintro e v6 ⟨rfl, h1⟩
                  have h2 : CS w v6 [K d b0 a false, K g b0 (a + p) true] := h1
                  clear hS h1; have hS := Lib.hid h2; clear h2
                  go_wp2_with fail
                  go_at_call 12
                  refine (take_n hS.out 0 rfl HB.out HA.out HK3.out).mono ?_
                  rintro e v7 ⟨rfl, h1⟩
                  have h2 : CS w v7 [K d b0 a true, K g b0 (a + p) true] := h1
                  clear hS h1; have hS := Lib.hid h2; clear h2
                  go_wp2
                  go_ret
                  exact ⟨rfl, hS.out.bl⟩
                · have HA2 := Lib.hid (show a + p ≤ b0.length by omega)
                  obtain ⟨x, hx⟩ : ∃ x, numB ((b0.drop a).take p) = x := ⟨_, rfl⟩
                  obtain ⟨y, hy⟩ : ∃ y, numB ((b0.drop (a + p)).take q) = y := ⟨_, rfl⟩
                  obtain ⟨z, hz⟩ : ∃ z, numB ((b0.drop a).take (p + q)) = z := ⟨_, rfl⟩
                  obtain ⟨e1, e2, e3⟩ := joined (HB.out) (show a + (p + q) ≤ b0.length by omega) hx hy hz
                  have HK1 := Lib.hid (Tk.good (l := b0) hp64 HA2.out hx)
                  have HK2 := Lib.hid (show Tk b0 (a + p) false (q : Int) y true (a + (p + q)) false by rw [← Nat.add_assoc]; exact Tk.good (l := b0) (a := a + p) hq64 (by omega) hy)
                  have hbit := or_join e1 e2 e3 h64
                  have HK3 := Lib.hid (show Tk b0 a false ((p : Int) + (q : Int)) z true (a + (p + q)) false by rw [show (p : Int) + (q : Int) = ((p + q : Nat) : Int) by omega]; exact Tk.good (l := b0) h64 (by omega) hz)
                  clear hx hy hz
                  go_wp2_with fail
                  go_at_call 18
                  refine (over_s hS.out 0 rfl).mono ?_
                  rintro e v3 ⟨rfl, h1⟩
                  have h2 : CS w v3 [K g b0 a false] := h1
                  clear hS h1; have hS := Lib.hid h2; clear h2
                  go_wp2_with fail
                  go_at_call 21
                  refine (copy_s hS.out 0 rfl HB.out).mono ?_
                  rintro e v4 ⟨d, rfl, h1⟩
                  have h2 : CS w v4 [K d b0 a false, K g b0 a false] := h1
                  clear hS h1; have hS := Lib.hid h2; clear h2
                  go_wp2_with fail
                  go_at_call 12
                  refine (take_n hS.out 1 rfl HB.out HA.out HK1.out).mono ?_
                  rintro e v5 ⟨rfl, h1⟩
                  have h2 : CS w v5 [K d b0 a false, K g b0 (a + p) false] := h1
                  clear hS h1; have hS := Lib.hid h2; clear h2
                  go_wp2_with fail
                  go_at_call 12
                  refine (take_n hS.out 1 rfl HB.out HA2.out HK2.out).mono ?_
                  rintro e v6 ⟨rfl, h1⟩
                  have h2 : CS w v6 [K d b0 a false, K g b0 (a + (p + q)) false] := h1
                  clear hS h1; have hS := Lib.hid h2; clear h2
                  go_wp2_with fail
                  go_at_call 12
                  refine (take_n hS.out 0 rfl HB.out HA.out HK3.out).mono ?_
                  rintro e v7 ⟨rfl, h1⟩
                  have h2 : CS w v7 [K d b0 (a + (p + q)) false, K g b0 (a + (p + q)) false] := h1
                  clear hS h1; have hS := Lib.hid h2; clear h2
                  clear e1 e3
                  by_cases h6 : p = 64
                  · subst h6
                    go_wp2_with fail
                    go_at_call 17
                    refine (at_s hS.out 1 rfl).mono ?_
                    rintro e v8 ⟨rfl, h1⟩
                    have h2 : CS w v8 [K d b0 (a + (64 + q)) false, K g b0 (a + (64 + q)) false] := h1
                    clear hS h1; have hS := Lib.hid h2; clear h2
                    go_wp2_with fail
                    go_at_call 17
                    refine (at_s hS.out 0 rfl).mono ?_
                    rintro e v9 ⟨rfl, h1⟩
                    have h2 : CS w v9 [K d b0 (a + (64 + q)) false, K g b0 (a + (64 + q)) false] := h1
                    clear hS h1; have hS := Lib.hid h2; clear h2
                    go_wp2
                    go_ret
                    exact ⟨rfl, hS.out.bl⟩
                  · have hp63 : p < 64 := by omega
                    obtain ⟨hw1, hx1⟩ := shl_one hp63 e2
                    clear e2
                    go_wp2_with fail
                    go_at_call 17
                    refine (at_s hS.out 1 rfl).mono ?_
                    rintro e v8 ⟨rfl, h1⟩
                    have h2 : CS w v8 [K d b0 (a + (p + q)) false, K g b0 (a + (p + q)) false] := h1
                    clear hS h1; have hS := Lib.hid h2; clear h2
                    go_wp2_with fail
                    go_at_call 17
                    refine (at_s hS.out 0 rfl).mono ?_
                    rintro e v9 ⟨rfl, h1⟩
                    have h2 : CS w v9 [K d b0 (a + (p + q)) false, K g b0 (a + (p + q)) false] := h1
                    clear hS h1; have hS := Lib.hid h2; clear h2
                    go_wp2
                    go_ret
                    exact ⟨rfl, hS.out.bl⟩
      · have hB : isB b0 = false := by simpa using h
        have HB := Lib.hid hB
        clear h hB
        go_enter Tryd.func5, Tryd.ntmps5
        go_wp2_with fail
        go_at_call 9
        refine (cawake_s hS.out).mono ?_
        rintro e v1 ⟨rfl, h1⟩
        have h2 : CS w v1 [] := h1
        clear hS h1; have hS := Lib.hid h2; clear h2
        go_wp2_with fail
        go_at_call 10
        refine (new_s_no (l := b0) hS.out HL0.out HB.out).mono ?_
        rintro e v2 ⟨rfl, h1⟩
        have h2 : CS w v2 [] := h1
        clear hS h1; have hS := Lib.hid h2; clear h2
        go_wp2
        go_ret
        exact ⟨rfl, hS.out.bl⟩
set_option maxRecDepth 100000 in
theorem lifted (os : Os) (started : os.Started) (H : Type) (enc : TypeId × Value → H) :
    ReturnsInHanded {} Tryd.checked os 5 .any (fun w args => (Rows.cursorJoinsSpec.pre enc Tryd.prog Tryd.f5 Rows.cursorJoinsRow.domain false w args ∧ laidMetH Tryd.prog Rows.cursorJoinsRow.laid w) ∧ sizedMet enc Tryd.prog Tryd.f5 (OpenSpec.ofChange Rows.cursorJoinsSpec) false w args) (Rows.cursorJoinsSpec.post enc Tryd.prog Tryd.f5 false true false false) := by
  refine returnsInHanded_of_change_and (C := Tryd.checked) (X := fun w _ => laidMetH Tryd.prog Rows.cursorJoinsRow.laid w) (fun _ _ _ hh h => h.of_heap hh) own started (by kernel_rfl) Tryd.func5
    (ChangeSpec.witness_shaped (enc := enc) (C := Tryd.checked) (os := os) (X := fun w _ => laidMetH Tryd.prog Rows.cursorJoinsRow.laid w) false (World.laidAll Tryd.prog os Rows.cursorJoinsRow.laid) #[.string ByteArray.empty, .int .u8 0, .int .u8 0, .int .u8 0] 8 (World.laidAll_os _ _ _)
      (World.shaped_of_ZipB (by kernel_rfl) (by kernel_rfl)) (by kernel_rfl) (by kernel_rfl) (by kernel_rfl)
      (by rw [MakeChecks.laidMetH_plain _ _ _ (by kernel_rfl)]; exact laidMet_laidAll _ (by kernel_rfl) (by kernel_rfl))) ?_
  intro W base args ds gs before hval0 hW hcnd _ _ _
  have hval : ∀ (j : Nat) t v, Tryd.f5.params[j]? = some t → args[j]? = some v → Value.okWide Tryd.prog W .any base t v := hval0
  have hW' := hW
  obtain ⟨p, q, hA0, hV, hpq, hfz, hnd⟩ := hW
  have hA : DataW.TrodAll enc Tryd.prog W 0 (fun _ => true) true Tryd.f5.params.toList args.toList ds p := hA0
  rw [Tryd.params5] at hA hval
  obtain ⟨v0, vs0, d0, ds0, p0, q0, hargs, rfl, rfl, h0, r0⟩ := trodAll_cons hA
  obtain ⟨v1, vs1, d1, ds1, p1, q1, rfl, rfl, rfl, h1, r1⟩ := trodAll_cons r0
  obtain ⟨v2, vs2, d2, ds2, p2, q2, rfl, rfl, rfl, h2, r2⟩ := trodAll_cons r1
  obtain ⟨v3, vs3, d3, ds3, p3, q3, rfl, rfl, rfl, h3, r3⟩ := trodAll_cons r2
  obtain ⟨rfl, rfl, rfl⟩ := trodAll_nil r3
  obtain rfl : args = #[v0, v1, v2, v3] := by cases args; simp_all
  obtain ⟨rfl, rfl⟩ := trodVars_none hV
  obtain ⟨y0, rfl, rfl, rfl, l0⟩ := Go.ChangeMaps.open_string Tryd.underlying9 (hval 0 9 v0 rfl rfl) h0
  obtain ⟨b0, rfl⟩ : ∃ b : List UInt8, y0 = ⟨b.toArray⟩ := ⟨y0.data.toList, by cases y0; simp⟩
  obtain ⟨a1, rfl, rfl, rfl, w1⟩ := open_int Tryd.underlying5 (hval 1 5 v1 rfl rfl) h1
  obtain ⟨a2, rfl, rfl, rfl, w2⟩ := open_int Tryd.underlying5 (hval 2 5 v2 rfl rfl) h2
  obtain ⟨a3, rfl, rfl, rfl, w3⟩ := open_int Tryd.underlying5 (hval 3 5 v3 rfl rfl) h3
  refine (walk W b0 l0 a1 w1 a2 w2 a3 w3).mono fun e W' ⟨he, hb⟩ => ?_
  subst he
  exact ⟨_, rfl, Frame.close laidOut hW' rfl rfl rfl Tryd.underlying4 (fun t ht => by rw [Tryd.params5] at ht; simp at ht; rcases ht with rfl | rfl <;> exact ⟨by kernel_rfl, of_decide_eq_true (by kernel_rfl)⟩) hb⟩
theorem over : Rows.cursorJoinsRow.holds Tryd.pinned (OpenSpec.ofChange Rows.cursorJoinsSpec) :=
  OpenClaim.holds_of_wide 5 Tryd.f5 rfl rfl rfl rfl rfl rfl rfl ⟨rfl, rfl, rfl, rfl, rfl⟩ rfl rfl rfl rfl rfl (by kernel_rfl) Tryd.func5 (by kernel_rfl)
    (of_decide_eq_true (by kernel_rfl)) (by unfold Func.isWrapper; first | (rw [if_pos (by decide +kernel)]; kernel_rfl) | (rw [if_neg (by decide +kernel)]; exact ⟨rfl, rfl⟩))
    (fun os started H enc _ => lifted os started H enc)
/-- the statement -/
theorem proved : Rows.CursorJoinsCardSaid :=
  Claim7.holds_tied_plain_at .later [] _ _ _ _ over (fun _ h => by cases h) (by kernel_rfl) (fun _ h => by cases h) cursorJoins_row_tie rfl ⟨rfl, rfl⟩ (by kernel_rfl) rfl
    (fun f fn hf hfn => by
      obtain rfl : f = 5 := Option.some.inj ((show Tryd.prog.funcNamed "tombola/tombolalaw08.CursorJoins" = some 5 by kernel_rfl).symm.trans hf) |>.symm
      obtain rfl : fn = Tryd.f5 := (Option.some.inj (Tryd.func5.symm.trans hfn)).symm
      exact ⟨by kernel_rfl, (fun j t ht => by
        rw [Tryd.params5] at ht
        have hm : t ∈ [9, 5, 5, 5] := by simpa using Array.mem_of_getElem? ht
        have hall : ([9, 5, 5, 5].all fun u => !Tryd.prog.wantsStandIn u) = true := by kernel_rfl
        exact (show Tryd.prog.wantsStandIn t = false by simpa using List.all_eq_true.1 hall t hm))⟩)
    (by kernel_rfl)
#print axioms proved
end Go.Proofs.YtifobfbeddlglaaDoor.cursorJoins
