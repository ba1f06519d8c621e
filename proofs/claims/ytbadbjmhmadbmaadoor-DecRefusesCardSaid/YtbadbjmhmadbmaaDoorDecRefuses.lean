/-
  PROVED: the statement DecRefuses (tombolalaw04.DecRefuses) about the landed commit: for every input the law returns true and leaves its arguments as they were. Conditions: none beyond those that the given row itself prints.
-/
import Derived.Test.YtbadbjmhmadbmaaDoorCards
import Derived.Test.YtbadbjmhmadbmaaDoorTie
import Derived.LaidMore
import Derived.Lay
import Derived.SevenTiedAt
import Derived.Stop.Joined
import Derived.Test.YtbadbjmhmadbmaaDoorRows
import Derived.WalkKit
import Derived.ProofKit
import Derived.OpenShut
import Derived.RowKit3
import Derived.Test.YtbadbjmhmadbmaaDoorLawFrame
import Derived.Test.YtbadbjmhmadbmaaDoorNatOpen
import Derived.Test.YtbadbjmhmadbmaaDoorDecAwake
namespace Go.Proofs.YtbadbjmhmadbmaaDoor.decRefuses
open Go.ChangeShapes Go.WideShapes Go.ChangeAt Go.RowKit
set_option linter.unusedVariables false
set_option maxRecDepth 20000
open N
theorem own : ownKnob Tryd.prog.godebug = none := by kernel_rfl
open Go.Lib (decDigits nDigits decDigits_length nDigits_pos)
theorem good_fin {b : List UInt8} {G : Bool} (hG : G = true ↔ (b.length ≠ 0 ∧ ¬((b.getD 0 0).toNat = 48 ∧ 1 < b.length))) (h5 : b.length ≤ 500) :
    (rdE b = 0 ∧ (G && b.all isDb) = true ∧ b.length ≠ 0) ∨ (rdE b = 4 ∧ (G && b.all isDb) = false ∧ b.length = 0) ∨ (rdE b = 3 ∧ (G && b.all isDb) = false ∧ b.length ≠ 0) := by
  by_cases h0 : b.length = 0
  · right; left
    refine ⟨rdE_short h0, ?_, h0⟩
    have : G = false := by cases e : G; rfl; exact absurd h0 (hG.1 e).1
    rw [this]; rfl
  · by_cases ha : b.all isDb = true
    · by_cases hz : (b.getD 0 0).toNat = 48 ∧ 1 < b.length
      · right; right
        refine ⟨rdE_zero ha hz.1 hz.2, ?_, h0⟩
        have : G = false := by cases e : G; rfl; exact absurd hz (hG.1 e).2
        rw [this]; rfl
      · left
        exact ⟨rdE_ok h0 ha hz (by omega), by rw [hG.2 ⟨h0, hz⟩, ha]; rfl, h0⟩
    · right; right
      have ha' : b.all isDb = false := by cases e : b.all isDb; rfl; exact absurd e ha
      refine ⟨?_, by rw [ha', Bool.and_false], h0⟩
      unfold rdE; rw [if_neg h0, if_pos ha']
theorem all_take (b : List UInt8) (k : Nat) (h : k < b.length) : (b.take (k + 1)).all isDb = ((b.take k).all isDb && isDb (b.getD k 0)) := by
  rw [List.take_succ_eq_append_getElem h, List.all_append, List.getD_eq_getElem?_getD, List.getElem?_eq_getElem h]
  simp
set_option maxRecDepth 100000 in
set_option maxHeartbeats 4000000 in
theorem walk (w : World) (b0 : List UInt8) (l0 : b0.length ≤ maxLen) :
    Calls Tryd.prog 11 #[.string ⟨b0.toArray⟩] w fun e w' => e = .returned (.bool true) ∧ Below w.heap.size w w' := by
  have lm := l0
  unfold maxLen at lm
  have hS := Lib.hid (St.nil_ w)
  have hidx : ∀ (k : Nat), k < b0.length → ∀ W : World, (Instr.index 9 (.string ⟨b0.toArray⟩) (.int .i64 (k : Int))).run Tryd.prog W = .ok (.int .u8 (bat b0 k)) W := fun k hk W => str_at b0 9 strU .i64 k hk W
  have HIDX := Lib.hid hidx
  clear hidx
  by_cases hs : b0.length ≤ 500
  · by_cases h0 : b0.length = 0
    · have HG := Lib.hid (show ¬ (b0.length ≠ 0 ∧ ¬((b0.getD 0 0).toNat = 48 ∧ 1 < b0.length)) from fun e => absurd h0 e.1)
      have h0b : ((b0.length : Int) == 0) = true := by rw [h0]; rfl
      go_enter Tryd.func11, Tryd.ntmps11
      go_wp2_with fail
      go_at_call 13
      refine (dawake_s hS.out).mono ?_
      rintro e w' ⟨rfl, h1⟩
      clear hS; have hS := Lib.hid h1; clear h1
      go_wp2
      go_loop [3, 4] (fun g i => ∃ k : Nat, k ≤ b0.length ∧ i = .int .i64 k ∧ g = .bool (false && (b0.take k).all isDb)) (fun _ i => b0.length - (intOf i).toNat)
      case atStart => exact ⟨0, Nat.zero_le _, rfl, rfl⟩
      case round =>
        obtain ⟨k, hk, rfl, rfl⟩ := hrel
        obtain ⟨g, hg⟩ : ∃ g, (false && (b0.take k).all isDb) = g := ⟨_, rfl⟩
        rw [hg]
        by_cases hlt : k < b0.length
        · exfalso; omega
        · obtain rfl : k = b0.length := by omega
          rw [List.take_length] at hg
          have tri := good_fin (b := b0) (G := false) ⟨fun e => (by cases e), fun e => absurd e HG.out⟩ hs
          rw [hg] at tri
          clear hg
          rcases tri with ⟨e1, e2, e3⟩ | ⟨e1, e2, e3⟩ | ⟨e1, e2, e3⟩
          · first
            | (exfalso; omega)
            | (have HE := Lib.hid e1
               have e4 : ((b0.length : Int) == 0) = false := by simpa using e3
               subst e2
               clear e1
               go_wp2_with fail
               go_at_call 19
               refine (read_t hS.out b0 0 _ l0 HE.out rfl).mono ?_
               rintro e w' ⟨A4, n4, c4, rfl, h1⟩
               have hb := h1.1
               clear h1 hS
               go_wp2
               go_ret
               exact ⟨rfl, hb⟩)
          · first
            | (exfalso; omega)
            | (have HE := Lib.hid e1
               have e4 : ((b0.length : Int) == 0) = true := by rw [e3]; rfl
               subst e2
               clear e1
               go_wp2_with fail
               go_at_call 19
               refine (read_t hS.out b0 4 _ l0 HE.out rfl).mono ?_
               rintro e w' ⟨A4, n4, c4, rfl, h1⟩
               have hb := h1.1
               clear h1 hS
               go_wp2
               go_ret
               exact ⟨rfl, hb⟩)
          · first
            | (exfalso; omega)
            | (have HE := Lib.hid e1
               have e4 : ((b0.length : Int) == 0) = false := by simpa using e3
               subst e2
               clear e1
               go_wp2_with fail
               go_at_call 19
               refine (read_t hS.out b0 3 _ l0 HE.out rfl).mono ?_
               rintro e w' ⟨A4, n4, c4, rfl, h1⟩
               have hb := h1.1
               clear h1 hS
               go_wp2
               go_ret
               exact ⟨rfl, hb⟩)
    · have h0p : 0 < b0.length := by omega
      have hz0 : ∀ W : World, (Instr.index 9 (.string ⟨b0.toArray⟩) (.int .i64 0)).run Tryd.prog W = .ok (.int .u8 (bat b0 0)) W := HIDX.out 0 (by omega)
      have hy : bat b0 0 = ((b0.getD 0 0).toNat : Int) := rfl
      by_cases hy48 : bat b0 0 = 48
      · by_cases h1 : b0.length = 1
        · have HG := Lib.hid (show (b0.length ≠ 0 ∧ ¬((b0.getD 0 0).toNat = 48 ∧ 1 < b0.length)) from ⟨by omega, fun e => by omega⟩)
          rw [hy48] at hz0
          clear hy hy48
          have h1i : (b0.length : Int) = 1 := by omega
          go_enter Tryd.func11, Tryd.ntmps11
          go_wp2_with fail
          go_at_call 13
          refine (dawake_s hS.out).mono ?_
          rintro e w' ⟨rfl, h1⟩
          clear hS; have hS := Lib.hid h1; clear h1
          go_wp2
          go_loop [3, 4] (fun g i => ∃ k : Nat, k ≤ b0.length ∧ i = .int .i64 k ∧ g = .bool (true && (b0.take k).all isDb)) (fun _ i => b0.length - (intOf i).toNat)
          case atStart => exact ⟨0, Nat.zero_le _, rfl, rfl⟩
          case round =>
            obtain ⟨k, hk, rfl, rfl⟩ := hrel
            obtain ⟨g, hg⟩ : ∃ g, (true && (b0.take k).all isDb) = g := ⟨_, rfl⟩
            rw [hg]
            by_cases hlt : k < b0.length
            · have hx := HIDX.out k hlt
              obtain ⟨x, hxe⟩ : ∃ x, bat b0 k = x := ⟨_, rfl⟩
              have hD : isDb (b0.getD k 0) = (decide (48 ≤ x) && decide (x ≤ 57)) := by
                rw [← hxe]; unfold bat isDb
                rw [Bool.eq_iff_iff]
                simp only [Bool.and_eq_true, decide_eq_true_iff]
                omega
              have hn := all_take b0 k hlt
              have hn' : (true && (b0.take (k + 1)).all isDb) = (g && (decide (48 ≤ x) && decide (x ≤ 57))) := by
                rw [hn, hD, ← hg, Bool.and_assoc]
              have HN := Lib.hid hn'
              rw [hxe] at hx
              clear hD hn hn' hg hxe
              cases g with
              | false =>
                go_wp2
                go_round
                case rel => exact ⟨k + 1, by omega, by go_num, by rw [HN.out]; rfl⟩
                case measure => simp [intOf]; omega
              | true =>
                by_cases x1 : 48 ≤ x
                · by_cases x2 : x ≤ 57
                  · go_wp2
                    go_round
                    case rel => exact ⟨k + 1, by omega, by go_num, by rw [HN.out, decide_eq_true x1, decide_eq_true x2]; rfl⟩
                    case measure => simp [intOf]; omega
                  · go_wp2
                    go_round
                    case rel => exact ⟨k + 1, by omega, by go_num, by rw [HN.out, decide_eq_true x1, decide_eq_false x2]; rfl⟩
                    case measure => simp [intOf]; omega
                · go_wp2
                  go_round
                  case rel => exact ⟨k + 1, by omega, by go_num, by rw [HN.out, decide_eq_false x1]; rfl⟩
                  case measure => simp [intOf]; omega
            · obtain rfl : k = b0.length := by omega
              rw [List.take_length] at hg
              have tri := good_fin (b := b0) (G := true) ⟨fun _ => HG.out, fun _ => rfl⟩ hs
              rw [hg] at tri
              clear hg
              rcases tri with ⟨e1, e2, e3⟩ | ⟨e1, e2, e3⟩ | ⟨e1, e2, e3⟩
              · first
                | (exfalso; omega)
                | (have HE := Lib.hid e1
                   have e4 : ((b0.length : Int) == 0) = false := by simpa using e3
                   subst e2
                   clear e1
                   go_wp2_with fail
                   go_at_call 19
                   refine (read_t hS.out b0 0 _ l0 HE.out rfl).mono ?_
                   rintro e w' ⟨A4, n4, c4, rfl, h1⟩
                   have hb := h1.1
                   clear h1 hS
                   go_wp2
                   go_ret
                   exact ⟨rfl, hb⟩)
              · first
                | (exfalso; omega)
                | (have HE := Lib.hid e1
                   have e4 : ((b0.length : Int) == 0) = true := by rw [e3]; rfl
                   subst e2
                   clear e1
                   go_wp2_with fail
                   go_at_call 19
                   refine (read_t hS.out b0 4 _ l0 HE.out rfl).mono ?_
                   rintro e w' ⟨A4, n4, c4, rfl, h1⟩
                   have hb := h1.1
                   clear h1 hS
                   go_wp2
                   go_ret
                   exact ⟨rfl, hb⟩)
              · first
                | (exfalso; omega)
                | (have HE := Lib.hid e1
                   have e4 : ((b0.length : Int) == 0) = false := by simpa using e3
                   subst e2
                   clear e1
                   go_wp2_with fail
                   go_at_call 19
                   refine (read_t hS.out b0 3 _ l0 HE.out rfl).mono ?_
                   rintro e w' ⟨A4, n4, c4, rfl, h1⟩
                   have hb := h1.1
                   clear h1 hS
                   go_wp2
                   go_ret
                   exact ⟨rfl, hb⟩)
        · have HG := Lib.hid (show ¬ (b0.length ≠ 0 ∧ ¬((b0.getD 0 0).toNat = 48 ∧ 1 < b0.length)) from fun e => absurd ⟨(by rw [hy48] at hy; omega), (by omega)⟩ e.2)
          rw [hy48] at hz0
          clear hy hy48
          have h1i : ((b0.length : Int) == 1) = false := by rw [beq_eq_false_iff_ne]; omega
          go_enter Tryd.func11, Tryd.ntmps11
          go_wp2_with fail
          go_at_call 13
          refine (dawake_s hS.out).mono ?_
          rintro e w' ⟨rfl, h1⟩
          clear hS; have hS := Lib.hid h1; clear h1
          go_wp2
          go_loop [3, 4] (fun g i => ∃ k : Nat, k ≤ b0.length ∧ i = .int .i64 k ∧ g = .bool (false && (b0.take k).all isDb)) (fun _ i => b0.length - (intOf i).toNat)
          case atStart => exact ⟨0, Nat.zero_le _, rfl, rfl⟩
          case round =>
            obtain ⟨k, hk, rfl, rfl⟩ := hrel
            obtain ⟨g, hg⟩ : ∃ g, (false && (b0.take k).all isDb) = g := ⟨_, rfl⟩
            rw [hg]
            by_cases hlt : k < b0.length
            · have hx := HIDX.out k hlt
              obtain ⟨x, hxe⟩ : ∃ x, bat b0 k = x := ⟨_, rfl⟩
              have hD : isDb (b0.getD k 0) = (decide (48 ≤ x) && decide (x ≤ 57)) := by
                rw [← hxe]; unfold bat isDb
                rw [Bool.eq_iff_iff]
                simp only [Bool.and_eq_true, decide_eq_true_iff]
                omega
              have hn := all_take b0 k hlt
              have hn' : (false && (b0.take (k + 1)).all isDb) = (g && (decide (48 ≤ x) && decide (x ≤ 57))) := by
                rw [hn, hD, ← hg, Bool.and_assoc]
              have HN := Lib.hid hn'
              rw [hxe] at hx
              clear hD hn hn' hg hxe
              cases g with
              | false =>
                go_wp2
                go_round
                case rel => exact ⟨k + 1, by omega, by go_num, by rw [HN.out]; rfl⟩
                case measure => simp [intOf]; omega
              | true =>
                by_cases x1 : 48 ≤ x
                · by_cases x2 : x ≤ 57
                  · go_wp2
                    go_round
                    case rel => exact ⟨k + 1, by omega, by go_num, by rw [HN.out, decide_eq_true x1, decide_eq_true x2]; rfl⟩
                    case measure => simp [intOf]; omega
                  · go_wp2
                    go_round
                    case rel => exact ⟨k + 1, by omega, by go_num, by rw [HN.out, decide_eq_true x1, decide_eq_false x2]; rfl⟩
                    case measure => simp [intOf]; omega
                · go_wp2
                  go_round
                  case rel => exact ⟨k + 1, by omega, by go_num, by rw [HN.out, decide_eq_false x1]; rfl⟩
                  case measure => simp [intOf]; omega
            · obtain rfl : k = b0.length := by omega
              rw [List.take_length] at hg
              have tri := good_fin (b := b0) (G := false) ⟨fun e => (by cases e), fun e => absurd e HG.out⟩ hs
              rw [hg] at tri
              clear hg
              rcases tri with ⟨e1, e2, e3⟩ | ⟨e1, e2, e3⟩ | ⟨e1, e2, e3⟩
              · first
                | (exfalso; omega)
                | (have HE := Lib.hid e1
                   have e4 : ((b0.length : Int) == 0) = false := by simpa using e3
                   subst e2
                   clear e1
                   go_wp2_with fail
                   go_at_call 19
                   refine (read_t hS.out b0 0 _ l0 HE.out rfl).mono ?_
                   rintro e w' ⟨A4, n4, c4, rfl, h1⟩
                   have hb := h1.1
                   clear h1 hS
                   go_wp2
                   go_ret
                   exact ⟨rfl, hb⟩)
              · first
                | (exfalso; omega)
                | (have HE := Lib.hid e1
                   have e4 : ((b0.length : Int) == 0) = true := by rw [e3]; rfl
                   subst e2
                   clear e1
                   go_wp2_with fail
                   go_at_call 19
                   refine (read_t hS.out b0 4 _ l0 HE.out rfl).mono ?_
                   rintro e w' ⟨A4, n4, c4, rfl, h1⟩
                   have hb := h1.1
                   clear h1 hS
                   go_wp2
                   go_ret
                   exact ⟨rfl, hb⟩)
              · first
                | (exfalso; omega)
                | (have HE := Lib.hid e1
                   have e4 : ((b0.length : Int) == 0) = false := by simpa using e3
                   subst e2
                   clear e1
                   go_wp2_with fail
                   go_at_call 19
                   refine (read_t hS.out b0 3 _ l0 HE.out rfl).mono ?_
                   rintro e w' ⟨A4, n4, c4, rfl, h1⟩
                   have hb := h1.1
                   clear h1 hS
                   go_wp2
                   go_ret
                   exact ⟨rfl, hb⟩)
      · have HG := Lib.hid (show (b0.length ≠ 0 ∧ ¬((b0.getD 0 0).toNat = 48 ∧ 1 < b0.length)) from ⟨by omega, fun e => hy48 (by rw [hy, e.1]; rfl)⟩)
        obtain ⟨y, hye⟩ : ∃ y, bat b0 0 = y := ⟨_, rfl⟩
        rw [hye] at hz0 hy48
        have hyb : (y == 48) = false := by rw [beq_eq_false_iff_ne]; exact hy48
        have hyn : (y != 48) = true := by rw [bne, hyb]; rfl
        clear hye hy hy48
        go_enter Tryd.func11, Tryd.ntmps11
        go_wp2_with fail
        go_at_call 13
        refine (dawake_s hS.out).mono ?_
        rintro e w' ⟨rfl, h1⟩
        clear hS; have hS := Lib.hid h1; clear h1
        go_wp2
        go_loop [3, 4] (fun g i => ∃ k : Nat, k ≤ b0.length ∧ i = .int .i64 k ∧ g = .bool (true && (b0.take k).all isDb)) (fun _ i => b0.length - (intOf i).toNat)
        case atStart => exact ⟨0, Nat.zero_le _, rfl, rfl⟩
        case round =>
          obtain ⟨k, hk, rfl, rfl⟩ := hrel
          obtain ⟨g, hg⟩ : ∃ g, (true && (b0.take k).all isDb) = g := ⟨_, rfl⟩
          rw [hg]
          by_cases hlt : k < b0.length
          · have hx := HIDX.out k hlt
            obtain ⟨x, hxe⟩ : ∃ x, bat b0 k = x := ⟨_, rfl⟩
            have hD : isDb (b0.getD k 0) = (decide (48 ≤ x) && decide (x ≤ 57)) := by
              rw [← hxe]; unfold bat isDb
              rw [Bool.eq_iff_iff]
              simp only [Bool.and_eq_true, decide_eq_true_iff]
              omega
            have hn := all_take b0 k hlt
            have hn' : (true && (b0.take (k + 1)).all isDb) = (g && (decide (48 ≤ x) && decide (x ≤ 57))) := by
              rw [hn, hD, ← hg, Bool.and_assoc]
            have HN := Lib.hid hn'
            rw [hxe] at hx
            clear hD hn hn' hg hxe
            cases g with
            | false =>
              go_wp2
              go_round
              case rel => exact ⟨k + 1, by omega, by go_num, by rw [HN.out]; rfl⟩
              case measure => simp [intOf]; omega
            | true =>
              by_cases x1 : 48 ≤ x
              · by_cases x2 : x ≤ 57
                · go_wp2
                  go_round
                  case rel => exact ⟨k + 1, by omega, by go_num, by rw [HN.out, decide_eq_true x1, decide_eq_true x2]; rfl⟩
                  case measure => simp [intOf]; omega
                · go_wp2
                  go_round
                  case rel => exact ⟨k + 1, by omega, by go_num, by rw [HN.out, decide_eq_true x1, decide_eq_false x2]; rfl⟩
                  case measure => simp [intOf]; omega
              · go_wp2
                go_round
                case rel => exact ⟨k + 1, by omega, by go_num, by rw [HN.out, decide_eq_false x1]; rfl⟩
                case measure => simp [intOf]; omega
          · obtain rfl : k = b0.length := by omega
            rw [List.take_length] at hg
            have tri := good_fin (b := b0) (G := true) ⟨fun _ => HG.out, fun _ => rfl⟩ hs
            rw [hg] at tri
            clear hg
            rcases tri with ⟨e1, e2, e3⟩ | ⟨e1, e2, e3⟩ | ⟨e1, e2, e3⟩
            · first
              | (exfalso; omega)
              | (have HE := Lib.hid e1
                 have e4 : ((b0.length : Int) == 0) = false := by simpa using e3
                 subst e2
                 clear e1
                 go_wp2_with fail
                 go_at_call 19
                 refine (read_t hS.out b0 0 _ l0 HE.out rfl).mono ?_
                 rintro e w' ⟨A4, n4, c4, rfl, h1⟩
                 have hb := h1.1
                 clear h1 hS
                 go_wp2
                 go_ret
                 exact ⟨rfl, hb⟩)
            · first
              | (exfalso; omega)
              | (have HE := Lib.hid e1
                 have e4 : ((b0.length : Int) == 0) = true := by rw [e3]; rfl
                 subst e2
                 clear e1
                 go_wp2_with fail
                 go_at_call 19
                 refine (read_t hS.out b0 4 _ l0 HE.out rfl).mono ?_
                 rintro e w' ⟨A4, n4, c4, rfl, h1⟩
                 have hb := h1.1
                 clear h1 hS
                 go_wp2
                 go_ret
                 exact ⟨rfl, hb⟩)
            · first
              | (exfalso; omega)
              | (have HE := Lib.hid e1
                 have e4 : ((b0.length : Int) == 0) = false := by simpa using e3
                 subst e2
                 clear e1
                 go_wp2_with fail
                 go_at_call 19
                 refine (read_t hS.out b0 3 _ l0 HE.out rfl).mono ?_
                 rintro e w' ⟨A4, n4, c4, rfl, h1⟩
                 have hb := h1.1
                 clear h1 hS
                 go_wp2
                 go_ret
                 exact ⟨rfl, hb⟩)
  · go_enter Tryd.func11, Tryd.ntmps11
    go_wp2_with fail
    go_at_call 13
    refine (dawake_s hS.out).mono ?_
    rintro e w' ⟨rfl, h1⟩
    clear hS; have hS := Lib.hid h1; clear h1
    go_wp2
    go_ret
    exact ⟨rfl, hS.out.1⟩
set_option maxRecDepth 100000 in
theorem lifted (os : Os) (started : os.Started) (H : Type) (enc : TypeId × Value → H) :
    ReturnsInHanded {} Tryd.checked os 11 .any (fun w args => (Rows.decRefusesSpec.pre enc Tryd.prog Tryd.f11 Rows.decRefusesRow.domain false w args ∧ laidMetH Tryd.prog Rows.decRefusesRow.laid w) ∧ sizedMet enc Tryd.prog Tryd.f11 (OpenSpec.ofChange Rows.decRefusesSpec) false w args) (Rows.decRefusesSpec.post enc Tryd.prog Tryd.f11 false true false false) := by
  refine returnsInHanded_of_change_and (C := Tryd.checked) (X := fun w _ => laidMetH Tryd.prog Rows.decRefusesRow.laid w) (fun _ _ _ hh h => h.of_heap hh) own started (by kernel_rfl) Tryd.func11
    (ChangeSpec.witness_shaped (enc := enc) (C := Tryd.checked) (os := os) (X := fun w _ => laidMetH Tryd.prog Rows.decRefusesRow.laid w) false (World.laidAll Tryd.prog os Rows.decRefusesRow.laid) #[.string ByteArray.empty] 8 (World.laidAll_os _ _ _)
      (World.shaped_of_ZipB (by kernel_rfl) (by kernel_rfl)) (by kernel_rfl) (by kernel_rfl) (by kernel_rfl)
      (by rw [MakeChecks.laidMetH_plain _ _ _ (by kernel_rfl)]; exact laidMet_laidAll _ (by kernel_rfl) (by kernel_rfl))) ?_
  intro W base args ds gs before hval0 hW hcnd _ _ _
  have hval : ∀ (j : Nat) t v, Tryd.f11.params[j]? = some t → args[j]? = some v → Value.okWide Tryd.prog W .any base t v := hval0
  have hW' := hW
  obtain ⟨p, q, hA0, hV, hpq, hfz, hnd⟩ := hW
  have hA : DataW.TrodAll enc Tryd.prog W 0 (fun _ => true) true Tryd.f11.params.toList args.toList ds p := hA0
  rw [Tryd.params11] at hA hval
  obtain ⟨v0, vs0, d0, ds0, p0, q0, hargs, rfl, rfl, h0, r0⟩ := trodAll_cons hA
  obtain ⟨rfl, rfl, rfl⟩ := trodAll_nil r0
  obtain rfl : args = #[v0] := by cases args; simp_all
  obtain ⟨rfl, rfl⟩ := trodVars_none hV
  obtain ⟨y0, rfl, rfl, rfl, l0⟩ := Go.ChangeMaps.open_string Tryd.underlying9 (hval 0 9 v0 rfl rfl) h0
  obtain ⟨b0, rfl⟩ : ∃ b : List UInt8, y0 = ⟨b.toArray⟩ := ⟨y0.data.toList, by cases y0; simp⟩
  refine (walk W b0 l0).mono fun e W' ⟨he, hb⟩ => ?_
  subst he
  exact ⟨_, rfl, Frame.close laidOut hW' rfl rfl rfl Tryd.underlying4 (fun t ht => by rw [Tryd.params11] at ht; simp at ht; rcases ht with rfl <;> exact ⟨by kernel_rfl, of_decide_eq_true (by kernel_rfl)⟩) hb⟩
theorem over : Rows.decRefusesRow.holds Tryd.pinned (OpenSpec.ofChange Rows.decRefusesSpec) :=
  OpenClaim.holds_of_wide 11 Tryd.f11 rfl rfl rfl rfl rfl rfl rfl ⟨rfl, rfl, rfl, rfl, rfl⟩ rfl rfl rfl rfl rfl (by kernel_rfl) Tryd.func11 (by kernel_rfl)
    (of_decide_eq_true (by kernel_rfl)) (by unfold Func.isWrapper; first | (rw [if_pos (by decide +kernel)]; kernel_rfl) | (rw [if_neg (by decide +kernel)]; exact ⟨rfl, rfl⟩))
    (fun os started H enc _ => lifted os started H enc)
/-- the statement -/
theorem proved : Rows.DecRefusesCardSaid :=
  Claim7.holds_tied_plain_at .later [] _ _ _ _ over (fun _ h => by cases h) (by kernel_rfl) (fun _ h => by cases h) decRefuses_row_tie rfl ⟨rfl, rfl⟩ (by kernel_rfl) rfl
    (fun f fn hf hfn => by
      obtain rfl : f = 11 := Option.some.inj ((show Tryd.prog.funcNamed "tombola/tombolalaw04.DecRefuses" = some 11 by kernel_rfl).symm.trans hf) |>.symm
      obtain rfl : fn = Tryd.f11 := (Option.some.inj (Tryd.func11.symm.trans hfn)).symm
      exact ⟨by kernel_rfl, (fun j t ht => by
        rw [Tryd.params11] at ht
        have hm : t ∈ [9] := by simpa using Array.mem_of_getElem? ht
        have hall : ([9].all fun u => !Tryd.prog.wantsStandIn u) = true := by kernel_rfl
        exact (show Tryd.prog.wantsStandIn t = false by simpa using List.all_eq_true.1 hall t hm))⟩)
    (by kernel_rfl)
#print axioms proved
end Go.Proofs.YtbadbjmhmadbmaaDoor.decRefuses
