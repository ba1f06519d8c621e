/- The examples of the document hold of the program: what each statement of layer 4 asks first, or last. -/
import Derived.Test.YtbadbjmhmadbmaaDoorDecState
namespace Go.Proofs.YtbadbjmhmadbmaaDoor
open Go.RowKit
set_option linter.unusedVariables false
set_option maxRecDepth 20000
open N
open Go.Lib (decDigits nDigits decDigits_length nDigits_pos)
theorem dd_lit {bs : List UInt8} {v : Int} (h : rdE bs = 0) (h2 : rdV bs = v) : decDigits v.toNat = bs := by rw [← h2]; exact dd_rdV h
theorem nd_lit {bs : List UInt8} {v : Int} (h : rdE bs = 0) (h2 : rdV bs = v) : (nDigits v.toNat : Int) = (bs.length : Int) := by rw [← decDigits_length, dd_lit h h2]
set_option maxRecDepth 100000 in
set_option maxHeartbeats 2000000 in
theorem dawake_any (w : World) : Calls Tryd.prog 13 #[] w fun e w' => e = .returned (.bool true) ∧ Below w.heap.size w w' := by
  have hS := Lib.hid (St.nil_ w).zero
  obtain ⟨T, hT⟩ : ∃ T : List UInt8, List.replicate 40 48 = T := ⟨_, rfl⟩
  have h1T : decDigits ((10 : Int) ^ 40).toNat = 49 :: T := by rw [← hT]; exact dd_lit (by decide +kernel) (by decide +kernel)
  have hTl : T.length = 40 := by rw [← hT]; rfl
  have H1T := Lib.hid h1T
  have HT := Lib.hid hT
  have hap : (⟨#[49]⟩ : ByteArray) ++ ⟨T.toArray⟩ = ⟨(49 :: T).toArray⟩ := ByteArray.mk_append_mk [49] T
  have hsz : (⟨#[49]⟩ : ByteArray).size + (⟨T.toArray⟩ : ByteArray).size ≤ 9223372036854775807 := by
    show 1 + T.length ≤ _
    omega
  clear hT h1T
  go_enter Tryd.func13, Tryd.ntmps13
  go_wp2_with fail
  go_at_call 19
  refine (read_t hS.out [49, 56, 52, 52, 54, 55, 52, 52, 48, 55, 51, 55, 48, 57, 53, 53, 49, 54, 49, 54] 0 18446744073709551616 (by decide) (by decide +kernel) (by decide +kernel)).mono ?_
  rintro e w1 ⟨A1, n1, c1, rfl, h1⟩
  clear hS; have hS := Lib.hid h1; clear h1
  go_wp2_with fail
  go_at_call 19
  refine (read_t hS.out [] 4 0 (by decide) (by decide +kernel) (by decide +kernel)).mono ?_
  rintro e w2 ⟨A2, n2, c2, rfl, h1⟩
  clear hS; have hS := Lib.hid h1; clear h1
  go_wp2_with fail
  go_at_call 19
  refine (read_t hS.out [48, 48, 55] 3 0 (by decide) (by decide +kernel) (by decide +kernel)).mono ?_
  rintro e w3 ⟨A3, n3, c3, rfl, h1⟩
  clear hS; have hS := Lib.hid h1; clear h1
  go_wp2_with fail
  go_at_call 19
  refine (read_t hS.out [49, 97] 3 0 (by decide) (by decide +kernel) (by decide +kernel)).mono ?_
  rintro e w4 ⟨A4, n4, c4, rfl, h1⟩
  clear hS; have hS := Lib.hid h1; clear h1
  go_wp2_with fail
  go_at_call 14
  refine (show_t hS.out (A := none) (n := 0) (c := 0) (k := 0) (xs := []) (v := 0) (by repeat (first | exact List.mem_cons_self | apply List.mem_cons_of_mem)) (by omega) [48] dd_zero).mono ?_
  rintro e w' ⟨rfl, h1⟩
  clear hS; have hS := Lib.hid h1; clear h1
  go_wp2_with fail
  go_at_call 14
  refine (show_t (hS.out.lit2 0 1 (by omega) (by omega)) List.mem_cons_self (by omega) [49, 56, 52, 52, 54, 55, 52, 52, 48, 55, 51, 55, 48, 57, 53, 53, 49, 54, 49, 54] (dd_lit (by decide +kernel) (by decide +kernel))).mono ?_
  rintro e w' ⟨rfl, h1⟩
  clear hS; have hS := Lib.hid h1; clear h1
  go_wp2_with fail
  go_at_call 23
  refine (power_s hS.out 40 rfl (by omega)).mono ?_
  rintro e w' ⟨A5, n5, c5, xs5, rfl, h1⟩
  clear hS; have hS := Lib.hid h1; clear h1
  go_wp2_with fail
  go_at_call 14
  refine (show_t hS.out List.mem_cons_self (by omega) (49 :: T) H1T.out).mono ?_
  rintro e w' ⟨rfl, h1⟩
  clear hS; have hS := Lib.hid h1; clear h1
  go_wp2_with fail
  go_at_call 22
  refine (many_s hS.out 48 40 rfl rfl (by omega)).mono ?_
  rw [HT.out]
  rintro e w' ⟨rfl, h1⟩
  clear hS; have hS := Lib.hid h1; clear h1
  go_wp2_with fail
  go_at_call 20
  refine (same_s (hS.out.lit2 0 1 (by omega) (by omega)) (A := A1) (xs := limbs 18446744073709551616) (by repeat (first | exact List.mem_cons_self | apply List.mem_cons_of_mem)) List.mem_cons_self (limbs_is _ (by decide +kernel) (by unfold Dg; decide +kernel) (by decide +kernel))).mono ?_
  rintro e w' ⟨rfl, h1⟩
  clear hS; have hS := Lib.hid h1; clear h1
  go_wp2_with fail
  go_at_call 16
  refine (manyd_t (hS.out.lit1 999 (by omega)) List.mem_cons_self (by omega) 3 (nd_lit (bs := [57, 57, 57]) (by decide +kernel) (by decide +kernel))).mono ?_
  rintro e w' ⟨rfl, h1⟩
  clear hS; have hS := Lib.hid h1; clear h1
  go_wp2
  go_ret
  exact ⟨rfl, hS.out.1⟩
section
variable {w0 w w' : World} {S : List Ent}
theorem dawake_s (h : St w0 w S) : Calls Tryd.prog 13 #[] w fun e w' => e = .returned (.bool true) ∧ St w0 w' S :=
  (dawake_any w).mono fun e w' ⟨he, hb⟩ => ⟨he, h.below hb⟩
end
end Go.Proofs.YtbadbjmhmadbmaaDoor
