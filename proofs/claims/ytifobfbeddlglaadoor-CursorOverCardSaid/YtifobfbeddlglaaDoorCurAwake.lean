/- awake of layer 8's laws holds, over this translation (mk_curawake.py). -/
import Derived.Test.YtifobfbeddlglaaDoorCurState
namespace Go.Proofs.YtifobfbeddlglaaDoor
open Go.RowKit Go.Shelf
set_option linter.unusedVariables false
set_option linter.unusedSimpArgs false
set_option maxRecDepth 20000
open N
set_option maxRecDepth 100000 in
set_option maxHeartbeats 4000000 in
theorem cawake (w : World) : Calls Tryd.prog 9 #[] w fun e w' => e = .returned (.bool true) ∧ Below w.heap.size w w' := by
  have hS := Lib.hid (CS.start w)
  have hB : isB [49, 48, 49, 49, 48] = true := by decide
  have HB := Lib.hid hB
  clear hB
  go_enter Tryd.func9, Tryd.ntmps9
  go_wp2_with fail
  go_at_call 10
  refine (new_s hS.out HB.out).mono ?_
  rintro e v1 ⟨g, rfl, h1⟩
  clear hS; have hS := Lib.hid h1; clear h1
  go_wp2_with fail
  go_at_call 10
  refine (new_s_no (l := [48, 49, 50]) hS.out (by decide) (by decide)).mono ?_
  rintro e v2 ⟨rfl, h1⟩
  clear hS; have hS := Lib.hid h1; clear h1
  go_wp2_with fail
  go_at_call 16
  have hc : Calls Tryd.prog 16 #[.pointer (some ⟨g, 0, none⟩), .int .i64 3, .int .u64 5, .bool true] v2 fun e w' => e = .returned (.bool true) ∧ CS w w' [K g ([49, 48, 49, 49, 48] : List UInt8) 3 false] := by
    have h := takes_s hS.out 0 rfl HB.out (by decide) 3 (want := 5) (ok := true) (by decide +kernel) (by decide +kernel)
    rw [show tkA ([49, 48, 49, 49, 48] : List UInt8) 0 false 3 = 3 by decide +kernel, show tkO ([49, 48, 49, 49, 48] : List UInt8) 0 false 3 = false by decide +kernel] at h
    exact h
  refine hc.mono ?_
  rintro e v3 ⟨rfl, h1⟩
  clear hc; clear hS; have hS := Lib.hid h1; clear h1
  go_wp2_with fail
  go_at_call 17
  have hc : Calls Tryd.prog 17 #[.pointer (some ⟨g, 0, none⟩)] v3 fun e w' => e = .returned (.int .i64 3) ∧ CS w w' [K g ([49, 48, 49, 49, 48] : List UInt8) 3 false] := at_s hS.out 0 rfl
  refine hc.mono ?_
  rintro e v4 ⟨rfl, h1⟩
  clear hc; clear hS; have hS := Lib.hid h1; clear h1
  go_wp2_with fail
  go_at_call 19
  have hc : Calls Tryd.prog 19 #[.pointer (some ⟨g, 0, none⟩)] v4 fun e w' => e = .returned (.int .i64 2) ∧ CS w w' [K g ([49, 48, 49, 49, 48] : List UInt8) 3 false] := left_s hS.out 0 rfl HB.out (by decide)
  refine hc.mono ?_
  rintro e v5 ⟨rfl, h1⟩
  clear hc; clear hS; have hS := Lib.hid h1; clear h1
  go_wp2_with fail
  go_at_call 20
  have hc : Calls Tryd.prog 20 #[.pointer (some ⟨g, 0, none⟩)] v5 fun e w' => e = .returned (.string ⟨#[49, 48]⟩) ∧ CS w w' [K g ([49, 48, 49, 49, 48] : List UInt8) 3 false] := rest_s hS.out 0 rfl HB.out (by decide)
  refine hc.mono ?_
  rintro e v6 ⟨rfl, h1⟩
  clear hc; clear hS; have hS := Lib.hid h1; clear h1
  go_wp2_with fail
  go_at_call 16
  have hc : Calls Tryd.prog 16 #[.pointer (some ⟨g, 0, none⟩), .int .i64 0, .int .u64 0, .bool true] v6 fun e w' => e = .returned (.bool true) ∧ CS w w' [K g ([49, 48, 49, 49, 48] : List UInt8) 3 false] := by
    have h := takes_s hS.out 0 rfl HB.out (by decide) 0 (want := 0) (ok := true) (by decide +kernel) (by decide +kernel)
    rw [show tkA ([49, 48, 49, 49, 48] : List UInt8) 3 false 0 = 3 by decide +kernel, show tkO ([49, 48, 49, 49, 48] : List UInt8) 3 false 0 = false by decide +kernel] at h
    exact h
  refine hc.mono ?_
  rintro e v7 ⟨rfl, h1⟩
  clear hc; clear hS; have hS := Lib.hid h1; clear h1
  go_wp2_with fail
  go_at_call 18
  have hc : Calls Tryd.prog 18 #[.pointer (some ⟨g, 0, none⟩)] v7 fun e w' => e = .returned (.bool false) ∧ CS w w' [K g ([49, 48, 49, 49, 48] : List UInt8) 3 false] := over_s hS.out 0 rfl
  refine hc.mono ?_
  rintro e v8 ⟨rfl, h1⟩
  clear hc; clear hS; have hS := Lib.hid h1; clear h1
  go_wp2_with fail
  go_at_call 16
  have hc : Calls Tryd.prog 16 #[.pointer (some ⟨g, 0, none⟩), .int .i64 3, .int .u64 0, .bool false] v8 fun e w' => e = .returned (.bool true) ∧ CS w w' [K g ([49, 48, 49, 49, 48] : List UInt8) 3 true] := by
    have h := takes_s hS.out 0 rfl HB.out (by decide) 3 (want := 0) (ok := false) (by decide +kernel) (by decide +kernel)
    rw [show tkA ([49, 48, 49, 49, 48] : List UInt8) 3 false 3 = 3 by decide +kernel, show tkO ([49, 48, 49, 49, 48] : List UInt8) 3 false 3 = true by decide +kernel] at h
    exact h
  refine hc.mono ?_
  rintro e v9 ⟨rfl, h1⟩
  clear hc; clear hS; have hS := Lib.hid h1; clear h1
  go_wp2_with fail
  go_at_call 18
  have hc : Calls Tryd.prog 18 #[.pointer (some ⟨g, 0, none⟩)] v9 fun e w' => e = .returned (.bool true) ∧ CS w w' [K g ([49, 48, 49, 49, 48] : List UInt8) 3 true] := over_s hS.out 0 rfl
  refine hc.mono ?_
  rintro e v10 ⟨rfl, h1⟩
  clear hc; clear hS; have hS := Lib.hid h1; clear h1
  go_wp2_with fail
  go_at_call 16
  have hc : Calls Tryd.prog 16 #[.pointer (some ⟨g, 0, none⟩), .int .i64 1, .int .u64 0, .bool false] v10 fun e w' => e = .returned (.bool true) ∧ CS w w' [K g ([49, 48, 49, 49, 48] : List UInt8) 3 true] := by
    have h := takes_s hS.out 0 rfl HB.out (by decide) 1 (want := 0) (ok := false) (by decide +kernel) (by decide +kernel)
    rw [show tkA ([49, 48, 49, 49, 48] : List UInt8) 3 true 1 = 3 by decide +kernel, show tkO ([49, 48, 49, 49, 48] : List UInt8) 3 true 1 = true by decide +kernel] at h
    exact h
  refine hc.mono ?_
  rintro e v11 ⟨rfl, h1⟩
  clear hc; clear hS; have hS := Lib.hid h1; clear h1
  go_wp2_with fail
  go_at_call 17
  have hc : Calls Tryd.prog 17 #[.pointer (some ⟨g, 0, none⟩)] v11 fun e w' => e = .returned (.int .i64 3) ∧ CS w w' [K g ([49, 48, 49, 49, 48] : List UInt8) 3 true] := at_s hS.out 0 rfl
  refine hc.mono ?_
  rintro e v12 ⟨rfl, h1⟩
  clear hc; clear hS; have hS := Lib.hid h1; clear h1
  go_wp2
  go_ret
  exact ⟨rfl, hS.out.bl⟩
theorem cawake_s {w0 w : World} {T : List Blk} (h : CS w0 w T) : Calls Tryd.prog 9 #[] w fun e w' => e = .returned (.bool true) ∧ CS w0 w' T := by
  refine (cawake w).mono ?_
  rintro e w' ⟨rfl, hb⟩
  exact ⟨rfl, h.below hb⟩
end Go.Proofs.YtifobfbeddlglaaDoor
