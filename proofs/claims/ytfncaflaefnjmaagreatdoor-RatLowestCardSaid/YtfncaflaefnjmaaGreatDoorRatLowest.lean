/-
  PROVED: the statement RatLowest (tombolalaw06.RatLowest) about the landed commit: for every input the law returns true and leaves its arguments as they were. Conditions: none beyond those that the given row itself prints.
-/
import Derived.Test.YtfncaflaefnjmaaGreatDoorCards
import Derived.Test.YtfncaflaefnjmaaGreatDoorTie
import Derived.LaidMore
import Derived.Lay
import Derived.SevenTiedAt
import Derived.Stop.Joined
import Derived.Test.YtfncaflaefnjmaaGreatDoorRows
import Derived.WalkKit
import Derived.ProofKit
import Derived.OpenShut
import Derived.RowKit3
import Derived.Test.YtfncaflaefnjmaaGreatDoorGFrame
import Derived.Test.YtfncaflaefnjmaaGreatDoorRatOpen
import Derived.Test.YtfncaflaefnjmaaGreatDoorRatH
import Derived.Test.YtfncaflaefnjmaaGreatDoorRatL
import Derived.Deep.RegionHeld3
namespace Go.Proofs.YtfncaflaefnjmaaGreatDoor.ratLowest
open Go.ChangeShapes Go.WideShapes Go.ChangeAt Go.RowKit
set_option linter.unusedVariables false
set_option maxRecDepth 20000
open N
theorem own : ownKnob Tryz.prog.godebug = none := by kernel_rfl
open RC
open Go.Lib (decDigits nDigits decDigits_length nDigits_pos)
set_option maxRecDepth 100000 in
set_option maxHeartbeats 4000000 in
theorem walk (w : World) (b0 : Bool) (A0 : Option Addr) (n0 c0 : Nat) (xs0 : List Int) (h0 : Sl w A0 n0 c0 xs0) (A1 : Option Addr) (n1 c1 : Nat) (xs1 : List Int) (h1 : Sl w A1 n1 c1 xs1) :
    Calls Tryz.prog 6 #[.agg #[.bool b0, .slice A0 n0 c0], .slice A1 n1 c1] w fun e w' => e = .returned (.bool true) ∧ Below w.heap.size w w' := by
  have hc0 := h0.cap
  have hm0 := h0.max
  have hc1 := h1.cap
  have hm1 := h1.max
  unfold maxLen at hm0 hm1
  by_cases hl : n0 ≤ 6 ∧ n1 ≤ 6
  · by_cases hd : val B xs1 = 0
    · have HD := Lib.hid hd
      clear hd
      have hS := Lib.hid (((SC.start w).old (k := 6) h1 hl.2 rfl).old (k := 6) h0 hl.1 rfl)
      clear h0 h1
      go_enter Tryz.func6, Tryz.ntmps6
      have h1 := (hS.out.boxed (vs := [.bool b0, .slice A0 n0 c0]) (ty := 25) rfl rfl)
      try simp only [World.size_alloc] at h1
      obtain ⟨p0_0, p1_0⟩ := h1.cs2 0 rfl
      clear h1
      go_wp2_with fail
      clear p0_0 p1_0
      generalize hwa : World.alloc w _ = v1
      have h1 := (hS.out.boxed (vs := [.bool b0, .slice A0 n0 c0]) (ty := 25) rfl hwa)
      have hsz : v1.heap.size = w.heap.size + 1 := by rw [← hwa]; simp only [World.size_alloc]
      try rw [← hsz]
      clear hwa hsz
      clear hS; have hS := Lib.hid h1; clear h1
      obtain ⟨x0_0, x1_0⟩ := hS.out.cs2 0 rfl
      go_wp2_with fail
      go_at_call 11
      with_reducible refine (long1_n hS.out hl).mono ?_
      rintro e v2 ⟨rfl, h1⟩
      clear x0_0 x1_0
      clear hS; have hS := Lib.hid h1; clear h1
      obtain ⟨x0_0, x1_0⟩ := hS.out.cs2 0 rfl
      go_wp2_with fail
      go_at_call 12
      with_reducible refine (awake_any _).mono ?_
      rintro e v3 ⟨rfl, hb⟩
      clear x0_0 x1_0
      have h1 := hS.out.below hb
      clear hb
      clear hS; have hS := Lib.hid h1; clear h1
      obtain ⟨x0_0, x1_0⟩ := hS.out.cs2 0 rfl
      go_wp2_with fail
      go_at_call 16
      with_reducible refine (fmk_z hS.out (by repeat (first | exact List.mem_cons_self | apply List.mem_cons_of_mem)) (by repeat (first | exact List.mem_cons_self | apply List.mem_cons_of_mem)) (by decide) (by decide) HD.out).mono ?_
      rintro e v4 ⟨rfl, h1⟩
      clear x0_0 x1_0
      clear hS; have hS := Lib.hid h1; clear h1
      obtain ⟨x0_0, x1_0⟩ := hS.out.cs2 0 rfl
      have h1 := (hS.out.boxed (vs := [.bool false, .slice none 0 0, .slice none 0 0]) (ty := 27) rfl rfl)
      try simp only [World.size_alloc] at h1
      obtain ⟨p0_0, p1_0, p2_0⟩ := h1.cs3 0 rfl
      obtain ⟨p0_1, p1_1⟩ := h1.cs2 1 rfl
      clear h1
      go_wp2_with fail
      clear x0_0 x1_0
      clear p0_0 p1_0 p2_0 p0_1 p1_1
      generalize hwa : World.alloc v4 _ = v5
      have h1 := (hS.out.boxed (vs := [.bool false, .slice none 0 0, .slice none 0 0]) (ty := 27) rfl hwa)
      have hsz : v5.heap.size = v4.heap.size + 1 := by rw [← hwa]; simp only [World.size_alloc]
      try rw [← hsz]
      clear hwa hsz
      clear hS; have hS := Lib.hid h1; clear h1
      obtain ⟨x0_0, x1_0, x2_0⟩ := hS.out.cs3 0 rfl
      obtain ⟨x0_1, x1_1⟩ := hS.out.cs2 1 rfl
      go_wp2_with fail
      go_at_call 34
      with_reducible refine (zero_c (q := true) hS.out (by repeat (first | exact List.mem_cons_self | apply List.mem_cons_of_mem)) (by decide) (decide_eq_true HD.out)).mono ?_
      rintro e v6 ⟨rfl, h1⟩
      clear x0_0 x1_0 x2_0 x0_1 x1_1
      clear hS; have hS := Lib.hid h1; clear h1
      obtain ⟨x0_0, x1_0, x2_0⟩ := hS.out.cs3 0 rfl
      obtain ⟨x0_1, x1_1⟩ := hS.out.cs2 1 rfl
      go_wp2
      go_ret
      exact ⟨rfl, hS.out.st.1⟩
    · have hp : 0 < val B xs1 := by have := h1.nn0; omega
      have HP := Lib.hid hp
      have HN := Lib.hid hd
      clear hd
      obtain ⟨r, hr⟩ : ∃ r, rv b0 (val B xs0) (val B xs1) = r := ⟨_, rfl⟩
      have hv0 := h0.nn0
      have hcr := rv_cross (b := b0) hv0 hp
      rw [hr] at hcr
      obtain ⟨x, hx⟩ : ∃ x, mg r.num * val B xs1 = x := ⟨_, rfl⟩
      obtain ⟨y, hy⟩ : ∃ y, val B xs0 * r.den = y := ⟨_, rfl⟩
      have HX := Lib.hid (show x = y by rw [← hx, ← hy]; exact hcr)
      have HX1 := Lib.hid hx
      have HX2 := Lib.hid hy
      have HR := Lib.hid hr
      have HDN := Lib.hid (show decide ((r.den : Int) = 0) = false from decide_eq_false (by have := rden_pos r; omega))
      clear hx hy hr hcr
      cases b0 with
      | false =>
        have HSG := Lib.hid (show sg r.num = false by rw [← HR.out, rv_sg hv0 hp]; rfl)
        have HMAY := Lib.hid (show mayR false (limbs (mg r.num)) (limbs r.den) = true by have h9 := mayR_told r; rw [HSG.out] at h9; exact h9)
        have HV := Lib.hid (show True from trivial)
        clear hp hv0
        have hS := Lib.hid (((SC.start w).old (k := 6) h1 hl.2 rfl).old (k := 6) h0 hl.1 rfl)
        clear h0 h1
        go_enter Tryz.func6, Tryz.ntmps6
        have h1 := (hS.out.boxed (vs := [.bool false, .slice A0 n0 c0]) (ty := 25) rfl rfl)
        try simp only [World.size_alloc] at h1
        obtain ⟨p0_0, p1_0⟩ := h1.cs2 0 rfl
        clear h1
        go_wp2_with fail
        clear p0_0 p1_0
        generalize hwa : World.alloc w _ = v1
        have h1 := (hS.out.boxed (vs := [.bool false, .slice A0 n0 c0]) (ty := 25) rfl hwa)
        have hsz : v1.heap.size = w.heap.size + 1 := by rw [← hwa]; simp only [World.size_alloc]
        try rw [← hsz]
        clear hwa hsz
        clear hS; have hS := Lib.hid h1; clear h1
        obtain ⟨x0_0, x1_0⟩ := hS.out.cs2 0 rfl
        go_wp2_with fail
        go_at_call 11
        with_reducible refine (long1_n hS.out hl).mono ?_
        rintro e v2 ⟨rfl, h1⟩
        clear x0_0 x1_0
        clear hS; have hS := Lib.hid h1; clear h1
        obtain ⟨x0_0, x1_0⟩ := hS.out.cs2 0 rfl
        go_wp2_with fail
        go_at_call 12
        with_reducible refine (awake_any _).mono ?_
        rintro e v3 ⟨rfl, hb⟩
        clear x0_0 x1_0
        have h1 := hS.out.below hb
        clear hb
        clear hS; have hS := Lib.hid h1; clear h1
        obtain ⟨x0_0, x1_0⟩ := hS.out.cs2 0 rfl
        go_wp2_with fail
        go_at_call 16
        with_reducible refine (fmk_c (M := 6) (r := r) hS.out (by repeat (first | exact List.mem_cons_self | apply List.mem_cons_of_mem)) (by repeat (first | exact List.mem_cons_self | apply List.mem_cons_of_mem)) (by decide) (by decide) (by decide) HP.out HR.out).mono ?_
        rintro e v4 ⟨Aa, na, ca, Aa', na', ca', rfl, h1⟩
        clear x0_0 x1_0
        rw [HSG.out]
        clear hS; have hS := Lib.hid h1; clear h1
        obtain ⟨x0_0, x1_0⟩ := hS.out.cs2 0 rfl
        have h1 := (hS.out.boxed (vs := [.bool false, .slice Aa na ca, .slice Aa' na' ca']) (ty := 27) rfl rfl)
        try simp only [World.size_alloc] at h1
        obtain ⟨p0_0, p1_0, p2_0⟩ := h1.cs3 0 rfl
        obtain ⟨p0_1, p1_1⟩ := h1.cs2 1 rfl
        clear h1
        go_wp2_with fail
        clear x0_0 x1_0
        clear p0_0 p1_0 p2_0 p0_1 p1_1
        generalize hwa : World.alloc v4 _ = v5
        have h1 := (hS.out.boxed (vs := [.bool false, .slice Aa na ca, .slice Aa' na' ca']) (ty := 27) rfl hwa)
        have hsz : v5.heap.size = v4.heap.size + 1 := by rw [← hwa]; simp only [World.size_alloc]
        try rw [← hsz]
        clear hwa hsz
        clear hS; have hS := Lib.hid h1; clear h1
        obtain ⟨x0_0, x1_0, x2_0⟩ := hS.out.cs3 0 rfl
        obtain ⟨x0_1, x1_1⟩ := hS.out.cs2 1 rfl
        go_wp2_with fail
        go_at_call 34
        with_reducible refine (zero_c (q := false) hS.out (by repeat (first | exact List.mem_cons_self | apply List.mem_cons_of_mem)) (by decide) (decide_eq_false HN.out)).mono ?_
        rintro e v6 ⟨rfl, h1⟩
        clear x0_0 x1_0 x2_0 x0_1 x1_1
        clear hS; have hS := Lib.hid h1; clear h1
        obtain ⟨x0_0, x1_0, x2_0⟩ := hS.out.cs3 0 rfl
        obtain ⟨x0_1, x1_1⟩ := hS.out.cs2 1 rfl
        go_wp2_with fail
        go_at_call 35
        with_reducible refine (gcd_c (r := 1) hS.out (by repeat (first | exact List.mem_cons_self | apply List.mem_cons_of_mem)) (by decide) (by repeat (first | exact List.mem_cons_self | apply List.mem_cons_of_mem)) (by decide) (rv_gcd _)).mono ?_
        rintro e v7 ⟨Ag, ng, cg, rfl, h1⟩
        clear x0_0 x1_0 x2_0 x0_1 x1_1
        clear hS; have hS := Lib.hid h1; clear h1
        obtain ⟨x0_0, x1_0, x2_0⟩ := hS.out.cs3 0 rfl
        obtain ⟨x0_1, x1_1⟩ := hS.out.cs2 1 rfl
        go_wp2_with fail
        clear x0_0 x1_0 x2_0 x0_1 x1_1
        have h1 := hS.out.drew
        clear hS; have hS := Lib.hid h1; clear h1
        refine wp_region_held_drew (S := (fun W => (W.cell? ⟨v4.heap.size, 0, none⟩ = some (.bool false) ∧ W.cell? ⟨v4.heap.size, 1, none⟩ = some (.slice Aa na ca) ∧ W.cell? ⟨v4.heap.size, 2, none⟩ = some (.slice Aa' na' ca')) ∧ (W.cell? ⟨w.heap.size, 0, none⟩ = some (.bool false) ∧ W.cell? ⟨w.heap.size, 1, none⟩ = some (.slice A0 n0 c0)))) (by kernel_rfl) ?_ (fun hHeld => ?_)
        · (first | with_reducible exact ⟨hS.out.cs3 0 rfl, hS.out.cs2 1 rfl⟩ | with_reducible exact ⟨hS.out.drew.cs3 0 rfl, hS.out.drew.cs2 1 rfl⟩ | with_reducible exact ⟨(hS.out.alloc _).cs3 0 rfl, (hS.out.alloc _).cs2 1 rfl⟩ | with_reducible exact ⟨((hS.out.alloc _).alloc _).cs3 0 rfl, ((hS.out.alloc _).alloc _).cs2 1 rfl⟩)
        refine wpAnyH_take (i := 0) (oi := { dst := some 37, op := Op.load 27 (Operand.tmp 5), type := 27, pos := "outright.go:73", after := #[], guard := none }) (v := ?_) rfl (by kernel_rfl) (by kernel_rfl) (by kernel_rfl) (fun _ _ _ h => h) (Or.inl ⟨by rfl, ?_⟩) (by assumption) ?_
        rotate_left
        · intro w hSw
          try dsimp only at hSw
          go_simp
          try with_reducible rfl
        try simp only [Act.put, List.setIfInBounds_toArray, List.set_cons_zero, List.set_cons_succ]
        refine wpAnyH_ready (rs := [1]) (by kernel_rfl) (by simp) ?_
        refine AllReadyH.cons (o := { dst := some 38, op := Op.call { callee := Callee.value (Operand.func 23), args := #[Operand.tmp 37], argTypes := #[27] }, type := 4, pos := "outright.go:73", after := #[{ on := 0, ground := Ground.data }], guard := none }) rfl (fun K hK => ?_) AllReadyH.nil
        go_simp
        (go_at_call 23; (with_reducible refine (fmay_c (b := false) (q := true) hS.out (by repeat (first | exact List.mem_cons_self | apply List.mem_cons_of_mem)) (by repeat (first | exact List.mem_cons_self | apply List.mem_cons_of_mem)) (by decide) (by decide) HMAY.out).mono ?_); rintro e w' ⟨rfl, h1⟩; clear hS; have hS := Lib.hid h1; clear h1)
        try go_wp2_with fail
        refine hK.out _ _ ?_ (fun hHeld => ?_)
        · try dsimp only
          (first | with_reducible exact ⟨hS.out.cs3 0 rfl, hS.out.cs2 1 rfl⟩ | with_reducible exact ⟨hS.out.drew.cs3 0 rfl, hS.out.drew.cs2 1 rfl⟩ | with_reducible exact ⟨(hS.out.alloc _).cs3 0 rfl, (hS.out.alloc _).cs2 1 rfl⟩ | with_reducible exact ⟨((hS.out.alloc _).alloc _).cs3 0 rfl, ((hS.out.alloc _).alloc _).cs2 1 rfl⟩)
        clear hK K
        try simp only [Act.put, List.setIfInBounds_toArray, List.set_cons_zero, List.set_cons_succ]
        refine wpAnyH_take (i := 2) (oi := { dst := some 39, op := Op.move (Operand.tmp 38), type := 4, pos := "outright.go:73", after := #[{ on := 1, ground := Ground.data }, { on := 1, ground := Ground.chain }], guard := none }) (v := ?_) rfl (by kernel_rfl) (by kernel_rfl) (by kernel_rfl) (fun _ _ _ h => h) (Or.inl ⟨by rfl, ?_⟩) (by assumption) ?_
        rotate_left
        · intro w hSw
          try dsimp only at hSw
          go_simp
          try with_reducible rfl
        try simp only [Act.put, List.setIfInBounds_toArray, List.set_cons_zero, List.set_cons_succ]
        refine wpAnyH_take (i := 3) (oi := { dst := some 40, op := Op.move (Operand.tmp 7), type := 23, pos := "outright.go:73", after := #[{ on := 2, ground := Ground.guard }], guard := some (2, true) }) (v := ?_) rfl (by kernel_rfl) (by kernel_rfl) (by kernel_rfl) (fun _ _ _ h => h) (Or.inl ⟨by rfl, ?_⟩) (by assumption) ?_
        rotate_left
        · intro w hSw
          try dsimp only at hSw
          go_simp
          try with_reducible rfl
        try simp only [Act.put, List.setIfInBounds_toArray, List.set_cons_zero, List.set_cons_succ]
        refine wpAnyH_ready (rs := [4]) (by kernel_rfl) (by simp) ?_
        refine AllReadyH.cons (o := { dst := some 41, op := Op.buildSlice 23 1 #[(0, Operand.const (Value.int IntKind.u64 1))], type := 23, pos := "outright.go:73", after := #[{ on := 2, ground := Ground.guard }], guard := some (2, true) }) rfl (fun K hK => ?_) AllReadyH.nil
        go_simp
        refine hK.out _ _ ?_ (fun hHeld => ?_)
        · try dsimp only
          (first | with_reducible exact ⟨hS.out.cs3 0 rfl, hS.out.cs2 1 rfl⟩ | with_reducible exact ⟨hS.out.drew.cs3 0 rfl, hS.out.drew.cs2 1 rfl⟩ | with_reducible exact ⟨(hS.out.alloc _).cs3 0 rfl, (hS.out.alloc _).cs2 1 rfl⟩ | with_reducible exact ⟨((hS.out.alloc _).alloc _).cs3 0 rfl, ((hS.out.alloc _).alloc _).cs2 1 rfl⟩)
        clear hK K
        try simp only [Act.put, List.setIfInBounds_toArray, List.set_cons_zero, List.set_cons_succ]
        refine wpAnyH_ready (rs := [5]) (by kernel_rfl) (by simp) ?_
        refine AllReadyH.cons (o := { dst := some 42, op := Op.call { callee := Callee.value (Operand.func 36), args := #[Operand.tmp 40, Operand.tmp 41], argTypes := #[23, 23] }, type := 3, pos := "outright.go:73", after := #[{ on := 3, ground := Ground.data }, { on := 4, ground := Ground.data }, { on := 2, ground := Ground.chain }, { on := 2, ground := Ground.guard }], guard := some (2, true) }) rfl (fun K hK => ?_) AllReadyH.nil
        go_simp
        (go_at_call 36; (with_reducible refine (ncmp_c (q := 0) (hS.out.lit1 1 (by decide)) (by repeat (first | exact List.mem_cons_self | apply List.mem_cons_of_mem)) (by decide) (by repeat (first | exact List.mem_cons_self | apply List.mem_cons_of_mem)) (by decide) (by decide)).mono ?_); rintro e w' ⟨rfl, h1⟩; clear hS; have hS := Lib.hid h1; clear h1)
        try go_wp2_with fail
        refine hK.out _ _ ?_ (fun hHeld => ?_)
        · try dsimp only
          (first | with_reducible exact ⟨hS.out.cs3 0 rfl, hS.out.cs2 1 rfl⟩ | with_reducible exact ⟨hS.out.drew.cs3 0 rfl, hS.out.drew.cs2 1 rfl⟩ | with_reducible exact ⟨(hS.out.alloc _).cs3 0 rfl, (hS.out.alloc _).cs2 1 rfl⟩ | with_reducible exact ⟨((hS.out.alloc _).alloc _).cs3 0 rfl, ((hS.out.alloc _).alloc _).cs2 1 rfl⟩)
        clear hK K
        try simp only [Act.put, List.setIfInBounds_toArray, List.set_cons_zero, List.set_cons_succ]
        refine wpAnyH_take (i := 6) (oi := { dst := some 43, op := Op.binOp BinOp.eql 3 (Operand.tmp 42) (Operand.const (Value.int IntKind.i64 0)) 3, type := 4, pos := "outright.go:73", after := #[{ on := 5, ground := Ground.data }, { on := 2, ground := Ground.guard }], guard := some (2, true) }) (v := ?_) rfl (by kernel_rfl) (by kernel_rfl) (by kernel_rfl) (fun _ _ _ h => h) (Or.inl ⟨by rfl, ?_⟩) (by assumption) ?_
        rotate_left
        · intro w hSw
          try dsimp only at hSw
          go_simp
          try with_reducible rfl
        try simp only [Act.put, List.setIfInBounds_toArray, List.set_cons_zero, List.set_cons_succ]
        refine wpAnyH_take (i := 7) (oi := { dst := some 44, op := Op.pick (Operand.tmp 39) (Operand.tmp 43) (Operand.const (Value.bool false)), type := 4, pos := "outright.go:73", after := #[{ on := 2, ground := Ground.data }, { on := 6, ground := Ground.data }], guard := none }) (v := ?_) rfl (by kernel_rfl) (by kernel_rfl) (by kernel_rfl) (fun _ _ _ h => h) (Or.inl ⟨by rfl, ?_⟩) (by assumption) ?_
        rotate_left
        · intro w hSw
          try dsimp only at hSw
          go_simp
          try with_reducible rfl
        try simp only [Act.put, List.setIfInBounds_toArray, List.set_cons_zero, List.set_cons_succ]
        refine wpAnyH_take (i := 8) (oi := { dst := some 45, op := Op.move (Operand.tmp 44), type := 4, pos := "outright.go:73", after := #[{ on := 7, ground := Ground.data }, { on := 5, ground := Ground.chain }], guard := none }) (v := ?_) rfl (by kernel_rfl) (by kernel_rfl) (by kernel_rfl) (fun _ _ _ h => h) (Or.inl ⟨by rfl, ?_⟩) (by assumption) ?_
        rotate_left
        · intro w hSw
          try dsimp only at hSw
          go_simp
          try with_reducible rfl
        try simp only [Act.put, List.setIfInBounds_toArray, List.set_cons_zero, List.set_cons_succ]
        refine wpAnyH_take (i := 9) (oi := { dst := some 46, op := Op.fieldAddr 27 (Operand.tmp 5) 0, type := 0, pos := "outright.go:73", after := #[{ on := 8, ground := Ground.guard }], guard := some (8, true) }) (v := ?_) rfl (by kernel_rfl) (by kernel_rfl) (by kernel_rfl) (fun _ _ _ h => h) (Or.inl ⟨by rfl, ?_⟩) (by assumption) ?_
        rotate_left
        · intro w hSw
          try dsimp only at hSw
          go_simp
          try with_reducible rfl
        try simp only [Act.put, List.setIfInBounds_toArray, List.set_cons_zero, List.set_cons_succ]
        refine wpAnyH_take (i := 10) (oi := { dst := some 47, op := Op.fieldAddr 25 (Operand.tmp 46) 1, type := 0, pos := "outright.go:73", after := #[{ on := 9, ground := Ground.data }, { on := 8, ground := Ground.guard }], guard := some (8, true) }) (v := ?_) rfl (by kernel_rfl) (by kernel_rfl) (by kernel_rfl) (fun _ _ _ h => h) (Or.inl ⟨by rfl, ?_⟩) (by assumption) ?_
        rotate_left
        · intro w hSw
          try dsimp only at hSw
          go_simp
          try with_reducible rfl
        try simp only [Act.put, List.setIfInBounds_toArray, List.set_cons_zero, List.set_cons_succ]
        refine wpAnyH_take (i := 11) (oi := { dst := some 48, op := Op.load 23 (Operand.tmp 47), type := 23, pos := "outright.go:73", after := #[{ on := 10, ground := Ground.data }, { on := 8, ground := Ground.guard }], guard := some (8, true) }) (v := ?_) rfl (by kernel_rfl) (by kernel_rfl) (by kernel_rfl) (fun _ _ _ h => h) (Or.inl ⟨by rfl, ?_⟩) (by assumption) ?_
        rotate_left
        · intro w hSw
          try dsimp only at hSw
          go_simp
          try with_reducible rfl
        try simp only [Act.put, List.setIfInBounds_toArray, List.set_cons_zero, List.set_cons_succ]
        refine wpAnyH_take (i := 12) (oi := { dst := some 49, op := Op.move (Operand.tmp 1), type := 23, pos := "outright.go:73", after := #[{ on := 8, ground := Ground.guard }], guard := some (8, true) }) (v := ?_) rfl (by kernel_rfl) (by kernel_rfl) (by kernel_rfl) (fun _ _ _ h => h) (Or.inl ⟨by rfl, ?_⟩) (by assumption) ?_
        rotate_left
        · intro w hSw
          try dsimp only at hSw
          go_simp
          try with_reducible rfl
        try simp only [Act.put, List.setIfInBounds_toArray, List.set_cons_zero, List.set_cons_succ]
        refine wpAnyH_take (i := 14) (oi := { dst := some 51, op := Op.fieldAddr 25 (Operand.tmp 2) 1, type := 0, pos := "outright.go:73", after := #[{ on := 8, ground := Ground.guard }], guard := some (8, true) }) (v := ?_) rfl (by kernel_rfl) (by kernel_rfl) (by kernel_rfl) (fun _ _ _ h => h) (Or.inl ⟨by rfl, ?_⟩) (by assumption) ?_
        rotate_left
        · intro w hSw
          try dsimp only at hSw
          go_simp
          try with_reducible rfl
        try simp only [Act.put, List.setIfInBounds_toArray, List.set_cons_zero, List.set_cons_succ]
        refine wpAnyH_take (i := 15) (oi := { dst := some 52, op := Op.load 23 (Operand.tmp 51), type := 23, pos := "outright.go:73", after := #[{ on := 14, ground := Ground.data }, { on := 8, ground := Ground.guard }], guard := some (8, true) }) (v := ?_) rfl (by kernel_rfl) (by kernel_rfl) (by kernel_rfl) (fun _ _ _ h => h) (Or.inl ⟨by rfl, ?_⟩) (by assumption) ?_
        rotate_left
        · intro w hSw
          try dsimp only at hSw
          go_simp
          try with_reducible rfl
        try simp only [Act.put, List.setIfInBounds_toArray, List.set_cons_zero, List.set_cons_succ]
        refine wpAnyH_take (i := 16) (oi := { dst := some 53, op := Op.fieldAddr 27 (Operand.tmp 5) 1, type := 0, pos := "outright.go:73", after := #[{ on := 8, ground := Ground.guard }], guard := some (8, true) }) (v := ?_) rfl (by kernel_rfl) (by kernel_rfl) (by kernel_rfl) (fun _ _ _ h => h) (Or.inl ⟨by rfl, ?_⟩) (by assumption) ?_
        rotate_left
        · intro w hSw
          try dsimp only at hSw
          go_simp
          try with_reducible rfl
        try simp only [Act.put, List.setIfInBounds_toArray, List.set_cons_zero, List.set_cons_succ]
        refine wpAnyH_take (i := 17) (oi := { dst := some 54, op := Op.load 23 (Operand.tmp 53), type := 23, pos := "outright.go:73", after := #[{ on := 16, ground := Ground.data }, { on := 8, ground := Ground.guard }], guard := some (8, true) }) (v := ?_) rfl (by kernel_rfl) (by kernel_rfl) (by kernel_rfl) (fun _ _ _ h => h) (Or.inl ⟨by rfl, ?_⟩) (by assumption) ?_
        rotate_left
        · intro w hSw
          try dsimp only at hSw
          go_simp
          try with_reducible rfl
        try simp only [Act.put, List.setIfInBounds_toArray, List.set_cons_zero, List.set_cons_succ]
        refine wpAnyH_ready (rs := [13]) (by kernel_rfl) (by simp) ?_
        refine AllReadyH.cons (o := { dst := some 50, op := Op.call { callee := Callee.value (Operand.func 37), args := #[Operand.tmp 48, Operand.tmp 49], argTypes := #[23, 23] }, type := 23, pos := "outright.go:73", after := #[{ on := 11, ground := Ground.data }, { on := 12, ground := Ground.data }, { on := 8, ground := Ground.chain }, { on := 8, ground := Ground.guard }], guard := some (8, true) }) rfl (fun K hK => ?_) AllReadyH.nil
        go_simp
        (go_at_call 37; (with_reducible refine (nmul_c hS.out (by repeat (first | exact List.mem_cons_self | apply List.mem_cons_of_mem)) (by decide) (by repeat (first | exact List.mem_cons_self | apply List.mem_cons_of_mem)) (by decide) HX1.out).mono ?_); rintro e w' ⟨Ai, ni, ci, rfl, h1⟩; clear hS; have hS := Lib.hid h1; clear h1)
        try go_wp2_with fail
        refine hK.out _ _ ?_ (fun hHeld => ?_)
        · try dsimp only
          (first | with_reducible exact ⟨hS.out.cs3 0 rfl, hS.out.cs2 1 rfl⟩ | with_reducible exact ⟨hS.out.drew.cs3 0 rfl, hS.out.drew.cs2 1 rfl⟩ | with_reducible exact ⟨(hS.out.alloc _).cs3 0 rfl, (hS.out.alloc _).cs2 1 rfl⟩ | with_reducible exact ⟨((hS.out.alloc _).alloc _).cs3 0 rfl, ((hS.out.alloc _).alloc _).cs2 1 rfl⟩)
        clear hK K
        try simp only [Act.put, List.setIfInBounds_toArray, List.set_cons_zero, List.set_cons_succ]
        refine wpAnyH_ready (rs := [18]) (by kernel_rfl) (by simp) ?_
        refine AllReadyH.cons (o := { dst := some 55, op := Op.call { callee := Callee.value (Operand.func 37), args := #[Operand.tmp 52, Operand.tmp 54], argTypes := #[23, 23] }, type := 23, pos := "outright.go:73", after := #[{ on := 15, ground := Ground.data }, { on := 17, ground := Ground.data }, { on := 13, ground := Ground.chain }, { on := 8, ground := Ground.guard }], guard := some (8, true) }) rfl (fun K hK => ?_) AllReadyH.nil
        go_simp
        (go_at_call 37; (with_reducible refine (nmul_c hS.out (by repeat (first | exact List.mem_cons_self | apply List.mem_cons_of_mem)) (by decide) (by repeat (first | exact List.mem_cons_self | apply List.mem_cons_of_mem)) (by decide) HX2.out).mono ?_); rintro e w' ⟨Ai, ni, ci, rfl, h1⟩; clear hS; have hS := Lib.hid h1; clear h1)
        try go_wp2_with fail
        refine hK.out _ _ ?_ (fun hHeld => ?_)
        · try dsimp only
          (first | with_reducible exact ⟨hS.out.cs3 0 rfl, hS.out.cs2 1 rfl⟩ | with_reducible exact ⟨hS.out.drew.cs3 0 rfl, hS.out.drew.cs2 1 rfl⟩ | with_reducible exact ⟨(hS.out.alloc _).cs3 0 rfl, (hS.out.alloc _).cs2 1 rfl⟩ | with_reducible exact ⟨((hS.out.alloc _).alloc _).cs3 0 rfl, ((hS.out.alloc _).alloc _).cs2 1 rfl⟩)
        clear hK K
        try simp only [Act.put, List.setIfInBounds_toArray, List.set_cons_zero, List.set_cons_succ]
        refine wpAnyH_ready (rs := [19]) (by kernel_rfl) (by simp) ?_
        refine AllReadyH.cons (o := { dst := some 56, op := Op.call { callee := Callee.value (Operand.func 36), args := #[Operand.tmp 50, Operand.tmp 55], argTypes := #[23, 23] }, type := 3, pos := "outright.go:73", after := #[{ on := 13, ground := Ground.data }, { on := 18, ground := Ground.data }, { on := 18, ground := Ground.chain }, { on := 8, ground := Ground.guard }], guard := some (8, true) }) rfl (fun K hK => ?_) AllReadyH.nil
        go_simp
        (go_at_call 36; (with_reducible refine (ncmp_c (q := 0) hS.out (by repeat (first | exact List.mem_cons_self | apply List.mem_cons_of_mem)) (by decide) (by repeat (first | exact List.mem_cons_self | apply List.mem_cons_of_mem)) (by decide) (cmpI_eq HX.out)).mono ?_); rintro e w' ⟨rfl, h1⟩; clear hS; have hS := Lib.hid h1; clear h1)
        try go_wp2_with fail
        refine hK.out _ _ ?_ (fun hHeld => ?_)
        · try dsimp only
          (first | with_reducible exact ⟨hS.out.cs3 0 rfl, hS.out.cs2 1 rfl⟩ | with_reducible exact ⟨hS.out.drew.cs3 0 rfl, hS.out.drew.cs2 1 rfl⟩ | with_reducible exact ⟨(hS.out.alloc _).cs3 0 rfl, (hS.out.alloc _).cs2 1 rfl⟩ | with_reducible exact ⟨((hS.out.alloc _).alloc _).cs3 0 rfl, ((hS.out.alloc _).alloc _).cs2 1 rfl⟩)
        clear hK K
        try simp only [Act.put, List.setIfInBounds_toArray, List.set_cons_zero, List.set_cons_succ]
        refine wpAnyH_take (i := 20) (oi := { dst := some 57, op := Op.binOp BinOp.eql 3 (Operand.tmp 56) (Operand.const (Value.int IntKind.i64 0)) 3, type := 4, pos := "outright.go:73", after := #[{ on := 19, ground := Ground.data }, { on := 8, ground := Ground.guard }], guard := some (8, true) }) (v := ?_) rfl (by kernel_rfl) (by kernel_rfl) (by kernel_rfl) (fun _ _ _ h => h) (Or.inl ⟨by rfl, ?_⟩) (by assumption) ?_
        rotate_left
        · intro w hSw
          try dsimp only at hSw
          go_simp
          try with_reducible rfl
        try simp only [Act.put, List.setIfInBounds_toArray, List.set_cons_zero, List.set_cons_succ]
        refine wpAnyH_take (i := 21) (oi := { dst := some 58, op := Op.pick (Operand.tmp 45) (Operand.tmp 57) (Operand.const (Value.bool false)), type := 4, pos := "outright.go:73", after := #[{ on := 8, ground := Ground.data }, { on := 20, ground := Ground.data }], guard := none }) (v := ?_) rfl (by kernel_rfl) (by kernel_rfl) (by kernel_rfl) (fun _ _ _ h => h) (Or.inl ⟨by rfl, ?_⟩) (by assumption) ?_
        rotate_left
        · intro w hSw
          try dsimp only at hSw
          go_simp
          try with_reducible rfl
        try simp only [Act.put, List.setIfInBounds_toArray, List.set_cons_zero, List.set_cons_succ]
        refine wpAnyH_take (i := 22) (oi := { dst := some 59, op := Op.move (Operand.tmp 58), type := 4, pos := "outright.go:73", after := #[{ on := 21, ground := Ground.data }, { on := 19, ground := Ground.chain }], guard := none }) (v := ?_) rfl (by kernel_rfl) (by kernel_rfl) (by kernel_rfl) (fun _ _ _ h => h) (Or.inl ⟨by rfl, ?_⟩) (by assumption) ?_
        rotate_left
        · intro w hSw
          try dsimp only at hSw
          go_simp
          try with_reducible rfl
        try simp only [Act.put, List.setIfInBounds_toArray, List.set_cons_zero, List.set_cons_succ]
        refine wpAnyH_take (i := 23) (oi := { dst := some 60, op := Op.fieldAddr 27 (Operand.tmp 5) 0, type := 0, pos := "outright.go:73", after := #[{ on := 22, ground := Ground.guard }], guard := some (22, true) }) (v := ?_) rfl (by kernel_rfl) (by kernel_rfl) (by kernel_rfl) (fun _ _ _ h => h) (Or.inl ⟨by rfl, ?_⟩) (by assumption) ?_
        rotate_left
        · intro w hSw
          try dsimp only at hSw
          go_simp
          try with_reducible rfl
        try simp only [Act.put, List.setIfInBounds_toArray, List.set_cons_zero, List.set_cons_succ]
        refine wpAnyH_take (i := 24) (oi := { dst := some 61, op := Op.fieldAddr 25 (Operand.tmp 60) 0, type := 0, pos := "outright.go:73", after := #[{ on := 23, ground := Ground.data }, { on := 22, ground := Ground.guard }], guard := some (22, true) }) (v := ?_) rfl (by kernel_rfl) (by kernel_rfl) (by kernel_rfl) (fun _ _ _ h => h) (Or.inl ⟨by rfl, ?_⟩) (by assumption) ?_
        rotate_left
        · intro w hSw
          try dsimp only at hSw
          go_simp
          try with_reducible rfl
        try simp only [Act.put, List.setIfInBounds_toArray, List.set_cons_zero, List.set_cons_succ]
        refine wpAnyH_take (i := 25) (oi := { dst := some 62, op := Op.load 4 (Operand.tmp 61), type := 4, pos := "outright.go:73", after := #[{ on := 24, ground := Ground.data }, { on := 22, ground := Ground.guard }], guard := some (22, true) }) (v := ?_) rfl (by kernel_rfl) (by kernel_rfl) (by kernel_rfl) (fun _ _ _ h => h) (Or.inl ⟨by rfl, ?_⟩) (by assumption) ?_
        rotate_left
        · intro w hSw
          try dsimp only at hSw
          go_simp
          try with_reducible rfl
        try simp only [Act.put, List.setIfInBounds_toArray, List.set_cons_zero, List.set_cons_succ]
        refine wpAnyH_take (i := 26) (oi := { dst := some 63, op := Op.fieldAddr 25 (Operand.tmp 2) 0, type := 0, pos := "outright.go:73", after := #[{ on := 22, ground := Ground.guard }], guard := some (22, true) }) (v := ?_) rfl (by kernel_rfl) (by kernel_rfl) (by kernel_rfl) (fun _ _ _ h => h) (Or.inl ⟨by rfl, ?_⟩) (by assumption) ?_
        rotate_left
        · intro w hSw
          try dsimp only at hSw
          go_simp
          try with_reducible rfl
        try simp only [Act.put, List.setIfInBounds_toArray, List.set_cons_zero, List.set_cons_succ]
        refine wpAnyH_take (i := 27) (oi := { dst := some 64, op := Op.load 4 (Operand.tmp 63), type := 4, pos := "outright.go:73", after := #[{ on := 26, ground := Ground.data }, { on := 22, ground := Ground.guard }], guard := some (22, true) }) (v := ?_) rfl (by kernel_rfl) (by kernel_rfl) (by kernel_rfl) (fun _ _ _ h => h) (Or.inl ⟨by rfl, ?_⟩) (by assumption) ?_
        rotate_left
        · intro w hSw
          try dsimp only at hSw
          go_simp
          try with_reducible rfl
        try simp only [Act.put, List.setIfInBounds_toArray, List.set_cons_zero, List.set_cons_succ]
        refine wpAnyH_take (i := 28) (oi := { dst := some 65, op := Op.move (Operand.tmp 64), type := 4, pos := "outright.go:73", after := #[{ on := 27, ground := Ground.data }, { on := 22, ground := Ground.chain }, { on := 22, ground := Ground.guard }], guard := some (22, true) }) (v := ?_) rfl (by kernel_rfl) (by kernel_rfl) (by kernel_rfl) (fun _ _ _ h => h) (Or.inl ⟨by rfl, ?_⟩) (by assumption) ?_
        rotate_left
        · intro w hSw
          try dsimp only at hSw
          go_simp
          try with_reducible rfl
        try simp only [Act.put, List.setIfInBounds_toArray, List.set_cons_zero, List.set_cons_succ]
        refine wpAnyH_take (i := 29) (oi := { dst := some 66, op := Op.fieldAddr 25 (Operand.tmp 2) 1, type := 0, pos := "outright.go:73", after := #[{ on := 28, ground := Ground.guard }], guard := some (28, true) }) (v := undef) rfl (by kernel_rfl) (by kernel_rfl) (by kernel_rfl) (fun _ _ _ h => h) (Or.inr ⟨by rfl, rfl⟩) (by assumption) ?_
        try simp only [Act.put, List.setIfInBounds_toArray, List.set_cons_zero, List.set_cons_succ]
        refine wpAnyH_take (i := 30) (oi := { dst := some 67, op := Op.load 23 (Operand.tmp 66), type := 23, pos := "outright.go:73", after := #[{ on := 29, ground := Ground.data }, { on := 28, ground := Ground.guard }], guard := some (28, true) }) (v := undef) rfl (by kernel_rfl) (by kernel_rfl) (by kernel_rfl) (fun _ _ _ h => h) (Or.inr ⟨by rfl, rfl⟩) (by assumption) ?_
        try simp only [Act.put, List.setIfInBounds_toArray, List.set_cons_zero, List.set_cons_succ]
        refine wpAnyH_ready (rs := [31]) (by kernel_rfl) (by simp) ?_
        refine AllReadyH.cons (o := { dst := some 68, op := Op.call { callee := Callee.value (Operand.func 34), args := #[Operand.tmp 67], argTypes := #[23] }, type := 4, pos := "outright.go:73", after := #[{ on := 30, ground := Ground.data }, { on := 28, ground := Ground.chain }, { on := 28, ground := Ground.guard }], guard := some (28, true) }) rfl (fun K hK => ?_) AllReadyH.nil
        go_simp
        refine hK.out _ _ ?_ (fun hHeld => ?_)
        · try dsimp only
          (first | with_reducible exact ⟨hS.out.cs3 0 rfl, hS.out.cs2 1 rfl⟩ | with_reducible exact ⟨hS.out.drew.cs3 0 rfl, hS.out.drew.cs2 1 rfl⟩ | with_reducible exact ⟨(hS.out.alloc _).cs3 0 rfl, (hS.out.alloc _).cs2 1 rfl⟩ | with_reducible exact ⟨((hS.out.alloc _).alloc _).cs3 0 rfl, ((hS.out.alloc _).alloc _).cs2 1 rfl⟩)
        clear hK K
        try simp only [Act.put, List.setIfInBounds_toArray, List.set_cons_zero, List.set_cons_succ]
        refine wpAnyH_take (i := 32) (oi := { dst := some 69, op := Op.unOp UnOp.not 4 (Operand.tmp 68), type := 4, pos := "outright.go:73", after := #[{ on := 31, ground := Ground.data }, { on := 28, ground := Ground.guard }], guard := some (28, true) }) (v := undef) rfl (by kernel_rfl) (by kernel_rfl) (by kernel_rfl) (fun _ _ _ h => h) (Or.inr ⟨by rfl, rfl⟩) (by assumption) ?_
        try simp only [Act.put, List.setIfInBounds_toArray, List.set_cons_zero, List.set_cons_succ]
        refine wpAnyH_take (i := 33) (oi := { dst := some 70, op := Op.pick (Operand.tmp 65) (Operand.tmp 69) (Operand.const (Value.bool false)), type := 4, pos := "outright.go:73", after := #[{ on := 28, ground := Ground.data }, { on := 32, ground := Ground.data }, { on := 22, ground := Ground.guard }], guard := some (22, true) }) (v := ?_) rfl (by kernel_rfl) (by kernel_rfl) (by kernel_rfl) (fun _ _ _ h => h) (Or.inl ⟨by rfl, ?_⟩) (by assumption) ?_
        rotate_left
        · intro w hSw
          try dsimp only at hSw
          go_simp
          try with_reducible rfl
        try simp only [Act.put, List.setIfInBounds_toArray, List.set_cons_zero, List.set_cons_succ]
        refine wpAnyH_take (i := 34) (oi := { dst := some 71, op := Op.binOp BinOp.eql 4 (Operand.tmp 62) (Operand.tmp 70) 4, type := 4, pos := "outright.go:73", after := #[{ on := 25, ground := Ground.data }, { on := 33, ground := Ground.data }, { on := 22, ground := Ground.guard }], guard := some (22, true) }) (v := ?_) rfl (by kernel_rfl) (by kernel_rfl) (by kernel_rfl) (fun _ _ _ h => h) (Or.inl ⟨by rfl, ?_⟩) (by assumption) ?_
        rotate_left
        · intro w hSw
          try dsimp only at hSw
          go_simp
          try with_reducible rfl
        try simp only [Act.put, List.setIfInBounds_toArray, List.set_cons_zero, List.set_cons_succ]
        refine wpAnyH_take (i := 35) (oi := { dst := some 72, op := Op.pick (Operand.tmp 59) (Operand.tmp 71) (Operand.const (Value.bool false)), type := 4, pos := "outright.go:73", after := #[{ on := 22, ground := Ground.data }, { on := 34, ground := Ground.data }], guard := none }) (v := ?_) rfl (by kernel_rfl) (by kernel_rfl) (by kernel_rfl) (fun _ _ _ h => h) (Or.inl ⟨by rfl, ?_⟩) (by assumption) ?_
        rotate_left
        · intro w hSw
          try dsimp only at hSw
          go_simp
          try with_reducible rfl
        try simp only [Act.put, List.setIfInBounds_toArray, List.set_cons_zero, List.set_cons_succ]
        refine wpAnyH_take (i := 36) (oi := { dst := some 73, op := Op.move (Operand.tmp 72), type := 4, pos := "outright.go:73", after := #[{ on := 35, ground := Ground.data }, { on := 31, ground := Ground.chain }], guard := none }) (v := ?_) rfl (by kernel_rfl) (by kernel_rfl) (by kernel_rfl) (fun _ _ _ h => h) (Or.inl ⟨by rfl, ?_⟩) (by assumption) ?_
        rotate_left
        · intro w hSw
          try dsimp only at hSw
          go_simp
          try with_reducible rfl
        try simp only [Act.put, List.setIfInBounds_toArray, List.set_cons_zero, List.set_cons_succ]
        refine wpAnyH_take (i := 37) (oi := { dst := some 74, op := Op.fieldAddr 27 (Operand.tmp 5) 1, type := 0, pos := "outright.go:73", after := #[{ on := 36, ground := Ground.guard }], guard := some (36, true) }) (v := ?_) rfl (by kernel_rfl) (by kernel_rfl) (by kernel_rfl) (fun _ _ _ h => h) (Or.inl ⟨by rfl, ?_⟩) (by assumption) ?_
        rotate_left
        · intro w hSw
          try dsimp only at hSw
          go_simp
          try with_reducible rfl
        try simp only [Act.put, List.setIfInBounds_toArray, List.set_cons_zero, List.set_cons_succ]
        refine wpAnyH_take (i := 38) (oi := { dst := some 75, op := Op.load 23 (Operand.tmp 74), type := 23, pos := "outright.go:73", after := #[{ on := 37, ground := Ground.data }, { on := 36, ground := Ground.guard }], guard := some (36, true) }) (v := ?_) rfl (by kernel_rfl) (by kernel_rfl) (by kernel_rfl) (fun _ _ _ h => h) (Or.inl ⟨by rfl, ?_⟩) (by assumption) ?_
        rotate_left
        · intro w hSw
          try dsimp only at hSw
          go_simp
          try with_reducible rfl
        try simp only [Act.put, List.setIfInBounds_toArray, List.set_cons_zero, List.set_cons_succ]
        refine wpAnyH_ready (rs := [39]) (by kernel_rfl) (by simp) ?_
        refine AllReadyH.cons (o := { dst := some 76, op := Op.call { callee := Callee.value (Operand.func 34), args := #[Operand.tmp 75], argTypes := #[23] }, type := 4, pos := "outright.go:73", after := #[{ on := 38, ground := Ground.data }, { on := 36, ground := Ground.chain }, { on := 36, ground := Ground.guard }], guard := some (36, true) }) rfl (fun K hK => ?_) AllReadyH.nil
        go_simp
        (go_at_call 34; (with_reducible refine (zero_c (q := false) hS.out (by repeat (first | exact List.mem_cons_self | apply List.mem_cons_of_mem)) (by decide) HDN.out).mono ?_); rintro e w' ⟨rfl, h1⟩; clear hS; have hS := Lib.hid h1; clear h1)
        try go_wp2_with fail
        refine hK.out _ _ ?_ (fun hHeld => ?_)
        · try dsimp only
          (first | with_reducible exact ⟨hS.out.cs3 0 rfl, hS.out.cs2 1 rfl⟩ | with_reducible exact ⟨hS.out.drew.cs3 0 rfl, hS.out.drew.cs2 1 rfl⟩ | with_reducible exact ⟨(hS.out.alloc _).cs3 0 rfl, (hS.out.alloc _).cs2 1 rfl⟩ | with_reducible exact ⟨((hS.out.alloc _).alloc _).cs3 0 rfl, ((hS.out.alloc _).alloc _).cs2 1 rfl⟩)
        clear hK K
        try simp only [Act.put, List.setIfInBounds_toArray, List.set_cons_zero, List.set_cons_succ]
        refine wpAnyH_take (i := 40) (oi := { dst := some 77, op := Op.unOp UnOp.not 4 (Operand.tmp 76), type := 4, pos := "outright.go:73", after := #[{ on := 39, ground := Ground.data }, { on := 36, ground := Ground.guard }], guard := some (36, true) }) (v := ?_) rfl (by kernel_rfl) (by kernel_rfl) (by kernel_rfl) (fun _ _ _ h => h) (Or.inl ⟨by rfl, ?_⟩) (by assumption) ?_
        rotate_left
        · intro w hSw
          try dsimp only at hSw
          go_simp
          try with_reducible rfl
        try simp only [Act.put, List.setIfInBounds_toArray, List.set_cons_zero, List.set_cons_succ]
        refine wpAnyH_take (i := 41) (oi := { dst := some 78, op := Op.pick (Operand.tmp 73) (Operand.tmp 77) (Operand.const (Value.bool false)), type := 4, pos := "outright.go:73", after := #[{ on := 36, ground := Ground.data }, { on := 40, ground := Ground.data }], guard := none }) (v := ?_) rfl (by kernel_rfl) (by kernel_rfl) (by kernel_rfl) (fun _ _ _ h => h) (Or.inl ⟨by rfl, ?_⟩) (by assumption) ?_
        rotate_left
        · intro w hSw
          try dsimp only at hSw
          go_simp
          try with_reducible rfl
        try simp only [Act.put, List.setIfInBounds_toArray, List.set_cons_zero, List.set_cons_succ]
        refine wpAnyH_take (i := 42) (oi := { dst := some 4, op := Op.assign (Operand.tmp 78), type := 4, pos := "outright.go:73", after := #[{ on := 41, ground := Ground.data }, { on := 39, ground := Ground.chain }, { on := 0, ground := Ground.phase }, { on := 1, ground := Ground.phase }, { on := 2, ground := Ground.phase }, { on := 3, ground := Ground.phase }, { on := 4, ground := Ground.phase }, { on := 5, ground := Ground.phase }, { on := 6, ground := Ground.phase }, { on := 7, ground := Ground.phase }, { on := 8, ground := Ground.phase }, { on := 9, ground := Ground.phase }, { on := 10, ground := Ground.phase }, { on := 11, ground := Ground.phase }, { on := 12, ground := Ground.phase }, { on := 13, ground := Ground.phase }, { on := 14, ground := Ground.phase }, { on := 15, ground := Ground.phase }, { on := 16, ground := Ground.phase }, { on := 17, ground := Ground.phase }, { on := 18, ground := Ground.phase }, { on := 19, ground := Ground.phase }, { on := 20, ground := Ground.phase }, { on := 21, ground := Ground.phase }, { on := 22, ground := Ground.phase }, { on := 23, ground := Ground.phase }, { on := 24, ground := Ground.phase }, { on := 25, ground := Ground.phase }, { on := 26, ground := Ground.phase }, { on := 27, ground := Ground.phase }, { on := 28, ground := Ground.phase }, { on := 29, ground := Ground.phase }, { on := 30, ground := Ground.phase }, { on := 31, ground := Ground.phase }, { on := 32, ground := Ground.phase }, { on := 33, ground := Ground.phase }, { on := 34, ground := Ground.phase }, { on := 35, ground := Ground.phase }, { on := 36, ground := Ground.phase }, { on := 37, ground := Ground.phase }, { on := 38, ground := Ground.phase }, { on := 39, ground := Ground.phase }, { on := 40, ground := Ground.phase }, { on := 41, ground := Ground.phase }], guard := none }) (v := ?_) rfl (by kernel_rfl) (by kernel_rfl) (by kernel_rfl) (fun _ _ _ h => h) (Or.inl ⟨by rfl, ?_⟩) (by assumption) ?_
        rotate_left
        · intro w hSw
          try dsimp only at hSw
          go_simp
          try with_reducible rfl
        try simp only [Act.put, List.setIfInBounds_toArray, List.set_cons_zero, List.set_cons_succ]
        refine wpAnyH_done (by kernel_rfl) ?_ _
        go_wp2
        go_ret
        exact ⟨rfl, hS.out.st.1⟩
      | true =>
        by_cases hv : val B xs0 = 0
        · have HSG := Lib.hid (show sg r.num = false by rw [← HR.out, rv_sg hv0 hp, decide_eq_false (by omega)]; rfl)
          have HMAY := Lib.hid (show mayR false (limbs (mg r.num)) (limbs r.den) = true by have h9 := mayR_told r; rw [HSG.out] at h9; exact h9)
          have HV := Lib.hid (show decide (val B xs0 = 0) = true from decide_eq_true hv)
          clear hp hv0 hv
          have hS := Lib.hid (((SC.start w).old (k := 6) h1 hl.2 rfl).old (k := 6) h0 hl.1 rfl)
          clear h0 h1
          go_enter Tryz.func6, Tryz.ntmps6
          have h1 := (hS.out.boxed (vs := [.bool true, .slice A0 n0 c0]) (ty := 25) rfl rfl)
          try simp only [World.size_alloc] at h1
          obtain ⟨p0_0, p1_0⟩ := h1.cs2 0 rfl
          clear h1
          go_wp2_with fail
          clear p0_0 p1_0
          generalize hwa : World.alloc w _ = v1
          have h1 := (hS.out.boxed (vs := [.bool true, .slice A0 n0 c0]) (ty := 25) rfl hwa)
          have hsz : v1.heap.size = w.heap.size + 1 := by rw [← hwa]; simp only [World.size_alloc]
          try rw [← hsz]
          clear hwa hsz
          clear hS; have hS := Lib.hid h1; clear h1
          obtain ⟨x0_0, x1_0⟩ := hS.out.cs2 0 rfl
          go_wp2_with fail
          go_at_call 11
          with_reducible refine (long1_n hS.out hl).mono ?_
          rintro e v2 ⟨rfl, h1⟩
          clear x0_0 x1_0
          clear hS; have hS := Lib.hid h1; clear h1
          obtain ⟨x0_0, x1_0⟩ := hS.out.cs2 0 rfl
          go_wp2_with fail
          go_at_call 12
          with_reducible refine (awake_any _).mono ?_
          rintro e v3 ⟨rfl, hb⟩
          clear x0_0 x1_0
          have h1 := hS.out.below hb
          clear hb
          clear hS; have hS := Lib.hid h1; clear h1
          obtain ⟨x0_0, x1_0⟩ := hS.out.cs2 0 rfl
          go_wp2_with fail
          go_at_call 16
          with_reducible refine (fmk_c (M := 6) (r := r) hS.out (by repeat (first | exact List.mem_cons_self | apply List.mem_cons_of_mem)) (by repeat (first | exact List.mem_cons_self | apply List.mem_cons_of_mem)) (by decide) (by decide) (by decide) HP.out HR.out).mono ?_
          rintro e v4 ⟨Aa, na, ca, Aa', na', ca', rfl, h1⟩
          clear x0_0 x1_0
          rw [HSG.out]
          clear hS; have hS := Lib.hid h1; clear h1
          obtain ⟨x0_0, x1_0⟩ := hS.out.cs2 0 rfl
          have h1 := (hS.out.boxed (vs := [.bool false, .slice Aa na ca, .slice Aa' na' ca']) (ty := 27) rfl rfl)
          try simp only [World.size_alloc] at h1
          obtain ⟨p0_0, p1_0, p2_0⟩ := h1.cs3 0 rfl
          obtain ⟨p0_1, p1_1⟩ := h1.cs2 1 rfl
          clear h1
          go_wp2_with fail
          clear x0_0 x1_0
          clear p0_0 p1_0 p2_0 p0_1 p1_1
          generalize hwa : World.alloc v4 _ = v5
          have h1 := (hS.out.boxed (vs := [.bool false, .slice Aa na ca, .slice Aa' na' ca']) (ty := 27) rfl hwa)
          have hsz : v5.heap.size = v4.heap.size + 1 := by rw [← hwa]; simp only [World.size_alloc]
          try rw [← hsz]
          clear hwa hsz
          clear hS; have hS := Lib.hid h1; clear h1
          obtain ⟨x0_0, x1_0, x2_0⟩ := hS.out.cs3 0 rfl
          obtain ⟨x0_1, x1_1⟩ := hS.out.cs2 1 rfl
          go_wp2_with fail
          go_at_call 34
          with_reducible refine (zero_c (q := false) hS.out (by repeat (first | exact List.mem_cons_self | apply List.mem_cons_of_mem)) (by decide) (decide_eq_false HN.out)).mono ?_
          rintro e v6 ⟨rfl, h1⟩
          clear x0_0 x1_0 x2_0 x0_1 x1_1
          clear hS; have hS := Lib.hid h1; clear h1
          obtain ⟨x0_0, x1_0, x2_0⟩ := hS.out.cs3 0 rfl
          obtain ⟨x0_1, x1_1⟩ := hS.out.cs2 1 rfl
          go_wp2_with fail
          go_at_call 35
          with_reducible refine (gcd_c (r := 1) hS.out (by repeat (first | exact List.mem_cons_self | apply List.mem_cons_of_mem)) (by decide) (by repeat (first | exact List.mem_cons_self | apply List.mem_cons_of_mem)) (by decide) (rv_gcd _)).mono ?_
          rintro e v7 ⟨Ag, ng, cg, rfl, h1⟩
          clear x0_0 x1_0 x2_0 x0_1 x1_1
          clear hS; have hS := Lib.hid h1; clear h1
          obtain ⟨x0_0, x1_0, x2_0⟩ := hS.out.cs3 0 rfl
          obtain ⟨x0_1, x1_1⟩ := hS.out.cs2 1 rfl
          go_wp2_with fail
          clear x0_0 x1_0 x2_0 x0_1 x1_1
          have h1 := hS.out.drew
          clear hS; have hS := Lib.hid h1; clear h1
          try simp only [List.append_eq, List.cons_append, List.nil_append]
          go_region_held3 (fun W => (W.cell? ⟨v4.heap.size, 0, none⟩ = some (.bool false) ∧ W.cell? ⟨v4.heap.size, 1, none⟩ = some (.slice Aa na ca) ∧ W.cell? ⟨v4.heap.size, 2, none⟩ = some (.slice Aa' na' ca')) ∧ (W.cell? ⟨w.heap.size, 0, none⟩ = some (.bool true) ∧ W.cell? ⟨w.heap.size, 1, none⟩ = some (.slice A0 n0 c0))) (first | with_reducible exact ⟨hS.out.cs3 0 rfl, hS.out.cs2 1 rfl⟩ | with_reducible exact ⟨hS.out.drew.cs3 0 rfl, hS.out.drew.cs2 1 rfl⟩ | with_reducible exact ⟨(hS.out.alloc _).cs3 0 rfl, (hS.out.alloc _).cs2 1 rfl⟩ | with_reducible exact ⟨((hS.out.alloc _).alloc _).cs3 0 rfl, ((hS.out.alloc _).alloc _).cs2 1 rfl⟩) (first
            | (go_at_call 23; (with_reducible refine (fmay_c (b := false) (q := true) hS.out (by repeat (first | exact List.mem_cons_self | apply List.mem_cons_of_mem)) (by repeat (first | exact List.mem_cons_self | apply List.mem_cons_of_mem)) (by decide) (by decide) HMAY.out).mono ?_); rintro e w' ⟨rfl, h1⟩; clear hS; have hS := Lib.hid h1; clear h1)
            | (go_at_call 36; (with_reducible refine (ncmp_c (q := 0) (hS.out.lit1 1 (by decide)) (by repeat (first | exact List.mem_cons_self | apply List.mem_cons_of_mem)) (by decide) (by repeat (first | exact List.mem_cons_self | apply List.mem_cons_of_mem)) (by decide) (by decide)).mono ?_); rintro e w' ⟨rfl, h1⟩; clear hS; have hS := Lib.hid h1; clear h1)
            | (go_at_call 36; (with_reducible refine (ncmp_c (q := 0) hS.out (by repeat (first | exact List.mem_cons_self | apply List.mem_cons_of_mem)) (by decide) (by repeat (first | exact List.mem_cons_self | apply List.mem_cons_of_mem)) (by decide) (cmpI_eq HX.out)).mono ?_); rintro e w' ⟨rfl, h1⟩; clear hS; have hS := Lib.hid h1; clear h1)
            | (go_at_call 37; (with_reducible refine (nmul_c hS.out (by repeat (first | exact List.mem_cons_self | apply List.mem_cons_of_mem)) (by decide) (by repeat (first | exact List.mem_cons_self | apply List.mem_cons_of_mem)) (by decide) HX1.out).mono ?_); rintro e w' ⟨Ai, ni, ci, rfl, h1⟩; clear hS; have hS := Lib.hid h1; clear h1)
            | (go_at_call 37; (with_reducible refine (nmul_c hS.out (by repeat (first | exact List.mem_cons_self | apply List.mem_cons_of_mem)) (by decide) (by repeat (first | exact List.mem_cons_self | apply List.mem_cons_of_mem)) (by decide) HX2.out).mono ?_); rintro e w' ⟨Ai, ni, ci, rfl, h1⟩; clear hS; have hS := Lib.hid h1; clear h1)
            | (go_at_call 34; (with_reducible refine (zero_c (q := true) hS.out (by repeat (first | exact List.mem_cons_self | apply List.mem_cons_of_mem)) (by decide) HV.out).mono ?_); rintro e w' ⟨rfl, h1⟩; clear hS; have hS := Lib.hid h1; clear h1)
            | (go_at_call 34; (with_reducible refine (zero_c (q := false) hS.out (by repeat (first | exact List.mem_cons_self | apply List.mem_cons_of_mem)) (by decide) HDN.out).mono ?_); rintro e w' ⟨rfl, h1⟩; clear hS; have hS := Lib.hid h1; clear h1))
          obtain ⟨x0_0, x1_0, x2_0⟩ := hS.out.cs3 0 rfl
          obtain ⟨x0_1, x1_1⟩ := hS.out.cs2 1 rfl
          go_wp2
          go_ret
          exact ⟨rfl, hS.out.st.1⟩
        · have HSG := Lib.hid (show sg r.num = true by rw [← HR.out, rv_sg hv0 hp, decide_eq_true (by omega)]; rfl)
          have HMAY := Lib.hid (show mayR true (limbs (mg r.num)) (limbs r.den) = true by have h9 := mayR_told r; rw [HSG.out] at h9; exact h9)
          have HV := Lib.hid (show decide (val B xs0 = 0) = false from decide_eq_false hv)
          clear hp hv0 hv
          have hS := Lib.hid (((SC.start w).old (k := 6) h1 hl.2 rfl).old (k := 6) h0 hl.1 rfl)
          clear h0 h1
          go_enter Tryz.func6, Tryz.ntmps6
          have h1 := (hS.out.boxed (vs := [.bool true, .slice A0 n0 c0]) (ty := 25) rfl rfl)
          try simp only [World.size_alloc] at h1
          obtain ⟨p0_0, p1_0⟩ := h1.cs2 0 rfl
          clear h1
          go_wp2_with fail
          clear p0_0 p1_0
          generalize hwa : World.alloc w _ = v1
          have h1 := (hS.out.boxed (vs := [.bool true, .slice A0 n0 c0]) (ty := 25) rfl hwa)
          have hsz : v1.heap.size = w.heap.size + 1 := by rw [← hwa]; simp only [World.size_alloc]
          try rw [← hsz]
          clear hwa hsz
          clear hS; have hS := Lib.hid h1; clear h1
          obtain ⟨x0_0, x1_0⟩ := hS.out.cs2 0 rfl
          go_wp2_with fail
          go_at_call 11
          with_reducible refine (long1_n hS.out hl).mono ?_
          rintro e v2 ⟨rfl, h1⟩
          clear x0_0 x1_0
          clear hS; have hS := Lib.hid h1; clear h1
          obtain ⟨x0_0, x1_0⟩ := hS.out.cs2 0 rfl
          go_wp2_with fail
          go_at_call 12
          with_reducible refine (awake_any _).mono ?_
          rintro e v3 ⟨rfl, hb⟩
          clear x0_0 x1_0
          have h1 := hS.out.below hb
          clear hb
          clear hS; have hS := Lib.hid h1; clear h1
          obtain ⟨x0_0, x1_0⟩ := hS.out.cs2 0 rfl
          go_wp2_with fail
          go_at_call 16
          with_reducible refine (fmk_c (M := 6) (r := r) hS.out (by repeat (first | exact List.mem_cons_self | apply List.mem_cons_of_mem)) (by repeat (first | exact List.mem_cons_self | apply List.mem_cons_of_mem)) (by decide) (by decide) (by decide) HP.out HR.out).mono ?_
          rintro e v4 ⟨Aa, na, ca, Aa', na', ca', rfl, h1⟩
          clear x0_0 x1_0
          rw [HSG.out]
          clear hS; have hS := Lib.hid h1; clear h1
          obtain ⟨x0_0, x1_0⟩ := hS.out.cs2 0 rfl
          have h1 := (hS.out.boxed (vs := [.bool true, .slice Aa na ca, .slice Aa' na' ca']) (ty := 27) rfl rfl)
          try simp only [World.size_alloc] at h1
          obtain ⟨p0_0, p1_0, p2_0⟩ := h1.cs3 0 rfl
          obtain ⟨p0_1, p1_1⟩ := h1.cs2 1 rfl
          clear h1
          go_wp2_with fail
          clear x0_0 x1_0
          clear p0_0 p1_0 p2_0 p0_1 p1_1
          generalize hwa : World.alloc v4 _ = v5
          have h1 := (hS.out.boxed (vs := [.bool true, .slice Aa na ca, .slice Aa' na' ca']) (ty := 27) rfl hwa)
          have hsz : v5.heap.size = v4.heap.size + 1 := by rw [← hwa]; simp only [World.size_alloc]
          try rw [← hsz]
          clear hwa hsz
          clear hS; have hS := Lib.hid h1; clear h1
          obtain ⟨x0_0, x1_0, x2_0⟩ := hS.out.cs3 0 rfl
          obtain ⟨x0_1, x1_1⟩ := hS.out.cs2 1 rfl
          go_wp2_with fail
          go_at_call 34
          with_reducible refine (zero_c (q := false) hS.out (by repeat (first | exact List.mem_cons_self | apply List.mem_cons_of_mem)) (by decide) (decide_eq_false HN.out)).mono ?_
          rintro e v6 ⟨rfl, h1⟩
          clear x0_0 x1_0 x2_0 x0_1 x1_1
          clear hS; have hS := Lib.hid h1; clear h1
          obtain ⟨x0_0, x1_0, x2_0⟩ := hS.out.cs3 0 rfl
          obtain ⟨x0_1, x1_1⟩ := hS.out.cs2 1 rfl
          go_wp2_with fail
          go_at_call 35
          with_reducible refine (gcd_c (r := 1) hS.out (by repeat (first | exact List.mem_cons_self | apply List.mem_cons_of_mem)) (by decide) (by repeat (first | exact List.mem_cons_self | apply List.mem_cons_of_mem)) (by decide) (rv_gcd _)).mono ?_
          rintro e v7 ⟨Ag, ng, cg, rfl, h1⟩
          clear x0_0 x1_0 x2_0 x0_1 x1_1
          clear hS; have hS := Lib.hid h1; clear h1
          obtain ⟨x0_0, x1_0, x2_0⟩ := hS.out.cs3 0 rfl
          obtain ⟨x0_1, x1_1⟩ := hS.out.cs2 1 rfl
          go_wp2_with fail
          clear x0_0 x1_0 x2_0 x0_1 x1_1
          have h1 := hS.out.drew
          clear hS; have hS := Lib.hid h1; clear h1
          try simp only [List.append_eq, List.cons_append, List.nil_append]
          go_region_held3 (fun W => (W.cell? ⟨v4.heap.size, 0, none⟩ = some (.bool true) ∧ W.cell? ⟨v4.heap.size, 1, none⟩ = some (.slice Aa na ca) ∧ W.cell? ⟨v4.heap.size, 2, none⟩ = some (.slice Aa' na' ca')) ∧ (W.cell? ⟨w.heap.size, 0, none⟩ = some (.bool true) ∧ W.cell? ⟨w.heap.size, 1, none⟩ = some (.slice A0 n0 c0))) (first | with_reducible exact ⟨hS.out.cs3 0 rfl, hS.out.cs2 1 rfl⟩ | with_reducible exact ⟨hS.out.drew.cs3 0 rfl, hS.out.drew.cs2 1 rfl⟩ | with_reducible exact ⟨(hS.out.alloc _).cs3 0 rfl, (hS.out.alloc _).cs2 1 rfl⟩ | with_reducible exact ⟨((hS.out.alloc _).alloc _).cs3 0 rfl, ((hS.out.alloc _).alloc _).cs2 1 rfl⟩) (first
            | (go_at_call 23; (with_reducible refine (fmay_c (b := true) (q := true) hS.out (by repeat (first | exact List.mem_cons_self | apply List.mem_cons_of_mem)) (by repeat (first | exact List.mem_cons_self | apply List.mem_cons_of_mem)) (by decide) (by decide) HMAY.out).mono ?_); rintro e w' ⟨rfl, h1⟩; clear hS; have hS := Lib.hid h1; clear h1)
            | (go_at_call 36; (with_reducible refine (ncmp_c (q := 0) (hS.out.lit1 1 (by decide)) (by repeat (first | exact List.mem_cons_self | apply List.mem_cons_of_mem)) (by decide) (by repeat (first | exact List.mem_cons_self | apply List.mem_cons_of_mem)) (by decide) (by decide)).mono ?_); rintro e w' ⟨rfl, h1⟩; clear hS; have hS := Lib.hid h1; clear h1)
            | (go_at_call 36; (with_reducible refine (ncmp_c (q := 0) hS.out (by repeat (first | exact List.mem_cons_self | apply List.mem_cons_of_mem)) (by decide) (by repeat (first | exact List.mem_cons_self | apply List.mem_cons_of_mem)) (by decide) (cmpI_eq HX.out)).mono ?_); rintro e w' ⟨rfl, h1⟩; clear hS; have hS := Lib.hid h1; clear h1)
            | (go_at_call 37; (with_reducible refine (nmul_c hS.out (by repeat (first | exact List.mem_cons_self | apply List.mem_cons_of_mem)) (by decide) (by repeat (first | exact List.mem_cons_self | apply List.mem_cons_of_mem)) (by decide) HX1.out).mono ?_); rintro e w' ⟨Ai, ni, ci, rfl, h1⟩; clear hS; have hS := Lib.hid h1; clear h1)
            | (go_at_call 37; (with_reducible refine (nmul_c hS.out (by repeat (first | exact List.mem_cons_self | apply List.mem_cons_of_mem)) (by decide) (by repeat (first | exact List.mem_cons_self | apply List.mem_cons_of_mem)) (by decide) HX2.out).mono ?_); rintro e w' ⟨Ai, ni, ci, rfl, h1⟩; clear hS; have hS := Lib.hid h1; clear h1)
            | (go_at_call 34; (with_reducible refine (zero_c (q := false) hS.out (by repeat (first | exact List.mem_cons_self | apply List.mem_cons_of_mem)) (by decide) HV.out).mono ?_); rintro e w' ⟨rfl, h1⟩; clear hS; have hS := Lib.hid h1; clear h1)
            | (go_at_call 34; (with_reducible refine (zero_c (q := false) hS.out (by repeat (first | exact List.mem_cons_self | apply List.mem_cons_of_mem)) (by decide) HDN.out).mono ?_); rintro e w' ⟨rfl, h1⟩; clear hS; have hS := Lib.hid h1; clear h1))
          obtain ⟨x0_0, x1_0, x2_0⟩ := hS.out.cs3 0 rfl
          obtain ⟨x0_1, x1_1⟩ := hS.out.cs2 1 rfl
          go_wp2
          go_ret
          exact ⟨rfl, hS.out.st.1⟩
  · have hS := Lib.hid (SC.start w)
    clear h0 h1
    go_enter Tryz.func6, Tryz.ntmps6
    have h1 := (hS.out.boxed (vs := [.bool b0, .slice A0 n0 c0]) (ty := 25) rfl rfl)
    try simp only [World.size_alloc] at h1
    obtain ⟨p0_0, p1_0⟩ := h1.cs2 0 rfl
    clear h1
    go_wp2_with fail
    clear p0_0 p1_0
    generalize hwa : World.alloc w _ = v1
    have h1 := (hS.out.boxed (vs := [.bool b0, .slice A0 n0 c0]) (ty := 25) rfl hwa)
    have hsz : v1.heap.size = w.heap.size + 1 := by rw [← hwa]; simp only [World.size_alloc]
    try rw [← hsz]
    clear hwa hsz
    clear hS; have hS := Lib.hid h1; clear h1
    obtain ⟨x0_0, x1_0⟩ := hS.out.cs2 0 rfl
    go_wp2_with fail
    go_at_call 11
    with_reducible refine (long1_y hS.out ⟨by omega, by omega⟩ hl).mono ?_
    rintro e v2 ⟨rfl, h1⟩
    clear x0_0 x1_0
    clear hS; have hS := Lib.hid h1; clear h1
    obtain ⟨x0_0, x1_0⟩ := hS.out.cs2 0 rfl
    go_wp2_with fail
    go_at_call 12
    with_reducible refine (awake_any _).mono ?_
    rintro e v3 ⟨rfl, hb⟩
    clear x0_0 x1_0
    have h1 := hS.out.below hb
    clear hb
    clear hS; have hS := Lib.hid h1; clear h1
    obtain ⟨x0_0, x1_0⟩ := hS.out.cs2 0 rfl
    go_wp2
    go_ret
    exact ⟨rfl, hS.out.st.1⟩
set_option maxRecDepth 100000 in
theorem lifted (os : Os) (started : os.Started) (H : Type) (enc : TypeId × Value → H) :
    ReturnsInHanded {} Tryz.checked os 6 .any (fun w args => (Rows.ratLowestSpec.pre enc Tryz.prog Tryz.f6 Rows.ratLowestRow.domain false w args ∧ laidMetH Tryz.prog Rows.ratLowestRow.laid w) ∧ sizedMet enc Tryz.prog Tryz.f6 (OpenSpec.ofChange Rows.ratLowestSpec) false w args) (Rows.ratLowestSpec.post enc Tryz.prog Tryz.f6 false true false false) := by
  refine returnsInHanded_of_change_and (C := Tryz.checked) (X := fun w _ => laidMetH Tryz.prog Rows.ratLowestRow.laid w) (fun _ _ _ hh h => h.of_heap hh) own started (by kernel_rfl) Tryz.func6
    (ChangeSpec.witness_shaped (enc := enc) (C := Tryz.checked) (os := os) (X := fun w _ => laidMetH Tryz.prog Rows.ratLowestRow.laid w) false (World.laidAll Tryz.prog os Rows.ratLowestRow.laid) #[.agg #[.bool false, .slice none 0 0], .slice none 0 0] 8 (World.laidAll_os _ _ _)
      (World.shaped_of_ZipB (by kernel_rfl) (by kernel_rfl)) (by kernel_rfl) (by kernel_rfl) (by kernel_rfl)
      (by rw [MakeChecks.laidMetH_plain _ _ _ (by kernel_rfl)]; exact laidMet_laidAll _ (by kernel_rfl) (by kernel_rfl))) ?_
  intro W base args ds gs before hval0 hW hcnd _ _ _
  have hval : ∀ (j : Nat) t v, Tryz.f6.params[j]? = some t → args[j]? = some v → Value.okWide Tryz.prog W .any base t v := hval0
  have hW' := hW
  obtain ⟨p, q, hA0, hV, hpq, hfz, hnd⟩ := hW
  have hA : DataW.TrodAll enc Tryz.prog W 0 (fun _ => true) true Tryz.f6.params.toList args.toList ds p := hA0
  rw [Tryz.params6] at hA hval
  obtain ⟨v0, vs0, d0, ds0, p0, q0, hargs, rfl, rfl, h0, r0⟩ := trodAll_cons hA
  obtain ⟨v1, vs1, d1, ds1, p1, q1, rfl, rfl, rfl, h1, r1⟩ := trodAll_cons r0
  obtain ⟨rfl, rfl, rfl⟩ := trodAll_nil r1
  obtain rfl : args = #[v0, v1] := by cases args; simp_all
  obtain ⟨rfl, rfl⟩ := trodVars_none hV
  obtain ⟨b0, A0, n0, c0, xs0, rfl, s0⟩ := open_whole (hval 0 25 v0 rfl rfl) h0
  obtain ⟨A1, n1, c1, xs1, rfl, s1⟩ := open_natural (hval 1 23 v1 rfl rfl) h1
  refine (walk W b0 A0 n0 c0 xs0 s0 A1 n1 c1 xs1 s1).mono fun e W' ⟨he, hb⟩ => ?_
  subst he
  exact ⟨_, rfl, Frame.close laidOut hW' rfl rfl rfl Tryz.underlying4 (fun t ht => by rw [Tryz.params6] at ht; simp at ht; rcases ht with rfl | rfl <;> exact ⟨by kernel_rfl, of_decide_eq_true (by kernel_rfl)⟩) hb⟩
theorem over : Rows.ratLowestRow.holds Tryz.pinned (OpenSpec.ofChange Rows.ratLowestSpec) :=
  OpenClaim.holds_of_wide 6 Tryz.f6 rfl rfl rfl rfl rfl rfl rfl ⟨rfl, rfl, rfl, rfl, rfl⟩ rfl rfl rfl rfl rfl (by kernel_rfl) Tryz.func6 (by kernel_rfl)
    (of_decide_eq_true (by kernel_rfl)) (by unfold Func.isWrapper; first | (rw [if_pos (by decide +kernel)]; kernel_rfl) | (rw [if_neg (by decide +kernel)]; exact ⟨rfl, rfl⟩))
    (fun os started H enc _ => lifted os started H enc)
/-- the statement -/
theorem proved : Rows.RatLowestCardSaid :=
  Claim7.holds_tied_plain_at .later [] _ _ _ _ over (fun _ h => by cases h) (by kernel_rfl) (fun _ h => by cases h) ratLowest_row_tie rfl ⟨rfl, rfl⟩ (by kernel_rfl) rfl
    (fun f fn hf hfn => by
      obtain rfl : f = 6 := Option.some.inj ((show Tryz.prog.funcNamed "tombola/tombolalaw06.RatLowest" = some 6 by kernel_rfl).symm.trans hf) |>.symm
      obtain rfl : fn = Tryz.f6 := (Option.some.inj (Tryz.func6.symm.trans hfn)).symm
      exact ⟨by kernel_rfl, (fun j t ht => by
        rw [Tryz.params6] at ht
        have hm : t ∈ [25, 23] := by simpa using Array.mem_of_getElem? ht
        have hall : ([25, 23].all fun u => !Tryz.prog.wantsStandIn u) = true := by kernel_rfl
        exact (show Tryz.prog.wantsStandIn t = false by simpa using List.all_eq_true.1 hall t hm))⟩)
    (by kernel_rfl)
#print axioms proved
end Go.Proofs.YtfncaflaefnjmaaGreatDoor.ratLowest
