/-
  PROVED: the statement RatNames (tombolalaw06.RatNames) about the landed commit: for every input the law returns true and leaves its arguments as they were. Conditions: none beyond those that the given row itself prints.
-/
import Derived.Test.YtnebeffpidlgmaaGreatDoorCards
import Derived.Test.YtnebeffpidlgmaaGreatDoorTie
import Derived.LaidMore
import Derived.Lay
import Derived.SevenTiedAt
import Derived.Stop.Joined
import Derived.Test.YtnebeffpidlgmaaGreatDoorRows
import Derived.WalkKit
import Derived.ProofKit
import Derived.OpenShut
import Derived.RowKit3
import Derived.Test.YtnebeffpidlgmaaGreatDoorGFrame
import Derived.Test.YtnebeffpidlgmaaGreatDoorRatOpen
import Derived.Test.YtnebeffpidlgmaaGreatDoorRatH
import Derived.Test.YtnebeffpidlgmaaGreatDoorRatL
import Derived.Deep.RegionHeld3
namespace Go.Proofs.YtnebeffpidlgmaaGreatDoor.ratNames
open Go.ChangeShapes Go.WideShapes Go.ChangeAt Go.RowKit
set_option linter.unusedVariables false
set_option linter.unusedSimpArgs false
set_option maxRecDepth 20000
open N
theorem own : ownKnob Tryz.prog.godebug = none := by kernel_rfl
open Go.Lib (decDigits nDigits decDigits_length nDigits_pos)
/-- rows of a text and an error's number -/
def RR (g n : Nat) (w : World) : Prop := ∀ k, k < n → ∃ (bs : List UInt8) (e : Int), w.cell? ⟨g, k * 2, none⟩ = some (.string ⟨bs.toArray⟩) ∧ w.cell? ⟨g, k * 2 + 1, none⟩ = some (.int .i64 e) ∧ bs.length ≤ maxLen ∧ rdK bs = e
theorem RR.below {g n : Nat} {w w' : World} (h : RR g n w) (hg : g < w.heap.size) (hb : Below w.heap.size w w') : RR g n w' := by
  intro k hk
  obtain ⟨bs, e, h0, h1, h2⟩ := h k hk
  exact ⟨bs, e, (hb.cell hg).trans h0, (hb.cell hg).trans h1, h2⟩
theorem rr_of (w : World) (C : Array Value) (t : TypeId) (n : Nat)
    (h : ∀ k, k < n → ∃ (bs : List UInt8) (e : Int), C[k * 2]? = some (.string ⟨bs.toArray⟩) ∧ C[k * 2 + 1]? = some (.int .i64 e) ∧ bs.length ≤ maxLen ∧ rdK bs = e) :
    RR w.heap.size n (w.alloc (.cells C t)) := by
  intro k hk
  obtain ⟨bs, e, h0, h1, h2⟩ := h k hk
  exact ⟨bs, e, by rw [World.cell?_alloc_new]; exact h0, by rw [World.cell?_alloc_new]; exact h1, h2⟩
theorem len_pow (n : Nat) : W.len ((2 ^ n : Nat) : Int) = ((n + 1 : Nat) : Int) := by
  obtain ⟨j, e1, e2, e3⟩ := len_spec ((2 ^ n : Nat) : Int) (Int.natCast_nonneg _)
  rw [e1]
  rw [W.cast_pow] at e2 e3
  have h1 : n < j := by
    apply Classical.byContradiction; intro hc
    have h4 : (2 : Nat) ^ j ≤ 2 ^ n := Nat.pow_le_pow_right (by decide) (by omega)
    have h5 : (2 : Int) ^ j ≤ 2 ^ n := by rw [← W.cast_pow, ← W.cast_pow]; exact Int.ofNat_le.2 h4
    omega
  have h2 : j ≤ n + 1 := by
    apply Classical.byContradiction; intro hc
    have h4 : (2 : Nat) ^ n < 2 ^ (j - 1) := Nat.pow_lt_pow_right (by decide) (by omega)
    have h5 : (2 : Int) ^ n < 2 ^ (j - 1) := by rw [← W.cast_pow, ← W.cast_pow]; exact Int.ofNat_lt.2 h4
    omega
  congr 1; omega
theorem half_top : ∃ r : Rat, (∀ w, Calls Tryz.prog 14 #[.int .i64 65536] w (OutRE w 1026 r 0)) ∧ W.len r.den = 65537 := by
  obtain ⟨n, hn⟩ : ∃ n : Nat, n = (65536 : Int).toNat := ⟨_, rfl⟩
  refine ⟨rh n, fun w => by rw [hn]; exact fhalf_any w (by decide) (by decide), ?_⟩
  rw [(rh_nd n).2, len_pow, hn]
  decide
theorem lit20 {w0 v0 w : World} {S O : List Ent} {T : List Blk} (h : SC w0 v0 w S T O) : SC w0 v0 (w.alloc (.cells #[.int .u64 2, .int .u64 0] 47)) (⟨some ⟨w.heap.size, 0, none⟩, 2, 2, 2, [2, 0], 2⟩ :: S) T O := by
  have h1 := h.lit [2, 0] (fun x hx => by simp at hx; rcases hx with rfl | rfl <;> decide) (by simp)
  rw [show val B [2, 0] = 2 by decide] at h1
  exact h1
theorem sum0 (w : World) : Calls Tryz.prog 29 #[.slice none 0 0] w (OutR w 60 (mkRat 0 1)) :=
  fsum_any w none [] 1 0 (fun k hk => absurd hk (by simp)) (fun f hf => by cases hf) (by simp) (by decide) (by decide) (r := mkRat 0 1) (by decide +kernel)
theorem pok_r {v : Int} {n : Nat} (h : (n : Int) ≤ 1048576 / W.len v) : PowOk v n := .inr h
theorem pok_l {v : Int} {n : Nat} (h : v = 0) : PowOk v n := .inl h
theorem neg_even : ∀ n : Nat, (mkRat (-1) 1) ^ (2 * n) = mkRat 1 1
  | 0 => by decide +kernel
  | n + 1 => by
    rw [show 2 * (n + 1) = 2 * n + 1 + 1 by omega, Rat.pow_succ, Rat.pow_succ, neg_even n]
    decide +kernel
set_option maxRecDepth 100000 in
set_option maxHeartbeats 40000000 in
theorem walk (w : World)  :
    Calls Tryz.prog 5 #[] w fun e w' => e = .returned (.bool true) ∧ Below w.heap.size w w' := by
  have hS := Lib.hid (SC.start w)
  obtain ⟨rf, hf1, hf2⟩ := half_top
  have HF := Lib.hid hf1
  have HFL := Lib.hid hf2
  obtain ⟨qv, hqv⟩ : ∃ q : Nat, q = 524288 := ⟨_, rfl⟩
  obtain ⟨qw, hqw⟩ : ∃ q : Nat, q = 2 * qv := ⟨_, rfl⟩
  have HQV := Lib.hid hqv
  have HQW := Lib.hid hqw
  clear hf1 hf2 hqv hqw
  go_enter Tryz.func5, Tryz.ntmps5
  go_wp2_with fail
  go_at_call 8
  with_reducible refine (awake_any _).mono ?_
  rintro e v1 ⟨rfl, hb⟩
  have h1 := hS.out.below hb
  clear hb
  clear hS; have hS := Lib.hid h1; clear h1
  have HB0 := Lib.hid hS.out.bl
  go_wp2_with fail
  go_loopw [47] (fun i wr => ∃ k : Nat, k ≤ 16 ∧ i = .int .i64 k ∧ Below w.heap.size w wr ∧ v1.heap.size < wr.heap.size ∧ RR v1.heap.size 16 wr) (fun i _ => 16 - (intOf i).toNat)
  case atStart =>
    exact ⟨0, by omega, rfl, HB0.out.alloc HB0.out.size _, by simp only [World.size_alloc]; omega, rr_of _ _ _ 16 (by
      intro k hk
      have hk : k = 0 ∨ k = 1 ∨ k = 2 ∨ k = 3 ∨ k = 4 ∨ k = 5 ∨ k = 6 ∨ k = 7 ∨ k = 8 ∨ k = 9 ∨ k = 10 ∨ k = 11 ∨ k = 12 ∨ k = 13 ∨ k = 14 ∨ k = 15 := by omega
      rcases hk with rfl | rfl | rfl | rfl | rfl | rfl | rfl | rfl | rfl | rfl | rfl | rfl | rfl | rfl | rfl | rfl
      · exact ⟨[], 4, rfl, rfl, by decide, by decide +kernel⟩
      · exact ⟨[49, 47], 4, rfl, rfl, by decide, by decide +kernel⟩
      · exact ⟨[49, 47, 49], 3, rfl, rfl, by decide, by decide +kernel⟩
      · exact ⟨[49, 47, 48], 3, rfl, rfl, by decide, by decide +kernel⟩
      · exact ⟨[48, 47, 50], 3, rfl, rfl, by decide, by decide +kernel⟩
      · exact ⟨[49, 47, 48, 50], 3, rfl, rfl, by decide, by decide +kernel⟩
      · exact ⟨[50, 47, 52], 3, rfl, rfl, by decide, by decide +kernel⟩
      · exact ⟨[45, 48], 3, rfl, rfl, by decide, by decide +kernel⟩
      · exact ⟨[49, 47, 45, 50], 3, rfl, rfl, by decide, by decide +kernel⟩
      · exact ⟨[49, 47, 50, 47, 51], 3, rfl, rfl, by decide, by decide +kernel⟩
      · exact ⟨[43, 49], 3, rfl, rfl, by decide, by decide +kernel⟩
      · exact ⟨[49, 32, 47, 50], 3, rfl, rfl, by decide, by decide +kernel⟩
      · exact ⟨[49, 47, 50], 0, rfl, rfl, by decide, by decide +kernel⟩
      · exact ⟨[45, 51], 0, rfl, rfl, by decide, by decide +kernel⟩
      · exact ⟨[48], 0, rfl, rfl, by decide, by decide +kernel⟩
      · exact ⟨[49, 56, 52, 52, 54, 55, 52, 52, 48, 55, 51, 55, 48, 57, 53, 53, 49, 54, 49, 54, 47, 51], 0, rfl, rfl, by decide, by decide +kernel⟩)⟩
  case round =>
    obtain ⟨k, hk, rfl, hb, hg, hr⟩ := hrel
    obtain ⟨wr1, rfl⟩ : ∃ x : World, x = wr := ⟨_, rfl⟩
    clear hS HB0
    have HB1 := Lib.hid hb
    have HG1 := Lib.hid hg
    have HR1 := Lib.hid hr
    clear hb hg hr
    by_cases hlt : k < 16
    · obtain ⟨bs, e, c0, c1, hlen, hK⟩ := HR1.out k hlt
      have HK := Lib.hid hK
      clear hK
      have hS := Lib.hid (SC.start wr1)
      go_wp2_with fail
      clear c0 c1
      generalize hwb : World.alloc wr1 _ = v2
      have h1 := hS.out.boxed (vs := [.string ⟨bs.toArray⟩, .int .i64 e]) rfl hwb
      clear hwb
      clear hS; have hS := Lib.hid h1; clear h1
      obtain ⟨x0_0, x1_0⟩ := hS.out.cs2 0 rfl
      by_cases he : e = 0
      · subst he
        go_wp2_with fail
        go_at_call 22
        with_reducible refine ((fread_all _ bs hlen).1 HK.out).mono ?_
        rintro e v3 ho
        clear x0_0 x1_0
        obtain ⟨A1, n1, c1, A2, n2, c2, rfl, h1⟩ := hS.out.rRE (Nat.le_refl _) ho
        clear hS; have hS := Lib.hid h1; clear h1
        obtain ⟨x0_0, x1_0⟩ := hS.out.cs2 0 rfl
        have h1 := (hS.out.boxed (vs := [.bool (sg ((rdR bs)).num), .slice A1 n1 c1, .slice A2 n2 c2]) (ty := 27) rfl rfl)
        try simp only [World.size_alloc] at h1
        obtain ⟨p0_0, p1_0, p2_0⟩ := h1.cs3 0 rfl
        obtain ⟨p0_1, p1_1⟩ := h1.cs2 1 rfl
        clear h1
        go_wp2_with fail
        clear x0_0 x1_0
        clear p0_0 p1_0 p2_0 p0_1 p1_1
        generalize hwa : World.alloc v3 _ = v4
        have h1 := (hS.out.boxed (vs := [.bool (sg ((rdR bs)).num), .slice A1 n1 c1, .slice A2 n2 c2]) (ty := 27) rfl hwa)
        have hsz : v4.heap.size = v3.heap.size + 1 := by rw [← hwa]; simp only [World.size_alloc]
        try rw [← hsz]
        clear hwa hsz
        clear hS; have hS := Lib.hid h1; clear h1
        obtain ⟨x0_0, x1_0, x2_0⟩ := hS.out.cs3 0 rfl
        obtain ⟨x0_1, x1_1⟩ := hS.out.cs2 1 rfl
        go_wp2_with fail
        clear x0_0 x1_0 x2_0 x0_1 x1_1
        have h1 := hS.out.drew
        clear hS; have hS := Lib.hid h1; clear h1
        refine wp_region_held_drew (S := (fun W => (W.cell? ⟨v3.heap.size, 0, none⟩ = some (.bool (sg ((rdR bs)).num)) ∧ W.cell? ⟨v3.heap.size, 1, none⟩ = some (.slice A1 n1 c1) ∧ W.cell? ⟨v3.heap.size, 2, none⟩ = some (.slice A2 n2 c2)) ∧ (W.cell? ⟨wr1.heap.size, 0, none⟩ = some (.string ⟨bs.toArray⟩) ∧ W.cell? ⟨wr1.heap.size, 1, none⟩ = some (.int .i64 0)))) (by kernel_rfl) ?_ (fun hHeld => ?_)
        · (first | with_reducible exact ⟨hS.out.cs3 0 rfl, hS.out.cs2 1 rfl⟩ | with_reducible exact ⟨hS.out.drew.cs3 0 rfl, hS.out.drew.cs2 1 rfl⟩ | with_reducible exact ⟨(hS.out.alloc _).cs3 0 rfl, (hS.out.alloc _).cs2 1 rfl⟩ | with_reducible exact ⟨((hS.out.alloc _).alloc _).cs3 0 rfl, ((hS.out.alloc _).alloc _).cs2 1 rfl⟩)
        refine wpAnyH_take (i := 0) (oi := { dst := some 57, op := Op.move (Operand.tmp 4), type := 30, pos := "outright.go:42", after := #[], guard := none }) (v := ?_) rfl (by kernel_rfl) (by kernel_rfl) (by kernel_rfl) (fun _ _ _ h => h) (Or.inl ⟨by rfl, ?_⟩) (by assumption) ?_
        rotate_left
        · intro w hSw
          try dsimp only at hSw
          go_simp
          try with_reducible rfl
        try simp only [Act.put, List.setIfInBounds_toArray, List.set_cons_zero, List.set_cons_succ]
        refine wpAnyH_take (i := 1) (oi := { dst := some 58, op := Op.fieldAddr 43 (Operand.tmp 2) 1, type := 0, pos := "outright.go:42", after := #[], guard := none }) (v := ?_) rfl (by kernel_rfl) (by kernel_rfl) (by kernel_rfl) (fun _ _ _ h => h) (Or.inl ⟨by rfl, ?_⟩) (by assumption) ?_
        rotate_left
        · intro w hSw
          try dsimp only at hSw
          go_simp
          try with_reducible rfl
        try simp only [Act.put, List.setIfInBounds_toArray, List.set_cons_zero, List.set_cons_succ]
        refine wpAnyH_take (i := 2) (oi := { dst := some 59, op := Op.load 30 (Operand.tmp 58), type := 30, pos := "outright.go:42", after := #[{ on := 1, ground := Ground.data }], guard := none }) (v := ?_) rfl (by kernel_rfl) (by kernel_rfl) (by kernel_rfl) (fun _ _ _ h => h) (Or.inl ⟨by rfl, ?_⟩) (by assumption) ?_
        rotate_left
        · intro w hSw
          try dsimp only at hSw
          go_simp
          try with_reducible rfl
        try simp only [Act.put, List.setIfInBounds_toArray, List.set_cons_zero, List.set_cons_succ]
        refine wpAnyH_take (i := 3) (oi := { dst := some 60, op := Op.binOp BinOp.neq 30 (Operand.tmp 57) (Operand.tmp 59) 30, type := 4, pos := "outright.go:42", after := #[{ on := 0, ground := Ground.data }, { on := 2, ground := Ground.data }], guard := none }) (v := ?_) rfl (by kernel_rfl) (by kernel_rfl) (by kernel_rfl) (fun _ _ _ h => h) (Or.inl ⟨by rfl, ?_⟩) (by assumption) ?_
        rotate_left
        · intro w hSw
          try dsimp only at hSw
          go_simp
          try with_reducible rfl
        try simp only [Act.put, List.setIfInBounds_toArray, List.set_cons_zero, List.set_cons_succ]
        refine wpAnyH_take (i := 4) (oi := { dst := some 61, op := Op.move (Operand.tmp 60), type := 4, pos := "outright.go:42", after := #[{ on := 3, ground := Ground.data }], guard := none }) (v := ?_) rfl (by kernel_rfl) (by kernel_rfl) (by kernel_rfl) (fun _ _ _ h => h) (Or.inl ⟨by rfl, ?_⟩) (by assumption) ?_
        rotate_left
        · intro w hSw
          try dsimp only at hSw
          go_simp
          try with_reducible rfl
        try simp only [Act.put, List.setIfInBounds_toArray, List.set_cons_zero, List.set_cons_succ]
        refine wpAnyH_take (i := 5) (oi := { dst := some 62, op := Op.move (Operand.tmp 4), type := 30, pos := "outright.go:42", after := #[{ on := 4, ground := Ground.guard }], guard := some (4, false) }) (v := ?_) rfl (by kernel_rfl) (by kernel_rfl) (by kernel_rfl) (fun _ _ _ h => h) (Or.inl ⟨by rfl, ?_⟩) (by assumption) ?_
        rotate_left
        · intro w hSw
          try dsimp only at hSw
          go_simp
          try with_reducible rfl
        try simp only [Act.put, List.setIfInBounds_toArray, List.set_cons_zero, List.set_cons_succ]
        refine wpAnyH_take (i := 6) (oi := { dst := some 63, op := Op.binOp BinOp.eql 30 (Operand.tmp 62) (Operand.const (Value.int IntKind.i64 0)) 30, type := 4, pos := "outright.go:42", after := #[{ on := 5, ground := Ground.data }, { on := 4, ground := Ground.guard }], guard := some (4, false) }) (v := ?_) rfl (by kernel_rfl) (by kernel_rfl) (by kernel_rfl) (fun _ _ _ h => h) (Or.inl ⟨by rfl, ?_⟩) (by assumption) ?_
        rotate_left
        · intro w hSw
          try dsimp only at hSw
          go_simp
          try with_reducible rfl
        try simp only [Act.put, List.setIfInBounds_toArray, List.set_cons_zero, List.set_cons_succ]
        refine wpAnyH_take (i := 7) (oi := { dst := some 64, op := Op.move (Operand.tmp 63), type := 4, pos := "outright.go:42", after := #[{ on := 6, ground := Ground.data }, { on := 4, ground := Ground.chain }, { on := 4, ground := Ground.guard }], guard := some (4, false) }) (v := ?_) rfl (by kernel_rfl) (by kernel_rfl) (by kernel_rfl) (fun _ _ _ h => h) (Or.inl ⟨by rfl, ?_⟩) (by assumption) ?_
        rotate_left
        · intro w hSw
          try dsimp only at hSw
          go_simp
          try with_reducible rfl
        try simp only [Act.put, List.setIfInBounds_toArray, List.set_cons_zero, List.set_cons_succ]
        refine wpAnyH_take (i := 8) (oi := { dst := some 65, op := Op.load 27 (Operand.tmp 3), type := 27, pos := "outright.go:42", after := #[{ on := 7, ground := Ground.guard }], guard := some (7, true) }) (v := ?_) rfl (by kernel_rfl) (by kernel_rfl) (by kernel_rfl) (fun _ _ _ h => h) (Or.inl ⟨by rfl, ?_⟩) (by assumption) ?_
        rotate_left
        · intro w hSw
          try dsimp only at hSw
          go_simp
          try with_reducible rfl
        try simp only [Act.put, List.setIfInBounds_toArray, List.set_cons_zero, List.set_cons_succ]
        refine wpAnyH_take (i := 10) (oi := { dst := some 67, op := Op.fieldAddr 43 (Operand.tmp 2) 0, type := 0, pos := "outright.go:42", after := #[{ on := 7, ground := Ground.guard }], guard := some (7, true) }) (v := ?_) rfl (by kernel_rfl) (by kernel_rfl) (by kernel_rfl) (fun _ _ _ h => h) (Or.inl ⟨by rfl, ?_⟩) (by assumption) ?_
        rotate_left
        · intro w hSw
          try dsimp only at hSw
          go_simp
          try with_reducible rfl
        try simp only [Act.put, List.setIfInBounds_toArray, List.set_cons_zero, List.set_cons_succ]
        refine wpAnyH_take (i := 11) (oi := { dst := some 68, op := Op.load 9 (Operand.tmp 67), type := 9, pos := "outright.go:42", after := #[{ on := 10, ground := Ground.data }, { on := 7, ground := Ground.guard }], guard := some (7, true) }) (v := ?_) rfl (by kernel_rfl) (by kernel_rfl) (by kernel_rfl) (fun _ _ _ h => h) (Or.inl ⟨by rfl, ?_⟩) (by assumption) ?_
        rotate_left
        · intro w hSw
          try dsimp only at hSw
          go_simp
          try with_reducible rfl
        try simp only [Act.put, List.setIfInBounds_toArray, List.set_cons_zero, List.set_cons_succ]
        refine wpAnyH_ready (rs := [9]) (by kernel_rfl) (by simp) ?_
        refine AllReadyH.cons (o := { dst := some 66, op := Op.call { callee := Callee.value (Operand.func 23), args := #[Operand.tmp 65], argTypes := #[27] }, type := 9, pos := "outright.go:42", after := #[{ on := 8, ground := Ground.data }, { on := 7, ground := Ground.chain }, { on := 7, ground := Ground.guard }], guard := some (7, true) }) rfl (fun K hK => ?_) AllReadyH.nil
        go_simp
        (go_at_call 23; (with_reducible refine (fshow_any _ (hS.out.frt (r := rdR bs) (k := 20001) (A := A1) (n := n1) (c := c1) (A' := A2) (m := n2) (d := c2) (by repeat (first | exact List.mem_cons_self | apply List.mem_cons_of_mem)) (by repeat (first | exact List.mem_cons_self | apply List.mem_cons_of_mem))) (by decide) (by decide) (Z := bs) (sh_rdR HK.out)).mono ?_); rintro e w' ⟨rfl, hb⟩; have h1 := hS.out.below hb; clear hb; clear hS; have hS := Lib.hid h1; clear h1)
        try go_wp2_with fail
        refine hK.out _ _ ?_ (fun hHeld => ?_)
        · try dsimp only
          (first | with_reducible exact ⟨hS.out.cs3 0 rfl, hS.out.cs2 1 rfl⟩ | with_reducible exact ⟨hS.out.drew.cs3 0 rfl, hS.out.drew.cs2 1 rfl⟩ | with_reducible exact ⟨(hS.out.alloc _).cs3 0 rfl, (hS.out.alloc _).cs2 1 rfl⟩ | with_reducible exact ⟨((hS.out.alloc _).alloc _).cs3 0 rfl, ((hS.out.alloc _).alloc _).cs2 1 rfl⟩)
        clear hK K
        try simp only [Act.put, List.setIfInBounds_toArray, List.set_cons_zero, List.set_cons_succ]
        refine wpAnyH_take (i := 12) (oi := { dst := some 69, op := Op.binOp BinOp.neq 9 (Operand.tmp 66) (Operand.tmp 68) 9, type := 4, pos := "outright.go:42", after := #[{ on := 9, ground := Ground.data }, { on := 11, ground := Ground.data }, { on := 7, ground := Ground.guard }], guard := some (7, true) }) (v := ?_) rfl (by kernel_rfl) (by kernel_rfl) (by kernel_rfl) (fun _ _ _ h => h) (Or.inl ⟨by rfl, ?_⟩) (by assumption) ?_
        rotate_left
        · intro w hSw
          try dsimp only at hSw
          go_simp
          try with_reducible rfl
        try simp only [Act.put, List.setIfInBounds_toArray, List.set_cons_zero, List.set_cons_succ]
        refine wpAnyH_take (i := 13) (oi := { dst := some 70, op := Op.pick (Operand.tmp 64) (Operand.tmp 69) (Operand.const (Value.bool false)), type := 4, pos := "outright.go:42", after := #[{ on := 7, ground := Ground.data }, { on := 12, ground := Ground.data }, { on := 4, ground := Ground.guard }], guard := some (4, false) }) (v := ?_) rfl (by kernel_rfl) (by kernel_rfl) (by kernel_rfl) (fun _ _ _ h => h) (Or.inl ⟨by rfl, ?_⟩) (by assumption) ?_
        rotate_left
        · intro w hSw
          try dsimp only at hSw
          go_simp
          try with_reducible rfl
        try simp only [Act.put, List.setIfInBounds_toArray, List.set_cons_zero, List.set_cons_succ]
        refine wpAnyH_take (i := 14) (oi := { dst := some 71, op := Op.pick (Operand.tmp 61) (Operand.const (Value.bool true)) (Operand.tmp 70), type := 4, pos := "outright.go:42", after := #[{ on := 4, ground := Ground.data }, { on := 13, ground := Ground.data }], guard := none }) (v := ?_) rfl (by kernel_rfl) (by kernel_rfl) (by kernel_rfl) (fun _ _ _ h => h) (Or.inl ⟨by rfl, ?_⟩) (by assumption) ?_
        rotate_left
        · intro w hSw
          try dsimp only at hSw
          go_simp
          try with_reducible rfl
        try simp only [Act.put, List.setIfInBounds_toArray, List.set_cons_zero, List.set_cons_succ]
        refine wpAnyH_take (i := 15) (oi := { dst := some 72, op := Op.move (Operand.tmp 71), type := 4, pos := "outright.go:42", after := #[{ on := 14, ground := Ground.data }, { on := 9, ground := Ground.chain }], guard := none }) (v := ?_) rfl (by kernel_rfl) (by kernel_rfl) (by kernel_rfl) (fun _ _ _ h => h) (Or.inl ⟨by rfl, ?_⟩) (by assumption) ?_
        rotate_left
        · intro w hSw
          try dsimp only at hSw
          go_simp
          try with_reducible rfl
        try simp only [Act.put, List.setIfInBounds_toArray, List.set_cons_zero, List.set_cons_succ]
        refine wpAnyH_take (i := 16) (oi := { dst := some 73, op := Op.move (Operand.tmp 4), type := 30, pos := "outright.go:42", after := #[{ on := 15, ground := Ground.guard }], guard := some (15, false) }) (v := ?_) rfl (by kernel_rfl) (by kernel_rfl) (by kernel_rfl) (fun _ _ _ h => h) (Or.inl ⟨by rfl, ?_⟩) (by assumption) ?_
        rotate_left
        · intro w hSw
          try dsimp only at hSw
          go_simp
          try with_reducible rfl
        try simp only [Act.put, List.setIfInBounds_toArray, List.set_cons_zero, List.set_cons_succ]
        refine wpAnyH_take (i := 17) (oi := { dst := some 74, op := Op.binOp BinOp.neq 30 (Operand.tmp 73) (Operand.const (Value.int IntKind.i64 0)) 30, type := 4, pos := "outright.go:42", after := #[{ on := 16, ground := Ground.data }, { on := 15, ground := Ground.guard }], guard := some (15, false) }) (v := ?_) rfl (by kernel_rfl) (by kernel_rfl) (by kernel_rfl) (fun _ _ _ h => h) (Or.inl ⟨by rfl, ?_⟩) (by assumption) ?_
        rotate_left
        · intro w hSw
          try dsimp only at hSw
          go_simp
          try with_reducible rfl
        try simp only [Act.put, List.setIfInBounds_toArray, List.set_cons_zero, List.set_cons_succ]
        refine wpAnyH_take (i := 18) (oi := { dst := some 75, op := Op.move (Operand.tmp 74), type := 4, pos := "outright.go:42", after := #[{ on := 17, ground := Ground.data }, { on := 15, ground := Ground.chain }, { on := 15, ground := Ground.guard }], guard := some (15, false) }) (v := ?_) rfl (by kernel_rfl) (by kernel_rfl) (by kernel_rfl) (fun _ _ _ h => h) (Or.inl ⟨by rfl, ?_⟩) (by assumption) ?_
        rotate_left
        · intro w hSw
          try dsimp only at hSw
          go_simp
          try with_reducible rfl
        try simp only [Act.put, List.setIfInBounds_toArray, List.set_cons_zero, List.set_cons_succ]
        refine wpAnyH_take (i := 19) (oi := { dst := some 76, op := Op.load 27 (Operand.tmp 3), type := 27, pos := "outright.go:42", after := #[{ on := 18, ground := Ground.guard }], guard := some (18, true) }) (v := undef) rfl (by kernel_rfl) (by kernel_rfl) (by kernel_rfl) (fun _ _ _ h => h) (Or.inr ⟨by rfl, rfl⟩) (by assumption) ?_
        try simp only [Act.put, List.setIfInBounds_toArray, List.set_cons_zero, List.set_cons_succ]
        refine wpAnyH_take (i := 20) (oi := { dst := some 77, op := Op.build 27 #[], type := 27, pos := "outright.go:42", after := #[{ on := 18, ground := Ground.guard }], guard := some (18, true) }) (v := undef) rfl (by kernel_rfl) (by kernel_rfl) (by kernel_rfl) (fun _ _ _ h => h) (Or.inr ⟨by rfl, rfl⟩) (by assumption) ?_
        try simp only [Act.put, List.setIfInBounds_toArray, List.set_cons_zero, List.set_cons_succ]
        refine wpAnyH_ready (rs := [21]) (by kernel_rfl) (by simp) ?_
        refine AllReadyH.cons (o := { dst := some 78, op := Op.call { callee := Callee.value (Operand.func 16), args := #[Operand.tmp 76, Operand.tmp 77], argTypes := #[27, 27] }, type := 4, pos := "outright.go:42", after := #[{ on := 19, ground := Ground.data }, { on := 20, ground := Ground.data }, { on := 18, ground := Ground.chain }, { on := 18, ground := Ground.guard }], guard := some (18, true) }) rfl (fun K hK => ?_) AllReadyH.nil
        go_simp
        refine hK.out _ _ ?_ (fun hHeld => ?_)
        · try dsimp only
          (first | with_reducible exact ⟨hS.out.cs3 0 rfl, hS.out.cs2 1 rfl⟩ | with_reducible exact ⟨hS.out.drew.cs3 0 rfl, hS.out.drew.cs2 1 rfl⟩ | with_reducible exact ⟨(hS.out.alloc _).cs3 0 rfl, (hS.out.alloc _).cs2 1 rfl⟩ | with_reducible exact ⟨((hS.out.alloc _).alloc _).cs3 0 rfl, ((hS.out.alloc _).alloc _).cs2 1 rfl⟩)
        clear hK K
        try simp only [Act.put, List.setIfInBounds_toArray, List.set_cons_zero, List.set_cons_succ]
        refine wpAnyH_take (i := 22) (oi := { dst := some 79, op := Op.unOp UnOp.not 4 (Operand.tmp 78), type := 4, pos := "outright.go:42", after := #[{ on := 21, ground := Ground.data }, { on := 18, ground := Ground.guard }], guard := some (18, true) }) (v := undef) rfl (by kernel_rfl) (by kernel_rfl) (by kernel_rfl) (fun _ _ _ h => h) (Or.inr ⟨by rfl, rfl⟩) (by assumption) ?_
        try simp only [Act.put, List.setIfInBounds_toArray, List.set_cons_zero, List.set_cons_succ]
        refine wpAnyH_take (i := 23) (oi := { dst := some 80, op := Op.pick (Operand.tmp 75) (Operand.tmp 79) (Operand.const (Value.bool false)), type := 4, pos := "outright.go:42", after := #[{ on := 18, ground := Ground.data }, { on := 22, ground := Ground.data }, { on := 15, ground := Ground.guard }], guard := some (15, false) }) (v := ?_) rfl (by kernel_rfl) (by kernel_rfl) (by kernel_rfl) (fun _ _ _ h => h) (Or.inl ⟨by rfl, ?_⟩) (by assumption) ?_
        rotate_left
        · intro w hSw
          try dsimp only at hSw
          go_simp
          try with_reducible rfl
        try simp only [Act.put, List.setIfInBounds_toArray, List.set_cons_zero, List.set_cons_succ]
        refine wpAnyH_take (i := 24) (oi := { dst := some 81, op := Op.pick (Operand.tmp 72) (Operand.const (Value.bool true)) (Operand.tmp 80), type := 4, pos := "outright.go:42", after := #[{ on := 15, ground := Ground.data }, { on := 23, ground := Ground.data }], guard := none }) (v := ?_) rfl (by kernel_rfl) (by kernel_rfl) (by kernel_rfl) (fun _ _ _ h => h) (Or.inl ⟨by rfl, ?_⟩) (by assumption) ?_
        rotate_left
        · intro w hSw
          try dsimp only at hSw
          go_simp
          try with_reducible rfl
        try simp only [Act.put, List.setIfInBounds_toArray, List.set_cons_zero, List.set_cons_succ]
        refine wpAnyH_done (by kernel_rfl) ?_ _
        obtain ⟨x0_0, x1_0, x2_0⟩ := hS.out.cs3 0 rfl
        obtain ⟨x0_1, x1_1⟩ := hS.out.cs2 1 rfl
        have hend := hS.out.bl
        have HE := Lib.hid hend
        clear hend hS
        clear x0_0 x1_0 x2_0 x0_1 x1_1
        go_wp2
        go_roundw
        case rel => first | exact ⟨k + 1, by omega, by go_num, HB1.out.trans (HE.out.mono HB1.out.size), Nat.lt_of_lt_of_le HG1.out HE.out.size, HR1.out.below HG1.out HE.out⟩ | ((repeat apply Exists.intro); exact ⟨⟨k + 1, by omega, by go_num, HB1.out.trans (HE.out.mono HB1.out.size), Nat.lt_of_lt_of_le HG1.out HE.out.size, HR1.out.below HG1.out HE.out⟩, rfl⟩)
        case measure => simp [intOf]; omega
      · have hne : (e != 0) = true := by simpa using he
        have hne2 : (e == 0) = false := by simpa using he
        go_wp2_with fail
        go_at_call 22
        with_reducible refine ((fread_all _ bs hlen).2 (by rw [HK.out]; exact he)).mono ?_
        rintro e v3 ho
        clear x0_0 x1_0
        rw [HK.out] at ho
        obtain ⟨rfl, h1⟩ := hS.out.rRZ ho
        clear hS; have hS := Lib.hid h1; clear h1
        obtain ⟨x0_0, x1_0⟩ := hS.out.cs2 0 rfl
        have h1 := (hS.out.boxed (vs := [.bool false, .slice none 0 0, .slice none 0 0]) (ty := 27) rfl rfl)
        try simp only [World.size_alloc] at h1
        obtain ⟨p0_0, p1_0, p2_0⟩ := h1.cs3 0 rfl
        obtain ⟨p0_1, p1_1⟩ := h1.cs2 1 rfl
        clear h1
        go_wp2_with fail
        clear x0_0 x1_0
        clear p0_0 p1_0 p2_0 p0_1 p1_1
        generalize hwa : World.alloc v3 _ = v4
        have h1 := (hS.out.boxed (vs := [.bool false, .slice none 0 0, .slice none 0 0]) (ty := 27) rfl hwa)
        have hsz : v4.heap.size = v3.heap.size + 1 := by rw [← hwa]; simp only [World.size_alloc]
        try rw [← hsz]
        clear hwa hsz
        clear hS; have hS := Lib.hid h1; clear h1
        obtain ⟨x0_0, x1_0, x2_0⟩ := hS.out.cs3 0 rfl
        obtain ⟨x0_1, x1_1⟩ := hS.out.cs2 1 rfl
        go_wp2_with fail
        clear x0_0 x1_0 x2_0 x0_1 x1_1
        have h1 := hS.out.drew
        clear hS; have hS := Lib.hid h1; clear h1
        refine wp_region_held_drew (S := (fun W => (W.cell? ⟨v3.heap.size, 0, none⟩ = some (.bool false) ∧ W.cell? ⟨v3.heap.size, 1, none⟩ = some (.slice none 0 0) ∧ W.cell? ⟨v3.heap.size, 2, none⟩ = some (.slice none 0 0)) ∧ (W.cell? ⟨wr1.heap.size, 0, none⟩ = some (.string ⟨bs.toArray⟩) ∧ W.cell? ⟨wr1.heap.size, 1, none⟩ = some (.int .i64 e)))) (by kernel_rfl) ?_ (fun hHeld => ?_)
        · (first | with_reducible exact ⟨hS.out.cs3 0 rfl, hS.out.cs2 1 rfl⟩ | with_reducible exact ⟨hS.out.drew.cs3 0 rfl, hS.out.drew.cs2 1 rfl⟩ | with_reducible exact ⟨(hS.out.alloc _).cs3 0 rfl, (hS.out.alloc _).cs2 1 rfl⟩ | with_reducible exact ⟨((hS.out.alloc _).alloc _).cs3 0 rfl, ((hS.out.alloc _).alloc _).cs2 1 rfl⟩)
        refine wpAnyH_take (i := 0) (oi := { dst := some 57, op := Op.move (Operand.tmp 4), type := 30, pos := "outright.go:42", after := #[], guard := none }) (v := ?_) rfl (by kernel_rfl) (by kernel_rfl) (by kernel_rfl) (fun _ _ _ h => h) (Or.inl ⟨by rfl, ?_⟩) (by assumption) ?_
        rotate_left
        · intro w hSw
          try dsimp only at hSw
          go_simp
          try with_reducible rfl
        try simp only [Act.put, List.setIfInBounds_toArray, List.set_cons_zero, List.set_cons_succ]
        refine wpAnyH_take (i := 1) (oi := { dst := some 58, op := Op.fieldAddr 43 (Operand.tmp 2) 1, type := 0, pos := "outright.go:42", after := #[], guard := none }) (v := ?_) rfl (by kernel_rfl) (by kernel_rfl) (by kernel_rfl) (fun _ _ _ h => h) (Or.inl ⟨by rfl, ?_⟩) (by assumption) ?_
        rotate_left
        · intro w hSw
          try dsimp only at hSw
          go_simp
          try with_reducible rfl
        try simp only [Act.put, List.setIfInBounds_toArray, List.set_cons_zero, List.set_cons_succ]
        refine wpAnyH_take (i := 2) (oi := { dst := some 59, op := Op.load 30 (Operand.tmp 58), type := 30, pos := "outright.go:42", after := #[{ on := 1, ground := Ground.data }], guard := none }) (v := ?_) rfl (by kernel_rfl) (by kernel_rfl) (by kernel_rfl) (fun _ _ _ h => h) (Or.inl ⟨by rfl, ?_⟩) (by assumption) ?_
        rotate_left
        · intro w hSw
          try dsimp only at hSw
          go_simp
          try with_reducible rfl
        try simp only [Act.put, List.setIfInBounds_toArray, List.set_cons_zero, List.set_cons_succ]
        refine wpAnyH_take (i := 3) (oi := { dst := some 60, op := Op.binOp BinOp.neq 30 (Operand.tmp 57) (Operand.tmp 59) 30, type := 4, pos := "outright.go:42", after := #[{ on := 0, ground := Ground.data }, { on := 2, ground := Ground.data }], guard := none }) (v := ?_) rfl (by kernel_rfl) (by kernel_rfl) (by kernel_rfl) (fun _ _ _ h => h) (Or.inl ⟨by rfl, ?_⟩) (by assumption) ?_
        rotate_left
        · intro w hSw
          try dsimp only at hSw
          go_simp
          try with_reducible rfl
        try simp only [Act.put, List.setIfInBounds_toArray, List.set_cons_zero, List.set_cons_succ]
        refine wpAnyH_take (i := 4) (oi := { dst := some 61, op := Op.move (Operand.tmp 60), type := 4, pos := "outright.go:42", after := #[{ on := 3, ground := Ground.data }], guard := none }) (v := ?_) rfl (by kernel_rfl) (by kernel_rfl) (by kernel_rfl) (fun _ _ _ h => h) (Or.inl ⟨by rfl, ?_⟩) (by assumption) ?_
        rotate_left
        · intro w hSw
          try dsimp only at hSw
          go_simp
          try with_reducible rfl
        try simp only [Act.put, List.setIfInBounds_toArray, List.set_cons_zero, List.set_cons_succ]
        refine wpAnyH_take (i := 5) (oi := { dst := some 62, op := Op.move (Operand.tmp 4), type := 30, pos := "outright.go:42", after := #[{ on := 4, ground := Ground.guard }], guard := some (4, false) }) (v := ?_) rfl (by kernel_rfl) (by kernel_rfl) (by kernel_rfl) (fun _ _ _ h => h) (Or.inl ⟨by rfl, ?_⟩) (by assumption) ?_
        rotate_left
        · intro w hSw
          try dsimp only at hSw
          go_simp
          try with_reducible rfl
        try simp only [Act.put, List.setIfInBounds_toArray, List.set_cons_zero, List.set_cons_succ]
        refine wpAnyH_take (i := 6) (oi := { dst := some 63, op := Op.binOp BinOp.eql 30 (Operand.tmp 62) (Operand.const (Value.int IntKind.i64 0)) 30, type := 4, pos := "outright.go:42", after := #[{ on := 5, ground := Ground.data }, { on := 4, ground := Ground.guard }], guard := some (4, false) }) (v := ?_) rfl (by kernel_rfl) (by kernel_rfl) (by kernel_rfl) (fun _ _ _ h => h) (Or.inl ⟨by rfl, ?_⟩) (by assumption) ?_
        rotate_left
        · intro w hSw
          try dsimp only at hSw
          go_simp
          try with_reducible rfl
        try simp only [Act.put, List.setIfInBounds_toArray, List.set_cons_zero, List.set_cons_succ]
        refine wpAnyH_take (i := 7) (oi := { dst := some 64, op := Op.move (Operand.tmp 63), type := 4, pos := "outright.go:42", after := #[{ on := 6, ground := Ground.data }, { on := 4, ground := Ground.chain }, { on := 4, ground := Ground.guard }], guard := some (4, false) }) (v := ?_) rfl (by kernel_rfl) (by kernel_rfl) (by kernel_rfl) (fun _ _ _ h => h) (Or.inl ⟨by rfl, ?_⟩) (by assumption) ?_
        rotate_left
        · intro w hSw
          try dsimp only at hSw
          go_simp
          try with_reducible rfl
        try simp only [Act.put, List.setIfInBounds_toArray, List.set_cons_zero, List.set_cons_succ]
        refine wpAnyH_take (i := 8) (oi := { dst := some 65, op := Op.load 27 (Operand.tmp 3), type := 27, pos := "outright.go:42", after := #[{ on := 7, ground := Ground.guard }], guard := some (7, true) }) (v := undef) rfl (by kernel_rfl) (by kernel_rfl) (by kernel_rfl) (fun _ _ _ h => h) (Or.inr ⟨by rfl, rfl⟩) (by assumption) ?_
        try simp only [Act.put, List.setIfInBounds_toArray, List.set_cons_zero, List.set_cons_succ]
        refine wpAnyH_take (i := 10) (oi := { dst := some 67, op := Op.fieldAddr 43 (Operand.tmp 2) 0, type := 0, pos := "outright.go:42", after := #[{ on := 7, ground := Ground.guard }], guard := some (7, true) }) (v := undef) rfl (by kernel_rfl) (by kernel_rfl) (by kernel_rfl) (fun _ _ _ h => h) (Or.inr ⟨by rfl, rfl⟩) (by assumption) ?_
        try simp only [Act.put, List.setIfInBounds_toArray, List.set_cons_zero, List.set_cons_succ]
        refine wpAnyH_take (i := 11) (oi := { dst := some 68, op := Op.load 9 (Operand.tmp 67), type := 9, pos := "outright.go:42", after := #[{ on := 10, ground := Ground.data }, { on := 7, ground := Ground.guard }], guard := some (7, true) }) (v := undef) rfl (by kernel_rfl) (by kernel_rfl) (by kernel_rfl) (fun _ _ _ h => h) (Or.inr ⟨by rfl, rfl⟩) (by assumption) ?_
        try simp only [Act.put, List.setIfInBounds_toArray, List.set_cons_zero, List.set_cons_succ]
        refine wpAnyH_ready (rs := [9]) (by kernel_rfl) (by simp) ?_
        refine AllReadyH.cons (o := { dst := some 66, op := Op.call { callee := Callee.value (Operand.func 23), args := #[Operand.tmp 65], argTypes := #[27] }, type := 9, pos := "outright.go:42", after := #[{ on := 8, ground := Ground.data }, { on := 7, ground := Ground.chain }, { on := 7, ground := Ground.guard }], guard := some (7, true) }) rfl (fun K hK => ?_) AllReadyH.nil
        go_simp
        refine hK.out _ _ ?_ (fun hHeld => ?_)
        · try dsimp only
          (first | with_reducible exact ⟨hS.out.cs3 0 rfl, hS.out.cs2 1 rfl⟩ | with_reducible exact ⟨hS.out.drew.cs3 0 rfl, hS.out.drew.cs2 1 rfl⟩ | with_reducible exact ⟨(hS.out.alloc _).cs3 0 rfl, (hS.out.alloc _).cs2 1 rfl⟩ | with_reducible exact ⟨((hS.out.alloc _).alloc _).cs3 0 rfl, ((hS.out.alloc _).alloc _).cs2 1 rfl⟩)
        clear hK K
        try simp only [Act.put, List.setIfInBounds_toArray, List.set_cons_zero, List.set_cons_succ]
        refine wpAnyH_take (i := 12) (oi := { dst := some 69, op := Op.binOp BinOp.neq 9 (Operand.tmp 66) (Operand.tmp 68) 9, type := 4, pos := "outright.go:42", after := #[{ on := 9, ground := Ground.data }, { on := 11, ground := Ground.data }, { on := 7, ground := Ground.guard }], guard := some (7, true) }) (v := undef) rfl (by kernel_rfl) (by kernel_rfl) (by kernel_rfl) (fun _ _ _ h => h) (Or.inr ⟨by rfl, rfl⟩) (by assumption) ?_
        try simp only [Act.put, List.setIfInBounds_toArray, List.set_cons_zero, List.set_cons_succ]
        refine wpAnyH_take (i := 13) (oi := { dst := some 70, op := Op.pick (Operand.tmp 64) (Operand.tmp 69) (Operand.const (Value.bool false)), type := 4, pos := "outright.go:42", after := #[{ on := 7, ground := Ground.data }, { on := 12, ground := Ground.data }, { on := 4, ground := Ground.guard }], guard := some (4, false) }) (v := ?_) rfl (by kernel_rfl) (by kernel_rfl) (by kernel_rfl) (fun _ _ _ h => h) (Or.inl ⟨by rfl, ?_⟩) (by assumption) ?_
        rotate_left
        · intro w hSw
          try dsimp only at hSw
          go_simp
          try with_reducible rfl
        try simp only [Act.put, List.setIfInBounds_toArray, List.set_cons_zero, List.set_cons_succ]
        refine wpAnyH_take (i := 14) (oi := { dst := some 71, op := Op.pick (Operand.tmp 61) (Operand.const (Value.bool true)) (Operand.tmp 70), type := 4, pos := "outright.go:42", after := #[{ on := 4, ground := Ground.data }, { on := 13, ground := Ground.data }], guard := none }) (v := ?_) rfl (by kernel_rfl) (by kernel_rfl) (by kernel_rfl) (fun _ _ _ h => h) (Or.inl ⟨by rfl, ?_⟩) (by assumption) ?_
        rotate_left
        · intro w hSw
          try dsimp only at hSw
          go_simp
          try with_reducible rfl
        try simp only [Act.put, List.setIfInBounds_toArray, List.set_cons_zero, List.set_cons_succ]
        refine wpAnyH_take (i := 15) (oi := { dst := some 72, op := Op.move (Operand.tmp 71), type := 4, pos := "outright.go:42", after := #[{ on := 14, ground := Ground.data }, { on := 9, ground := Ground.chain }], guard := none }) (v := ?_) rfl (by kernel_rfl) (by kernel_rfl) (by kernel_rfl) (fun _ _ _ h => h) (Or.inl ⟨by rfl, ?_⟩) (by assumption) ?_
        rotate_left
        · intro w hSw
          try dsimp only at hSw
          go_simp
          try with_reducible rfl
        try simp only [Act.put, List.setIfInBounds_toArray, List.set_cons_zero, List.set_cons_succ]
        refine wpAnyH_take (i := 16) (oi := { dst := some 73, op := Op.move (Operand.tmp 4), type := 30, pos := "outright.go:42", after := #[{ on := 15, ground := Ground.guard }], guard := some (15, false) }) (v := ?_) rfl (by kernel_rfl) (by kernel_rfl) (by kernel_rfl) (fun _ _ _ h => h) (Or.inl ⟨by rfl, ?_⟩) (by assumption) ?_
        rotate_left
        · intro w hSw
          try dsimp only at hSw
          go_simp
          try with_reducible rfl
        try simp only [Act.put, List.setIfInBounds_toArray, List.set_cons_zero, List.set_cons_succ]
        refine wpAnyH_take (i := 17) (oi := { dst := some 74, op := Op.binOp BinOp.neq 30 (Operand.tmp 73) (Operand.const (Value.int IntKind.i64 0)) 30, type := 4, pos := "outright.go:42", after := #[{ on := 16, ground := Ground.data }, { on := 15, ground := Ground.guard }], guard := some (15, false) }) (v := ?_) rfl (by kernel_rfl) (by kernel_rfl) (by kernel_rfl) (fun _ _ _ h => h) (Or.inl ⟨by rfl, ?_⟩) (by assumption) ?_
        rotate_left
        · intro w hSw
          try dsimp only at hSw
          go_simp
          try with_reducible rfl
        try simp only [Act.put, List.setIfInBounds_toArray, List.set_cons_zero, List.set_cons_succ]
        refine wpAnyH_take (i := 18) (oi := { dst := some 75, op := Op.move (Operand.tmp 74), type := 4, pos := "outright.go:42", after := #[{ on := 17, ground := Ground.data }, { on := 15, ground := Ground.chain }, { on := 15, ground := Ground.guard }], guard := some (15, false) }) (v := ?_) rfl (by kernel_rfl) (by kernel_rfl) (by kernel_rfl) (fun _ _ _ h => h) (Or.inl ⟨by rfl, ?_⟩) (by assumption) ?_
        rotate_left
        · intro w hSw
          try dsimp only at hSw
          go_simp
          try with_reducible rfl
        try simp only [Act.put, List.setIfInBounds_toArray, List.set_cons_zero, List.set_cons_succ]
        refine wpAnyH_take (i := 19) (oi := { dst := some 76, op := Op.load 27 (Operand.tmp 3), type := 27, pos := "outright.go:42", after := #[{ on := 18, ground := Ground.guard }], guard := some (18, true) }) (v := ?_) rfl (by kernel_rfl) (by kernel_rfl) (by kernel_rfl) (fun _ _ _ h => h) (Or.inl ⟨by rfl, ?_⟩) (by assumption) ?_
        rotate_left
        · intro w hSw
          try dsimp only at hSw
          go_simp
          try with_reducible rfl
        try simp only [Act.put, List.setIfInBounds_toArray, List.set_cons_zero, List.set_cons_succ]
        refine wpAnyH_take (i := 20) (oi := { dst := some 77, op := Op.build 27 #[], type := 27, pos := "outright.go:42", after := #[{ on := 18, ground := Ground.guard }], guard := some (18, true) }) (v := ?_) rfl (by kernel_rfl) (by kernel_rfl) (by kernel_rfl) (fun _ _ _ h => h) (Or.inl ⟨by rfl, ?_⟩) (by assumption) ?_
        rotate_left
        · intro w hSw
          try dsimp only at hSw
          go_simp
          try with_reducible rfl
        try simp only [Act.put, List.setIfInBounds_toArray, List.set_cons_zero, List.set_cons_succ]
        refine wpAnyH_ready (rs := [21]) (by kernel_rfl) (by simp) ?_
        refine AllReadyH.cons (o := { dst := some 78, op := Op.call { callee := Callee.value (Operand.func 16), args := #[Operand.tmp 76, Operand.tmp 77], argTypes := #[27, 27] }, type := 4, pos := "outright.go:42", after := #[{ on := 19, ground := Ground.data }, { on := 20, ground := Ground.data }, { on := 18, ground := Ground.chain }, { on := 18, ground := Ground.guard }], guard := some (18, true) }) rfl (fun K hK => ?_) AllReadyH.nil
        go_simp
        (go_at_call 16; (with_reducible refine (is_c (hS.out.none_) List.mem_cons_self List.mem_cons_self List.mem_cons_self List.mem_cons_self rfl rfl rfl).mono ?_); rintro e w' ⟨rfl, h1⟩; clear hS; have hS := Lib.hid h1; clear h1)
        try go_wp2_with fail
        refine hK.out _ _ ?_ (fun hHeld => ?_)
        · try dsimp only
          (first | with_reducible exact ⟨hS.out.cs3 0 rfl, hS.out.cs2 1 rfl⟩ | with_reducible exact ⟨hS.out.drew.cs3 0 rfl, hS.out.drew.cs2 1 rfl⟩ | with_reducible exact ⟨(hS.out.alloc _).cs3 0 rfl, (hS.out.alloc _).cs2 1 rfl⟩ | with_reducible exact ⟨((hS.out.alloc _).alloc _).cs3 0 rfl, ((hS.out.alloc _).alloc _).cs2 1 rfl⟩)
        clear hK K
        try simp only [Act.put, List.setIfInBounds_toArray, List.set_cons_zero, List.set_cons_succ]
        refine wpAnyH_take (i := 22) (oi := { dst := some 79, op := Op.unOp UnOp.not 4 (Operand.tmp 78), type := 4, pos := "outright.go:42", after := #[{ on := 21, ground := Ground.data }, { on := 18, ground := Ground.guard }], guard := some (18, true) }) (v := ?_) rfl (by kernel_rfl) (by kernel_rfl) (by kernel_rfl) (fun _ _ _ h => h) (Or.inl ⟨by rfl, ?_⟩) (by assumption) ?_
        rotate_left
        · intro w hSw
          try dsimp only at hSw
          go_simp
          try with_reducible rfl
        try simp only [Act.put, List.setIfInBounds_toArray, List.set_cons_zero, List.set_cons_succ]
        refine wpAnyH_take (i := 23) (oi := { dst := some 80, op := Op.pick (Operand.tmp 75) (Operand.tmp 79) (Operand.const (Value.bool false)), type := 4, pos := "outright.go:42", after := #[{ on := 18, ground := Ground.data }, { on := 22, ground := Ground.data }, { on := 15, ground := Ground.guard }], guard := some (15, false) }) (v := ?_) rfl (by kernel_rfl) (by kernel_rfl) (by kernel_rfl) (fun _ _ _ h => h) (Or.inl ⟨by rfl, ?_⟩) (by assumption) ?_
        rotate_left
        · intro w hSw
          try dsimp only at hSw
          go_simp
          try with_reducible rfl
        try simp only [Act.put, List.setIfInBounds_toArray, List.set_cons_zero, List.set_cons_succ]
        refine wpAnyH_take (i := 24) (oi := { dst := some 81, op := Op.pick (Operand.tmp 72) (Operand.const (Value.bool true)) (Operand.tmp 80), type := 4, pos := "outright.go:42", after := #[{ on := 15, ground := Ground.data }, { on := 23, ground := Ground.data }], guard := none }) (v := ?_) rfl (by kernel_rfl) (by kernel_rfl) (by kernel_rfl) (fun _ _ _ h => h) (Or.inl ⟨by rfl, ?_⟩) (by assumption) ?_
        rotate_left
        · intro w hSw
          try dsimp only at hSw
          go_simp
          try with_reducible rfl
        try simp only [Act.put, List.setIfInBounds_toArray, List.set_cons_zero, List.set_cons_succ]
        refine wpAnyH_done (by kernel_rfl) ?_ _
        obtain ⟨x0_0, x1_0, x2_0⟩ := hS.out.cs3 0 rfl
        obtain ⟨x0_1, x1_1⟩ := hS.out.cs2 1 rfl
        have hend := hS.out.bl
        have HE := Lib.hid hend
        clear hend hS
        clear x0_0 x1_0 x2_0 x0_1 x1_1
        go_wp2
        go_roundw
        case rel => first | exact ⟨k + 1, by omega, by go_num, HB1.out.trans (HE.out.mono HB1.out.size), Nat.lt_of_lt_of_le HG1.out HE.out.size, HR1.out.below HG1.out HE.out⟩ | ((repeat apply Exists.intro); exact ⟨⟨k + 1, by omega, by go_num, HB1.out.trans (HE.out.mono HB1.out.size), Nat.lt_of_lt_of_le HG1.out HE.out.size, HR1.out.below HG1.out HE.out⟩, rfl⟩)
        case measure => simp [intOf]; omega
    · obtain rfl : k = 16 := by omega
      have hS := Lib.hid ((SC.start w).below HB1.out)
      clear HR1 HG1 HB1
      obtain ⟨q1, hq1⟩ : ∃ q : Rat, mkRat (-9223372036854775808) 1 = q := ⟨_, rfl⟩
      have Hq1 := Lib.hid hq1
      clear hq1
      go_wp2_with fail
      go_at_call 25
      with_reducible refine (over_of (r := q1) (M := 1) (j := 0) (fun W => fover_pos W (x := -9223372036854775808) (y := 1) (r := q1) (by decide) (by decide) (by decide) (by decide) (by decide) (by rw [← Hq1.out]; decide +kernel)) _).mono ?_
      rintro e v11 ho
      obtain ⟨A11, n11, c11, A12, n12, c12, rfl, h1⟩ := hS.out.rR (Nat.le_refl _) ho
      clear hS; have hS := Lib.hid h1; clear h1
      have h1 := (hS.out.boxed (vs := [.bool (sg (q1).num), .slice A11 n11 c11, .slice A12 n12 c12]) (ty := 27) rfl rfl)
      try simp only [World.size_alloc] at h1
      obtain ⟨p0_0, p1_0, p2_0⟩ := h1.cs3 0 rfl
      clear h1
      go_wp2_with fail
      clear p0_0 p1_0 p2_0
      generalize hwa : World.alloc v11 _ = v12
      have h1 := (hS.out.boxed (vs := [.bool (sg (q1).num), .slice A11 n11 c11, .slice A12 n12 c12]) (ty := 27) rfl hwa)
      have hsz : v12.heap.size = v11.heap.size + 1 := by rw [← hwa]; simp only [World.size_alloc]
      try rw [← hsz]
      clear hwa hsz
      clear hS; have hS := Lib.hid h1; clear h1
      obtain ⟨x0_0, x1_0, x2_0⟩ := hS.out.cs3 0 rfl
      go_wp2_with fail
      go_at_call 14
      with_reducible refine (fhalf_no _ (q := -1) (.inl (by decide))).mono ?_
      rintro e v13 ho
      clear x0_0 x1_0 x2_0
      obtain ⟨rfl, h1⟩ := hS.out.rRZ ho
      clear hS; have hS := Lib.hid h1; clear h1
      obtain ⟨x0_0, x1_0, x2_0⟩ := hS.out.cs3 0 rfl
      have h1 := (hS.out.boxed (vs := [.bool false, .slice none 0 0, .slice none 0 0]) (ty := 27) rfl rfl)
      try simp only [World.size_alloc] at h1
      obtain ⟨p0_0, p1_0, p2_0⟩ := h1.cs3 0 rfl
      obtain ⟨p0_1, p1_1, p2_1⟩ := h1.cs3 1 rfl
      clear h1
      go_wp2_with fail
      clear x0_0 x1_0 x2_0
      clear p0_0 p1_0 p2_0 p0_1 p1_1 p2_1
      generalize hwa : World.alloc v13 _ = v14
      have h1 := (hS.out.boxed (vs := [.bool false, .slice none 0 0, .slice none 0 0]) (ty := 27) rfl hwa)
      have hsz : v14.heap.size = v13.heap.size + 1 := by rw [← hwa]; simp only [World.size_alloc]
      try rw [← hsz]
      clear hwa hsz
      clear hS; have hS := Lib.hid h1; clear h1
      obtain ⟨x0_0, x1_0, x2_0⟩ := hS.out.cs3 0 rfl
      obtain ⟨x0_1, x1_1, x2_1⟩ := hS.out.cs3 1 rfl
      go_wp2_with fail
      go_at_call 14
      with_reducible refine (HF.out _).mono ?_
      rintro e v15 ho
      clear x0_0 x1_0 x2_0 x0_1 x1_1 x2_1
      obtain ⟨A13, n13, c13, A14, n14, c14, rfl, h1⟩ := hS.out.rRE (Nat.le_refl _) ho
      clear hS; have hS := Lib.hid h1; clear h1
      obtain ⟨x0_0, x1_0, x2_0⟩ := hS.out.cs3 0 rfl
      obtain ⟨x0_1, x1_1, x2_1⟩ := hS.out.cs3 1 rfl
      have h1 := (hS.out.boxed (vs := [.bool (sg (rf).num), .slice A13 n13 c13, .slice A14 n14 c14]) (ty := 27) rfl rfl)
      try simp only [World.size_alloc] at h1
      obtain ⟨p0_0, p1_0, p2_0⟩ := h1.cs3 0 rfl
      obtain ⟨p0_1, p1_1, p2_1⟩ := h1.cs3 1 rfl
      obtain ⟨p0_2, p1_2, p2_2⟩ := h1.cs3 2 rfl
      clear h1
      go_wp2_with fail
      clear x0_0 x1_0 x2_0 x0_1 x1_1 x2_1
      clear p0_0 p1_0 p2_0 p0_1 p1_1 p2_1 p0_2 p1_2 p2_2
      generalize hwa : World.alloc v15 _ = v16
      have h1 := (hS.out.boxed (vs := [.bool (sg (rf).num), .slice A13 n13 c13, .slice A14 n14 c14]) (ty := 27) rfl hwa)
      have hsz : v16.heap.size = v15.heap.size + 1 := by rw [← hwa]; simp only [World.size_alloc]
      try rw [← hsz]
      clear hwa hsz
      clear hS; have hS := Lib.hid h1; clear h1
      obtain ⟨x0_0, x1_0, x2_0⟩ := hS.out.cs3 0 rfl
      obtain ⟨x0_1, x1_1, x2_1⟩ := hS.out.cs3 1 rfl
      obtain ⟨x0_2, x1_2, x2_2⟩ := hS.out.cs3 2 rfl
      go_wp2_with fail
      go_at_call 14
      with_reducible refine (fhalf_no _ (q := 65537) (.inr (by decide))).mono ?_
      rintro e v17 ho
      clear x0_0 x1_0 x2_0 x0_1 x1_1 x2_1 x0_2 x1_2 x2_2
      obtain ⟨rfl, h1⟩ := hS.out.rRZ ho
      clear hS; have hS := Lib.hid h1; clear h1
      obtain ⟨x0_0, x1_0, x2_0⟩ := hS.out.cs3 0 rfl
      obtain ⟨x0_1, x1_1, x2_1⟩ := hS.out.cs3 1 rfl
      obtain ⟨x0_2, x1_2, x2_2⟩ := hS.out.cs3 2 rfl
      have h1 := (hS.out.boxed (vs := [.bool false, .slice none 0 0, .slice none 0 0]) (ty := 27) rfl rfl)
      try simp only [World.size_alloc] at h1
      obtain ⟨p0_0, p1_0, p2_0⟩ := h1.cs3 0 rfl
      obtain ⟨p0_1, p1_1, p2_1⟩ := h1.cs3 1 rfl
      obtain ⟨p0_2, p1_2, p2_2⟩ := h1.cs3 2 rfl
      obtain ⟨p0_3, p1_3, p2_3⟩ := h1.cs3 3 rfl
      clear h1
      go_wp2_with fail
      clear x0_0 x1_0 x2_0 x0_1 x1_1 x2_1 x0_2 x1_2 x2_2
      clear p0_0 p1_0 p2_0 p0_1 p1_1 p2_1 p0_2 p1_2 p2_2 p0_3 p1_3 p2_3
      generalize hwa : World.alloc v17 _ = v18
      have h1 := (hS.out.boxed (vs := [.bool false, .slice none 0 0, .slice none 0 0]) (ty := 27) rfl hwa)
      have hsz : v18.heap.size = v17.heap.size + 1 := by rw [← hwa]; simp only [World.size_alloc]
      try rw [← hsz]
      clear hwa hsz
      clear hS; have hS := Lib.hid h1; clear h1
      obtain ⟨x0_0, x1_0, x2_0⟩ := hS.out.cs3 0 rfl
      obtain ⟨x0_1, x1_1, x2_1⟩ := hS.out.cs3 1 rfl
      obtain ⟨x0_2, x1_2, x2_2⟩ := hS.out.cs3 2 rfl
      obtain ⟨x0_3, x1_3, x2_3⟩ := hS.out.cs3 3 rfl
      obtain ⟨q2, hq2⟩ : ∃ q : Rat, mkRat (1) 2 = q := ⟨_, rfl⟩
      have Hq2 := Lib.hid hq2
      clear hq2
      go_wp2_with fail
      go_at_call 25
      with_reducible refine (over_of (r := q2) (M := 1) (j := 0) (fun W => fover_pos W (x := 1) (y := 2) (r := q2) (by decide) (by decide) (by decide) (by decide) (by decide) (by rw [← Hq2.out]; decide +kernel)) _).mono ?_
      rintro e v19 ho
      clear x0_0 x1_0 x2_0 x0_1 x1_1 x2_1 x0_2 x1_2 x2_2 x0_3 x1_3 x2_3
      obtain ⟨A15, n15, c15, A16, n16, c16, rfl, h1⟩ := hS.out.rR (Nat.le_refl _) ho
      clear hS; have hS := Lib.hid h1; clear h1
      obtain ⟨x0_0, x1_0, x2_0⟩ := hS.out.cs3 0 rfl
      obtain ⟨x0_1, x1_1, x2_1⟩ := hS.out.cs3 1 rfl
      obtain ⟨x0_2, x1_2, x2_2⟩ := hS.out.cs3 2 rfl
      obtain ⟨x0_3, x1_3, x2_3⟩ := hS.out.cs3 3 rfl
      go_wp2_with fail
      go_at_call 26
      with_reducible refine (fpow_neg _ (hS.out.frt (r := q2) (k := 1) (A := A15) (n := n15) (c := c15) (A' := A16) (m := n16) (d := c16) (by repeat (first | exact List.mem_cons_self | apply List.mem_cons_of_mem)) (by repeat (first | exact List.mem_cons_self | apply List.mem_cons_of_mem))) (by decide) (by decide) (q := -1) (by decide)).mono ?_
      rintro e v20 ho
      clear x0_0 x1_0 x2_0 x0_1 x1_1 x2_1 x0_2 x1_2 x2_2 x0_3 x1_3 x2_3
      obtain ⟨rfl, h1⟩ := hS.out.rRZ ho
      clear hS; have hS := Lib.hid h1; clear h1
      obtain ⟨x0_0, x1_0, x2_0⟩ := hS.out.cs3 0 rfl
      obtain ⟨x0_1, x1_1, x2_1⟩ := hS.out.cs3 1 rfl
      obtain ⟨x0_2, x1_2, x2_2⟩ := hS.out.cs3 2 rfl
      obtain ⟨x0_3, x1_3, x2_3⟩ := hS.out.cs3 3 rfl
      have h1 := (hS.out.boxed (vs := [.bool false, .slice none 0 0, .slice none 0 0]) (ty := 27) rfl rfl)
      try simp only [World.size_alloc] at h1
      obtain ⟨p0_0, p1_0, p2_0⟩ := h1.cs3 0 rfl
      obtain ⟨p0_1, p1_1, p2_1⟩ := h1.cs3 1 rfl
      obtain ⟨p0_2, p1_2, p2_2⟩ := h1.cs3 2 rfl
      obtain ⟨p0_3, p1_3, p2_3⟩ := h1.cs3 3 rfl
      obtain ⟨p0_4, p1_4, p2_4⟩ := h1.cs3 4 rfl
      clear h1
      go_wp2_with fail
      clear x0_0 x1_0 x2_0 x0_1 x1_1 x2_1 x0_2 x1_2 x2_2 x0_3 x1_3 x2_3
      clear p0_0 p1_0 p2_0 p0_1 p1_1 p2_1 p0_2 p1_2 p2_2 p0_3 p1_3 p2_3 p0_4 p1_4 p2_4
      generalize hwa : World.alloc v20 _ = v21
      have h1 := (hS.out.boxed (vs := [.bool false, .slice none 0 0, .slice none 0 0]) (ty := 27) rfl hwa)
      have hsz : v21.heap.size = v20.heap.size + 1 := by rw [← hwa]; simp only [World.size_alloc]
      try rw [← hsz]
      clear hwa hsz
      clear hS; have hS := Lib.hid h1; clear h1
      obtain ⟨x0_0, x1_0, x2_0⟩ := hS.out.cs3 0 rfl
      obtain ⟨x0_1, x1_1, x2_1⟩ := hS.out.cs3 1 rfl
      obtain ⟨x0_2, x1_2, x2_2⟩ := hS.out.cs3 2 rfl
      obtain ⟨x0_3, x1_3, x2_3⟩ := hS.out.cs3 3 rfl
      obtain ⟨x0_4, x1_4, x2_4⟩ := hS.out.cs3 4 rfl
      obtain ⟨q3, hq3⟩ : ∃ q : Rat, mkRat 2 1 = q := ⟨_, rfl⟩
      have Hq3 := Lib.hid hq3
      clear hq3
      go_wp2_with fail
      go_at_call 15
      with_reducible refine (fof_any _ 2 (by decide) (by decide)).mono ?_
      rintro e v22 ho
      clear x0_0 x1_0 x2_0 x0_1 x1_1 x2_1 x0_2 x1_2 x2_2 x0_3 x1_3 x2_3 x0_4 x1_4 x2_4
      rw [Hq3.out] at ho
      obtain ⟨A17, n17, c17, A18, n18, c18, rfl, h1⟩ := hS.out.rR (Nat.le_refl _) ho
      clear hS; have hS := Lib.hid h1; clear h1
      obtain ⟨x0_0, x1_0, x2_0⟩ := hS.out.cs3 0 rfl
      obtain ⟨x0_1, x1_1, x2_1⟩ := hS.out.cs3 1 rfl
      obtain ⟨x0_2, x1_2, x2_2⟩ := hS.out.cs3 2 rfl
      obtain ⟨x0_3, x1_3, x2_3⟩ := hS.out.cs3 3 rfl
      obtain ⟨x0_4, x1_4, x2_4⟩ := hS.out.cs3 4 rfl
      go_wp2_with fail
      go_at_call 26
      with_reducible refine (fpow_ln _ (hS.out.frt (r := q3) (k := 1) (A := A17) (n := n17) (c := c17) (A' := A18) (m := n18) (d := c18) (by repeat (first | exact List.mem_cons_self | apply List.mem_cons_of_mem)) (by repeat (first | exact List.mem_cons_self | apply List.mem_cons_of_mem))) (by decide) (by decide) (q := 1048576) (by decide) (by rw [← Hq3.out]; decide +kernel) (by rw [← Hq3.out]; decide +kernel)).mono ?_
      rintro e v23 ho
      clear x0_0 x1_0 x2_0 x0_1 x1_1 x2_1 x0_2 x1_2 x2_2 x0_3 x1_3 x2_3 x0_4 x1_4 x2_4
      obtain ⟨rfl, h1⟩ := hS.out.rRZ ho
      clear hS; have hS := Lib.hid h1; clear h1
      obtain ⟨x0_0, x1_0, x2_0⟩ := hS.out.cs3 0 rfl
      obtain ⟨x0_1, x1_1, x2_1⟩ := hS.out.cs3 1 rfl
      obtain ⟨x0_2, x1_2, x2_2⟩ := hS.out.cs3 2 rfl
      obtain ⟨x0_3, x1_3, x2_3⟩ := hS.out.cs3 3 rfl
      obtain ⟨x0_4, x1_4, x2_4⟩ := hS.out.cs3 4 rfl
      have h1 := (hS.out.boxed (vs := [.bool false, .slice none 0 0, .slice none 0 0]) (ty := 27) rfl rfl)
      try simp only [World.size_alloc] at h1
      obtain ⟨p0_0, p1_0, p2_0⟩ := h1.cs3 0 rfl
      obtain ⟨p0_1, p1_1, p2_1⟩ := h1.cs3 1 rfl
      obtain ⟨p0_2, p1_2, p2_2⟩ := h1.cs3 2 rfl
      obtain ⟨p0_3, p1_3, p2_3⟩ := h1.cs3 3 rfl
      obtain ⟨p0_4, p1_4, p2_4⟩ := h1.cs3 4 rfl
      obtain ⟨p0_5, p1_5, p2_5⟩ := h1.cs3 5 rfl
      clear h1
      go_wp2_with fail
      clear x0_0 x1_0 x2_0 x0_1 x1_1 x2_1 x0_2 x1_2 x2_2 x0_3 x1_3 x2_3 x0_4 x1_4 x2_4
      clear p0_0 p1_0 p2_0 p0_1 p1_1 p2_1 p0_2 p1_2 p2_2 p0_3 p1_3 p2_3 p0_4 p1_4 p2_4 p0_5 p1_5 p2_5
      generalize hwa : World.alloc v23 _ = v24
      have h1 := (hS.out.boxed (vs := [.bool false, .slice none 0 0, .slice none 0 0]) (ty := 27) rfl hwa)
      have hsz : v24.heap.size = v23.heap.size + 1 := by rw [← hwa]; simp only [World.size_alloc]
      try rw [← hsz]
      clear hwa hsz
      clear hS; have hS := Lib.hid h1; clear h1
      obtain ⟨x0_0, x1_0, x2_0⟩ := hS.out.cs3 0 rfl
      obtain ⟨x0_1, x1_1, x2_1⟩ := hS.out.cs3 1 rfl
      obtain ⟨x0_2, x1_2, x2_2⟩ := hS.out.cs3 2 rfl
      obtain ⟨x0_3, x1_3, x2_3⟩ := hS.out.cs3 3 rfl
      obtain ⟨x0_4, x1_4, x2_4⟩ := hS.out.cs3 4 rfl
      obtain ⟨x0_5, x1_5, x2_5⟩ := hS.out.cs3 5 rfl
      obtain ⟨q4, hq4⟩ : ∃ q : Rat, mkRat (-1) 1 = q := ⟨_, rfl⟩
      have Hq4 := Lib.hid hq4
      clear hq4
      go_wp2_with fail
      go_at_call 15
      with_reducible refine (fof_any _ (-1) (by decide) (by decide)).mono ?_
      rintro e v25 ho
      clear x0_0 x1_0 x2_0 x0_1 x1_1 x2_1 x0_2 x1_2 x2_2 x0_3 x1_3 x2_3 x0_4 x1_4 x2_4 x0_5 x1_5 x2_5
      rw [Hq4.out] at ho
      obtain ⟨A19, n19, c19, A20, n20, c20, rfl, h1⟩ := hS.out.rR (Nat.le_refl _) ho
      clear hS; have hS := Lib.hid h1; clear h1
      obtain ⟨x0_0, x1_0, x2_0⟩ := hS.out.cs3 0 rfl
      obtain ⟨x0_1, x1_1, x2_1⟩ := hS.out.cs3 1 rfl
      obtain ⟨x0_2, x1_2, x2_2⟩ := hS.out.cs3 2 rfl
      obtain ⟨x0_3, x1_3, x2_3⟩ := hS.out.cs3 3 rfl
      obtain ⟨x0_4, x1_4, x2_4⟩ := hS.out.cs3 4 rfl
      obtain ⟨x0_5, x1_5, x2_5⟩ := hS.out.cs3 5 rfl
      obtain ⟨q5, hq5⟩ : ∃ q : Rat, mkRat 1 1 = q := ⟨_, rfl⟩
      have Hq5 := Lib.hid hq5
      clear hq5
      have HPW := Lib.hid (show q4 ^ qw = q5 by rw [← Hq4.out, ← Hq5.out, HQW.out]; exact neg_even qv)
      have HPK := Lib.hid (show (qw : Int) = 1048576 by have := HQV.out; have := HQW.out; omega)
      go_wp2_with fail
      go_at_call 26
      with_reducible refine (fpow_z (q := qw) (z := 1048576) HPK.out _ (hS.out.frt (r := q4) (k := 1) (A := A19) (n := n19) (c := c19) (A' := A20) (m := n20) (d := c20) (by repeat (first | exact List.mem_cons_self | apply List.mem_cons_of_mem)) (by repeat (first | exact List.mem_cons_self | apply List.mem_cons_of_mem))) (by decide) (by decide) (by have := HPK.out; omega) (pok_r (by rw [HPK.out, ← Hq4.out]; decide +kernel)) (pok_r (by rw [HPK.out, ← Hq4.out]; decide +kernel))).mono ?_
      rintro e v26 ho
      clear x0_0 x1_0 x2_0 x0_1 x1_1 x2_1 x0_2 x1_2 x2_2 x0_3 x1_3 x2_3 x0_4 x1_4 x2_4 x0_5 x1_5 x2_5
      rw [HPW.out] at ho
      obtain ⟨A21, n21, c21, A22, n22, c22, rfl, h1⟩ := hS.out.rRE (Nat.le_refl _) ho
      clear hS; have hS := Lib.hid h1; clear h1
      obtain ⟨x0_0, x1_0, x2_0⟩ := hS.out.cs3 0 rfl
      obtain ⟨x0_1, x1_1, x2_1⟩ := hS.out.cs3 1 rfl
      obtain ⟨x0_2, x1_2, x2_2⟩ := hS.out.cs3 2 rfl
      obtain ⟨x0_3, x1_3, x2_3⟩ := hS.out.cs3 3 rfl
      obtain ⟨x0_4, x1_4, x2_4⟩ := hS.out.cs3 4 rfl
      obtain ⟨x0_5, x1_5, x2_5⟩ := hS.out.cs3 5 rfl
      have h1 := (hS.out.boxed (vs := [.bool (sg (q5).num), .slice A21 n21 c21, .slice A22 n22 c22]) (ty := 27) rfl rfl)
      try simp only [World.size_alloc] at h1
      obtain ⟨p0_0, p1_0, p2_0⟩ := h1.cs3 0 rfl
      obtain ⟨p0_1, p1_1, p2_1⟩ := h1.cs3 1 rfl
      obtain ⟨p0_2, p1_2, p2_2⟩ := h1.cs3 2 rfl
      obtain ⟨p0_3, p1_3, p2_3⟩ := h1.cs3 3 rfl
      obtain ⟨p0_4, p1_4, p2_4⟩ := h1.cs3 4 rfl
      obtain ⟨p0_5, p1_5, p2_5⟩ := h1.cs3 5 rfl
      obtain ⟨p0_6, p1_6, p2_6⟩ := h1.cs3 6 rfl
      clear h1
      go_wp2_with fail
      clear x0_0 x1_0 x2_0 x0_1 x1_1 x2_1 x0_2 x1_2 x2_2 x0_3 x1_3 x2_3 x0_4 x1_4 x2_4 x0_5 x1_5 x2_5
      clear p0_0 p1_0 p2_0 p0_1 p1_1 p2_1 p0_2 p1_2 p2_2 p0_3 p1_3 p2_3 p0_4 p1_4 p2_4 p0_5 p1_5 p2_5 p0_6 p1_6 p2_6
      generalize hwa : World.alloc v26 _ = v27
      have h1 := (hS.out.boxed (vs := [.bool (sg (q5).num), .slice A21 n21 c21, .slice A22 n22 c22]) (ty := 27) rfl hwa)
      have hsz : v27.heap.size = v26.heap.size + 1 := by rw [← hwa]; simp only [World.size_alloc]
      try rw [← hsz]
      clear hwa hsz
      clear hS; have hS := Lib.hid h1; clear h1
      obtain ⟨x0_0, x1_0, x2_0⟩ := hS.out.cs3 0 rfl
      obtain ⟨x0_1, x1_1, x2_1⟩ := hS.out.cs3 1 rfl
      obtain ⟨x0_2, x1_2, x2_2⟩ := hS.out.cs3 2 rfl
      obtain ⟨x0_3, x1_3, x2_3⟩ := hS.out.cs3 3 rfl
      obtain ⟨x0_4, x1_4, x2_4⟩ := hS.out.cs3 4 rfl
      obtain ⟨x0_5, x1_5, x2_5⟩ := hS.out.cs3 5 rfl
      obtain ⟨x0_6, x1_6, x2_6⟩ := hS.out.cs3 6 rfl
      obtain ⟨q6, hq6⟩ : ∃ q : Rat, mkRat 0 1 = q := ⟨_, rfl⟩
      have Hq6 := Lib.hid hq6
      clear hq6
      obtain ⟨q7, hq7⟩ : ∃ q : Rat, q6 ^ 5 = q := ⟨_, rfl⟩
      have Hq7 := Lib.hid hq7
      clear hq7
      go_wp2_with fail
      go_at_call 26
      with_reducible refine (fpow_z (q := 5) (z := 5) rfl _ (hS.out.none_.frm (b := false) (M := 1) (r := q6) List.mem_cons_self List.mem_cons_self (Nat.zero_le _) (Nat.zero_le _) (by rw [← Hq6.out]; decide +kernel)) (by decide) (by decide) (by decide) (pok_l (by rw [← Hq6.out]; decide +kernel)) (pok_r (by rw [← Hq6.out]; decide +kernel))).mono ?_
      rintro e v28 ho
      clear x0_0 x1_0 x2_0 x0_1 x1_1 x2_1 x0_2 x1_2 x2_2 x0_3 x1_3 x2_3 x0_4 x1_4 x2_4 x0_5 x1_5 x2_5 x0_6 x1_6 x2_6
      rw [Hq7.out] at ho
      obtain ⟨A23, n23, c23, A24, n24, c24, rfl, h1⟩ := hS.out.rRE (Nat.le_refl _) ho
      clear hS; have hS := Lib.hid h1; clear h1
      obtain ⟨x0_0, x1_0, x2_0⟩ := hS.out.cs3 0 rfl
      obtain ⟨x0_1, x1_1, x2_1⟩ := hS.out.cs3 1 rfl
      obtain ⟨x0_2, x1_2, x2_2⟩ := hS.out.cs3 2 rfl
      obtain ⟨x0_3, x1_3, x2_3⟩ := hS.out.cs3 3 rfl
      obtain ⟨x0_4, x1_4, x2_4⟩ := hS.out.cs3 4 rfl
      obtain ⟨x0_5, x1_5, x2_5⟩ := hS.out.cs3 5 rfl
      obtain ⟨x0_6, x1_6, x2_6⟩ := hS.out.cs3 6 rfl
      have h1 := (hS.out.boxed (vs := [.bool (sg (q7).num), .slice A23 n23 c23, .slice A24 n24 c24]) (ty := 27) rfl rfl)
      try simp only [World.size_alloc] at h1
      obtain ⟨p0_0, p1_0, p2_0⟩ := h1.cs3 0 rfl
      obtain ⟨p0_1, p1_1, p2_1⟩ := h1.cs3 1 rfl
      obtain ⟨p0_2, p1_2, p2_2⟩ := h1.cs3 2 rfl
      obtain ⟨p0_3, p1_3, p2_3⟩ := h1.cs3 3 rfl
      obtain ⟨p0_4, p1_4, p2_4⟩ := h1.cs3 4 rfl
      obtain ⟨p0_5, p1_5, p2_5⟩ := h1.cs3 5 rfl
      obtain ⟨p0_6, p1_6, p2_6⟩ := h1.cs3 6 rfl
      obtain ⟨p0_7, p1_7, p2_7⟩ := h1.cs3 7 rfl
      clear h1
      go_wp2_with fail
      clear x0_0 x1_0 x2_0 x0_1 x1_1 x2_1 x0_2 x1_2 x2_2 x0_3 x1_3 x2_3 x0_4 x1_4 x2_4 x0_5 x1_5 x2_5 x0_6 x1_6 x2_6
      clear p0_0 p1_0 p2_0 p0_1 p1_1 p2_1 p0_2 p1_2 p2_2 p0_3 p1_3 p2_3 p0_4 p1_4 p2_4 p0_5 p1_5 p2_5 p0_6 p1_6 p2_6 p0_7 p1_7 p2_7
      generalize hwa : World.alloc v28 _ = v29
      have h1 := (hS.out.boxed (vs := [.bool (sg (q7).num), .slice A23 n23 c23, .slice A24 n24 c24]) (ty := 27) rfl hwa)
      have hsz : v29.heap.size = v28.heap.size + 1 := by rw [← hwa]; simp only [World.size_alloc]
      try rw [← hsz]
      clear hwa hsz
      clear hS; have hS := Lib.hid h1; clear h1
      obtain ⟨x0_0, x1_0, x2_0⟩ := hS.out.cs3 0 rfl
      obtain ⟨x0_1, x1_1, x2_1⟩ := hS.out.cs3 1 rfl
      obtain ⟨x0_2, x1_2, x2_2⟩ := hS.out.cs3 2 rfl
      obtain ⟨x0_3, x1_3, x2_3⟩ := hS.out.cs3 3 rfl
      obtain ⟨x0_4, x1_4, x2_4⟩ := hS.out.cs3 4 rfl
      obtain ⟨x0_5, x1_5, x2_5⟩ := hS.out.cs3 5 rfl
      obtain ⟨x0_6, x1_6, x2_6⟩ := hS.out.cs3 6 rfl
      obtain ⟨x0_7, x1_7, x2_7⟩ := hS.out.cs3 7 rfl
      obtain ⟨q8, hq8⟩ : ∃ q : Rat, mkRat 0 1 = q := ⟨_, rfl⟩
      have Hq8 := Lib.hid hq8
      clear hq8
      go_wp2_with fail
      go_at_call 15
      with_reducible refine (fof_any _ 0 (by decide) (by decide)).mono ?_
      rintro e v30 ho
      clear x0_0 x1_0 x2_0 x0_1 x1_1 x2_1 x0_2 x1_2 x2_2 x0_3 x1_3 x2_3 x0_4 x1_4 x2_4 x0_5 x1_5 x2_5 x0_6 x1_6 x2_6 x0_7 x1_7 x2_7
      rw [Hq8.out] at ho
      obtain ⟨A25, n25, c25, A26, n26, c26, rfl, h1⟩ := hS.out.rR (Nat.le_refl _) ho
      clear hS; have hS := Lib.hid h1; clear h1
      obtain ⟨x0_0, x1_0, x2_0⟩ := hS.out.cs3 0 rfl
      obtain ⟨x0_1, x1_1, x2_1⟩ := hS.out.cs3 1 rfl
      obtain ⟨x0_2, x1_2, x2_2⟩ := hS.out.cs3 2 rfl
      obtain ⟨x0_3, x1_3, x2_3⟩ := hS.out.cs3 3 rfl
      obtain ⟨x0_4, x1_4, x2_4⟩ := hS.out.cs3 4 rfl
      obtain ⟨x0_5, x1_5, x2_5⟩ := hS.out.cs3 5 rfl
      obtain ⟨x0_6, x1_6, x2_6⟩ := hS.out.cs3 6 rfl
      obtain ⟨x0_7, x1_7, x2_7⟩ := hS.out.cs3 7 rfl
      obtain ⟨q9, hq9⟩ : ∃ q : Rat, q8 ^ 0 = q := ⟨_, rfl⟩
      have Hq9 := Lib.hid hq9
      clear hq9
      go_wp2_with fail
      go_at_call 26
      with_reducible refine (fpow_z (q := 0) (z := 0) rfl _ (hS.out.frt (r := q8) (k := 1) (A := A25) (n := n25) (c := c25) (A' := A26) (m := n26) (d := c26) (by repeat (first | exact List.mem_cons_self | apply List.mem_cons_of_mem)) (by repeat (first | exact List.mem_cons_self | apply List.mem_cons_of_mem))) (by decide) (by decide) (by decide) (pok_l (by rw [← Hq8.out]; decide +kernel)) (pok_r (by rw [← Hq8.out]; decide +kernel))).mono ?_
      rintro e v31 ho
      clear x0_0 x1_0 x2_0 x0_1 x1_1 x2_1 x0_2 x1_2 x2_2 x0_3 x1_3 x2_3 x0_4 x1_4 x2_4 x0_5 x1_5 x2_5 x0_6 x1_6 x2_6 x0_7 x1_7 x2_7
      rw [Hq9.out] at ho
      obtain ⟨A27, n27, c27, A28, n28, c28, rfl, h1⟩ := hS.out.rRE (Nat.le_refl _) ho
      clear hS; have hS := Lib.hid h1; clear h1
      obtain ⟨x0_0, x1_0, x2_0⟩ := hS.out.cs3 0 rfl
      obtain ⟨x0_1, x1_1, x2_1⟩ := hS.out.cs3 1 rfl
      obtain ⟨x0_2, x1_2, x2_2⟩ := hS.out.cs3 2 rfl
      obtain ⟨x0_3, x1_3, x2_3⟩ := hS.out.cs3 3 rfl
      obtain ⟨x0_4, x1_4, x2_4⟩ := hS.out.cs3 4 rfl
      obtain ⟨x0_5, x1_5, x2_5⟩ := hS.out.cs3 5 rfl
      obtain ⟨x0_6, x1_6, x2_6⟩ := hS.out.cs3 6 rfl
      obtain ⟨x0_7, x1_7, x2_7⟩ := hS.out.cs3 7 rfl
      have h1 := (hS.out.boxed (vs := [.bool (sg (q9).num), .slice A27 n27 c27, .slice A28 n28 c28]) (ty := 27) rfl rfl)
      try simp only [World.size_alloc] at h1
      obtain ⟨p0_0, p1_0, p2_0⟩ := h1.cs3 0 rfl
      obtain ⟨p0_1, p1_1, p2_1⟩ := h1.cs3 1 rfl
      obtain ⟨p0_2, p1_2, p2_2⟩ := h1.cs3 2 rfl
      obtain ⟨p0_3, p1_3, p2_3⟩ := h1.cs3 3 rfl
      obtain ⟨p0_4, p1_4, p2_4⟩ := h1.cs3 4 rfl
      obtain ⟨p0_5, p1_5, p2_5⟩ := h1.cs3 5 rfl
      obtain ⟨p0_6, p1_6, p2_6⟩ := h1.cs3 6 rfl
      obtain ⟨p0_7, p1_7, p2_7⟩ := h1.cs3 7 rfl
      obtain ⟨p0_8, p1_8, p2_8⟩ := h1.cs3 8 rfl
      clear h1
      go_wp2_with fail
      clear x0_0 x1_0 x2_0 x0_1 x1_1 x2_1 x0_2 x1_2 x2_2 x0_3 x1_3 x2_3 x0_4 x1_4 x2_4 x0_5 x1_5 x2_5 x0_6 x1_6 x2_6 x0_7 x1_7 x2_7
      clear p0_0 p1_0 p2_0 p0_1 p1_1 p2_1 p0_2 p1_2 p2_2 p0_3 p1_3 p2_3 p0_4 p1_4 p2_4 p0_5 p1_5 p2_5 p0_6 p1_6 p2_6 p0_7 p1_7 p2_7 p0_8 p1_8 p2_8
      generalize hwa : World.alloc v31 _ = v32
      have h1 := (hS.out.boxed (vs := [.bool (sg (q9).num), .slice A27 n27 c27, .slice A28 n28 c28]) (ty := 27) rfl hwa)
      have hsz : v32.heap.size = v31.heap.size + 1 := by rw [← hwa]; simp only [World.size_alloc]
      try rw [← hsz]
      clear hwa hsz
      clear hS; have hS := Lib.hid h1; clear h1
      obtain ⟨x0_0, x1_0, x2_0⟩ := hS.out.cs3 0 rfl
      obtain ⟨x0_1, x1_1, x2_1⟩ := hS.out.cs3 1 rfl
      obtain ⟨x0_2, x1_2, x2_2⟩ := hS.out.cs3 2 rfl
      obtain ⟨x0_3, x1_3, x2_3⟩ := hS.out.cs3 3 rfl
      obtain ⟨x0_4, x1_4, x2_4⟩ := hS.out.cs3 4 rfl
      obtain ⟨x0_5, x1_5, x2_5⟩ := hS.out.cs3 5 rfl
      obtain ⟨x0_6, x1_6, x2_6⟩ := hS.out.cs3 6 rfl
      obtain ⟨x0_7, x1_7, x2_7⟩ := hS.out.cs3 7 rfl
      obtain ⟨x0_8, x1_8, x2_8⟩ := hS.out.cs3 8 rfl
      go_wp2_with fail
      go_at_call 13
      with_reducible refine (fover_zero _ (x := 1) (by decide) (by decide)).mono ?_
      rintro e v33 ho
      clear x0_0 x1_0 x2_0 x0_1 x1_1 x2_1 x0_2 x1_2 x2_2 x0_3 x1_3 x2_3 x0_4 x1_4 x2_4 x0_5 x1_5 x2_5 x0_6 x1_6 x2_6 x0_7 x1_7 x2_7 x0_8 x1_8 x2_8
      obtain ⟨rfl, h1⟩ := hS.out.rRZ ho
      clear hS; have hS := Lib.hid h1; clear h1
      obtain ⟨x0_0, x1_0, x2_0⟩ := hS.out.cs3 0 rfl
      obtain ⟨x0_1, x1_1, x2_1⟩ := hS.out.cs3 1 rfl
      obtain ⟨x0_2, x1_2, x2_2⟩ := hS.out.cs3 2 rfl
      obtain ⟨x0_3, x1_3, x2_3⟩ := hS.out.cs3 3 rfl
      obtain ⟨x0_4, x1_4, x2_4⟩ := hS.out.cs3 4 rfl
      obtain ⟨x0_5, x1_5, x2_5⟩ := hS.out.cs3 5 rfl
      obtain ⟨x0_6, x1_6, x2_6⟩ := hS.out.cs3 6 rfl
      obtain ⟨x0_7, x1_7, x2_7⟩ := hS.out.cs3 7 rfl
      obtain ⟨x0_8, x1_8, x2_8⟩ := hS.out.cs3 8 rfl
      have h0 := ((lit20 (hS.out.boxed (vs := [.bool false, .slice none 0 0, .slice none 0 0]) (ty := 27) rfl rfl)).lit1 4 (by decide))
      simp only [World.size_alloc] at h0
      have h1 := h0.boxed (vs := [.bool true, .slice (some ⟨v33.heap.size + 1, 0, none⟩) 2 2, .slice (some ⟨v33.heap.size + 1 + 1, 0, none⟩) 1 1]) (ty := 27) rfl rfl
      simp only [World.size_alloc] at h1
      obtain ⟨p0_0, p1_0, p2_0⟩ := h1.cs3 0 rfl
      obtain ⟨p0_1, p1_1, p2_1⟩ := h1.cs3 1 rfl
      obtain ⟨p0_2, p1_2, p2_2⟩ := h1.cs3 2 rfl
      obtain ⟨p0_3, p1_3, p2_3⟩ := h1.cs3 3 rfl
      obtain ⟨p0_4, p1_4, p2_4⟩ := h1.cs3 4 rfl
      obtain ⟨p0_5, p1_5, p2_5⟩ := h1.cs3 5 rfl
      obtain ⟨p0_6, p1_6, p2_6⟩ := h1.cs3 6 rfl
      obtain ⟨p0_7, p1_7, p2_7⟩ := h1.cs3 7 rfl
      obtain ⟨p0_8, p1_8, p2_8⟩ := h1.cs3 8 rfl
      obtain ⟨p0_9, p1_9, p2_9⟩ := h1.cs3 9 rfl
      obtain ⟨p0_10, p1_10, p2_10⟩ := h1.cs3 10 rfl
      clear h0 h1
      go_wp2_with fail
      clear x0_0 x1_0 x2_0 x0_1 x1_1 x2_1 x0_2 x1_2 x2_2 x0_3 x1_3 x2_3 x0_4 x1_4 x2_4 x0_5 x1_5 x2_5 x0_6 x1_6 x2_6 x0_7 x1_7 x2_7 x0_8 x1_8 x2_8
      clear p0_0 p1_0 p2_0 p0_1 p1_1 p2_1 p0_2 p1_2 p2_2 p0_3 p1_3 p2_3 p0_4 p1_4 p2_4 p0_5 p1_5 p2_5 p0_6 p1_6 p2_6 p0_7 p1_7 p2_7 p0_8 p1_8 p2_8 p0_9 p1_9 p2_9 p0_10 p1_10 p2_10
      generalize hwa : World.alloc (World.alloc (World.alloc (World.alloc v33 _) _) _) _ = v34
      have h0 := ((lit20 (hS.out.boxed (vs := [.bool false, .slice none 0 0, .slice none 0 0]) (ty := 27) rfl rfl)).lit1 4 (by decide))
      simp only [World.size_alloc] at h0
      have h1 := h0.boxed (vs := [.bool true, .slice (some ⟨v33.heap.size + 1, 0, none⟩) 2 2, .slice (some ⟨v33.heap.size + 1 + 1, 0, none⟩) 1 1]) (ty := 27) rfl hwa
      simp only [World.size_alloc] at h1
      clear h0
      have hsz : v34.heap.size = v33.heap.size + 1 + 1 + 1 + 1 := by rw [← hwa]; simp only [World.size_alloc]
      try rw [← hsz]
      clear hwa hsz
      clear hS; have hS := Lib.hid h1; clear h1
      obtain ⟨x0_0, x1_0, x2_0⟩ := hS.out.cs3 0 rfl
      obtain ⟨x0_1, x1_1, x2_1⟩ := hS.out.cs3 1 rfl
      obtain ⟨x0_2, x1_2, x2_2⟩ := hS.out.cs3 2 rfl
      obtain ⟨x0_3, x1_3, x2_3⟩ := hS.out.cs3 3 rfl
      obtain ⟨x0_4, x1_4, x2_4⟩ := hS.out.cs3 4 rfl
      obtain ⟨x0_5, x1_5, x2_5⟩ := hS.out.cs3 5 rfl
      obtain ⟨x0_6, x1_6, x2_6⟩ := hS.out.cs3 6 rfl
      obtain ⟨x0_7, x1_7, x2_7⟩ := hS.out.cs3 7 rfl
      obtain ⟨x0_8, x1_8, x2_8⟩ := hS.out.cs3 8 rfl
      obtain ⟨x0_9, x1_9, x2_9⟩ := hS.out.cs3 9 rfl
      obtain ⟨x0_10, x1_10, x2_10⟩ := hS.out.cs3 10 rfl
      obtain ⟨q10, hq10⟩ : ∃ q : Rat, mkRat (9223372036854775808) 9223372036854775808 = q := ⟨_, rfl⟩
      have Hq10 := Lib.hid hq10
      clear hq10
      obtain ⟨q11, hq11⟩ : ∃ q : Rat, mkRat (-1) 9223372036854775808 = q := ⟨_, rfl⟩
      have Hq11 := Lib.hid hq11
      clear hq11
      obtain ⟨q12, hq12⟩ : ∃ q : Rat, mkRat (-1) 2 = q := ⟨_, rfl⟩
      have Hq12 := Lib.hid hq12
      clear hq12
      obtain ⟨q13, hq13⟩ : ∃ q : Rat, mkRat 0 1 = q := ⟨_, rfl⟩
      have Hq13 := Lib.hid hq13
      clear hq13
      obtain ⟨q14, hq14⟩ : ∃ q : Rat, mkRat (1) 2 = q := ⟨_, rfl⟩
      have Hq14 := Lib.hid hq14
      clear hq14
      obtain ⟨q15, hq15⟩ : ∃ q : Rat, mkRat 0 1 = q := ⟨_, rfl⟩
      have Hq15 := Lib.hid hq15
      clear hq15
      go_wp2_with (first
        | (go_at_call 23; (with_reducible refine (fshow_any _ (hS.out.frt (r := q1) (k := 1) (A := A11) (n := n11) (c := c11) (A' := A12) (m := n12) (d := c12) (by repeat (first | exact List.mem_cons_self | apply List.mem_cons_of_mem)) (by repeat (first | exact List.mem_cons_self | apply List.mem_cons_of_mem))) (by decide) (by decide) (Z := [45, 57, 50, 50, 51, 51, 55, 50, 48, 51, 54, 56, 53, 52, 55, 55, 53, 56, 48, 56]) (shR_lit (by decide +kernel) (by rw [← Hq1.out]; decide +kernel))).mono ?_); rintro e w' ⟨rfl, hb⟩; have h1 := hS.out.below hb; clear hb; clear x0_0 x1_0 x2_0 x0_1 x1_1 x2_1 x0_2 x1_2 x2_2 x0_3 x1_3 x2_3 x0_4 x1_4 x2_4 x0_5 x1_5 x2_5 x0_6 x1_6 x2_6 x0_7 x1_7 x2_7 x0_8 x1_8 x2_8 x0_9 x1_9 x2_9 x0_10 x1_10 x2_10; clear hS; have hS := Lib.hid h1; clear h1; obtain ⟨x0_0, x1_0, x2_0⟩ := hS.out.cs3 0 rfl; obtain ⟨x0_1, x1_1, x2_1⟩ := hS.out.cs3 1 rfl; obtain ⟨x0_2, x1_2, x2_2⟩ := hS.out.cs3 2 rfl; obtain ⟨x0_3, x1_3, x2_3⟩ := hS.out.cs3 3 rfl; obtain ⟨x0_4, x1_4, x2_4⟩ := hS.out.cs3 4 rfl; obtain ⟨x0_5, x1_5, x2_5⟩ := hS.out.cs3 5 rfl; obtain ⟨x0_6, x1_6, x2_6⟩ := hS.out.cs3 6 rfl; obtain ⟨x0_7, x1_7, x2_7⟩ := hS.out.cs3 7 rfl; obtain ⟨x0_8, x1_8, x2_8⟩ := hS.out.cs3 8 rfl; obtain ⟨x0_9, x1_9, x2_9⟩ := hS.out.cs3 9 rfl; obtain ⟨x0_10, x1_10, x2_10⟩ := hS.out.cs3 10 rfl)
        | (go_at_call 25; (with_reducible refine (over_of (r := q10) (M := 1) (j := 0) (fun W => fover_neg W (x := -9223372036854775808) (y := -9223372036854775808) (r := q10) (by decide) (by decide) (by decide) (by decide) (by decide) (by rw [← Hq10.out]; decide +kernel)) _).mono ?_); rintro e w' ho; obtain ⟨A29, n29, c29, A30, n30, c30, rfl, h1⟩ := hS.out.rR (Nat.le_refl _) ho; clear x0_0 x1_0 x2_0 x0_1 x1_1 x2_1 x0_2 x1_2 x2_2 x0_3 x1_3 x2_3 x0_4 x1_4 x2_4 x0_5 x1_5 x2_5 x0_6 x1_6 x2_6 x0_7 x1_7 x2_7 x0_8 x1_8 x2_8 x0_9 x1_9 x2_9 x0_10 x1_10 x2_10; clear hS; have hS := Lib.hid h1; clear h1; obtain ⟨x0_0, x1_0, x2_0⟩ := hS.out.cs3 0 rfl; obtain ⟨x0_1, x1_1, x2_1⟩ := hS.out.cs3 1 rfl; obtain ⟨x0_2, x1_2, x2_2⟩ := hS.out.cs3 2 rfl; obtain ⟨x0_3, x1_3, x2_3⟩ := hS.out.cs3 3 rfl; obtain ⟨x0_4, x1_4, x2_4⟩ := hS.out.cs3 4 rfl; obtain ⟨x0_5, x1_5, x2_5⟩ := hS.out.cs3 5 rfl; obtain ⟨x0_6, x1_6, x2_6⟩ := hS.out.cs3 6 rfl; obtain ⟨x0_7, x1_7, x2_7⟩ := hS.out.cs3 7 rfl; obtain ⟨x0_8, x1_8, x2_8⟩ := hS.out.cs3 8 rfl; obtain ⟨x0_9, x1_9, x2_9⟩ := hS.out.cs3 9 rfl; obtain ⟨x0_10, x1_10, x2_10⟩ := hS.out.cs3 10 rfl)
        | (go_at_call 23; (with_reducible refine (fshow_any _ (hS.out.frt (r := q10) (k := 1) (A := A29) (n := n29) (c := c29) (A' := A30) (m := n30) (d := c30) (by repeat (first | exact List.mem_cons_self | apply List.mem_cons_of_mem)) (by repeat (first | exact List.mem_cons_self | apply List.mem_cons_of_mem))) (by decide) (by decide) (Z := [49]) (shR_lit (by decide +kernel) (by rw [← Hq10.out]; decide +kernel))).mono ?_); rintro e w' ⟨rfl, hb⟩; have h1 := hS.out.below hb; clear hb; clear x0_0 x1_0 x2_0 x0_1 x1_1 x2_1 x0_2 x1_2 x2_2 x0_3 x1_3 x2_3 x0_4 x1_4 x2_4 x0_5 x1_5 x2_5 x0_6 x1_6 x2_6 x0_7 x1_7 x2_7 x0_8 x1_8 x2_8 x0_9 x1_9 x2_9 x0_10 x1_10 x2_10; clear hS; have hS := Lib.hid h1; clear h1; obtain ⟨x0_0, x1_0, x2_0⟩ := hS.out.cs3 0 rfl; obtain ⟨x0_1, x1_1, x2_1⟩ := hS.out.cs3 1 rfl; obtain ⟨x0_2, x1_2, x2_2⟩ := hS.out.cs3 2 rfl; obtain ⟨x0_3, x1_3, x2_3⟩ := hS.out.cs3 3 rfl; obtain ⟨x0_4, x1_4, x2_4⟩ := hS.out.cs3 4 rfl; obtain ⟨x0_5, x1_5, x2_5⟩ := hS.out.cs3 5 rfl; obtain ⟨x0_6, x1_6, x2_6⟩ := hS.out.cs3 6 rfl; obtain ⟨x0_7, x1_7, x2_7⟩ := hS.out.cs3 7 rfl; obtain ⟨x0_8, x1_8, x2_8⟩ := hS.out.cs3 8 rfl; obtain ⟨x0_9, x1_9, x2_9⟩ := hS.out.cs3 9 rfl; obtain ⟨x0_10, x1_10, x2_10⟩ := hS.out.cs3 10 rfl)
        | (go_at_call 25; (with_reducible refine (over_of (r := q11) (M := 1) (j := 0) (fun W => fover_neg W (x := 1) (y := -9223372036854775808) (r := q11) (by decide) (by decide) (by decide) (by decide) (by decide) (by rw [← Hq11.out]; decide +kernel)) _).mono ?_); rintro e w' ho; obtain ⟨A31, n31, c31, A32, n32, c32, rfl, h1⟩ := hS.out.rR (Nat.le_refl _) ho; clear x0_0 x1_0 x2_0 x0_1 x1_1 x2_1 x0_2 x1_2 x2_2 x0_3 x1_3 x2_3 x0_4 x1_4 x2_4 x0_5 x1_5 x2_5 x0_6 x1_6 x2_6 x0_7 x1_7 x2_7 x0_8 x1_8 x2_8 x0_9 x1_9 x2_9 x0_10 x1_10 x2_10; clear hS; have hS := Lib.hid h1; clear h1; obtain ⟨x0_0, x1_0, x2_0⟩ := hS.out.cs3 0 rfl; obtain ⟨x0_1, x1_1, x2_1⟩ := hS.out.cs3 1 rfl; obtain ⟨x0_2, x1_2, x2_2⟩ := hS.out.cs3 2 rfl; obtain ⟨x0_3, x1_3, x2_3⟩ := hS.out.cs3 3 rfl; obtain ⟨x0_4, x1_4, x2_4⟩ := hS.out.cs3 4 rfl; obtain ⟨x0_5, x1_5, x2_5⟩ := hS.out.cs3 5 rfl; obtain ⟨x0_6, x1_6, x2_6⟩ := hS.out.cs3 6 rfl; obtain ⟨x0_7, x1_7, x2_7⟩ := hS.out.cs3 7 rfl; obtain ⟨x0_8, x1_8, x2_8⟩ := hS.out.cs3 8 rfl; obtain ⟨x0_9, x1_9, x2_9⟩ := hS.out.cs3 9 rfl; obtain ⟨x0_10, x1_10, x2_10⟩ := hS.out.cs3 10 rfl)
        | (go_at_call 23; (with_reducible refine (fshow_any _ (hS.out.frt (r := q11) (k := 1) (A := A31) (n := n31) (c := c31) (A' := A32) (m := n32) (d := c32) (by repeat (first | exact List.mem_cons_self | apply List.mem_cons_of_mem)) (by repeat (first | exact List.mem_cons_self | apply List.mem_cons_of_mem))) (by decide) (by decide) (Z := [45, 49, 47, 57, 50, 50, 51, 51, 55, 50, 48, 51, 54, 56, 53, 52, 55, 55, 53, 56, 48, 56]) (shR_lit (by decide +kernel) (by rw [← Hq11.out]; decide +kernel))).mono ?_); rintro e w' ⟨rfl, hb⟩; have h1 := hS.out.below hb; clear hb; clear x0_0 x1_0 x2_0 x0_1 x1_1 x2_1 x0_2 x1_2 x2_2 x0_3 x1_3 x2_3 x0_4 x1_4 x2_4 x0_5 x1_5 x2_5 x0_6 x1_6 x2_6 x0_7 x1_7 x2_7 x0_8 x1_8 x2_8 x0_9 x1_9 x2_9 x0_10 x1_10 x2_10; clear hS; have hS := Lib.hid h1; clear h1; obtain ⟨x0_0, x1_0, x2_0⟩ := hS.out.cs3 0 rfl; obtain ⟨x0_1, x1_1, x2_1⟩ := hS.out.cs3 1 rfl; obtain ⟨x0_2, x1_2, x2_2⟩ := hS.out.cs3 2 rfl; obtain ⟨x0_3, x1_3, x2_3⟩ := hS.out.cs3 3 rfl; obtain ⟨x0_4, x1_4, x2_4⟩ := hS.out.cs3 4 rfl; obtain ⟨x0_5, x1_5, x2_5⟩ := hS.out.cs3 5 rfl; obtain ⟨x0_6, x1_6, x2_6⟩ := hS.out.cs3 6 rfl; obtain ⟨x0_7, x1_7, x2_7⟩ := hS.out.cs3 7 rfl; obtain ⟨x0_8, x1_8, x2_8⟩ := hS.out.cs3 8 rfl; obtain ⟨x0_9, x1_9, x2_9⟩ := hS.out.cs3 9 rfl; obtain ⟨x0_10, x1_10, x2_10⟩ := hS.out.cs3 10 rfl)
        | (go_at_call 27; (with_reducible refine (nlen_any _ A14 n14 c14 (limbs rf.den) (hS.out.get (k := 1026) (v := rf.den) (by repeat (first | exact List.mem_cons_self | apply List.mem_cons_of_mem))).1 (by have := (hS.out.get (A := A14) (n := n14) (c := c14) (k := 1026) (xs := limbs rf.den) (v := rf.den) (by repeat (first | exact List.mem_cons_self | apply List.mem_cons_of_mem))).2.1; omega)).mono ?_); rintro e w' ⟨he, hw⟩; rw [limbs_val (Int.le_of_lt (rden_pos rf)), HFL.out] at he; subst he; rw [hw]; clear hw; have h1 := hS.out; clear x0_0 x1_0 x2_0 x0_1 x1_1 x2_1 x0_2 x1_2 x2_2 x0_3 x1_3 x2_3 x0_4 x1_4 x2_4 x0_5 x1_5 x2_5 x0_6 x1_6 x2_6 x0_7 x1_7 x2_7 x0_8 x1_8 x2_8 x0_9 x1_9 x2_9 x0_10 x1_10 x2_10; clear hS; have hS := Lib.hid h1; clear h1; obtain ⟨x0_0, x1_0, x2_0⟩ := hS.out.cs3 0 rfl; obtain ⟨x0_1, x1_1, x2_1⟩ := hS.out.cs3 1 rfl; obtain ⟨x0_2, x1_2, x2_2⟩ := hS.out.cs3 2 rfl; obtain ⟨x0_3, x1_3, x2_3⟩ := hS.out.cs3 3 rfl; obtain ⟨x0_4, x1_4, x2_4⟩ := hS.out.cs3 4 rfl; obtain ⟨x0_5, x1_5, x2_5⟩ := hS.out.cs3 5 rfl; obtain ⟨x0_6, x1_6, x2_6⟩ := hS.out.cs3 6 rfl; obtain ⟨x0_7, x1_7, x2_7⟩ := hS.out.cs3 7 rfl; obtain ⟨x0_8, x1_8, x2_8⟩ := hS.out.cs3 8 rfl; obtain ⟨x0_9, x1_9, x2_9⟩ := hS.out.cs3 9 rfl; obtain ⟨x0_10, x1_10, x2_10⟩ := hS.out.cs3 10 rfl)
        | (go_at_call 23; (with_reducible refine (fshow_any _ (hS.out.frt (r := q5) (k := 16385) (A := A21) (n := n21) (c := c21) (A' := A22) (m := n22) (d := c22) (by repeat (first | exact List.mem_cons_self | apply List.mem_cons_of_mem)) (by repeat (first | exact List.mem_cons_self | apply List.mem_cons_of_mem))) (by decide) (by decide) (Z := [49]) (shR_lit (by decide +kernel) (by rw [← Hq5.out]; decide +kernel))).mono ?_); rintro e w' ⟨rfl, hb⟩; have h1 := hS.out.below hb; clear hb; clear x0_0 x1_0 x2_0 x0_1 x1_1 x2_1 x0_2 x1_2 x2_2 x0_3 x1_3 x2_3 x0_4 x1_4 x2_4 x0_5 x1_5 x2_5 x0_6 x1_6 x2_6 x0_7 x1_7 x2_7 x0_8 x1_8 x2_8 x0_9 x1_9 x2_9 x0_10 x1_10 x2_10; clear hS; have hS := Lib.hid h1; clear h1; obtain ⟨x0_0, x1_0, x2_0⟩ := hS.out.cs3 0 rfl; obtain ⟨x0_1, x1_1, x2_1⟩ := hS.out.cs3 1 rfl; obtain ⟨x0_2, x1_2, x2_2⟩ := hS.out.cs3 2 rfl; obtain ⟨x0_3, x1_3, x2_3⟩ := hS.out.cs3 3 rfl; obtain ⟨x0_4, x1_4, x2_4⟩ := hS.out.cs3 4 rfl; obtain ⟨x0_5, x1_5, x2_5⟩ := hS.out.cs3 5 rfl; obtain ⟨x0_6, x1_6, x2_6⟩ := hS.out.cs3 6 rfl; obtain ⟨x0_7, x1_7, x2_7⟩ := hS.out.cs3 7 rfl; obtain ⟨x0_8, x1_8, x2_8⟩ := hS.out.cs3 8 rfl; obtain ⟨x0_9, x1_9, x2_9⟩ := hS.out.cs3 9 rfl; obtain ⟨x0_10, x1_10, x2_10⟩ := hS.out.cs3 10 rfl)
        | (go_at_call 23; (with_reducible refine (fshow_any _ (hS.out.frt (r := q7) (k := 16385) (A := A23) (n := n23) (c := c23) (A' := A24) (m := n24) (d := c24) (by repeat (first | exact List.mem_cons_self | apply List.mem_cons_of_mem)) (by repeat (first | exact List.mem_cons_self | apply List.mem_cons_of_mem))) (by decide) (by decide) (Z := [48]) (shR_lit (by decide +kernel) (by rw [← Hq7.out, ← Hq6.out]; decide +kernel))).mono ?_); rintro e w' ⟨rfl, hb⟩; have h1 := hS.out.below hb; clear hb; clear x0_0 x1_0 x2_0 x0_1 x1_1 x2_1 x0_2 x1_2 x2_2 x0_3 x1_3 x2_3 x0_4 x1_4 x2_4 x0_5 x1_5 x2_5 x0_6 x1_6 x2_6 x0_7 x1_7 x2_7 x0_8 x1_8 x2_8 x0_9 x1_9 x2_9 x0_10 x1_10 x2_10; clear hS; have hS := Lib.hid h1; clear h1; obtain ⟨x0_0, x1_0, x2_0⟩ := hS.out.cs3 0 rfl; obtain ⟨x0_1, x1_1, x2_1⟩ := hS.out.cs3 1 rfl; obtain ⟨x0_2, x1_2, x2_2⟩ := hS.out.cs3 2 rfl; obtain ⟨x0_3, x1_3, x2_3⟩ := hS.out.cs3 3 rfl; obtain ⟨x0_4, x1_4, x2_4⟩ := hS.out.cs3 4 rfl; obtain ⟨x0_5, x1_5, x2_5⟩ := hS.out.cs3 5 rfl; obtain ⟨x0_6, x1_6, x2_6⟩ := hS.out.cs3 6 rfl; obtain ⟨x0_7, x1_7, x2_7⟩ := hS.out.cs3 7 rfl; obtain ⟨x0_8, x1_8, x2_8⟩ := hS.out.cs3 8 rfl; obtain ⟨x0_9, x1_9, x2_9⟩ := hS.out.cs3 9 rfl; obtain ⟨x0_10, x1_10, x2_10⟩ := hS.out.cs3 10 rfl)
        | (go_at_call 23; (with_reducible refine (fshow_any _ (hS.out.frt (r := q9) (k := 16385) (A := A27) (n := n27) (c := c27) (A' := A28) (m := n28) (d := c28) (by repeat (first | exact List.mem_cons_self | apply List.mem_cons_of_mem)) (by repeat (first | exact List.mem_cons_self | apply List.mem_cons_of_mem))) (by decide) (by decide) (Z := [49]) (shR_lit (by decide +kernel) (by rw [← Hq9.out, ← Hq8.out]; decide +kernel))).mono ?_); rintro e w' ⟨rfl, hb⟩; have h1 := hS.out.below hb; clear hb; clear x0_0 x1_0 x2_0 x0_1 x1_1 x2_1 x0_2 x1_2 x2_2 x0_3 x1_3 x2_3 x0_4 x1_4 x2_4 x0_5 x1_5 x2_5 x0_6 x1_6 x2_6 x0_7 x1_7 x2_7 x0_8 x1_8 x2_8 x0_9 x1_9 x2_9 x0_10 x1_10 x2_10; clear hS; have hS := Lib.hid h1; clear h1; obtain ⟨x0_0, x1_0, x2_0⟩ := hS.out.cs3 0 rfl; obtain ⟨x0_1, x1_1, x2_1⟩ := hS.out.cs3 1 rfl; obtain ⟨x0_2, x1_2, x2_2⟩ := hS.out.cs3 2 rfl; obtain ⟨x0_3, x1_3, x2_3⟩ := hS.out.cs3 3 rfl; obtain ⟨x0_4, x1_4, x2_4⟩ := hS.out.cs3 4 rfl; obtain ⟨x0_5, x1_5, x2_5⟩ := hS.out.cs3 5 rfl; obtain ⟨x0_6, x1_6, x2_6⟩ := hS.out.cs3 6 rfl; obtain ⟨x0_7, x1_7, x2_7⟩ := hS.out.cs3 7 rfl; obtain ⟨x0_8, x1_8, x2_8⟩ := hS.out.cs3 8 rfl; obtain ⟨x0_9, x1_9, x2_9⟩ := hS.out.cs3 9 rfl; obtain ⟨x0_10, x1_10, x2_10⟩ := hS.out.cs3 10 rfl)
        | (go_at_call 19; (with_reducible refine (fmay_c (q := false) (b := true) (k := 2) (k' := 1) (xs := [2, 0]) (ys := [4]) hS.out (by repeat (first | exact List.mem_cons_self | apply List.mem_cons_of_mem)) (by repeat (first | exact List.mem_cons_self | apply List.mem_cons_of_mem)) (by decide) (by decide) (by decide +kernel)).mono ?_); rintro e w' ⟨rfl, h1⟩; clear x0_0 x1_0 x2_0 x0_1 x1_1 x2_1 x0_2 x1_2 x2_2 x0_3 x1_3 x2_3 x0_4 x1_4 x2_4 x0_5 x1_5 x2_5 x0_6 x1_6 x2_6 x0_7 x1_7 x2_7 x0_8 x1_8 x2_8 x0_9 x1_9 x2_9 x0_10 x1_10 x2_10; clear hS; have hS := Lib.hid h1; clear h1; obtain ⟨x0_0, x1_0, x2_0⟩ := hS.out.cs3 0 rfl; obtain ⟨x0_1, x1_1, x2_1⟩ := hS.out.cs3 1 rfl; obtain ⟨x0_2, x1_2, x2_2⟩ := hS.out.cs3 2 rfl; obtain ⟨x0_3, x1_3, x2_3⟩ := hS.out.cs3 3 rfl; obtain ⟨x0_4, x1_4, x2_4⟩ := hS.out.cs3 4 rfl; obtain ⟨x0_5, x1_5, x2_5⟩ := hS.out.cs3 5 rfl; obtain ⟨x0_6, x1_6, x2_6⟩ := hS.out.cs3 6 rfl; obtain ⟨x0_7, x1_7, x2_7⟩ := hS.out.cs3 7 rfl; obtain ⟨x0_8, x1_8, x2_8⟩ := hS.out.cs3 8 rfl; obtain ⟨x0_9, x1_9, x2_9⟩ := hS.out.cs3 9 rfl; obtain ⟨x0_10, x1_10, x2_10⟩ := hS.out.cs3 10 rfl)
        | (go_at_call 23; (with_reducible refine (fshow_any _ (hS.out.frm (b := true) (M := 2) (k := 2) (k' := 1) (xs := [2, 0]) (ys := [4]) (r := q12) (by repeat (first | exact List.mem_cons_self | apply List.mem_cons_of_mem)) (by repeat (first | exact List.mem_cons_self | apply List.mem_cons_of_mem)) (by decide) (by decide) (by rw [← Hq12.out]; decide +kernel)) (by decide) (by decide) (Z := [45, 49, 47, 50]) (shR_lit (by decide +kernel) (by rw [← Hq12.out]; decide +kernel))).mono ?_); rintro e w' ⟨rfl, hb⟩; have h1 := hS.out.below hb; clear hb; clear x0_0 x1_0 x2_0 x0_1 x1_1 x2_1 x0_2 x1_2 x2_2 x0_3 x1_3 x2_3 x0_4 x1_4 x2_4 x0_5 x1_5 x2_5 x0_6 x1_6 x2_6 x0_7 x1_7 x2_7 x0_8 x1_8 x2_8 x0_9 x1_9 x2_9 x0_10 x1_10 x2_10; clear hS; have hS := Lib.hid h1; clear h1; obtain ⟨x0_0, x1_0, x2_0⟩ := hS.out.cs3 0 rfl; obtain ⟨x0_1, x1_1, x2_1⟩ := hS.out.cs3 1 rfl; obtain ⟨x0_2, x1_2, x2_2⟩ := hS.out.cs3 2 rfl; obtain ⟨x0_3, x1_3, x2_3⟩ := hS.out.cs3 3 rfl; obtain ⟨x0_4, x1_4, x2_4⟩ := hS.out.cs3 4 rfl; obtain ⟨x0_5, x1_5, x2_5⟩ := hS.out.cs3 5 rfl; obtain ⟨x0_6, x1_6, x2_6⟩ := hS.out.cs3 6 rfl; obtain ⟨x0_7, x1_7, x2_7⟩ := hS.out.cs3 7 rfl; obtain ⟨x0_8, x1_8, x2_8⟩ := hS.out.cs3 8 rfl; obtain ⟨x0_9, x1_9, x2_9⟩ := hS.out.cs3 9 rfl; obtain ⟨x0_10, x1_10, x2_10⟩ := hS.out.cs3 10 rfl)
        | (go_at_call 19; (with_reducible refine (fmay_c (q := false) (b := false) (hS.out.none_) List.mem_cons_self List.mem_cons_self (by decide) (by decide) (by decide +kernel)).mono ?_); rintro e w' ⟨rfl, h1⟩; clear x0_0 x1_0 x2_0 x0_1 x1_1 x2_1 x0_2 x1_2 x2_2 x0_3 x1_3 x2_3 x0_4 x1_4 x2_4 x0_5 x1_5 x2_5 x0_6 x1_6 x2_6 x0_7 x1_7 x2_7 x0_8 x1_8 x2_8 x0_9 x1_9 x2_9 x0_10 x1_10 x2_10; clear hS; have hS := Lib.hid h1; clear h1; obtain ⟨x0_0, x1_0, x2_0⟩ := hS.out.cs3 0 rfl; obtain ⟨x0_1, x1_1, x2_1⟩ := hS.out.cs3 1 rfl; obtain ⟨x0_2, x1_2, x2_2⟩ := hS.out.cs3 2 rfl; obtain ⟨x0_3, x1_3, x2_3⟩ := hS.out.cs3 3 rfl; obtain ⟨x0_4, x1_4, x2_4⟩ := hS.out.cs3 4 rfl; obtain ⟨x0_5, x1_5, x2_5⟩ := hS.out.cs3 5 rfl; obtain ⟨x0_6, x1_6, x2_6⟩ := hS.out.cs3 6 rfl; obtain ⟨x0_7, x1_7, x2_7⟩ := hS.out.cs3 7 rfl; obtain ⟨x0_8, x1_8, x2_8⟩ := hS.out.cs3 8 rfl; obtain ⟨x0_9, x1_9, x2_9⟩ := hS.out.cs3 9 rfl; obtain ⟨x0_10, x1_10, x2_10⟩ := hS.out.cs3 10 rfl)
        | (go_at_call 15; (with_reducible refine (fof_any _ 0 (by decide) (by decide)).mono ?_); rintro e w' ho; rw [Hq13.out] at ho; obtain ⟨A33, n33, c33, A34, n34, c34, rfl, h1⟩ := hS.out.rR (Nat.le_refl _) ho; clear x0_0 x1_0 x2_0 x0_1 x1_1 x2_1 x0_2 x1_2 x2_2 x0_3 x1_3 x2_3 x0_4 x1_4 x2_4 x0_5 x1_5 x2_5 x0_6 x1_6 x2_6 x0_7 x1_7 x2_7 x0_8 x1_8 x2_8 x0_9 x1_9 x2_9 x0_10 x1_10 x2_10; clear hS; have hS := Lib.hid h1; clear h1; obtain ⟨x0_0, x1_0, x2_0⟩ := hS.out.cs3 0 rfl; obtain ⟨x0_1, x1_1, x2_1⟩ := hS.out.cs3 1 rfl; obtain ⟨x0_2, x1_2, x2_2⟩ := hS.out.cs3 2 rfl; obtain ⟨x0_3, x1_3, x2_3⟩ := hS.out.cs3 3 rfl; obtain ⟨x0_4, x1_4, x2_4⟩ := hS.out.cs3 4 rfl; obtain ⟨x0_5, x1_5, x2_5⟩ := hS.out.cs3 5 rfl; obtain ⟨x0_6, x1_6, x2_6⟩ := hS.out.cs3 6 rfl; obtain ⟨x0_7, x1_7, x2_7⟩ := hS.out.cs3 7 rfl; obtain ⟨x0_8, x1_8, x2_8⟩ := hS.out.cs3 8 rfl; obtain ⟨x0_9, x1_9, x2_9⟩ := hS.out.cs3 9 rfl; obtain ⟨x0_10, x1_10, x2_10⟩ := hS.out.cs3 10 rfl)
        | (go_at_call 28; (with_reducible refine (fsame_any _ (hS.out.none_.frm (b := false) (M := 1) (r := q6) List.mem_cons_self List.mem_cons_self (Nat.zero_le _) (Nat.zero_le _) (by rw [← Hq6.out]; decide +kernel)) (hS.out.frt (r := q13) (k := 1) (A := A33) (n := n33) (c := c33) (A' := A34) (m := n34) (d := c34) (by repeat (first | exact List.mem_cons_self | apply List.mem_cons_of_mem)) (by repeat (first | exact List.mem_cons_self | apply List.mem_cons_of_mem))) (by decide) (by decide) (by decide) (by decide) (q := true) (by rw [← Hq6.out, ← Hq13.out]; decide +kernel)).mono ?_); rintro e w' ⟨rfl, hb⟩; have h1 := hS.out.below hb; clear hb; clear x0_0 x1_0 x2_0 x0_1 x1_1 x2_1 x0_2 x1_2 x2_2 x0_3 x1_3 x2_3 x0_4 x1_4 x2_4 x0_5 x1_5 x2_5 x0_6 x1_6 x2_6 x0_7 x1_7 x2_7 x0_8 x1_8 x2_8 x0_9 x1_9 x2_9 x0_10 x1_10 x2_10; clear hS; have hS := Lib.hid h1; clear h1; obtain ⟨x0_0, x1_0, x2_0⟩ := hS.out.cs3 0 rfl; obtain ⟨x0_1, x1_1, x2_1⟩ := hS.out.cs3 1 rfl; obtain ⟨x0_2, x1_2, x2_2⟩ := hS.out.cs3 2 rfl; obtain ⟨x0_3, x1_3, x2_3⟩ := hS.out.cs3 3 rfl; obtain ⟨x0_4, x1_4, x2_4⟩ := hS.out.cs3 4 rfl; obtain ⟨x0_5, x1_5, x2_5⟩ := hS.out.cs3 5 rfl; obtain ⟨x0_6, x1_6, x2_6⟩ := hS.out.cs3 6 rfl; obtain ⟨x0_7, x1_7, x2_7⟩ := hS.out.cs3 7 rfl; obtain ⟨x0_8, x1_8, x2_8⟩ := hS.out.cs3 8 rfl; obtain ⟨x0_9, x1_9, x2_9⟩ := hS.out.cs3 9 rfl; obtain ⟨x0_10, x1_10, x2_10⟩ := hS.out.cs3 10 rfl)
        | (go_at_call 25; (with_reducible refine (over_of (r := q14) (M := 1) (j := 0) (fun W => fover_pos W (x := 1) (y := 2) (r := q14) (by decide) (by decide) (by decide) (by decide) (by decide) (by rw [← Hq14.out]; decide +kernel)) _).mono ?_); rintro e w' ho; obtain ⟨A35, n35, c35, A36, n36, c36, rfl, h1⟩ := hS.out.rR (Nat.le_refl _) ho; clear x0_0 x1_0 x2_0 x0_1 x1_1 x2_1 x0_2 x1_2 x2_2 x0_3 x1_3 x2_3 x0_4 x1_4 x2_4 x0_5 x1_5 x2_5 x0_6 x1_6 x2_6 x0_7 x1_7 x2_7 x0_8 x1_8 x2_8 x0_9 x1_9 x2_9 x0_10 x1_10 x2_10; clear hS; have hS := Lib.hid h1; clear h1; obtain ⟨x0_0, x1_0, x2_0⟩ := hS.out.cs3 0 rfl; obtain ⟨x0_1, x1_1, x2_1⟩ := hS.out.cs3 1 rfl; obtain ⟨x0_2, x1_2, x2_2⟩ := hS.out.cs3 2 rfl; obtain ⟨x0_3, x1_3, x2_3⟩ := hS.out.cs3 3 rfl; obtain ⟨x0_4, x1_4, x2_4⟩ := hS.out.cs3 4 rfl; obtain ⟨x0_5, x1_5, x2_5⟩ := hS.out.cs3 5 rfl; obtain ⟨x0_6, x1_6, x2_6⟩ := hS.out.cs3 6 rfl; obtain ⟨x0_7, x1_7, x2_7⟩ := hS.out.cs3 7 rfl; obtain ⟨x0_8, x1_8, x2_8⟩ := hS.out.cs3 8 rfl; obtain ⟨x0_9, x1_9, x2_9⟩ := hS.out.cs3 9 rfl; obtain ⟨x0_10, x1_10, x2_10⟩ := hS.out.cs3 10 rfl)
        | (go_at_call 19; (with_reducible refine (fmay_c (q := true) (b := sg (q14).num) (k := 1) (k' := 1) (xs := limbs (mg (q14).num)) (ys := limbs (q14).den) hS.out (by repeat (first | exact List.mem_cons_self | apply List.mem_cons_of_mem)) (by repeat (first | exact List.mem_cons_self | apply List.mem_cons_of_mem)) (by decide) (by decide) (mayR_told _)).mono ?_); rintro e w' ⟨rfl, h1⟩; clear x0_0 x1_0 x2_0 x0_1 x1_1 x2_1 x0_2 x1_2 x2_2 x0_3 x1_3 x2_3 x0_4 x1_4 x2_4 x0_5 x1_5 x2_5 x0_6 x1_6 x2_6 x0_7 x1_7 x2_7 x0_8 x1_8 x2_8 x0_9 x1_9 x2_9 x0_10 x1_10 x2_10; clear hS; have hS := Lib.hid h1; clear h1; obtain ⟨x0_0, x1_0, x2_0⟩ := hS.out.cs3 0 rfl; obtain ⟨x0_1, x1_1, x2_1⟩ := hS.out.cs3 1 rfl; obtain ⟨x0_2, x1_2, x2_2⟩ := hS.out.cs3 2 rfl; obtain ⟨x0_3, x1_3, x2_3⟩ := hS.out.cs3 3 rfl; obtain ⟨x0_4, x1_4, x2_4⟩ := hS.out.cs3 4 rfl; obtain ⟨x0_5, x1_5, x2_5⟩ := hS.out.cs3 5 rfl; obtain ⟨x0_6, x1_6, x2_6⟩ := hS.out.cs3 6 rfl; obtain ⟨x0_7, x1_7, x2_7⟩ := hS.out.cs3 7 rfl; obtain ⟨x0_8, x1_8, x2_8⟩ := hS.out.cs3 8 rfl; obtain ⟨x0_9, x1_9, x2_9⟩ := hS.out.cs3 9 rfl; obtain ⟨x0_10, x1_10, x2_10⟩ := hS.out.cs3 10 rfl)
        | (go_at_call 29; (with_reducible refine (sum0 _).mono ?_); rintro e w' ho; rw [Hq15.out] at ho; obtain ⟨A37, n37, c37, A38, n38, c38, rfl, h1⟩ := hS.out.rR (Nat.le_refl _) ho; clear x0_0 x1_0 x2_0 x0_1 x1_1 x2_1 x0_2 x1_2 x2_2 x0_3 x1_3 x2_3 x0_4 x1_4 x2_4 x0_5 x1_5 x2_5 x0_6 x1_6 x2_6 x0_7 x1_7 x2_7 x0_8 x1_8 x2_8 x0_9 x1_9 x2_9 x0_10 x1_10 x2_10; clear hS; have hS := Lib.hid h1; clear h1; obtain ⟨x0_0, x1_0, x2_0⟩ := hS.out.cs3 0 rfl; obtain ⟨x0_1, x1_1, x2_1⟩ := hS.out.cs3 1 rfl; obtain ⟨x0_2, x1_2, x2_2⟩ := hS.out.cs3 2 rfl; obtain ⟨x0_3, x1_3, x2_3⟩ := hS.out.cs3 3 rfl; obtain ⟨x0_4, x1_4, x2_4⟩ := hS.out.cs3 4 rfl; obtain ⟨x0_5, x1_5, x2_5⟩ := hS.out.cs3 5 rfl; obtain ⟨x0_6, x1_6, x2_6⟩ := hS.out.cs3 6 rfl; obtain ⟨x0_7, x1_7, x2_7⟩ := hS.out.cs3 7 rfl; obtain ⟨x0_8, x1_8, x2_8⟩ := hS.out.cs3 8 rfl; obtain ⟨x0_9, x1_9, x2_9⟩ := hS.out.cs3 9 rfl; obtain ⟨x0_10, x1_10, x2_10⟩ := hS.out.cs3 10 rfl)
        | (go_at_call 23; (with_reducible refine (fshow_any _ (hS.out.frt (r := q15) (k := 60) (A := A37) (n := n37) (c := c37) (A' := A38) (m := n38) (d := c38) (by repeat (first | exact List.mem_cons_self | apply List.mem_cons_of_mem)) (by repeat (first | exact List.mem_cons_self | apply List.mem_cons_of_mem))) (by decide) (by decide) (Z := [48]) (shR_lit (by decide +kernel) (by rw [← Hq15.out]; decide +kernel))).mono ?_); rintro e w' ⟨rfl, hb⟩; have h1 := hS.out.below hb; clear hb; clear x0_0 x1_0 x2_0 x0_1 x1_1 x2_1 x0_2 x1_2 x2_2 x0_3 x1_3 x2_3 x0_4 x1_4 x2_4 x0_5 x1_5 x2_5 x0_6 x1_6 x2_6 x0_7 x1_7 x2_7 x0_8 x1_8 x2_8 x0_9 x1_9 x2_9 x0_10 x1_10 x2_10; clear hS; have hS := Lib.hid h1; clear h1; obtain ⟨x0_0, x1_0, x2_0⟩ := hS.out.cs3 0 rfl; obtain ⟨x0_1, x1_1, x2_1⟩ := hS.out.cs3 1 rfl; obtain ⟨x0_2, x1_2, x2_2⟩ := hS.out.cs3 2 rfl; obtain ⟨x0_3, x1_3, x2_3⟩ := hS.out.cs3 3 rfl; obtain ⟨x0_4, x1_4, x2_4⟩ := hS.out.cs3 4 rfl; obtain ⟨x0_5, x1_5, x2_5⟩ := hS.out.cs3 5 rfl; obtain ⟨x0_6, x1_6, x2_6⟩ := hS.out.cs3 6 rfl; obtain ⟨x0_7, x1_7, x2_7⟩ := hS.out.cs3 7 rfl; obtain ⟨x0_8, x1_8, x2_8⟩ := hS.out.cs3 8 rfl; obtain ⟨x0_9, x1_9, x2_9⟩ := hS.out.cs3 9 rfl; obtain ⟨x0_10, x1_10, x2_10⟩ := hS.out.cs3 10 rfl))
      go_wp2
      go_ret
      exact ⟨rfl, hS.out.bl⟩
set_option maxRecDepth 100000 in
theorem lifted (os : Os) (started : os.Started) (H : Type) (enc : TypeId × Value → H) :
    ReturnsInHanded {} Tryz.checked os 5 .any (fun w args => (Rows.ratNamesSpec.pre enc Tryz.prog Tryz.f5 Rows.ratNamesRow.domain false w args ∧ laidMetH Tryz.prog Rows.ratNamesRow.laid w) ∧ sizedMet enc Tryz.prog Tryz.f5 (OpenSpec.ofChange Rows.ratNamesSpec) false w args) (Rows.ratNamesSpec.post enc Tryz.prog Tryz.f5 false true false false) := by
  refine returnsInHanded_of_change_and (C := Tryz.checked) (X := fun w _ => laidMetH Tryz.prog Rows.ratNamesRow.laid w) (fun _ _ _ hh h => h.of_heap hh) own started (by kernel_rfl) Tryz.func5
    (ChangeSpec.witness_shaped (enc := enc) (C := Tryz.checked) (os := os) (X := fun w _ => laidMetH Tryz.prog Rows.ratNamesRow.laid w) false (World.laidAll Tryz.prog os Rows.ratNamesRow.laid) #[] 8 (World.laidAll_os _ _ _)
      (World.shaped_of_ZipB (by kernel_rfl) (by kernel_rfl)) (by kernel_rfl) (by kernel_rfl) (by kernel_rfl)
      (by rw [MakeChecks.laidMetH_plain _ _ _ (by kernel_rfl)]; exact laidMet_laidAll _ (by kernel_rfl) (by kernel_rfl))) ?_
  intro W base args ds gs before hval0 hW hcnd _ _ _
  have hval : ∀ (j : Nat) t v, Tryz.f5.params[j]? = some t → args[j]? = some v → Value.okWide Tryz.prog W .any base t v := hval0
  have hW' := hW
  obtain ⟨p, q, hA0, hV, hpq, hfz, hnd⟩ := hW
  have hA : DataW.TrodAll enc Tryz.prog W 0 (fun _ => true) true Tryz.f5.params.toList args.toList ds p := hA0
  rw [Tryz.params5] at hA hval
  obtain ⟨hargs, rfl, rfl⟩ := trodAll_nil hA
  obtain rfl : args = #[] := by cases args; simp_all
  obtain ⟨rfl, rfl⟩ := trodVars_none hV
  refine (walk W ).mono fun e W' ⟨he, hb⟩ => ?_
  subst he
  exact ⟨_, rfl, Frame.close laidOut hW' rfl rfl rfl Tryz.underlying4 (fun t ht => by rw [Tryz.params5] at ht; cases ht) hb⟩
theorem over : Rows.ratNamesRow.holds Tryz.pinned (OpenSpec.ofChange Rows.ratNamesSpec) :=
  OpenClaim.holds_of_wide 5 Tryz.f5 rfl rfl rfl rfl rfl rfl rfl ⟨rfl, rfl, rfl, rfl, rfl⟩ rfl rfl rfl rfl rfl (by kernel_rfl) Tryz.func5 (by kernel_rfl)
    (of_decide_eq_true (by kernel_rfl)) (by unfold Func.isWrapper; first | (rw [if_pos (by decide +kernel)]; kernel_rfl) | (rw [if_neg (by decide +kernel)]; exact ⟨rfl, rfl⟩))
    (fun os started H enc _ => lifted os started H enc)
/-- the statement -/
theorem proved : Rows.RatNamesCardSaid :=
  Claim7.holds_tied_plain_at .later [] _ _ _ _ over (fun _ h => by cases h) (by kernel_rfl) (fun _ h => by cases h) ratNames_row_tie rfl ⟨rfl, rfl⟩ (by kernel_rfl) rfl
    (fun f fn hf hfn => by
      obtain rfl : f = 5 := Option.some.inj ((show Tryz.prog.funcNamed "tombola/tombolalaw06.RatNames" = some 5 by kernel_rfl).symm.trans hf) |>.symm
      obtain rfl : fn = Tryz.f5 := (Option.some.inj (Tryz.func5.symm.trans hfn)).symm
      exact ⟨by kernel_rfl, (fun j t ht => by rw [Tryz.params5] at ht; cases ht)⟩)
    (by kernel_rfl)
#print axioms proved
end Go.Proofs.YtnebeffpidlgmaaGreatDoor.ratNames
