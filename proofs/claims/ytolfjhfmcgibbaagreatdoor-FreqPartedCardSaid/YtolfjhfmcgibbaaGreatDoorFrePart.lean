/- The drawn region of a statement of layer 10 that makes the parted weights by three appends (mk_frepart.py). -/
import Derived.Test.YtolfjhfmcgibbaaGreatDoorFreApp
import Derived.Test.YtolfjhfmcgibbaaGreatDoorRegQ
namespace Go.Proofs.YtolfjhfmcgibbaaGreatDoor
open Go.RowKit Go.Shelf
set_option linter.unusedVariables false
set_option linter.unusedSimpArgs false
set_option maxRecDepth 20000
open N
namespace N
section
variable {w : World} {A : Option Addr} {ad : Addr} {n c k : Nat} {xs : List Int} {x y : Int}
/-- the front of a slice -/
theorem Il.to (h : Il w A n c xs) (hk : k ≤ n) : Il w A k c (xs.take k) :=
  ⟨by rw [List.length_take, h.len, Nat.min_eq_left hk], Nat.le_trans hk h.cap, h.max, fun x hx => h.wf x (List.mem_of_mem_take hx), h.nil, fun j hj => by
    obtain ⟨ad, e, hlt, hc⟩ := h.at' j (by omega)
    refine ⟨ad, e, hlt, fun i hi => ?_⟩
    rw [hc i (by omega), List.getD_eq_getElem?_getD, List.getD_eq_getElem?_getD, List.getElem?_take_of_lt hi]⟩
theorem Il.pair {g : Nat} (h : BlkOk w ⟨g, [.int .i64 x, .int .i64 y], 2⟩) (hx : -9223372036854775808 ≤ x ∧ x ≤ 9223372036854775807) (hy : -9223372036854775808 ≤ y ∧ y ≤ 9223372036854775807) : Il w (some ⟨g, 0, Option.none⟩) 2 2 [x, y] := by
  refine ⟨rfl, Nat.le_refl _, by decide, fun z hz => ?_, (fun e => by cases e), fun q hq => ⟨⟨g, 0, Option.none⟩, rfl, BlkOk.lt h, fun j hj => ?_⟩⟩
  · have hz2 : -9223372036854775808 ≤ z ∧ z ≤ 9223372036854775807 := by
      simp only [List.mem_cons, List.not_mem_nil, or_false] at hz
      rcases hz with rfl | rfl
      · exact hx
      · exact hy
    have h1 : IntKind.i64.min ≤ z := hz2.1
    have h2 : z ≤ IntKind.i64.max := hz2.2
    simp [Lit.wf, h1, h2, hz2.1, hz2.2]
  · rw [N.add_plain, Nat.zero_add]
    match j, hj with
    | 0, _ => exact BlkOk.cell h rfl
    | 1, _ => exact BlkOk.cell h rfl
theorem addr_add0 (ad : Addr) : ad.add 0 = ad := by
  cases ad; simp [Addr.add]
/-- the rest of a slice -/
theorem slice_from (k : Nat) (ad : Addr) (n c : Nat) (hk : k ≤ n) (hc : n ≤ c) (hn : n ≤ 64) : ∃ AD, (∀ X : World, (Instr.sliceAt 22 (.slice (some ad) n c) (some (.int .i64 (k : Int))) none none).run Tryz.prog X = .ok (.slice AD (n - k) (c - k)) X) ∧ ∀ (W : World) (xs : List Int), Il W (some ad) n c xs → Il W AD (n - k) (c - k) (xs.drop k) := by
  have hu : Tryz.prog.underlying 22 = some (.slice (Tryz.prog.elem 22)) := by kernel_rfl
  have hsz : ∀ X : World, (Go.sizeOf (Tryz.prog.elem 22)).run Tryz.prog X = .ok 1 X := fun X => by
    obtain ⟨i0, hi, hz0, hz1, hz2⟩ := info_parts infoI64
    have he : Tryz.prog.elem 22 = 2 := by kernel_rfl
    rw [he]
    simp [Go.sizeOf, typeInfo, hi, hz1]
  by_cases hck : c = k
  · refine ⟨some ad, fun X => ?_, fun W xs h => ?_⟩
    · rw [run_sliceAt_slice _ _ _ _ _ _ hu, run_slice_l _ _ _ _ _ hu .i64 (k : Int) (by omega) (by omega), hsz]
      simp [sliced, hck]
    · refine ⟨by rw [List.length_drop, h.len], by omega, by have := h.max; omega, fun x hx => h.wf x (List.mem_of_mem_drop hx), (fun e => by cases e), fun j hj => by omega⟩
  · refine ⟨some (ad.add k), fun X => ?_, fun W xs h => ?_⟩
    · rw [run_sliceAt_slice _ _ _ _ _ _ hu, run_slice_l _ _ _ _ _ hu .i64 (k : Int) (by omega) (by omega), hsz]
      simp [sliced, hck]
    · refine ⟨by rw [List.length_drop, h.len], by omega, by have := h.max; omega, fun x hx => h.wf x (List.mem_of_mem_drop hx), (fun e => by cases e), fun j hj => ?_⟩
      obtain ⟨ad', e, hlt, hc'⟩ := h.at' k (by omega)
      injection e with e
      subst e
      refine ⟨_, rfl, by rw [add_block]; exact hlt, fun i hi => ?_⟩
      have h1 := hc' (k + i) (by omega)
      rw [Addr.add_add, h1, List.getD_eq_getElem?_getD, List.getD_eq_getElem?_getD, List.getElem?_drop]
theorem slice_to (k : Nat) (ad : Addr) (n c : Nat) (hk : k ≤ n) (hc : n ≤ c) (hn : n ≤ 64) (X : World) : (Instr.sliceAt 22 (.slice (some ad) n c) none (some (.int .i64 (k : Int))) none).run Tryz.prog X = .ok (.slice (some ad) k c) X := by
  have hu : Tryz.prog.underlying 22 = some (.slice (Tryz.prog.elem 22)) := by kernel_rfl
  have hsz : ∀ X : World, (Go.sizeOf (Tryz.prog.elem 22)).run Tryz.prog X = .ok 1 X := fun X => by
    obtain ⟨i0, hi, hz0, hz1, hz2⟩ := info_parts infoI64
    have he : Tryz.prog.elem 22 = 2 := by kernel_rfl
    rw [he]
    simp [Go.sizeOf, typeInfo, hi, hz1]
  rw [run_sliceAt_slice _ _ _ _ _ _ hu, run_slice_h _ _ _ _ _ hu .i64 (k : Int) (by omega) (by omega), hsz]
  simp [sliced, addr_add0]
end
end N
/-- a place's weight parted into two, side by side -/
structure Parted (xs ys : List Int) (k : Nat) (part : Int) : Prop where
  wt : Wt ys
  lo : ∀ j, j ≤ k → pre ys j = pre xs j
  mid : pre ys (k + 1) = pre xs k + part
  hi : ∀ j, k + 1 ≤ j → pre ys (j + 1) = pre xs j
  len : ys.length = xs.length + 1
theorem parted {xs : List Int} {k : Nat} {x part : Int} (hw : Wt xs) (hl : xs.length < 64) (hx : xs[k]? = some x) (h0 : 0 ≤ part) (h1 : part ≤ x) : Parted xs (xs.take k ++ [part, x - part] ++ xs.drop (k + 1)) k part := by
  obtain ⟨hk, e⟩ := List.getElem?_eq_some_iff.1 hx
  have hxs : xs = xs.take k ++ (x :: xs.drop (k + 1)) := by
    rw [← e, ← List.drop_eq_getElem_cons hk, List.take_append_drop]
  obtain ⟨a, ha⟩ : ∃ a, xs.take k = a := ⟨_, rfl⟩
  obtain ⟨b, hb⟩ : ∃ b, xs.drop (k + 1) = b := ⟨_, rfl⟩
  rw [ha, hb] at hxs ⊢
  have hal : a.length = k := by rw [← ha, List.length_take, Nat.min_eq_left (Nat.le_of_lt hk)]
  have hys : a ++ [part, x - part] ++ b = a ++ (part :: (x - part) :: b) := by simp
  rw [hys]
  have hlen : (a ++ (part :: (x - part) :: b)).length = xs.length + 1 := by rw [hxs]; simp; omega
  have lo : ∀ j, j ≤ k → pre (a ++ (part :: (x - part) :: b)) j = pre xs j := fun j hj => by
    rw [hxs, pre_app_le (by omega), pre_app_le (by omega)]
  have hi : ∀ j, k + 1 ≤ j → pre (a ++ (part :: (x - part) :: b)) (j + 1) = pre xs j := fun j hj => by
    obtain ⟨q, rfl⟩ : ∃ q, j = k + 1 + q := ⟨j - (k + 1), by omega⟩
    rw [hxs, ← hal, show a.length + 1 + q + 1 = a.length + (q + 1 + 1) by omega, pre_app, show a.length + 1 + q = a.length + (q + 1) by omega, pre_app, pre, pre, pre]
    omega
  have hxb := hw.ok x (List.mem_of_getElem? hx)
  refine ⟨⟨by rw [hlen]; omega, by rw [hlen]; omega, fun y hy => ?_, by rw [hlen, hi _ (by omega)]; exact hw.pos⟩, lo, ?_, hi, hlen⟩
  · rcases List.mem_append.1 hy with h | h
    · exact hw.ok y (by rw [hxs]; exact List.mem_append_left _ h)
    · rcases List.mem_cons.1 h with h | h
      · omega
      · rcases List.mem_cons.1 h with h | h
        · omega
        · exact hw.ok y (by rw [hxs]; exact List.mem_append_right _ (List.mem_cons_of_mem _ h))
  · rw [← hal, pre_app, pre, pre_zero, hxs, pre_app_le (Nat.le_refl _)]
    omega
theorem Parted.pick {xs ys : List Int} {k i : Nat} {part r : Int} (h : Parted xs ys k part) (hp : Pk xs r i) :
    (i = k ∧ (Pk ys r k ∨ Pk ys r (k + 1))) ∨ (i < k ∧ Pk ys r i) ∨ (k < i ∧ Pk ys r (i + 1)) := by
  obtain ⟨p0, p1, p2⟩ := hp
  have hl := h.len
  rcases Nat.lt_trichotomy i k with e | e | e
  · exact .inr (.inl ⟨e, by omega, by rw [h.lo i (by omega)]; exact p1, by rw [h.lo (i + 1) (by omega)]; exact p2⟩)
  · subst e
    refine .inl ⟨rfl, ?_⟩
    by_cases hr : r < pre xs i + part
    · exact .inl ⟨by omega, by rw [h.lo i (Nat.le_refl _)]; exact p1, by rw [h.mid]; exact hr⟩
    · exact .inr ⟨by omega, by rw [h.mid]; omega, by rw [h.hi (i + 1) (Nat.le_refl _)]; exact p2⟩
  · exact .inr (.inr ⟨e, by omega, by rw [h.hi i (by omega)]; exact p1, by rw [h.hi (i + 1) (by omega)]; exact p2⟩)
set_option maxHeartbeats 4000000 in
theorem part_region {Q : Exit → Act → World → Prop} {a0 : Act} {w : World} {ad : Addr} {n c k : Nat} {xs : List Int} {part x : Int} (hsz : a0.tmps.size = 125) (h0 : a0.eval (.tmp 0) = .slice (some ad) n c) (h11 : a0.eval (.tmp 11) = .int .i64 (k : Int)) (h2 : a0.eval (.tmp 2) = .int .i64 part)
    (hIl : Il w (some ad) n c xs) (hk : k < n) (hn : n ≤ 64) (hx : xs[k]? = some x) (hp0 : 0 ≤ part) (hp1 : part ≤ x) (hxb : x ≤ 1048576)
    (fin : ∀ (f : Nat → Value) (A' : Option Addr) (c' : Nat) (W : World), f 12 = .slice A' (k + 2 + (n - (k + 1))) c' → OwnI W w.heap.size A' (k + 2 + (n - (k + 1))) c' (xs.take k ++ [part, x - part] ++ xs.drop (k + 1)) → Below w.heap.size w W → Q .normal (RV.putAll a0 ([51, 52, 53, 54, 55, 56, 57, 58, 59, 60, 61, 62, 63, 64, 65, 66, 67, 68, 69, 12].map fun d => (d, f d))) W) :
    (Code.region 7 #[{ dst := some 51, op := Op.buildSlice 22 0 #[], type := 22, pos := "outright.go:143", after := #[], guard := none }, { dst := some 52, op := Op.move (Operand.tmp 0), type := 22, pos := "outright.go:143", after := #[], guard := none }, { dst := some 53, op := Op.move (Operand.tmp 11), type := 3, pos := "outright.go:143", after := #[], guard := none }, { dst := some 54, op := Op.slice 22 (Operand.tmp 52) none (some (Operand.tmp 53)) none, type := 22, pos := "outright.go:143", after := #[{ on := 1, ground := Ground.data }, { on := 2, ground := Ground.data }], guard := none }, { dst := some 55, op := Op.call { callee := Callee.builtin Builtin.append, args := #[Operand.tmp 51, Operand.tmp 54], argTypes := #[22, 22] }, type := 22, pos := "outright.go:143", after := #[{ on := 0, ground := Ground.data }, { on := 3, ground := Ground.data }], guard := none }, { dst := some 56, op := Op.move (Operand.tmp 2), type := 2, pos := "outright.go:143", after := #[], guard := none }, { dst := some 57, op := Op.move (Operand.tmp 0), type := 22, pos := "outright.go:143", after := #[], guard := none }, { dst := some 58, op := Op.move (Operand.tmp 11), type := 3, pos := "outright.go:143", after := #[], guard := none }, { dst := some 59, op := Op.indexAddr 22 (Operand.tmp 57) (Operand.tmp 58), type := 0, pos := "outright.go:143", after := #[{ on := 6, ground := Ground.data }, { on := 7, ground := Ground.data }], guard := none }, { dst := some 60, op := Op.load 2 (Operand.tmp 59), type := 2, pos := "outright.go:143", after := #[{ on := 8, ground := Ground.data }], guard := none }, { dst := some 61, op := Op.move (Operand.tmp 2), type := 2, pos := "outright.go:143", after := #[], guard := none }, { dst := some 62, op := Op.binOp BinOp.sub 2 (Operand.tmp 60) (Operand.tmp 61) 2, type := 2, pos := "outright.go:143", after := #[{ on := 9, ground := Ground.data }, { on := 10, ground := Ground.data }], guard := none }, { dst := some 63, op := Op.buildSlice 22 2 #[(0, Operand.tmp 56), (1, Operand.tmp 62)], type := 22, pos := "outright.go:143", after := #[{ on := 5, ground := Ground.data }, { on := 11, ground := Ground.data }], guard := none }, { dst := some 64, op := Op.call { callee := Callee.builtin Builtin.append, args := #[Operand.tmp 55, Operand.tmp 63], argTypes := #[22, 22] }, type := 22, pos := "outright.go:143", after := #[{ on := 4, ground := Ground.data }, { on := 12, ground := Ground.data }, { on := 4, ground := Ground.chain }], guard := none }, { dst := some 65, op := Op.move (Operand.tmp 0), type := 22, pos := "outright.go:143", after := #[], guard := none }, { dst := some 66, op := Op.move (Operand.tmp 11), type := 3, pos := "outright.go:143", after := #[], guard := none }, { dst := some 67, op := Op.binOp BinOp.add 3 (Operand.tmp 66) (Operand.const (Value.int IntKind.i64 1)) 3, type := 3, pos := "outright.go:143", after := #[{ on := 15, ground := Ground.data }], guard := none }, { dst := some 68, op := Op.slice 22 (Operand.tmp 65) (some (Operand.tmp 67)) none none, type := 22, pos := "outright.go:143", after := #[{ on := 14, ground := Ground.data }, { on := 16, ground := Ground.data }], guard := none }, { dst := some 69, op := Op.call { callee := Callee.builtin Builtin.append, args := #[Operand.tmp 64, Operand.tmp 68], argTypes := #[22, 22] }, type := 22, pos := "outright.go:143", after := #[{ on := 13, ground := Ground.data }, { on := 17, ground := Ground.data }, { on := 13, ground := Ground.chain }], guard := none }, { dst := some 12, op := Op.assign (Operand.tmp 69), type := 22, pos := "outright.go:143", after := #[{ on := 18, ground := Ground.data }, { on := 18, ground := Ground.chain }, { on := 0, ground := Ground.phase }, { on := 1, ground := Ground.phase }, { on := 2, ground := Ground.phase }, { on := 3, ground := Ground.phase }, { on := 4, ground := Ground.phase }, { on := 5, ground := Ground.phase }, { on := 6, ground := Ground.phase }, { on := 7, ground := Ground.phase }, { on := 8, ground := Ground.phase }, { on := 9, ground := Ground.phase }, { on := 10, ground := Ground.phase }, { on := 11, ground := Ground.phase }, { on := 12, ground := Ground.phase }, { on := 13, ground := Ground.phase }, { on := 14, ground := Ground.phase }, { on := 15, ground := Ground.phase }, { on := 16, ground := Ground.phase }, { on := 17, ground := Ground.phase }, { on := 18, ground := Ground.phase }], guard := none }] true).wp Tryz.prog Q a0 w := by
  obtain ⟨AD, hsl2, hsl3⟩ := slice_from (k + 1) ad n c hk hIl.cap hn
  have hsl1 := slice_to k ad n c (Nat.le_of_lt hk) hIl.cap hn
  have hsl3 := fun (W : World) (h : Il W (some ad) n c xs) => hsl3 W xs h
  obtain ⟨m1, hm1⟩ : ∃ m, n - (k + 1) = m := ⟨_, rfl⟩
  obtain ⟨d1, hd1⟩ : ∃ m, c - (k + 1) = m := ⟨_, rfl⟩
  obtain ⟨k1, hk1⟩ : ∃ m : Int, ((k + 1 : Nat) : Int) = m := ⟨_, rfl⟩
  obtain ⟨d, hd⟩ : ∃ d, x - part = d := ⟨_, rfl⟩
  rw [hm1, hd1] at hsl2
  rw [hm1, hd1] at hsl3
  rw [hk1] at hsl2
  rw [hm1, hd] at fin
  have hwk : IntKind.i64.wrap ((k : Int) + 1) = k1 := by rw [IntKind.wrap_i64]; omega
  have hwd : IntKind.i64.wrap (x - part) = d := by rw [IntKind.wrap_i64]; omega
  refine RV.wp_region_q (by kernel_rfl) [51, 52, 53, 54, 55, 56, 57, 58, 59, 60, 61, 62, 63, 64, 65, 66, 67, 68, 69, 12] [(fun L v W => ∃ g, v = .slice (some ⟨g, 0, none⟩) 0 0 ∧ (L.getD 4 false = false → w.heap.size ≤ g ∧ BlkOk W ⟨g, [], 2⟩)), RV.isq (.slice (some ad) n c), RV.isq (.int .i64 (k : Int)), RV.isq (.slice (some ad) k c), (fun L v W => ∃ A' c', v = .slice A' k c' ∧ (L.getD 13 false = false → OwnI W w.heap.size A' k c' (xs.take k))), RV.isq (.int .i64 part), RV.isq (.slice (some ad) n c), RV.isq (.int .i64 (k : Int)), RV.isq (.pointer (some (ad.add k))), RV.isq (.int .i64 x), RV.isq (.int .i64 part), RV.isq (.int .i64 d), (fun L v W => ∃ g, v = .slice (some ⟨g, 0, none⟩) 2 2 ∧ (L.getD 13 false = false → BlkOk W ⟨g, [.int .i64 part, .int .i64 d], 2⟩)), (fun L v W => ∃ A' c', v = .slice A' (k + 2) c' ∧ (L.getD 18 false = false → OwnI W w.heap.size A' (k + 2) c' (xs.take k ++ [part, d]))), RV.isq (.slice (some ad) n c), RV.isq (.int .i64 (k : Int)), RV.isq (.int .i64 k1), RV.isq (.slice AD m1 d1), (fun _ v W => ∃ A' c', v = .slice A' (k + 2 + m1) c' ∧ OwnI W w.heap.size A' (k + 2 + m1) c' (xs.take k ++ [part, d] ++ xs.drop (k + 1))), (fun _ v W => ∃ A' c', v = .slice A' (k + 2 + m1) c' ∧ OwnI W w.heap.size A' (k + 2 + m1) c' (xs.take k ++ [part, d] ++ xs.drop (k + 1)))] (fun _ W => Below w.heap.size w W) (by kernel_rfl) rfl (by decide) (by rw [hsz]; rfl) (by kernel_rfl) (Below.refl _ w).drew ?_ ?_
  · intro ii hii L fa fw hLs hout hold hp hno hoff hup hclo hI
    have hdn : ∀ (i j : Nat), (L.setIfInBounds i true).getD j false = false → L.getD j false = false := fun i j e => by
      by_cases q : j = i
      · subst q
        by_cases hl : j < L.size
        · simp [hl] at e
        · rw [Array.getD_eq_getD_getElem?, Array.getElem?_eq_none (by omega)]; rfl
      · rwa [getD_set_ne false (fun h => q h.symm)] at e
    match ii, hii with
    | 0, _ =>
      have HBW : Below fw.heap.size fw (fw.alloc (.cells #[] 2)) := (Below.refl _ fw).alloc (Nat.le_refl _) _
      refine ⟨{ dst := some 51, op := Op.buildSlice 22 0 #[], type := 22, pos := "outright.go:143", after := #[], guard := none }, _, .slice (some ⟨fw.heap.size, 0, none⟩) 0 0, fw.alloc (.cells #[] 2), rfl, rfl, ?_, ⟨fw.heap.size, rfl, fun _ => ⟨hI.size, heap_alloc_new fw _⟩⟩, hI.alloc hI.size _, fun q ψ u hj hψ h => ?_⟩
      · simp only [execOp, List.map_toArray, List.map_cons, List.map_nil]
        go_simp
      · match q, hj, hψ, h with
          | 0, hj, hψ, h => cases hψ; obtain ⟨g, e, hh⟩ := h; exact ⟨g, e, fun q => ⟨(hh (hdn _ _ q)).1, (hh (hdn _ _ q)).2.on HBW⟩⟩
          | 1, hj, hψ, h => cases hψ; exact h
          | 2, hj, hψ, h => cases hψ; exact h
          | 3, hj, hψ, h => cases hψ; exact h
          | 4, hj, hψ, h => cases hψ; obtain ⟨A', c', e, hh⟩ := h; exact ⟨A', c', e, fun q => (hh (hdn _ _ q)).below HBW⟩
          | 5, hj, hψ, h => cases hψ; exact h
          | 6, hj, hψ, h => cases hψ; exact h
          | 7, hj, hψ, h => cases hψ; exact h
          | 8, hj, hψ, h => cases hψ; exact h
          | 9, hj, hψ, h => cases hψ; exact h
          | 10, hj, hψ, h => cases hψ; exact h
          | 11, hj, hψ, h => cases hψ; exact h
          | 12, hj, hψ, h => cases hψ; obtain ⟨g, e, hh⟩ := h; exact ⟨g, e, fun q => (hh (hdn _ _ q)).on HBW⟩
          | 13, hj, hψ, h => cases hψ; obtain ⟨A', c', e, hh⟩ := h; exact ⟨A', c', e, fun q => (hh (hdn _ _ q)).below HBW⟩
          | 14, hj, hψ, h => cases hψ; exact h
          | 15, hj, hψ, h => cases hψ; exact h
          | 16, hj, hψ, h => cases hψ; exact h
          | 17, hj, hψ, h => cases hψ; exact h
          | 18, hj, hψ, h => cases hψ; obtain ⟨A', c', e, hh⟩ := h; exact ⟨A', c', e, hh.below HBW⟩
          | 19, hj, hψ, h => cases hψ; obtain ⟨A', c', e, hh⟩ := h; exact ⟨A', c', e, hh.below HBW⟩
          | j + 20, hj, hψ, h => cases hψ
    | 1, _ =>
      have p0 : fa.eval (.tmp 0) = .slice (some ad) n c := (hout 0 (by decide)).trans h0
      refine ⟨_, _, .slice (some ad) n c, fw, rfl, rfl, ?_, rfl, hI, fun q ψ u hj hψ h => ?_⟩
      · simp only [Act.eval] at p0
        simp only [execOp, Act.eval]
        go_simp
        all_goals first | omega | (intro hh; omega) | (rw [IntKind.wrap_i64]; omega)
      · match q, hj, hψ, h with
          | 0, hj, hψ, h => cases hψ; obtain ⟨g, e, hh⟩ := h; exact ⟨g, e, fun q => hh (hdn _ _ q)⟩
          | 1, hj, hψ, h => cases hψ; exact h
          | 2, hj, hψ, h => cases hψ; exact h
          | 3, hj, hψ, h => cases hψ; exact h
          | 4, hj, hψ, h => cases hψ; obtain ⟨A', c', e, hh⟩ := h; exact ⟨A', c', e, fun q => hh (hdn _ _ q)⟩
          | 5, hj, hψ, h => cases hψ; exact h
          | 6, hj, hψ, h => cases hψ; exact h
          | 7, hj, hψ, h => cases hψ; exact h
          | 8, hj, hψ, h => cases hψ; exact h
          | 9, hj, hψ, h => cases hψ; exact h
          | 10, hj, hψ, h => cases hψ; exact h
          | 11, hj, hψ, h => cases hψ; exact h
          | 12, hj, hψ, h => cases hψ; obtain ⟨g, e, hh⟩ := h; exact ⟨g, e, fun q => hh (hdn _ _ q)⟩
          | 13, hj, hψ, h => cases hψ; obtain ⟨A', c', e, hh⟩ := h; exact ⟨A', c', e, fun q => hh (hdn _ _ q)⟩
          | 14, hj, hψ, h => cases hψ; exact h
          | 15, hj, hψ, h => cases hψ; exact h
          | 16, hj, hψ, h => cases hψ; exact h
          | 17, hj, hψ, h => cases hψ; exact h
          | 18, hj, hψ, h => cases hψ; exact h
          | 19, hj, hψ, h => cases hψ; exact h
          | j + 20, hj, hψ, h => cases hψ
    | 2, _ =>
      have p11 : fa.eval (.tmp 11) = .int .i64 (k : Int) := (hout 11 (by decide)).trans h11
      refine ⟨_, _, .int .i64 (k : Int), fw, rfl, rfl, ?_, rfl, hI, fun q ψ u hj hψ h => ?_⟩
      · simp only [Act.eval] at p11
        simp only [execOp, Act.eval]
        go_simp
        all_goals first | omega | (intro hh; omega) | (rw [IntKind.wrap_i64]; omega)
      · match q, hj, hψ, h with
          | 0, hj, hψ, h => cases hψ; obtain ⟨g, e, hh⟩ := h; exact ⟨g, e, fun q => hh (hdn _ _ q)⟩
          | 1, hj, hψ, h => cases hψ; exact h
          | 2, hj, hψ, h => cases hψ; exact h
          | 3, hj, hψ, h => cases hψ; exact h
          | 4, hj, hψ, h => cases hψ; obtain ⟨A', c', e, hh⟩ := h; exact ⟨A', c', e, fun q => hh (hdn _ _ q)⟩
          | 5, hj, hψ, h => cases hψ; exact h
          | 6, hj, hψ, h => cases hψ; exact h
          | 7, hj, hψ, h => cases hψ; exact h
          | 8, hj, hψ, h => cases hψ; exact h
          | 9, hj, hψ, h => cases hψ; exact h
          | 10, hj, hψ, h => cases hψ; exact h
          | 11, hj, hψ, h => cases hψ; exact h
          | 12, hj, hψ, h => cases hψ; obtain ⟨g, e, hh⟩ := h; exact ⟨g, e, fun q => hh (hdn _ _ q)⟩
          | 13, hj, hψ, h => cases hψ; obtain ⟨A', c', e, hh⟩ := h; exact ⟨A', c', e, fun q => hh (hdn _ _ q)⟩
          | 14, hj, hψ, h => cases hψ; exact h
          | 15, hj, hψ, h => cases hψ; exact h
          | 16, hj, hψ, h => cases hψ; exact h
          | 17, hj, hψ, h => cases hψ; exact h
          | 18, hj, hψ, h => cases hψ; exact h
          | 19, hj, hψ, h => cases hψ; exact h
          | j + 20, hj, hψ, h => cases hψ
    | 3, _ =>
      have p52 : fa.eval (.tmp 52) = .slice (some ad) n c := hp 1 52 _ (by kernel_rfl) rfl rfl
      have p53 : fa.eval (.tmp 53) = .int .i64 (k : Int) := hp 2 53 _ (by kernel_rfl) rfl rfl
      refine ⟨{ dst := some 54, op := Op.slice 22 (Operand.tmp 52) none (some (Operand.tmp 53)) none, type := 22, pos := "outright.go:143", after := #[{ on := 1, ground := Ground.data }, { on := 2, ground := Ground.data }], guard := none }, _, .slice (some ad) k c, fw, rfl, rfl, ?_, rfl, hI, fun q ψ u hj hψ h => ?_⟩
      ·   simp only [execOp, Option.map_some, Option.map_none, p52, p53, Sem.run_bind, hsl1 fw, Result.andThen_ok, Sem.run_pure]
      · match q, hj, hψ, h with
          | 0, hj, hψ, h => cases hψ; obtain ⟨g, e, hh⟩ := h; exact ⟨g, e, fun q => hh (hdn _ _ q)⟩
          | 1, hj, hψ, h => cases hψ; exact h
          | 2, hj, hψ, h => cases hψ; exact h
          | 3, hj, hψ, h => cases hψ; exact h
          | 4, hj, hψ, h => cases hψ; obtain ⟨A', c', e, hh⟩ := h; exact ⟨A', c', e, fun q => hh (hdn _ _ q)⟩
          | 5, hj, hψ, h => cases hψ; exact h
          | 6, hj, hψ, h => cases hψ; exact h
          | 7, hj, hψ, h => cases hψ; exact h
          | 8, hj, hψ, h => cases hψ; exact h
          | 9, hj, hψ, h => cases hψ; exact h
          | 10, hj, hψ, h => cases hψ; exact h
          | 11, hj, hψ, h => cases hψ; exact h
          | 12, hj, hψ, h => cases hψ; obtain ⟨g, e, hh⟩ := h; exact ⟨g, e, fun q => hh (hdn _ _ q)⟩
          | 13, hj, hψ, h => cases hψ; obtain ⟨A', c', e, hh⟩ := h; exact ⟨A', c', e, fun q => hh (hdn _ _ q)⟩
          | 14, hj, hψ, h => cases hψ; exact h
          | 15, hj, hψ, h => cases hψ; exact h
          | 16, hj, hψ, h => cases hψ; exact h
          | 17, hj, hψ, h => cases hψ; exact h
          | 18, hj, hψ, h => cases hψ; exact h
          | 19, hj, hψ, h => cases hψ; exact h
          | j + 20, hj, hψ, h => cases hψ
    | 4, _ =>
      obtain ⟨g1, p51, hg1⟩ : ∃ g, fa.eval (.tmp 51) = .slice (some ⟨g, 0, none⟩) 0 0 ∧ (L.getD 4 false = false → w.heap.size ≤ g ∧ BlkOk fw ⟨g, [], 2⟩) := hp 0 51 _ (by kernel_rfl) rfl rfl
      have p54 : fa.eval (.tmp 54) = .slice (some ad) k c := hp 3 54 _ (by kernel_rfl) rfl rfl
      have hb1 := hg1 hoff
      have hown := OwnI.empty hb1.2 hb1.1
      have hil := Il.to (hIl.below hI) (Nat.le_of_lt hk)
      obtain ⟨A2, c2, W2, hrun, hO2, hgr⟩ := run_app64 w.heap.size 22 hown hil (by omega) (by omega) hI.size
      simp only [Nat.zero_add, List.nil_append] at hrun hO2
      have hI2 : Below w.heap.size w W2 := ⟨hgr.os.trans hI.os, hgr.tape.trans hI.tape, hgr.output.trans hI.output, Nat.le_trans hI.size hgr.size, fun q hq => (hgr.block q (Nat.lt_of_lt_of_le hq hI.size) (fun e => by have := (hown.row.lt q e.symm).1; omega)).trans (hI.block q hq)⟩
      refine ⟨{ dst := some 55, op := Op.call { callee := Callee.builtin Builtin.append, args := #[Operand.tmp 51, Operand.tmp 54], argTypes := #[22, 22] }, type := 22, pos := "outright.go:143", after := #[{ on := 0, ground := Ground.data }, { on := 3, ground := Ground.data }], guard := none }, _, .slice A2 k c2, W2, rfl, rfl, ?_, ⟨A2, c2, rfl, fun _ => hO2⟩, hI2, fun q ψ u hj hψ h => ?_⟩
      · unfold execOp
        simp only [resolve, invoke, builtin, Sem.run_bind, Sem.run_pure, Result.andThen_ok, List.map_toArray, List.map_cons, List.map_nil, p51, p54, hrun]
      · match q, hj, hψ, h with
          | 0, hj, hψ, h => cases hψ; obtain ⟨g, e, hh⟩ := h; exact ⟨g, e, fun q => absurd q (by simp [hLs])⟩
          | 1, hj, hψ, h => cases hψ; exact h
          | 2, hj, hψ, h => cases hψ; exact h
          | 3, hj, hψ, h => cases hψ; exact h
          | 4, hj, hψ, h => rw [hoff] at hj; cases hj
          | 5, hj, hψ, h => cases hψ; exact h
          | 6, hj, hψ, h => cases hψ; exact h
          | 7, hj, hψ, h => cases hψ; exact h
          | 8, hj, hψ, h => cases hψ; exact h
          | 9, hj, hψ, h => cases hψ; exact h
          | 10, hj, hψ, h => cases hψ; exact h
          | 11, hj, hψ, h => cases hψ; exact h
          | 12, hj, hψ, h => cases hψ; obtain ⟨g, e, hh⟩ := h; exact ⟨g, e, fun q => BlkOk.grown (hh (hdn _ _ q)) (by simpa [Value.ownBlock] using hgr) (fun e2 => by have h8 := hh (hdn _ _ q); have h9 := hb1.2; unfold BlkOk at h8 h9; simp only at h8 h9 e2; rw [e2, h9] at h8; cases h8)⟩
          | 13, hj, hψ, h => rw [hno 13 (by kernel_rfl)] at hj; cases hj
          | 14, hj, hψ, h => cases hψ; exact h
          | 15, hj, hψ, h => cases hψ; exact h
          | 16, hj, hψ, h => cases hψ; exact h
          | 17, hj, hψ, h => cases hψ; exact h
          | 18, hj, hψ, h => have h13 := hclo 18 hj 13 (by kernel_rfl); rw [hno 13 (by kernel_rfl)] at h13; cases h13
          | 19, hj, hψ, h => rw [hno 19 (by kernel_rfl)] at hj; cases hj
          | j + 20, hj, hψ, h => cases hψ
    | 5, _ =>
      have p2 : fa.eval (.tmp 2) = .int .i64 part := (hout 2 (by decide)).trans h2
      refine ⟨_, _, .int .i64 part, fw, rfl, rfl, ?_, rfl, hI, fun q ψ u hj hψ h => ?_⟩
      · simp only [Act.eval] at p2
        simp only [execOp, Act.eval]
        go_simp
        all_goals first | omega | (intro hh; omega) | (rw [IntKind.wrap_i64]; omega)
      · match q, hj, hψ, h with
          | 0, hj, hψ, h => cases hψ; obtain ⟨g, e, hh⟩ := h; exact ⟨g, e, fun q => hh (hdn _ _ q)⟩
          | 1, hj, hψ, h => cases hψ; exact h
          | 2, hj, hψ, h => cases hψ; exact h
          | 3, hj, hψ, h => cases hψ; exact h
          | 4, hj, hψ, h => cases hψ; obtain ⟨A', c', e, hh⟩ := h; exact ⟨A', c', e, fun q => hh (hdn _ _ q)⟩
          | 5, hj, hψ, h => cases hψ; exact h
          | 6, hj, hψ, h => cases hψ; exact h
          | 7, hj, hψ, h => cases hψ; exact h
          | 8, hj, hψ, h => cases hψ; exact h
          | 9, hj, hψ, h => cases hψ; exact h
          | 10, hj, hψ, h => cases hψ; exact h
          | 11, hj, hψ, h => cases hψ; exact h
          | 12, hj, hψ, h => cases hψ; obtain ⟨g, e, hh⟩ := h; exact ⟨g, e, fun q => hh (hdn _ _ q)⟩
          | 13, hj, hψ, h => cases hψ; obtain ⟨A', c', e, hh⟩ := h; exact ⟨A', c', e, fun q => hh (hdn _ _ q)⟩
          | 14, hj, hψ, h => cases hψ; exact h
          | 15, hj, hψ, h => cases hψ; exact h
          | 16, hj, hψ, h => cases hψ; exact h
          | 17, hj, hψ, h => cases hψ; exact h
          | 18, hj, hψ, h => cases hψ; exact h
          | 19, hj, hψ, h => cases hψ; exact h
          | j + 20, hj, hψ, h => cases hψ
    | 6, _ =>
      have p0 : fa.eval (.tmp 0) = .slice (some ad) n c := (hout 0 (by decide)).trans h0
      refine ⟨_, _, .slice (some ad) n c, fw, rfl, rfl, ?_, rfl, hI, fun q ψ u hj hψ h => ?_⟩
      · simp only [Act.eval] at p0
        simp only [execOp, Act.eval]
        go_simp
        all_goals first | omega | (intro hh; omega) | (rw [IntKind.wrap_i64]; omega)
      · match q, hj, hψ, h with
          | 0, hj, hψ, h => cases hψ; obtain ⟨g, e, hh⟩ := h; exact ⟨g, e, fun q => hh (hdn _ _ q)⟩
          | 1, hj, hψ, h => cases hψ; exact h
          | 2, hj, hψ, h => cases hψ; exact h
          | 3, hj, hψ, h => cases hψ; exact h
          | 4, hj, hψ, h => cases hψ; obtain ⟨A', c', e, hh⟩ := h; exact ⟨A', c', e, fun q => hh (hdn _ _ q)⟩
          | 5, hj, hψ, h => cases hψ; exact h
          | 6, hj, hψ, h => cases hψ; exact h
          | 7, hj, hψ, h => cases hψ; exact h
          | 8, hj, hψ, h => cases hψ; exact h
          | 9, hj, hψ, h => cases hψ; exact h
          | 10, hj, hψ, h => cases hψ; exact h
          | 11, hj, hψ, h => cases hψ; exact h
          | 12, hj, hψ, h => cases hψ; obtain ⟨g, e, hh⟩ := h; exact ⟨g, e, fun q => hh (hdn _ _ q)⟩
          | 13, hj, hψ, h => cases hψ; obtain ⟨A', c', e, hh⟩ := h; exact ⟨A', c', e, fun q => hh (hdn _ _ q)⟩
          | 14, hj, hψ, h => cases hψ; exact h
          | 15, hj, hψ, h => cases hψ; exact h
          | 16, hj, hψ, h => cases hψ; exact h
          | 17, hj, hψ, h => cases hψ; exact h
          | 18, hj, hψ, h => cases hψ; exact h
          | 19, hj, hψ, h => cases hψ; exact h
          | j + 20, hj, hψ, h => cases hψ
    | 7, _ =>
      have p11 : fa.eval (.tmp 11) = .int .i64 (k : Int) := (hout 11 (by decide)).trans h11
      refine ⟨_, _, .int .i64 (k : Int), fw, rfl, rfl, ?_, rfl, hI, fun q ψ u hj hψ h => ?_⟩
      · simp only [Act.eval] at p11
        simp only [execOp, Act.eval]
        go_simp
        all_goals first | omega | (intro hh; omega) | (rw [IntKind.wrap_i64]; omega)
      · match q, hj, hψ, h with
          | 0, hj, hψ, h => cases hψ; obtain ⟨g, e, hh⟩ := h; exact ⟨g, e, fun q => hh (hdn _ _ q)⟩
          | 1, hj, hψ, h => cases hψ; exact h
          | 2, hj, hψ, h => cases hψ; exact h
          | 3, hj, hψ, h => cases hψ; exact h
          | 4, hj, hψ, h => cases hψ; obtain ⟨A', c', e, hh⟩ := h; exact ⟨A', c', e, fun q => hh (hdn _ _ q)⟩
          | 5, hj, hψ, h => cases hψ; exact h
          | 6, hj, hψ, h => cases hψ; exact h
          | 7, hj, hψ, h => cases hψ; exact h
          | 8, hj, hψ, h => cases hψ; exact h
          | 9, hj, hψ, h => cases hψ; exact h
          | 10, hj, hψ, h => cases hψ; exact h
          | 11, hj, hψ, h => cases hψ; exact h
          | 12, hj, hψ, h => cases hψ; obtain ⟨g, e, hh⟩ := h; exact ⟨g, e, fun q => hh (hdn _ _ q)⟩
          | 13, hj, hψ, h => cases hψ; obtain ⟨A', c', e, hh⟩ := h; exact ⟨A', c', e, fun q => hh (hdn _ _ q)⟩
          | 14, hj, hψ, h => cases hψ; exact h
          | 15, hj, hψ, h => cases hψ; exact h
          | 16, hj, hψ, h => cases hψ; exact h
          | 17, hj, hψ, h => cases hψ; exact h
          | 18, hj, hψ, h => cases hψ; exact h
          | 19, hj, hψ, h => cases hψ; exact h
          | j + 20, hj, hψ, h => cases hψ
    | 8, _ =>
      have p57 : fa.eval (.tmp 57) = .slice (some ad) n c := hp 6 57 _ (by kernel_rfl) rfl rfl
      have p58 : fa.eval (.tmp 58) = .int .i64 (k : Int) := hp 7 58 _ (by kernel_rfl) rfl rfl
      refine ⟨_, _, .pointer (some (ad.add k)), fw, rfl, rfl, ?_, rfl, hI, fun q ψ u hj hψ h => ?_⟩
      · simp only [Act.eval] at p57 p58
        simp only [execOp, Act.eval]
        go_simp
        all_goals first | omega | (intro hh; omega) | (rw [IntKind.wrap_i64]; omega)
      · match q, hj, hψ, h with
          | 0, hj, hψ, h => cases hψ; obtain ⟨g, e, hh⟩ := h; exact ⟨g, e, fun q => hh (hdn _ _ q)⟩
          | 1, hj, hψ, h => cases hψ; exact h
          | 2, hj, hψ, h => cases hψ; exact h
          | 3, hj, hψ, h => cases hψ; exact h
          | 4, hj, hψ, h => cases hψ; obtain ⟨A', c', e, hh⟩ := h; exact ⟨A', c', e, fun q => hh (hdn _ _ q)⟩
          | 5, hj, hψ, h => cases hψ; exact h
          | 6, hj, hψ, h => cases hψ; exact h
          | 7, hj, hψ, h => cases hψ; exact h
          | 8, hj, hψ, h => cases hψ; exact h
          | 9, hj, hψ, h => cases hψ; exact h
          | 10, hj, hψ, h => cases hψ; exact h
          | 11, hj, hψ, h => cases hψ; exact h
          | 12, hj, hψ, h => cases hψ; obtain ⟨g, e, hh⟩ := h; exact ⟨g, e, fun q => hh (hdn _ _ q)⟩
          | 13, hj, hψ, h => cases hψ; obtain ⟨A', c', e, hh⟩ := h; exact ⟨A', c', e, fun q => hh (hdn _ _ q)⟩
          | 14, hj, hψ, h => cases hψ; exact h
          | 15, hj, hψ, h => cases hψ; exact h
          | 16, hj, hψ, h => cases hψ; exact h
          | 17, hj, hψ, h => cases hψ; exact h
          | 18, hj, hψ, h => cases hψ; exact h
          | 19, hj, hψ, h => cases hψ; exact h
          | j + 20, hj, hψ, h => cases hψ
    | 9, _ =>
      have p59 : fa.eval (.tmp 59) = .pointer (some (ad.add k)) := hp 8 59 _ (by kernel_rfl) rfl rfl
      refine ⟨_, _, .int .i64 x, fw, rfl, rfl, ?_, rfl, hI, fun q ψ u hj hψ h => ?_⟩
      · simp only [Act.eval] at p59
        have hcell : fw.cell? (ad.add k) = some (.int .i64 x) := (hIl.below hI).the hk hx
        simp only [execOp, Act.eval]
        go_simp
        all_goals first | omega | (intro hh; omega) | (rw [IntKind.wrap_i64]; omega)
      · match q, hj, hψ, h with
          | 0, hj, hψ, h => cases hψ; obtain ⟨g, e, hh⟩ := h; exact ⟨g, e, fun q => hh (hdn _ _ q)⟩
          | 1, hj, hψ, h => cases hψ; exact h
          | 2, hj, hψ, h => cases hψ; exact h
          | 3, hj, hψ, h => cases hψ; exact h
          | 4, hj, hψ, h => cases hψ; obtain ⟨A', c', e, hh⟩ := h; exact ⟨A', c', e, fun q => hh (hdn _ _ q)⟩
          | 5, hj, hψ, h => cases hψ; exact h
          | 6, hj, hψ, h => cases hψ; exact h
          | 7, hj, hψ, h => cases hψ; exact h
          | 8, hj, hψ, h => cases hψ; exact h
          | 9, hj, hψ, h => cases hψ; exact h
          | 10, hj, hψ, h => cases hψ; exact h
          | 11, hj, hψ, h => cases hψ; exact h
          | 12, hj, hψ, h => cases hψ; obtain ⟨g, e, hh⟩ := h; exact ⟨g, e, fun q => hh (hdn _ _ q)⟩
          | 13, hj, hψ, h => cases hψ; obtain ⟨A', c', e, hh⟩ := h; exact ⟨A', c', e, fun q => hh (hdn _ _ q)⟩
          | 14, hj, hψ, h => cases hψ; exact h
          | 15, hj, hψ, h => cases hψ; exact h
          | 16, hj, hψ, h => cases hψ; exact h
          | 17, hj, hψ, h => cases hψ; exact h
          | 18, hj, hψ, h => cases hψ; exact h
          | 19, hj, hψ, h => cases hψ; exact h
          | j + 20, hj, hψ, h => cases hψ
    | 10, _ =>
      have p2 : fa.eval (.tmp 2) = .int .i64 part := (hout 2 (by decide)).trans h2
      refine ⟨_, _, .int .i64 part, fw, rfl, rfl, ?_, rfl, hI, fun q ψ u hj hψ h => ?_⟩
      · simp only [Act.eval] at p2
        simp only [execOp, Act.eval]
        go_simp
        all_goals first | omega | (intro hh; omega) | (rw [IntKind.wrap_i64]; omega)
      · match q, hj, hψ, h with
          | 0, hj, hψ, h => cases hψ; obtain ⟨g, e, hh⟩ := h; exact ⟨g, e, fun q => hh (hdn _ _ q)⟩
          | 1, hj, hψ, h => cases hψ; exact h
          | 2, hj, hψ, h => cases hψ; exact h
          | 3, hj, hψ, h => cases hψ; exact h
          | 4, hj, hψ, h => cases hψ; obtain ⟨A', c', e, hh⟩ := h; exact ⟨A', c', e, fun q => hh (hdn _ _ q)⟩
          | 5, hj, hψ, h => cases hψ; exact h
          | 6, hj, hψ, h => cases hψ; exact h
          | 7, hj, hψ, h => cases hψ; exact h
          | 8, hj, hψ, h => cases hψ; exact h
          | 9, hj, hψ, h => cases hψ; exact h
          | 10, hj, hψ, h => cases hψ; exact h
          | 11, hj, hψ, h => cases hψ; exact h
          | 12, hj, hψ, h => cases hψ; obtain ⟨g, e, hh⟩ := h; exact ⟨g, e, fun q => hh (hdn _ _ q)⟩
          | 13, hj, hψ, h => cases hψ; obtain ⟨A', c', e, hh⟩ := h; exact ⟨A', c', e, fun q => hh (hdn _ _ q)⟩
          | 14, hj, hψ, h => cases hψ; exact h
          | 15, hj, hψ, h => cases hψ; exact h
          | 16, hj, hψ, h => cases hψ; exact h
          | 17, hj, hψ, h => cases hψ; exact h
          | 18, hj, hψ, h => cases hψ; exact h
          | 19, hj, hψ, h => cases hψ; exact h
          | j + 20, hj, hψ, h => cases hψ
    | 11, _ =>
      have p60 : fa.eval (.tmp 60) = .int .i64 x := hp 9 60 _ (by kernel_rfl) rfl rfl
      have p61 : fa.eval (.tmp 61) = .int .i64 part := hp 10 61 _ (by kernel_rfl) rfl rfl
      refine ⟨_, _, .int .i64 d, fw, rfl, rfl, ?_, rfl, hI, fun q ψ u hj hψ h => ?_⟩
      · simp only [Act.eval] at p60 p61
        simp only [execOp, Act.eval]
        go_simp
        all_goals first | omega | (intro hh; omega) | (rw [IntKind.wrap_i64]; omega)
      · match q, hj, hψ, h with
          | 0, hj, hψ, h => cases hψ; obtain ⟨g, e, hh⟩ := h; exact ⟨g, e, fun q => hh (hdn _ _ q)⟩
          | 1, hj, hψ, h => cases hψ; exact h
          | 2, hj, hψ, h => cases hψ; exact h
          | 3, hj, hψ, h => cases hψ; exact h
          | 4, hj, hψ, h => cases hψ; obtain ⟨A', c', e, hh⟩ := h; exact ⟨A', c', e, fun q => hh (hdn _ _ q)⟩
          | 5, hj, hψ, h => cases hψ; exact h
          | 6, hj, hψ, h => cases hψ; exact h
          | 7, hj, hψ, h => cases hψ; exact h
          | 8, hj, hψ, h => cases hψ; exact h
          | 9, hj, hψ, h => cases hψ; exact h
          | 10, hj, hψ, h => cases hψ; exact h
          | 11, hj, hψ, h => cases hψ; exact h
          | 12, hj, hψ, h => cases hψ; obtain ⟨g, e, hh⟩ := h; exact ⟨g, e, fun q => hh (hdn _ _ q)⟩
          | 13, hj, hψ, h => cases hψ; obtain ⟨A', c', e, hh⟩ := h; exact ⟨A', c', e, fun q => hh (hdn _ _ q)⟩
          | 14, hj, hψ, h => cases hψ; exact h
          | 15, hj, hψ, h => cases hψ; exact h
          | 16, hj, hψ, h => cases hψ; exact h
          | 17, hj, hψ, h => cases hψ; exact h
          | 18, hj, hψ, h => cases hψ; exact h
          | 19, hj, hψ, h => cases hψ; exact h
          | j + 20, hj, hψ, h => cases hψ
    | 12, _ =>
      have p56 : fa.eval (.tmp 56) = .int .i64 part := hp 5 56 _ (by kernel_rfl) rfl rfl
      have p62 : fa.eval (.tmp 62) = .int .i64 d := hp 11 62 _ (by kernel_rfl) rfl rfl
      have HBW : Below fw.heap.size fw (fw.alloc (.cells #[.int .i64 part, .int .i64 d] 2)) := (Below.refl _ fw).alloc (Nat.le_refl _) _
      refine ⟨{ dst := some 63, op := Op.buildSlice 22 2 #[(0, Operand.tmp 56), (1, Operand.tmp 62)], type := 22, pos := "outright.go:143", after := #[{ on := 5, ground := Ground.data }, { on := 11, ground := Ground.data }], guard := none }, _, .slice (some ⟨fw.heap.size, 0, none⟩) 2 2, fw.alloc (.cells #[.int .i64 part, .int .i64 d] 2), rfl, rfl, ?_, ⟨fw.heap.size, rfl, fun _ => heap_alloc_new fw _⟩, hI.alloc hI.size _, fun q ψ u hj hψ h => ?_⟩
      · simp only [execOp, List.map_toArray, List.map_cons, List.map_nil, p56, p62]
        go_simp
      · match q, hj, hψ, h with
          | 0, hj, hψ, h => cases hψ; obtain ⟨g, e, hh⟩ := h; exact ⟨g, e, fun q => ⟨(hh (hdn _ _ q)).1, (hh (hdn _ _ q)).2.on HBW⟩⟩
          | 1, hj, hψ, h => cases hψ; exact h
          | 2, hj, hψ, h => cases hψ; exact h
          | 3, hj, hψ, h => cases hψ; exact h
          | 4, hj, hψ, h => cases hψ; obtain ⟨A', c', e, hh⟩ := h; exact ⟨A', c', e, fun q => (hh (hdn _ _ q)).below HBW⟩
          | 5, hj, hψ, h => cases hψ; exact h
          | 6, hj, hψ, h => cases hψ; exact h
          | 7, hj, hψ, h => cases hψ; exact h
          | 8, hj, hψ, h => cases hψ; exact h
          | 9, hj, hψ, h => cases hψ; exact h
          | 10, hj, hψ, h => cases hψ; exact h
          | 11, hj, hψ, h => cases hψ; exact h
          | 12, hj, hψ, h => cases hψ; obtain ⟨g, e, hh⟩ := h; exact ⟨g, e, fun q => (hh (hdn _ _ q)).on HBW⟩
          | 13, hj, hψ, h => cases hψ; obtain ⟨A', c', e, hh⟩ := h; exact ⟨A', c', e, fun q => (hh (hdn _ _ q)).below HBW⟩
          | 14, hj, hψ, h => cases hψ; exact h
          | 15, hj, hψ, h => cases hψ; exact h
          | 16, hj, hψ, h => cases hψ; exact h
          | 17, hj, hψ, h => cases hψ; exact h
          | 18, hj, hψ, h => cases hψ; obtain ⟨A', c', e, hh⟩ := h; exact ⟨A', c', e, hh.below HBW⟩
          | 19, hj, hψ, h => cases hψ; obtain ⟨A', c', e, hh⟩ := h; exact ⟨A', c', e, hh.below HBW⟩
          | j + 20, hj, hψ, h => cases hψ
    | 13, _ =>
      obtain ⟨A1, c1, p55, hO1⟩ : ∃ A' c', fa.eval (.tmp 55) = .slice A' k c' ∧ (L.getD 13 false = false → OwnI fw w.heap.size A' k c' (xs.take k)) := hp 4 55 _ (by kernel_rfl) rfl rfl
      obtain ⟨g3, p63, hg3⟩ : ∃ g, fa.eval (.tmp 63) = .slice (some ⟨g, 0, none⟩) 2 2 ∧ (L.getD 13 false = false → BlkOk fw ⟨g, [.int .i64 part, .int .i64 d], 2⟩) := hp 12 63 _ (by kernel_rfl) rfl rfl
      have hown := hO1 hoff
      have hil : Il fw (some ⟨g3, 0, none⟩) 2 2 [part, d] := Il.pair (hg3 hoff) (by omega) (by omega)
      obtain ⟨A2, c2, W2, hrun, hO2, hgr⟩ := run_app64 w.heap.size 22 hown hil (by omega) (by omega) hI.size
      have hI2 : Below w.heap.size w W2 := ⟨hgr.os.trans hI.os, hgr.tape.trans hI.tape, hgr.output.trans hI.output, Nat.le_trans hI.size hgr.size, fun q hq => (hgr.block q (Nat.lt_of_lt_of_le hq hI.size) (fun e => by have := (hown.row.lt q e.symm).1; omega)).trans (hI.block q hq)⟩
      refine ⟨{ dst := some 64, op := Op.call { callee := Callee.builtin Builtin.append, args := #[Operand.tmp 55, Operand.tmp 63], argTypes := #[22, 22] }, type := 22, pos := "outright.go:143", after := #[{ on := 4, ground := Ground.data }, { on := 12, ground := Ground.data }, { on := 4, ground := Ground.chain }], guard := none }, _, .slice A2 (k + 2) c2, W2, rfl, rfl, ?_, ⟨A2, c2, rfl, fun _ => hO2⟩, hI2, fun q ψ u hj hψ h => ?_⟩
      · unfold execOp
        simp only [resolve, invoke, builtin, Sem.run_bind, Sem.run_pure, Result.andThen_ok, List.map_toArray, List.map_cons, List.map_nil, p55, p63, hrun]
      · match q, hj, hψ, h with
          | 0, hj, hψ, h => cases hψ; obtain ⟨g, e, hh⟩ := h; exact ⟨g, e, fun q => absurd (hdn _ _ q) (by rw [hup 4 (by kernel_rfl)]; decide)⟩
          | 1, hj, hψ, h => cases hψ; exact h
          | 2, hj, hψ, h => cases hψ; exact h
          | 3, hj, hψ, h => cases hψ; exact h
          | 4, hj, hψ, h => cases hψ; obtain ⟨A', c', e, hh⟩ := h; exact ⟨A', c', e, fun q => absurd q (by simp [hLs])⟩
          | 5, hj, hψ, h => cases hψ; exact h
          | 6, hj, hψ, h => cases hψ; exact h
          | 7, hj, hψ, h => cases hψ; exact h
          | 8, hj, hψ, h => cases hψ; exact h
          | 9, hj, hψ, h => cases hψ; exact h
          | 10, hj, hψ, h => cases hψ; exact h
          | 11, hj, hψ, h => cases hψ; exact h
          | 12, hj, hψ, h => cases hψ; obtain ⟨g, e, hh⟩ := h; exact ⟨g, e, fun q => absurd q (by simp [hLs])⟩
          | 13, hj, hψ, h => rw [hoff] at hj; cases hj
          | 14, hj, hψ, h => cases hψ; exact h
          | 15, hj, hψ, h => cases hψ; exact h
          | 16, hj, hψ, h => cases hψ; exact h
          | 17, hj, hψ, h => cases hψ; exact h
          | 18, hj, hψ, h => rw [hno 18 (by kernel_rfl)] at hj; cases hj
          | 19, hj, hψ, h => rw [hno 19 (by kernel_rfl)] at hj; cases hj
          | j + 20, hj, hψ, h => cases hψ
    | 14, _ =>
      have p0 : fa.eval (.tmp 0) = .slice (some ad) n c := (hout 0 (by decide)).trans h0
      refine ⟨_, _, .slice (some ad) n c, fw, rfl, rfl, ?_, rfl, hI, fun q ψ u hj hψ h => ?_⟩
      · simp only [Act.eval] at p0
        simp only [execOp, Act.eval]
        go_simp
        all_goals first | omega | (intro hh; omega) | (rw [IntKind.wrap_i64]; omega)
      · match q, hj, hψ, h with
          | 0, hj, hψ, h => cases hψ; obtain ⟨g, e, hh⟩ := h; exact ⟨g, e, fun q => hh (hdn _ _ q)⟩
          | 1, hj, hψ, h => cases hψ; exact h
          | 2, hj, hψ, h => cases hψ; exact h
          | 3, hj, hψ, h => cases hψ; exact h
          | 4, hj, hψ, h => cases hψ; obtain ⟨A', c', e, hh⟩ := h; exact ⟨A', c', e, fun q => hh (hdn _ _ q)⟩
          | 5, hj, hψ, h => cases hψ; exact h
          | 6, hj, hψ, h => cases hψ; exact h
          | 7, hj, hψ, h => cases hψ; exact h
          | 8, hj, hψ, h => cases hψ; exact h
          | 9, hj, hψ, h => cases hψ; exact h
          | 10, hj, hψ, h => cases hψ; exact h
          | 11, hj, hψ, h => cases hψ; exact h
          | 12, hj, hψ, h => cases hψ; obtain ⟨g, e, hh⟩ := h; exact ⟨g, e, fun q => hh (hdn _ _ q)⟩
          | 13, hj, hψ, h => cases hψ; obtain ⟨A', c', e, hh⟩ := h; exact ⟨A', c', e, fun q => hh (hdn _ _ q)⟩
          | 14, hj, hψ, h => cases hψ; exact h
          | 15, hj, hψ, h => cases hψ; exact h
          | 16, hj, hψ, h => cases hψ; exact h
          | 17, hj, hψ, h => cases hψ; exact h
          | 18, hj, hψ, h => cases hψ; exact h
          | 19, hj, hψ, h => cases hψ; exact h
          | j + 20, hj, hψ, h => cases hψ
    | 15, _ =>
      have p11 : fa.eval (.tmp 11) = .int .i64 (k : Int) := (hout 11 (by decide)).trans h11
      refine ⟨_, _, .int .i64 (k : Int), fw, rfl, rfl, ?_, rfl, hI, fun q ψ u hj hψ h => ?_⟩
      · simp only [Act.eval] at p11
        simp only [execOp, Act.eval]
        go_simp
        all_goals first | omega | (intro hh; omega) | (rw [IntKind.wrap_i64]; omega)
      · match q, hj, hψ, h with
          | 0, hj, hψ, h => cases hψ; obtain ⟨g, e, hh⟩ := h; exact ⟨g, e, fun q => hh (hdn _ _ q)⟩
          | 1, hj, hψ, h => cases hψ; exact h
          | 2, hj, hψ, h => cases hψ; exact h
          | 3, hj, hψ, h => cases hψ; exact h
          | 4, hj, hψ, h => cases hψ; obtain ⟨A', c', e, hh⟩ := h; exact ⟨A', c', e, fun q => hh (hdn _ _ q)⟩
          | 5, hj, hψ, h => cases hψ; exact h
          | 6, hj, hψ, h => cases hψ; exact h
          | 7, hj, hψ, h => cases hψ; exact h
          | 8, hj, hψ, h => cases hψ; exact h
          | 9, hj, hψ, h => cases hψ; exact h
          | 10, hj, hψ, h => cases hψ; exact h
          | 11, hj, hψ, h => cases hψ; exact h
          | 12, hj, hψ, h => cases hψ; obtain ⟨g, e, hh⟩ := h; exact ⟨g, e, fun q => hh (hdn _ _ q)⟩
          | 13, hj, hψ, h => cases hψ; obtain ⟨A', c', e, hh⟩ := h; exact ⟨A', c', e, fun q => hh (hdn _ _ q)⟩
          | 14, hj, hψ, h => cases hψ; exact h
          | 15, hj, hψ, h => cases hψ; exact h
          | 16, hj, hψ, h => cases hψ; exact h
          | 17, hj, hψ, h => cases hψ; exact h
          | 18, hj, hψ, h => cases hψ; exact h
          | 19, hj, hψ, h => cases hψ; exact h
          | j + 20, hj, hψ, h => cases hψ
    | 16, _ =>
      have p66 : fa.eval (.tmp 66) = .int .i64 (k : Int) := hp 15 66 _ (by kernel_rfl) rfl rfl
      refine ⟨_, _, .int .i64 k1, fw, rfl, rfl, ?_, rfl, hI, fun q ψ u hj hψ h => ?_⟩
      · simp only [Act.eval] at p66
        simp only [execOp, Act.eval]
        go_simp
        all_goals first | omega | (intro hh; omega) | (rw [IntKind.wrap_i64]; omega)
      · match q, hj, hψ, h with
          | 0, hj, hψ, h => cases hψ; obtain ⟨g, e, hh⟩ := h; exact ⟨g, e, fun q => hh (hdn _ _ q)⟩
          | 1, hj, hψ, h => cases hψ; exact h
          | 2, hj, hψ, h => cases hψ; exact h
          | 3, hj, hψ, h => cases hψ; exact h
          | 4, hj, hψ, h => cases hψ; obtain ⟨A', c', e, hh⟩ := h; exact ⟨A', c', e, fun q => hh (hdn _ _ q)⟩
          | 5, hj, hψ, h => cases hψ; exact h
          | 6, hj, hψ, h => cases hψ; exact h
          | 7, hj, hψ, h => cases hψ; exact h
          | 8, hj, hψ, h => cases hψ; exact h
          | 9, hj, hψ, h => cases hψ; exact h
          | 10, hj, hψ, h => cases hψ; exact h
          | 11, hj, hψ, h => cases hψ; exact h
          | 12, hj, hψ, h => cases hψ; obtain ⟨g, e, hh⟩ := h; exact ⟨g, e, fun q => hh (hdn _ _ q)⟩
          | 13, hj, hψ, h => cases hψ; obtain ⟨A', c', e, hh⟩ := h; exact ⟨A', c', e, fun q => hh (hdn _ _ q)⟩
          | 14, hj, hψ, h => cases hψ; exact h
          | 15, hj, hψ, h => cases hψ; exact h
          | 16, hj, hψ, h => cases hψ; exact h
          | 17, hj, hψ, h => cases hψ; exact h
          | 18, hj, hψ, h => cases hψ; exact h
          | 19, hj, hψ, h => cases hψ; exact h
          | j + 20, hj, hψ, h => cases hψ
    | 17, _ =>
      have p65 : fa.eval (.tmp 65) = .slice (some ad) n c := hp 14 65 _ (by kernel_rfl) rfl rfl
      have p67 : fa.eval (.tmp 67) = .int .i64 k1 := hp 16 67 _ (by kernel_rfl) rfl rfl
      refine ⟨{ dst := some 68, op := Op.slice 22 (Operand.tmp 65) (some (Operand.tmp 67)) none none, type := 22, pos := "outright.go:143", after := #[{ on := 14, ground := Ground.data }, { on := 16, ground := Ground.data }], guard := none }, _, .slice AD m1 d1, fw, rfl, rfl, ?_, rfl, hI, fun q ψ u hj hψ h => ?_⟩
      ·   simp only [execOp, Option.map_some, Option.map_none, p65, p67, Sem.run_bind, hsl2 fw, Result.andThen_ok, Sem.run_pure]
      · match q, hj, hψ, h with
          | 0, hj, hψ, h => cases hψ; obtain ⟨g, e, hh⟩ := h; exact ⟨g, e, fun q => hh (hdn _ _ q)⟩
          | 1, hj, hψ, h => cases hψ; exact h
          | 2, hj, hψ, h => cases hψ; exact h
          | 3, hj, hψ, h => cases hψ; exact h
          | 4, hj, hψ, h => cases hψ; obtain ⟨A', c', e, hh⟩ := h; exact ⟨A', c', e, fun q => hh (hdn _ _ q)⟩
          | 5, hj, hψ, h => cases hψ; exact h
          | 6, hj, hψ, h => cases hψ; exact h
          | 7, hj, hψ, h => cases hψ; exact h
          | 8, hj, hψ, h => cases hψ; exact h
          | 9, hj, hψ, h => cases hψ; exact h
          | 10, hj, hψ, h => cases hψ; exact h
          | 11, hj, hψ, h => cases hψ; exact h
          | 12, hj, hψ, h => cases hψ; obtain ⟨g, e, hh⟩ := h; exact ⟨g, e, fun q => hh (hdn _ _ q)⟩
          | 13, hj, hψ, h => cases hψ; obtain ⟨A', c', e, hh⟩ := h; exact ⟨A', c', e, fun q => hh (hdn _ _ q)⟩
          | 14, hj, hψ, h => cases hψ; exact h
          | 15, hj, hψ, h => cases hψ; exact h
          | 16, hj, hψ, h => cases hψ; exact h
          | 17, hj, hψ, h => cases hψ; exact h
          | 18, hj, hψ, h => cases hψ; exact h
          | 19, hj, hψ, h => cases hψ; exact h
          | j + 20, hj, hψ, h => cases hψ
    | 18, _ =>
      obtain ⟨A1, c1, p64, hO1⟩ : ∃ A' c', fa.eval (.tmp 64) = .slice A' (k + 2) c' ∧ (L.getD 18 false = false → OwnI fw w.heap.size A' (k + 2) c' (xs.take k ++ [part, d])) := hp 13 64 _ (by kernel_rfl) rfl rfl
      have p68 : fa.eval (.tmp 68) = .slice AD m1 d1 := hp 17 68 _ (by kernel_rfl) rfl rfl
      have hown := hO1 hoff
      have hil := hsl3 fw (hIl.below hI)
      obtain ⟨A2, c2, W2, hrun, hO2, hgr⟩ := run_app64 w.heap.size 22 hown hil (by omega) (by omega) hI.size
      have hI2 : Below w.heap.size w W2 := ⟨hgr.os.trans hI.os, hgr.tape.trans hI.tape, hgr.output.trans hI.output, Nat.le_trans hI.size hgr.size, fun q hq => (hgr.block q (Nat.lt_of_lt_of_le hq hI.size) (fun e => by have := (hown.row.lt q e.symm).1; omega)).trans (hI.block q hq)⟩
      refine ⟨{ dst := some 69, op := Op.call { callee := Callee.builtin Builtin.append, args := #[Operand.tmp 64, Operand.tmp 68], argTypes := #[22, 22] }, type := 22, pos := "outright.go:143", after := #[{ on := 13, ground := Ground.data }, { on := 17, ground := Ground.data }, { on := 13, ground := Ground.chain }], guard := none }, _, .slice A2 (k + 2 + m1) c2, W2, rfl, rfl, ?_, ⟨A2, c2, rfl, hO2⟩, hI2, fun q ψ u hj hψ h => ?_⟩
      · unfold execOp
        simp only [resolve, invoke, builtin, Sem.run_bind, Sem.run_pure, Result.andThen_ok, List.map_toArray, List.map_cons, List.map_nil, p64, p68, hrun]
      · match q, hj, hψ, h with
          | 0, hj, hψ, h => cases hψ; obtain ⟨g, e, hh⟩ := h; exact ⟨g, e, fun q => absurd (hdn _ _ q) (by rw [hclo 13 (hup 13 (by kernel_rfl)) 4 (by kernel_rfl)]; decide)⟩
          | 1, hj, hψ, h => cases hψ; exact h
          | 2, hj, hψ, h => cases hψ; exact h
          | 3, hj, hψ, h => cases hψ; exact h
          | 4, hj, hψ, h => cases hψ; obtain ⟨A', c', e, hh⟩ := h; exact ⟨A', c', e, fun q => absurd (hdn _ _ q) (by rw [hup 13 (by kernel_rfl)]; decide)⟩
          | 5, hj, hψ, h => cases hψ; exact h
          | 6, hj, hψ, h => cases hψ; exact h
          | 7, hj, hψ, h => cases hψ; exact h
          | 8, hj, hψ, h => cases hψ; exact h
          | 9, hj, hψ, h => cases hψ; exact h
          | 10, hj, hψ, h => cases hψ; exact h
          | 11, hj, hψ, h => cases hψ; exact h
          | 12, hj, hψ, h => cases hψ; obtain ⟨g, e, hh⟩ := h; exact ⟨g, e, fun q => absurd (hdn _ _ q) (by rw [hup 13 (by kernel_rfl)]; decide)⟩
          | 13, hj, hψ, h => cases hψ; obtain ⟨A', c', e, hh⟩ := h; exact ⟨A', c', e, fun q => absurd q (by simp [hLs])⟩
          | 14, hj, hψ, h => cases hψ; exact h
          | 15, hj, hψ, h => cases hψ; exact h
          | 16, hj, hψ, h => cases hψ; exact h
          | 17, hj, hψ, h => cases hψ; exact h
          | 18, hj, hψ, h => rw [hoff] at hj; cases hj
          | 19, hj, hψ, h => rw [hno 19 (by kernel_rfl)] at hj; cases hj
          | j + 20, hj, hψ, h => cases hψ
    | 19, _ =>
      have p69 : ∃ A' c', fa.eval (.tmp 69) = .slice A' (k + 2 + m1) c' ∧ OwnI fw w.heap.size A' (k + 2 + m1) c' (xs.take k ++ [part, d] ++ xs.drop (k + 1)) := hp 18 69 _ (by kernel_rfl) rfl rfl
      refine ⟨_, _, fa.eval (.tmp 69), fw, rfl, rfl, ?_, p69, hI, fun q ψ u hj hψ h => ?_⟩
      · rfl
      · match q, hj, hψ, h with
          | 0, hj, hψ, h => cases hψ; obtain ⟨g, e, hh⟩ := h; exact ⟨g, e, fun q => hh (hdn _ _ q)⟩
          | 1, hj, hψ, h => cases hψ; exact h
          | 2, hj, hψ, h => cases hψ; exact h
          | 3, hj, hψ, h => cases hψ; exact h
          | 4, hj, hψ, h => cases hψ; obtain ⟨A', c', e, hh⟩ := h; exact ⟨A', c', e, fun q => hh (hdn _ _ q)⟩
          | 5, hj, hψ, h => cases hψ; exact h
          | 6, hj, hψ, h => cases hψ; exact h
          | 7, hj, hψ, h => cases hψ; exact h
          | 8, hj, hψ, h => cases hψ; exact h
          | 9, hj, hψ, h => cases hψ; exact h
          | 10, hj, hψ, h => cases hψ; exact h
          | 11, hj, hψ, h => cases hψ; exact h
          | 12, hj, hψ, h => cases hψ; obtain ⟨g, e, hh⟩ := h; exact ⟨g, e, fun q => hh (hdn _ _ q)⟩
          | 13, hj, hψ, h => cases hψ; obtain ⟨A', c', e, hh⟩ := h; exact ⟨A', c', e, fun q => hh (hdn _ _ q)⟩
          | 14, hj, hψ, h => cases hψ; exact h
          | 15, hj, hψ, h => cases hψ; exact h
          | 16, hj, hψ, h => cases hψ; exact h
          | 17, hj, hψ, h => cases hψ; exact h
          | 18, hj, hψ, h => cases hψ; exact h
          | 19, hj, hψ, h => cases hψ; exact h
          | j + 20, hj, hψ, h => cases hψ
    | i + 20, hi => exact absurd hi (by show ¬ (i + 20 < 20); omega)
  · intro f L W hf hI
    obtain ⟨A', c', e, ho⟩ : ∃ A' c', f 12 = .slice A' (k + 2 + m1) c' ∧ OwnI W w.heap.size A' (k + 2 + m1) c' (xs.take k ++ [part, d] ++ xs.drop (k + 1)) := hf 19 12 _ rfl rfl
    exact fin f A' c' W e ho hI
end Go.Proofs.YtolfjhfmcgibbaaGreatDoor
