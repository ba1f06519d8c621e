/- awake of layer 7's laws holds, over this translation. -/
import Derived.Test.YtcpkkceoobioiaaDoorBitPart
import Derived.Test.YtcpkkceoobioiaaDoorBitAll
namespace Go.Proofs.YtcpkkceoobioiaaDoor
open Go.RowKit Go.Shelf
set_option linter.unusedVariables false
set_option linter.unusedSimpArgs false
set_option maxRecDepth 20000
open N
theorem aw1 (W : World) : Calls Tryd.prog 22 #[.string ⟨([48, 49, 49] : List UInt8).toArray⟩] W fun e w' => e = .returned (.tuple #[.string ⟨([49, 48, 48] : List UInt8).toArray⟩, .bool true]) ∧ Below W.heap.size W w' := by
  have h := next_any W [48, 49, 49] (by decide)
  rw [show nextB [48, 49, 49] = ([49, 48, 48], true) by decide +kernel] at h
  exact h
theorem aw2 (W : World) : Calls Tryd.prog 22 #[.string ⟨([49, 49] : List UInt8).toArray⟩] W fun e w' => e = .returned (.tuple #[.string ⟨([48, 48, 48] : List UInt8).toArray⟩, .bool true]) ∧ Below W.heap.size W w' := by
  have h := next_any W [49, 49] (by decide)
  rw [show nextB [49, 49] = ([48, 48, 48], true) by decide +kernel] at h
  exact h
theorem aw3 (W : World) : Calls Tryd.prog 24 #[.string ⟨([49, 48, 49, 49, 48] : List UInt8).toArray⟩, .int .i64 1, .int .i64 2] W fun e w' => e = .returned (.tuple #[.string ⟨([49, 49, 48] : List UInt8).toArray⟩, .int .i64 0]) ∧ Below W.heap.size W w' := by
  have h := cut_any W [49, 48, 49, 49, 48] (by decide) 1 2 (by decide) (by decide)
  rw [show cutV [49, 48, 49, 49, 48] 1 2 = [49, 49, 48] by decide +kernel, show partE [49, 48, 49, 49, 48] 1 2 = 0 by decide +kernel] at h
  exact h
theorem aw4 (W : World) : Calls Tryd.prog 26 #[.string ⟨([49, 48, 49, 49, 48] : List UInt8).toArray⟩, .int .i64 2, .int .i64 2] W fun e w' => e = .returned (.tuple #[.string ⟨([49, 48, 48, 48, 48] : List UInt8).toArray⟩, .int .i64 0]) ∧ Below W.heap.size W w' := by
  have h := clear_any W [49, 48, 49, 49, 48] (by decide) 2 2 (by decide) (by decide)
  rw [show clearV [49, 48, 49, 49, 48] 2 2 = [49, 48, 48, 48, 48] by decide +kernel, show partE [49, 48, 49, 49, 48] 2 2 = 0 by decide +kernel] at h
  exact h
theorem aw5 (W : World) : Calls Tryd.prog 28 #[.string ⟨([49, 48, 49, 49, 48] : List UInt8).toArray⟩, .int .i64 2] W fun e w' => e = .returned (.tuple #[.string ⟨([49, 48, 48, 49, 49] : List UInt8).toArray⟩, .int .i64 0]) ∧ Below W.heap.size W w' := by
  have h := down_any W [49, 48, 49, 49, 48] (by decide) 2 (by decide)
  rw [show downV [49, 48, 49, 49, 48] 2 = [49, 48, 48, 49, 49] by decide +kernel, show downE [49, 48, 49, 49, 48] 2 = 0 by decide +kernel] at h
  exact h
theorem aw6 (W : World) : Calls Tryd.prog 28 #[.string ⟨([49, 48, 49, 49, 48] : List UInt8).toArray⟩, .int .i64 1] W fun e w' => e = .returned (.tuple #[.string ⟨#[]⟩, .int .i64 1]) ∧ Below W.heap.size W w' := by
  have h := down_any W [49, 48, 49, 49, 48] (by decide) 1 (by decide)
  rw [show downV [49, 48, 49, 49, 48] 1 = [] by decide +kernel, show downE [49, 48, 49, 49, 48] 1 = 1 by decide +kernel] at h
  exact h
theorem aw7 (W : World) : Calls Tryd.prog 14 #[.string ⟨([48, 49, 48, 49] : List UInt8).toArray⟩] W fun e w' => e = .returned (.tuple #[.int .u64 5, .int .i64 0]) ∧ Below W.heap.size W w' := by
  have h := num_any W [48, 49, 48, 49] (by decide)
  rw [show nuV [48, 49, 48, 49] = 5 by decide +kernel, show nuE [48, 49, 48, 49] = 0 by decide +kernel] at h
  exact h
theorem aw8 (W : World) : Calls Tryd.prog 16 #[.int .u64 5, .int .i64 4] W fun e w' => e = .returned (.tuple #[.string ⟨([48, 49, 48, 49] : List UInt8).toArray⟩, .int .i64 0]) ∧ Below W.heap.size W w' := by
  have h := of_any W 5 4 (by decide) (by decide)
  rw [show ofV 5 4 = [48, 49, 48, 49] by decide +kernel, show ofE 5 4 = 0 by decide +kernel] at h
  exact h
theorem aw9 (W : World) : Calls Tryd.prog 16 #[.int .u64 5, .int .i64 2] W fun e w' => e = .returned (.tuple #[.string ⟨#[]⟩, .int .i64 1]) ∧ Below W.heap.size W w' := by
  have h := of_any W 5 2 (by decide) (by decide)
  rw [show ofV 5 2 = [] by decide +kernel, show ofE 5 2 = 1 by decide +kernel] at h
  exact h
theorem aw10 (W : World) : Calls Tryd.prog 20 #[.string ⟨([49] : List UInt8).toArray⟩, .string ⟨([48, 48] : List UInt8).toArray⟩] W fun e w' => e = .returned (.int .i64 (-1)) ∧ w' = W := by
  have h := cmp_any W [49] [48, 48] (by decide) (by decide)
  rw [show cmpB [49] [48, 48] = -1 by decide +kernel] at h
  exact h
theorem aw11 (W : World) : Calls Tryd.prog 20 #[.string ⟨([48, 49] : List UInt8).toArray⟩, .string ⟨([49, 48] : List UInt8).toArray⟩] W fun e w' => e = .returned (.int .i64 (-1)) ∧ w' = W := by
  have h := cmp_any W [48, 49] [49, 48] (by decide) (by decide)
  rw [show cmpB [48, 49] [49, 48] = -1 by decide +kernel] at h
  exact h
theorem aw12 (W : World) : Calls Tryd.prog 20 #[.string ⟨([49] : List UInt8).toArray⟩, .string ⟨([49] : List UInt8).toArray⟩] W fun e w' => e = .returned (.int .i64 (0)) ∧ w' = W := by
  have h := cmp_any W [49] [49] (by decide) (by decide)
  rw [show cmpB [49] [49] = 0 by decide +kernel] at h
  exact h
theorem aw13 (W : World) : Calls Tryd.prog 18 #[.string ⟨#[]⟩] W fun e w' => e = .returned (.bool true) ∧ Below W.heap.size W w' := by
  have h := is_any W [] (by decide)
  rw [show isB [] = true by decide +kernel] at h
  exact h
theorem aw14 (W : World) : Calls Tryd.prog 18 #[.string ⟨([50] : List UInt8).toArray⟩] W fun e w' => e = .returned (.bool false) ∧ Below W.heap.size W w' := by
  have h := is_any W [50] (by decide)
  rw [show isB [50] = false by decide +kernel] at h
  exact h
theorem eql_nilFunc {P : Program} {t : TypeId} {ps rs : Array TypeId} {v : Bool} (h : P.underlying t = some (.func ps rs v)) (f : Fn) (a b : Array Value) (w : World) : (binOp .eql t (.func f a b) .nilFunc).run P w = .ok (.bool false) w := by
  unfold binOp Op.equal Op.maxDepth
  obtain ⟨d, hd⟩ : ∃ d, (10000 : Nat) = d + 1 := ⟨9999, rfl⟩
  rw [hd]
  simp [Op.equalIn, run_underlying h, Result.andThen, Sem.run_bind]
theorem allS_mem {k : Nat} {s : List UInt8} (h : s ∈ allS k) : s.length = k := by
  rw [allS_range] at h
  obtain ⟨j, _, rfl⟩ := List.mem_map.1 h
  exact ofB_length _ _
def rowB (pre : List (List UInt8)) : List UInt8 := pre.flatMap fun s => s ++ [32]
theorem rowB_snoc (pre : List (List UInt8)) (x : List UInt8) : rowB (pre ++ [x]) = rowB pre ++ x ++ [32] := by unfold rowB; simp
theorem rowB_len {pre : List (List UInt8)} {n : Nat} (h : ∀ s ∈ pre, s.length = n) : (rowB pre).length = (n + 1) * pre.length := by
  induction pre with
  | nil => simp [rowB]
  | cons s pre ih =>
    have := ih (fun t ht => h t (List.mem_cons_of_mem _ ht))
    unfold rowB at this ⊢
    rw [List.flatMap_cons, List.length_append, this, List.length_append, h s List.mem_cons_self]
    show n + 1 + (n + 1) * pre.length = (n + 1) * (pre.length + 1)
    rw [Nat.mul_succ]; omega
attribute [local go_sem] Oper.semAt_some
set_option maxRecDepth 100000 in
set_option maxHeartbeats 8000000 in
theorem bawake (w : World) : Calls Tryd.prog 13 #[] w fun e w' => e = .returned (.bool true) ∧ Below w.heap.size w w' := by
  have HB := Lib.hid (Below.refl w.heap.size w)
  have hnf : ∀ (f : Fn) (a b : Array Value) (W : World), (binOp .eql 41 (.func f a b) .nilFunc).run Tryd.prog W = .ok (.bool false) W := fun f a b W => eql_nilFunc Tryd.underlying41 f a b W
  refine calls_of_wp_z 6 Tryd.func13 rfl ?_
  simp only [Tryd.ntmps13, List.size_toArray, List.length_cons, List.length_nil, Nat.reduceAdd, Nat.reduceSub, Array.replicate_succ, Array.replicate_zero, List.push_toArray, List.append_toArray, List.nil_append, List.cons_append]
  go_wp2_with (first
    | (go_at_call_of 22 (Value.string ⟨([48, 49, 49] : List UInt8).toArray⟩); refine (aw1 _).mono ?_; rintro e w1 ⟨rfl, hb⟩; have HB2 := Lib.hid (HB.out.trans (hb.mono HB.out.size)); clear hb HB; have HB := HB2; clear HB2)
    | (go_at_call_of 22 (Value.string ⟨([49, 49] : List UInt8).toArray⟩); refine (aw2 _).mono ?_; rintro e w1 ⟨rfl, hb⟩; have HB2 := Lib.hid (HB.out.trans (hb.mono HB.out.size)); clear hb HB; have HB := HB2; clear HB2)
    | (go_at_call 24; refine (aw3 _).mono ?_; rintro e w1 ⟨rfl, hb⟩; have HB2 := Lib.hid (HB.out.trans (hb.mono HB.out.size)); clear hb HB; have HB := HB2; clear HB2)
    | (go_at_call 26; refine (aw4 _).mono ?_; rintro e w1 ⟨rfl, hb⟩; have HB2 := Lib.hid (HB.out.trans (hb.mono HB.out.size)); clear hb HB; have HB := HB2; clear HB2)
    | (go_at_call_of 28 (Value.int .i64 2); refine (aw5 _).mono ?_; rintro e w1 ⟨rfl, hb⟩; have HB2 := Lib.hid (HB.out.trans (hb.mono HB.out.size)); clear hb HB; have HB := HB2; clear HB2)
    | (go_at_call_of 28 (Value.int .i64 1); refine (aw6 _).mono ?_; rintro e w1 ⟨rfl, hb⟩; have HB2 := Lib.hid (HB.out.trans (hb.mono HB.out.size)); clear hb HB; have HB := HB2; clear HB2)
    | (go_at_call 14; refine (aw7 _).mono ?_; rintro e w1 ⟨rfl, hb⟩; have HB2 := Lib.hid (HB.out.trans (hb.mono HB.out.size)); clear hb HB; have HB := HB2; clear HB2)
    | (go_at_call_of 16 (Value.int .i64 4); refine (aw8 _).mono ?_; rintro e w1 ⟨rfl, hb⟩; have HB2 := Lib.hid (HB.out.trans (hb.mono HB.out.size)); clear hb HB; have HB := HB2; clear HB2)
    | (go_at_call_of 16 (Value.int .i64 2); refine (aw9 _).mono ?_; rintro e w1 ⟨rfl, hb⟩; have HB2 := Lib.hid (HB.out.trans (hb.mono HB.out.size)); clear hb HB; have HB := HB2; clear HB2)
    | (go_at_call 31; refine (all_any _ _).mono ?_; rintro e w1 ⟨rfl, rfl⟩))
  refine (wpIn_wide (n := 6)).1 ?_
  refine gen_w fun L hL => ?_
  have hsL : L.heap.size = w1.heap.size + 2 := by rw [hL]; simp
  have hcL : L.cell? ⟨w1.heap.size, 0, none⟩ = some (.string ⟨#[]⟩) ∧ L.frozen? ⟨w1.heap.size, 0, none⟩ = false ∧ L.cell? ⟨w1.heap.size + 1, 0, none⟩ = some (.int .i64 2) := by
    rw [hL]; refine ⟨?_, ?_, ?_⟩ <;> go_simp
  have hb0 : Below w.heap.size w L := by rw [hL]; exact ((HB.out.alloc HB.out.size _).alloc (Nat.le_trans HB.out.size (by simp)) _)
  have hfar : Far L.heap.size (fun (pre : List (List UInt8)) (W : World) => W.cell? ⟨w1.heap.size, 0, none⟩ = some (.string ⟨(rowB pre).toArray⟩) ∧ W.frozen? ⟨w1.heap.size, 0, none⟩ = false ∧ Below w.heap.size w W) := fun s A C hs hb =>
    ⟨(hb.cell (p := ⟨w1.heap.size, 0, none⟩) (by show w1.heap.size < _; omega)).trans hs.1, (hb.frozen (p := ⟨w1.heap.size, 0, none⟩) (by show w1.heap.size < _; omega)).trans hs.2.1, hs.2.2.trans (hb.mono hb0.size)⟩
  have hw1 := HB.out.size
  clear hL HB
  refine wp_range1 (gf := 43) (lb := #[.pointer (some ⟨w1.heap.size + 1, 0, none⟩)]) rfl (enters_of Tryd.func43 (by kernel_rfl) rfl) (enc := fun l : List UInt8 => .string ⟨l.toArray⟩)
    (all_iter 2 (by decide) (w1.heap.size + 1) L (by omega) hcL.2.2) (Below.refl _ _) _ (fun _ _ _ => False) hfar (fun _ _ _ _ h _ => h) ⟨hcL.1, hcL.2.1, hb0⟩ (of_decide_eq_true rfl) ?body ?done ?stop
  case body =>
    rintro l pre x W ⟨hc, hf, hb⟩ ⟨post, hall⟩ hsz
    have hm : ∀ s ∈ pre ++ [x], s.length = 2 := fun s hs => allS_mem (by rw [hall]; simp at hs ⊢; rcases hs with h | h <;> simp [h])
    have hxl : x.length = 2 := hm x (by simp)
    have hpl := rowB_len (pre := pre) (fun s hs => hm s (by simp [hs]))
    have hp4 := (allS_at hall).2
    obtain ⟨r, hr⟩ : ∃ r, rowB pre = r := ⟨_, rfl⟩
    obtain ⟨r1, hr1⟩ : ∃ r1, r ++ x = r1 := ⟨_, rfl⟩
    obtain ⟨r2, hr2⟩ : ∃ r2, r1 ++ [32] = r2 := ⟨_, rfl⟩
    have hsn : rowB (pre ++ [x]) = r2 := by rw [rowB_snoc, hr, hr1, hr2]
    rw [hr] at hc hpl
    have hrl : r.length ≤ 9 := by omega
    have hr1l : r1.length = r.length + 2 := by rw [← hr1, List.length_append, hxl]
    have hap1 : (⟨r.toArray⟩ : ByteArray) ++ ⟨x.toArray⟩ = ⟨r1.toArray⟩ := by rw [← hr1]; exact ByteArray.mk_append_mk r x
    have hap2 : (⟨r1.toArray⟩ : ByteArray) ++ ⟨#[32]⟩ = ⟨r2.toArray⟩ := by rw [← hr2]; exact ByteArray.mk_append_mk r1 [32]
    have hs1 : ¬ (9223372036854775807 < r.length + 2) := by omega
    have hs2 : ¬ (9223372036854775807 < r.length + 2 + 1) := by omega
    have HS := Lib.hid hsn
    have HBi := Lib.hid hb
    clear hr hr1 hr2 hm hall hp4 hpl hsn hb
    gi_wp2
    refine ⟨Above.set _ _ (by show w1.heap.size < _; omega), ?_, ?_, ?_⟩
    · rw [HS.out]; exact World.cell?_setCell_same' _ _ _ (by rw [hc]; rfl)
    · rw [World.frozen?_setCell]; exact hf
    · exact HBi.out.setCell (p := ⟨w1.heap.size, 0, none⟩) hw1 _
  case done =>
    rintro D Wd hD ⟨hc, hf, hb⟩ hK
    rw [show rowB (allS 2) = [48, 48, 32, 48, 49, 32, 49, 48, 32, 49, 49, 32] by decide +kernel] at hc
    have HB := Lib.hid hb
    have HD := Lib.hid (Below.refl Wd.heap.size Wd)
    have HK := Lib.hid hK
    clear hb hK
    go_wp2_with (first
      | (go_at_call_of 20 (Value.string ⟨([48, 48] : List UInt8).toArray⟩); refine (aw10 _).mono ?_; rintro e w2 ⟨rfl, rfl⟩)
      | (go_at_call_of 20 (Value.string ⟨([49, 48] : List UInt8).toArray⟩); refine (aw11 _).mono ?_; rintro e w2 ⟨rfl, rfl⟩)
      | (go_at_call_of 20 (Value.string ⟨([49] : List UInt8).toArray⟩); refine (aw12 _).mono ?_; rintro e w2 ⟨rfl, rfl⟩)
      | (go_at_call_of 18 (Value.string ⟨#[]⟩); refine (aw13 _).mono ?_; rintro e w1 ⟨rfl, hb⟩; have HBX := Lib.hid hb; have HB2 := Lib.hid (HB.out.trans (hb.mono HB.out.size)); clear hb HB; have HB := HB2; clear HB2; have HD2 := Lib.hid (HD.out.trans (HBX.out.mono HD.out.size)); clear HBX HD; have HD := HD2; clear HD2)
      | (go_at_call_of 18 (Value.string ⟨([50] : List UInt8).toArray⟩); refine (aw14 _).mono ?_; rintro e w1 ⟨rfl, hb⟩; have HBX := Lib.hid hb; have HB2 := Lib.hid (HB.out.trans (hb.mono HB.out.size)); clear hb HB; have HB := HB2; clear HB2; have HD2 := Lib.hid (HD.out.trans (HBX.out.mono HD.out.size)); clear HBX HD; have HD := HD2; clear HD2))
    have hlt := (Array.getElem?_eq_some_iff.1 HK.out).1
    have hK' := (HD.out.block D hlt).trans HK.out
    refine ⟨by simp, .inl ⟨_, _, rfl, run_takeDeferred hK', ?_⟩⟩
    exact ⟨.bool true, by simp [results, Tryd.f13, go_sem], rfl, HB.out.trans (below_put _ _ (by omega))⟩
  case stop =>
    rintro D c pre x post Wd hD hall h hK
    exact h.elim
end Go.Proofs.YtcpkkceoobioiaaDoor
