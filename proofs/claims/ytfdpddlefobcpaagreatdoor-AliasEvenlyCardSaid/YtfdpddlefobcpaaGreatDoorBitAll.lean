/- All of the program's layer 7: what it promises a loop, over this translation. -/
import Derived.Test.YtfdpddlefobcpaaGreatDoorBitProg
import Derived.Test.YtfdpddlefobcpaaGreatDoorIter
namespace Go.Proofs.YtfdpddlefobcpaaGreatDoor
open Go.RowKit Go.Shelf
set_option linter.unusedVariables false
set_option linter.unusedSimpArgs false
set_option maxRecDepth 20000
open N
attribute [local go_sem] Oper.semAt_some
theorem all_any (w : World) (n : Int) :
    Calls Tryz.prog 29 #[.int .i64 n] w fun e w' => e = .returned (.func (.func 52) #[] #[.pointer (some ⟨w.heap.size, 0, none⟩)]) ∧ w' = w.alloc (.cells #[.int .i64 n] 3) := by
  go_enter Tryz.func29, Tryz.ntmps29
  go_wp2
  go_ret
  exact ⟨rfl, rfl⟩
namespace N
def dbl (pre : List (List UInt8)) : List (List UInt8) := pre.flatMap fun s => [s ++ [48], s ++ [49]]
theorem dbl_snoc (pre : List (List UInt8)) (x : List UInt8) : dbl (pre ++ [x]) = dbl pre ++ [x ++ [48]] ++ [x ++ [49]] := by
  unfold dbl; rw [List.flatMap_append]; simp
def encS (l : List UInt8) : Array Value := #[.string ⟨l.toArray⟩]
end N
set_option maxHeartbeats 4000000 in
theorem all_none (n : Int) (hn : n < 0 ∨ 12 < n) (Bn : Nat) (w : World) (hlt : Bn < w.heap.size) (hc : w.cell? ⟨Bn, 0, none⟩ = some (.int .i64 n)) :
    IterOf Tryz.prog 52 #[.pointer (some ⟨Bn, 0, none⟩)] encS [] w := by
  intro m l J Jx W hW hJ hJx hY h0
  have hcW : W.cell? ⟨Bn, 0, none⟩ = some (.int .i64 n) := (hW.cell (p := ⟨Bn, 0, none⟩) hlt).trans hc
  have hltW : Bn < W.heap.size := Nat.lt_of_lt_of_le hlt hW.size
  have hb := (Below.refl W.heap.size W).alloc (Nat.le_refl _) (.cells #[.func (.yield l) #[] #[]] 70)
  have hc1 : (W.alloc (.cells #[.func (.yield l) #[] #[]] 70)).cell? ⟨Bn, 0, none⟩ = some (.int .i64 n) := (hb.cell (p := ⟨Bn, 0, none⟩) hltW).trans hcW
  have HJ := Lib.hid (hJ _ _ _ h0 hb)
  have HB := Lib.hid hb
  clear hb hcW hc hW hY h0
  rcases hn with hn | hn
  · refine callsIn_wide.2 ?_
    go_enter Tryz.func52, Tryz.ntmps52
    go_wp2
    refine bodyPost_ret (results_none rfl _ _ _) rfl ?_
    exact ⟨⟨_, rfl⟩, HB.out.size, Or.inl HJ.out⟩
  · have hn' : ¬ n < 0 := by omega
    refine callsIn_wide.2 ?_
    go_enter Tryz.func52, Tryz.ntmps52
    go_wp2
    refine bodyPost_ret (results_none rfl _ _ _) rfl ?_
    first | exact ⟨⟨_, rfl⟩, HB.out.size, Or.inl HJ.out⟩ | exact ⟨⟨_, rfl⟩, HB.out.size, HJ.out⟩
set_option maxHeartbeats 4000000 in
theorem all_zero (Bn : Nat) (w : World) (hlt : Bn < w.heap.size) (hc : w.cell? ⟨Bn, 0, none⟩ = some (.int .i64 0)) :
    IterOf Tryz.prog 52 #[.pointer (some ⟨Bn, 0, none⟩)] encS (allS 0) w := by
  intro m l J Jx W hW hJ hJx hY h0
  have hcW : W.cell? ⟨Bn, 0, none⟩ = some (.int .i64 0) := (hW.cell (p := ⟨Bn, 0, none⟩) hlt).trans hc
  have hltW : Bn < W.heap.size := Nat.lt_of_lt_of_le hlt hW.size
  have hb := (Below.refl W.heap.size W).alloc (Nat.le_refl _) (.cells #[.func (.yield l) #[] #[]] 70)
  have hc1 : (W.alloc (.cells #[.func (.yield l) #[] #[]] 70)).cell? ⟨Bn, 0, none⟩ = some (.int .i64 0) := (hb.cell (p := ⟨Bn, 0, none⟩) hltW).trans hcW
  obtain ⟨fn, tmps, assign, body, hy, hR⟩ := hY (m - 1) [] [] _ (hJ _ _ _ h0 hb) ⟨[], rfl⟩ hb.size
  unfold encS at hy
  have HB := Lib.hid hb
  clear hb hcW hc hW hY h0
  refine callsIn_of_wp Tryz.func52 rfl trivial ?_ rfl
  simp only [Tryz.ntmps52, List.size_toArray, List.length_cons, List.length_nil, Nat.reduceAdd, Nat.reduceSub, Array.replicate_succ, Array.replicate_zero, List.push_toArray, List.append_toArray, List.nil_append, List.cons_append]
  gi_wp2
  refine ⟨fun h => (by cases h), hR.mono ?_⟩
  rintro e W3 ⟨hA, (⟨rfl, hJ3⟩ | ⟨rfl, hx⟩)⟩
  · have HA := Lib.hid (Nat.le_trans HB.out.size hA.size)
    clear hA hR hy
    gi_wp2
    refine bodyPost_ret (results_none rfl _ _ _) rfl ?_
    exact ⟨⟨_, rfl⟩, HA.out, .inl hJ3⟩
  · have HA := Lib.hid (Nat.le_trans HB.out.size hA.size)
    clear hA hR hy
    gi_wp2
    refine bodyPost_ret (results_none rfl _ _ _) rfl ?_
    exact ⟨⟨_, rfl⟩, HA.out, .inr ⟨[], [], [], rfl, hx⟩⟩
set_option maxRecDepth 100000 in
set_option maxHeartbeats 8000000 in
theorem all_succ (k : Nat) (hk : k < 12) (ih : ∀ (Bn : Nat) (w : World), Bn < w.heap.size → w.cell? ⟨Bn, 0, none⟩ = some (.int .i64 (k : Int)) → IterOf Tryz.prog 52 #[.pointer (some ⟨Bn, 0, none⟩)] encS (allS k) w)
    (Bn : Nat) (w : World) (hlt : Bn < w.heap.size) (hc : w.cell? ⟨Bn, 0, none⟩ = some (.int .i64 ((k + 1 : Nat) : Int))) :
    IterOf Tryz.prog 52 #[.pointer (some ⟨Bn, 0, none⟩)] encS (allS (k + 1)) w := by
  intro m l J Jx W hW hJ hJx hY h0
  have hcW : W.cell? ⟨Bn, 0, none⟩ = some (.int .i64 ((k + 1 : Nat) : Int)) := (hW.cell (p := ⟨Bn, 0, none⟩) hlt).trans hc
  have hltW : Bn < W.heap.size := Nat.lt_of_lt_of_le hlt hW.size
  obtain ⟨W1, hW1⟩ : ∃ x, W.alloc (.cells #[.func (.yield l) #[] #[]] 70) = x := ⟨_, rfl⟩
  have hb : Below W.heap.size W W1 := by rw [← hW1]; exact (Below.refl W.heap.size W).alloc (Nat.le_refl _) _
  have hc1 : W1.cell? ⟨Bn, 0, none⟩ = some (.int .i64 ((k + 1 : Nat) : Int)) := (hb.cell (p := ⟨Bn, 0, none⟩) hltW).trans hcW
  have hy1 : W1.cell? ⟨W.heap.size, 0, none⟩ = some (.func (.yield l) #[] #[]) := by rw [← hW1]; exact (cell_of_row _ _ _ _ _ _ (heap_alloc_new W _)).trans rfl
  have hs1 : W1.heap.size = W.heap.size + 1 := by rw [← hW1]; simp
  have e1 : ((k + 1 : Nat) : Int) - 1 = (k : Int) := by omega
  have HB := Lib.hid hb
  have HY := Lib.hid hY
  have H0 := Lib.hid h0
  have HJ := Lib.hid hJ
  have HJX := Lib.hid hJx
  have HW := Lib.hid hW
  clear hb hcW hc hW hY h0 hJ hJx
  refine callsIn_of_wp_marks Tryz.func52 rfl trivial ?_ rfl
  simp only [Tryz.ntmps52, List.size_toArray, List.length_cons, List.length_nil, Nat.reduceAdd, Nat.reduceSub, Array.replicate_succ, Array.replicate_zero, List.push_toArray, List.append_toArray, List.nil_append, List.cons_append]
  gi_wp2
  refine ⟨trivial, fun h => (by cases h), (callsIn_wide.2 (all_any W1 _)).mono ?_⟩
  rintro e w2 ⟨rfl, rfl⟩
  gi_wp2
  obtain ⟨L, hL⟩ : ∃ x, W1.alloc (.cells #[.int .i64 (k : Int)] 3) = x := ⟨_, rfl⟩
  rw [hL]
  have hbL : Below W1.heap.size W1 L := by rw [← hL]; exact (Below.refl W1.heap.size W1).alloc (Nat.le_refl _) _
  have hsL : L.heap.size = W.heap.size + 2 := by rw [← hL]; simp; omega
  have hcL : L.cell? ⟨W.heap.size + 1, 0, none⟩ = some (.int .i64 (k : Int)) := by rw [← hL, ← hs1]; exact (cell_of_row _ _ _ _ _ _ (heap_alloc_new W1 _)).trans rfl
  have hyL : L.cell? ⟨W.heap.size, 0, none⟩ = some (.func (.yield l) #[] #[]) := (hbL.cell (p := ⟨W.heap.size, 0, none⟩) (by show W.heap.size < _; omega)).trans hy1
  have hbW : Below W.heap.size W L := HB.out.trans (hbL.mono HB.out.size)
  clear hL hc1 hy1 hW1 HB hbL hs1
  have hI : Far L.heap.size (fun (pre : List (List UInt8)) (Wr : World) => J (dbl pre) Wr ∧ Wr.cell? ⟨W.heap.size, 0, none⟩ = some (.func (.yield l) #[] #[])) := fun s A C hs hb =>
    ⟨HJ.out _ _ _ hs.1 (hb.mono (by omega)), (hb.cell (p := ⟨W.heap.size, 0, none⟩) (by show W.heap.size < _; omega)).trans hs.2⟩
  have hIx : ∀ c : Code, Far L.heap.size (fun (pre : List (List UInt8)) (Wr : World) => c = .ret ∧ ∃ pre' x post, allS (k + 1) = pre' ++ x :: post ∧ Jx (pre' ++ [x]) Wr) := fun c s A C hs hb => by
    obtain ⟨hc, p', x, post, h1, h2⟩ := hs
    exact ⟨hc, p', x, post, h1, HJX.out _ _ _ h2 (hb.mono (by omega))⟩
  refine wp_range (gf := 52) (lb := #[.pointer (some ⟨W.heap.size + 1, 0, none⟩)]) rfl (enters_of Tryz.func52 (by kernel_rfl) rfl)
    (ih (W.heap.size + 1) L (by omega) hcL) (Below.refl _ _) (fun _ => rfl) _ _ hI hIx ⟨HJ.out _ _ _ H0.out hbW, hyL⟩
    (fun x => { tmps := #[.func (.yield l) #[] #[], .pointer (some ⟨Bn, 0, none⟩), .pointer (some ⟨W.heap.size, 0, none⟩), .string ⟨x.toArray⟩, .int .i64 ((k : Int) + 1), .bool (decide ((k : Int) + 1 < 0)), .bool (decide ((k : Int) + 1 < 0)), .int .i64 ((k : Int) + 1),
      .bool (decide (12 < (k : Int) + 1)), .bool (decide ((k : Int) + 1 < 0) || decide (12 < (k : Int) + 1)), .int .i64 ((k : Int) + 1), .bool false, undef, undef, .int .i64 ((k : Int) + 1), .int .i64 (k : Int), .func (.func 52) #[] #[.pointer (some ⟨W.heap.size + 1, 0, none⟩)],
      .string ⟨x.toArray⟩, undef, undef, undef, undef, undef, undef, undef, undef, undef, undef, undef, undef], defers := [] }) ?assign ?body ?done ?stop
  case assign =>
    intro l2 x Wx K hK
    unfold encS
    gi_wp2
    exact hK
  case body =>
    rintro l2 pre x Wx ⟨hJx0, hcy⟩ ⟨post, hall⟩ hsz
    obtain ⟨rfl, hplen⟩ : x = ofB k pre.length ∧ pre.length < 2 ^ k := allS_at hall
    obtain ⟨x, hx⟩ : ∃ x, ofB k pre.length = x := ⟨_, rfl⟩
    have hxl : x.length = k := by rw [← hx]; exact ofB_length _ _
    rw [hx] at hall ⊢
    have hall2 : allS (k + 1) = dbl pre ++ (x ++ [48]) :: ((x ++ [49]) :: dbl post) := by
      show (allS k).flatMap _ = _
      rw [hall, List.flatMap_append, List.flatMap_cons]; rfl
    have hdbl : dbl (pre ++ [x]) = dbl pre ++ [x ++ [48]] ++ [x ++ [49]] := dbl_snoc pre x
    obtain ⟨r1, hr1⟩ : ∃ r1, x ++ [48] = r1 := ⟨_, rfl⟩
    obtain ⟨r2, hr2⟩ : ∃ r2, x ++ [49] = r2 := ⟨_, rfl⟩
    have hap1 : (⟨x.toArray⟩ : ByteArray) ++ ⟨#[48]⟩ = ⟨r1.toArray⟩ := by rw [← hr1]; exact ByteArray.mk_append_mk x [48]
    have hap2 : (⟨x.toArray⟩ : ByteArray) ++ ⟨#[49]⟩ = ⟨r2.toArray⟩ := by rw [← hr2]; exact ByteArray.mk_append_mk x [49]
    rw [hr1, hr2] at hall2 hdbl
    clear hr1 hr2 hall hx
    obtain ⟨fn, tmps, assign, body, hy, hR⟩ := HY.out (m - 1) (dbl pre) r1 Wx hJx0 ⟨_, hall2⟩ (by omega)
    unfold encS at hy
    have HY2 := Lib.hid (fun Wy hJy hs => HY.out (m - 1) (dbl pre ++ [r1]) r2 Wy hJy ⟨dbl post, by rw [hall2]; simp⟩ hs)
    have HD := Lib.hid hdbl
    have HA2 := Lib.hid hall2
    have HSZ := Lib.hid hsz
    clear hall2 hdbl hJx0 hsz
    gi_wp2
    refine ⟨fun h => (by cases h), hR.mono ?_⟩
    clear hR hy
    rintro e W3 ⟨hA, (⟨rfl, hJ3⟩ | ⟨rfl, hx3⟩)⟩
    · have hcy3 := hA.cell (p := ⟨W.heap.size, 0, none⟩) (Nat.le_refl _) hcy
      obtain ⟨fn2, tmps2, assign2, body2, hy2, hR2⟩ := HY2.out W3 hJ3 (by have := hA.size; have := HSZ.out; omega)
      unfold encS at hy2
      have HA := Lib.hid hA
      clear hA hJ3 HY2 hcy
      gi_wp2
      refine ⟨fun h => (by cases h), hR2.mono ?_⟩
      clear hR2 hy2
      rintro e W4 ⟨hA, (⟨rfl, hJ4⟩ | ⟨rfl, hx4⟩)⟩
      · have hcy4 := hA.cell (p := ⟨W.heap.size, 0, none⟩) (Nat.le_refl _) hcy3
        have HA4 := Lib.hid (HA.out.trans hA)
        have HJ4 := Lib.hid hJ4
        have HC4 := Lib.hid hcy4
        clear hA hcy3 hJ4 hcy4
        gi_wp2
        exact ⟨HA4.out.le (by omega), by rw [HD.out]; exact HJ4.out, HC4.out⟩
      · have HA4 := Lib.hid (HA.out.trans hA)
        have HX4 := Lib.hid hx4
        clear hA hcy3 hx4
        gi_wp2
        exact ⟨HA4.out.le (by omega), rfl, dbl pre ++ [r1], r2, dbl post, by rw [HA2.out]; simp, HX4.out⟩
    · have HA := Lib.hid hA
      have HX3 := Lib.hid hx3
      clear hA hcy hx3 HY2
      gi_wp2
      refine ⟨fun _ h => (by cases h), ?_⟩
      gi_wp2
      exact ⟨HA.out.le (by omega), rfl, dbl pre, r1, r2 :: dbl post, HA2.out, HX3.out⟩
  case done =>
    rintro D Wd hD ⟨hJd, _⟩ hK
    have HJD := Lib.hid hJd
    clear hJd
    gi_wp2
    have hDlt := (Array.getElem?_eq_some_iff.1 hK).1
    refine ⟨by simp, .inl ⟨_, _, rfl, run_takeDeferred hK, ?_⟩⟩
    exact ⟨_, results_none rfl _ _ _, ⟨_, rfl⟩, by simp; omega, .inl (HJ.out _ _ _ HJD.out (below_put _ _ (by omega)))⟩
  case stop =>
    rintro D c pre x post Wd hD hall ⟨rfl, p', x', post', h1, h2⟩ hK
    have H1 := Lib.hid h1
    have H2 := Lib.hid h2
    clear h1 h2 hall
    gi_wp2
    have hDlt := (Array.getElem?_eq_some_iff.1 hK).1
    refine ⟨by simp, .inl ⟨_, _, rfl, run_takeDeferred hK, ?_⟩⟩
    exact ⟨_, results_none rfl _ _ _, ⟨_, rfl⟩, by simp; omega, .inr ⟨p', x', post', H1.out, HJX.out _ _ _ H2.out (below_put _ _ (by omega))⟩⟩
theorem all_iter (k : Nat) (hk : k ≤ 12) : ∀ (Bn : Nat) (w : World), Bn < w.heap.size → w.cell? ⟨Bn, 0, none⟩ = some (.int .i64 (k : Int)) → IterOf Tryz.prog 52 #[.pointer (some ⟨Bn, 0, none⟩)] encS (allS k) w := by
  induction k with
  | zero => exact fun Bn w h1 h2 => all_zero Bn w h1 h2
  | succ k ih => exact fun Bn w h1 h2 => all_succ k (by omega) (ih (by omega)) Bn w h1 h2
end Go.Proofs.YtfdpddlefobcpaaGreatDoor
