/- What the program's uncut and initial of layer 11 answer over this translation. -/
import Derived.Test.YtfdpddlefobcpaaAliMem
namespace Go.Proofs.Ytfdpddlefobcpaa
open Go.RowKit Go.Shelf
set_option linter.unusedVariables false
set_option linter.unusedSimpArgs false
set_option maxRecDepth 20000
open N
/-- uncut at work -/
structure UnC (w : World) (t g1 g2 n : Nat) (s : Int) (k : Nat) (wr : World) : Prop where
  bl : Below w.heap.size w wr
  al : AlOk wr t g1 g2 n s (fun j => if j < k then s else 0) (fun j => if j < k then j else 0)
  ge : w.heap.size ≤ t ∧ w.heap.size ≤ g1 ∧ w.heap.size ≤ g2
section
variable {w w1 wr : World} {t g1 g2 n k : Nat} {s : Int} {T : List Blk}
theorem UnC.start (h : CS w w1 T) (h1 : TA t g1 g2 n s ∈ T) (h2 : CU g1 n (fun _ => 0) ∈ T) (h3 : OT g2 n (fun _ => 0) ∈ T) : UnC w t g1 g2 n s 0 w1 :=
  ⟨h.bl, AlOk.congr ⟨h.box _ h1, h.box _ h2, h.box _ h3⟩ (fun j _ => by rw [if_neg (Nat.not_lt_zero _)]) (fun j _ => by rw [if_neg (Nat.not_lt_zero _)]), h.from_ _ h1, h.from_ _ h2, h.from_ _ h3⟩
theorem UnC.put (h : UnC w t g1 g2 n s k wr) : UnC w t g1 g2 n s (k + 1) ((wr.drew.setCell ⟨g1, k, none⟩ (.int .i64 s)).setCell ⟨g2, k, none⟩ (.int .i64 (k : Int))) := by
  refine ⟨((h.bl.trans ⟨rfl, rfl, rfl, Nat.le_refl _, fun _ _ => rfl⟩ : Below w.heap.size w wr.drew).setCell (p := ⟨g1, k, none⟩) h.ge.2.1 _).setCell (p := ⟨g2, k, none⟩) h.ge.2.2 _, ?_, h.ge⟩
  refine (h.al.drew.put k s k).congr (fun j _ => ?_) (fun j _ => ?_)
  · show up _ k s j = _
    unfold up
    by_cases e : j = k
    · rw [if_pos e, if_pos (by omega)]
    · rw [if_neg e]
      by_cases e2 : j < k
      · simp only [if_pos e2, if_pos (show j < k + 1 by omega)]
      · simp only [if_neg e2, if_neg (show ¬ j < k + 1 by omega)]
  · unfold up
    by_cases e : j = k
    · rw [if_pos e, if_pos (by omega), e]
    · rw [if_neg e]
      by_cases e2 : j < k
      · simp only [if_pos e2, if_pos (show j < k + 1 by omega)]
      · simp only [if_neg e2, if_neg (show ¬ j < k + 1 by omega)]
theorem UnC.drew (h : UnC w t g1 g2 n s k wr) : UnC w t g1 g2 n s k wr.drew := ⟨h.bl.trans ⟨rfl, rfl, rfl, Nat.le_refl _, fun _ _ => rfl⟩, h.al.drew, h.ge⟩
end
theorem uncut_any (w : World) (n : Nat) (s : Int) (hn : n ≤ 64) :
    Calls Try.prog 20 #[.int .i64 (n : Int), .int .i64 s] w fun e w' => ∃ t g1 g2, e = .returned (.pointer (some ⟨t, 0, none⟩)) ∧ AlOk w' t g1 g2 n s (fun _ => s) (fun i => i) ∧ w.heap.size ≤ t ∧ w.heap.size ≤ g1 ∧ w.heap.size ≤ g2 ∧ Below w.heap.size w w' := by
  have hm1 := make64_run n (by omega)
  have hm2 := makeI_run n (by omega)
  go_enter Try.func20, Try.ntmps20
  go_wp2_with fail
  go_region
  all_goals
    clear hm1 hm2
    generalize hwa : World.alloc _ _ = v1
    obtain ⟨t, ht⟩ : ∃ t, w.heap.size + 1 + 1 = t := ⟨_, rfl⟩
    have hU : ∃ g1 g2, UnC w t g1 g2 n s 0 v1 := by
      rw [← hwa, ← ht]
      first
        | exact ⟨w.heap.size, w.heap.size + 1, UnC.start ((((CS.start w).alloc11 (row n fun _ => 0) 2 (g := w.heap.size) rfl).alloc11 (row n fun _ => 0) 3 (g := w.heap.size + 1) (by simp)).alloc11 _ _ (g := w.heap.size + 1 + 1) (by simp)) List.mem_cons_self (List.mem_cons_of_mem _ (List.mem_cons_of_mem _ List.mem_cons_self)) (List.mem_cons_of_mem _ List.mem_cons_self)⟩
        | exact ⟨w.heap.size + 1, w.heap.size, UnC.start ((((CS.start w).alloc11 (row n fun _ => 0) 3 (g := w.heap.size) rfl).alloc11 (row n fun _ => 0) 2 (g := w.heap.size + 1) (by simp)).alloc11 _ _ (g := w.heap.size + 1 + 1) (by simp)) List.mem_cons_self (List.mem_cons_of_mem _ List.mem_cons_self) (List.mem_cons_of_mem _ (List.mem_cons_of_mem _ List.mem_cons_self))⟩
    obtain ⟨g1, g2, hU⟩ := hU
    rw [ht]
    have HU := Lib.hid hU
    clear hU hwa ht
    go_wp2_with fail
    go_loopw [15] (fun i wr => ∃ k : Nat, k ≤ n ∧ i = .int .i64 k ∧ UnC w t g1 g2 n s k wr) (fun i _ => n - (intOf i).toNat)
    case atStart => exact ⟨0, Nat.zero_le _, rfl, HU.out.drew⟩
    case round =>
      obtain ⟨k, hk, rfl, hc⟩ := hrel
      clear HU
      have HC := Lib.hid hc
      clear hc
      by_cases hlt : k < n
      · obtain ⟨c1, c2⟩ := HC.out.al.c12
        have hne := HC.out.al.ne.2.2
        have d1 := HC.out.al.cut hlt (show _ = (0 : Int) from if_neg (Nat.lt_irrefl k))
        have d2 := HC.out.al.oth hlt (show _ = (0 : Nat) from if_neg (Nat.lt_irrefl k))
        have f1 : wr.frozen? ⟨g1, k, none⟩ = false := BlkOk.fr HC.out.al.cu k
        have f2 : wr.frozen? ⟨g2, k, none⟩ = false := BlkOk.fr HC.out.al.ot k
        have hlz : (0 : Int) ≤ (k : Int) := by omega
        have hli : (k : Int) < (n : Int) := by omega
        go_wp2_with fail
        go_region_held3 (fun W => W.cell? ⟨t, 1, none⟩ = some (.slice (some ⟨g1, 0, none⟩) n n) ∧ W.cell? ⟨t, 2, none⟩ = some (.slice (some ⟨g2, 0, none⟩) n n)) (first | exact ⟨c1, c2⟩ | exact TA.c12 (HC.out.al.drew.tb1 _ _) | exact TA.c12 (HC.out.al.drew.tb2 _ _ _)) (fail)
        go_wp2
        go_roundw
        case rel => exact ⟨k + 1, hlt, by go_num, HC.out.put⟩
        case measure => simp [intOf]; omega
      · obtain rfl : k = n := by omega
        go_wp2
        go_ret
        exact ⟨t, g1, g2, rfl, HC.out.al.congr (fun j hj => by rw [if_pos hj]) (fun j hj => by rw [if_pos hj]), HC.out.ge.1, HC.out.ge.2.1, HC.out.ge.2.2, HC.out.bl⟩
/-- initial at work -/
structure InC (w : World) (g n : Nat) (q : Nat → Int) (k : Nat) (wr : World) : Prop where
  bl : Below w.heap.size w wr
  cu : BlkOk wr (CU g n (fun j => if j < k then q j else 0))
section
variable {w wr : World} {g n k : Nat} {q : Nat → Int}
theorem InC.start (w : World) (n : Nat) (q : Nat → Int) : InC w w.heap.size n q 0 (w.alloc (.cells (row n (fun _ => 0)).toArray 2)) := by
  refine ⟨(Below.refl _ w).alloc (Nat.le_refl _) _, ?_⟩
  unfold CU
  have e : row n (fun j => if j < 0 then q j else 0) = row n (fun _ => 0) := row_congr (fun j _ => by rw [if_neg (Nat.not_lt_zero _)])
  rw [e]
  exact heap_alloc_new w _
theorem InC.put (h : InC w g n q k wr) (hg : w.heap.size ≤ g) {x : Int} (hx : q k = x) : InC w g n q (k + 1) (wr.setCell ⟨g, k, none⟩ (.int .i64 x)) := by
  refine ⟨h.bl.setCell (p := ⟨g, k, none⟩) hg _, ?_⟩
  have h1 := CU.set h.cu k x
  unfold CU at h1 ⊢
  rwa [row_congr (g := fun j => if j < k + 1 then q j else 0) (fun j _ => by
    show up _ k x j = _
    unfold up
    by_cases e : j = k
    · rw [if_pos e, if_pos (by omega), e, hx]
    · rw [if_neg e]
      by_cases e2 : j < k
      · simp only [if_pos e2, if_pos (show j < k + 1 by omega)]
      · simp only [if_neg e2, if_neg (show ¬ j < k + 1 by omega)])] at h1
theorem InC.end_ (h : InC w g n q n wr) : BlkOk wr (CU g n q) := by
  have h1 := h.cu
  unfold CU at h1 ⊢
  rwa [row_congr (g := q) (fun j hj => by rw [if_pos hj])] at h1
end
theorem initial_any {w : World} {A : Option Addr} {n c : Nat} {ws : List Int} (h : Il w A n c ws) (hw : Wt ws) :
    Calls Try.prog 22 #[.slice A n c] w fun e w' => ∃ g, e = .returned (.slice (some ⟨g, 0, none⟩) n n) ∧ BlkOk w' (CU g n (hts ws)) ∧ w.heap.size ≤ g ∧ Below w.heap.size w w' := by
  have hl := h.len
  have hn9 : n ≤ 64 := by have := hw.l1; omega
  have hm1 := make64_run n (by omega)
  have HI := Lib.hid h
  have HW := Lib.hid hw
  have HLN := Lib.hid hl
  clear h hw hl
  go_enter Try.func22, Try.ntmps22
  go_wp2_with fail
  generalize hwa : World.alloc w _ = v1
  have h1 := InC.start w n (hts ws)
  rw [hwa] at h1
  obtain ⟨g, hg⟩ : ∃ g, w.heap.size = g := ⟨_, rfl⟩
  have HG := Lib.hid (show w.heap.size ≤ g by omega)
  rw [show InC w w.heap.size n (hts ws) 0 v1 = InC w g n (hts ws) 0 v1 by rw [← hg]] at h1
  rw [hg]
  have HS := Lib.hid h1
  clear h1 hwa hg hm1
  go_loopw [11] (fun i wr => ∃ k : Nat, k ≤ n ∧ i = .int .i64 k ∧ InC w g n (hts ws) k wr) (fun i _ => n - (intOf i).toNat)
  case atStart => exact ⟨0, Nat.zero_le _, rfl, HS.out⟩
  case round =>
    obtain ⟨k, hk, rfl, hc⟩ := hrel
    clear HS
    have HC := Lib.hid hc
    clear hc
    by_cases hlt : k < n
    · obtain ⟨ad, x, rfl, hx, hwf, _⟩ := HI.out.one hlt
      have hcw : wr.cell? (ad.add k) = some (.int .i64 x) := (HI.out.below HC.out.bl).the hlt hx
      have hle := hts_le HW.out (i := k) (by rw [HLN.out]; exact hlt)
      have hq : hts ws k = (n : Int) * x := by unfold hts; rw [HLN.out, List.getD_eq_getElem?_getD, hx]; rfl
      rw [hq] at hle
      obtain ⟨p, hp⟩ : ∃ p, (n : Int) * x = p := ⟨_, rfl⟩
      rw [hp] at hq hle
      have hwp : IntKind.i64.wrap ((n : Int) * x) = p := by rw [hp, IntKind.wrap_i64]; omega
      have HQ := Lib.hid hq
      have hc0 : wr.cell? ⟨g, k, none⟩ = some (.int .i64 0) := by
        have h1 := BlkOk.cell HC.out.cu (row_get (f := fun j => if j < k then hts ws j else 0) hlt)
        rwa [if_neg (Nat.lt_irrefl _)] at h1
      have hf0 : wr.frozen? ⟨g, k, none⟩ = false := BlkOk.fr HC.out.cu k
      clear hx hwf hle hq hp
      go_wp2
      go_roundw
      case rel => exact ⟨k + 1, hlt, by go_num, HC.out.put HG.out HQ.out⟩
      case measure => simp [intOf]; omega
    · obtain rfl : k = n := by omega
      go_wp2
      go_ret
      exact ⟨g, rfl, HC.out.end_, HG.out, HC.out.bl⟩
end Go.Proofs.Ytfdpddlefobcpaa
