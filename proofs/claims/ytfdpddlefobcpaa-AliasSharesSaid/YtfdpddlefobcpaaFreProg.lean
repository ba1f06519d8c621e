/- What the program's New, Len, Sum, Pick of layer 10 answer over this translation. -/
import Derived.Test.YtfdpddlefobcpaaFreMath
import Derived.Test.YtfdpddlefobcpaaI64Open
import Derived.Test.YtfdpddlefobcpaaBlk
import Derived.Deep.RegionWith
namespace Go.Proofs.Ytfdpddlefobcpaa
open Go.RowKit Go.Shelf
set_option linter.unusedVariables false
set_option linter.unusedSimpArgs false
set_option maxRecDepth 20000
open N
theorem infoI64 : (Try.prog.info? 2).map (fun i => (i.zero, i.size, i.bytes)) = some (some (.int .i64 0), 1, 8) := by kernel_rfl
theorem slI64 : Try.prog.underlying 22 = some (.slice 2) := Try.underlying22
theorem zeros_row64 (n : Nat) : madeCells #[Value.int .i64 0] n = (row n (fun _ => 0)).toArray := by
  rw [row_zero]
  unfold madeCells
  apply Array.ext_getElem?
  intro i
  by_cases hi : i < n
  · simp [hi, show i % 1 = 0 by omega]
  · simp [hi]
theorem make64_run (n : Nat) (h : n ≤ 4398046511104) (w : World) :
    (Instr.makeSlice 22 (.int .i64 (n : Int)) (.int .i64 (n : Int))).run Try.prog w = .ok (.slice (some ⟨w.heap.size, 0, none⟩) n n) (w.alloc (.cells (row n (fun _ => 0)).toArray 2)) := by
  rw [← zeros_row64]
  exact run_make_row' 22 2 (.int .i64 0) 8 slI64 infoI64 rfl .i64 .i64 n (by omega) (by omega) w
/-- a table, and its row of ends -/
def TB (t g n : Nat) : Blk := ⟨t, [.slice (some ⟨g, 0, none⟩) n n], 57⟩
def EN (g : Nat) (ws : List Int) : Blk := ⟨g, row ws.length (fun k => pre ws (k + 1)), 2⟩
structure TbOk (w : World) (t g : Nat) (ws : List Int) : Prop where
  tb : BlkOk w (TB t g ws.length)
  en : BlkOk w (EN g ws)
theorem TbOk.on {w w' : World} {t g : Nat} {ws : List Int} (h : TbOk w t g ws) (hb : Below w.heap.size w w') : TbOk w' t g ws := ⟨h.tb.on hb, h.en.on hb⟩
theorem TbOk.cell {w : World} {t g : Nat} {ws : List Int} (h : TbOk w t g ws) {k : Nat} (hk : k < ws.length) : w.cell? ⟨g, k, none⟩ = some (.int .i64 (pre ws (k + 1))) := BlkOk.cell h.en (row_get hk)
/-- what New tells of weights that may be a table's -/
def NewOk (w : World) (ws : List Int) (e : Ending) (w' : World) : Prop :=
  ∃ t g, e = .returned (.tuple #[.pointer (some ⟨t, 0, none⟩), .int .i64 0]) ∧ TbOk w' t g ws ∧ w.heap.size ≤ t ∧ w.heap.size ≤ g ∧ t ≠ g ∧ Below w.heap.size w w'
/-- New at work: the place of the ends, how far it is -/
structure NwC (w : World) (g n k : Nat) (ws : List Int) (wr : World) : Prop where
  bl : Below w.heap.size w wr
  en : BlkOk wr ⟨g, row n (fun j => if j < k then pre ws (j + 1) else 0), 2⟩
section
variable {w w1 wr : World} {g n k : Nat} {ws : List Int}
theorem NwC.start (w : World) (n : Nat) (ws : List Int) : NwC w w.heap.size n 0 ws (w.alloc (.cells (row n (fun _ => 0)).toArray 2)) := by
  refine ⟨(Below.refl _ w).alloc (Nat.le_refl _) _, ?_⟩
  have e : row n (fun j => if j < 0 then pre ws (j + 1) else 0) = row n (fun _ => 0) := row_congr (fun j _ => by rw [if_neg (Nat.not_lt_zero _)])
  rw [e]
  exact heap_alloc_new w _
theorem NwC.cell (h : NwC w g n k ws wr) (hk : k < n) : wr.cell? ⟨g, k, none⟩ = some (.int .i64 0) := by
  have := BlkOk.cell h.en (row_get (f := fun j => if j < k then pre ws (j + 1) else 0) hk)
  rwa [if_neg (Nat.lt_irrefl _)] at this
theorem NwC.fr (h : NwC w g n k ws wr) : wr.frozen? ⟨g, k, none⟩ = false := BlkOk.fr h.en k
theorem NwC.put (h : NwC w g n k ws wr) (hg : w.heap.size ≤ g) {s : Int} (hs : pre ws (k + 1) = s) : NwC w g n (k + 1) ws (wr.setCell ⟨g, k, none⟩ (.int .i64 s)) := by
  refine ⟨h.bl.setCell (p := ⟨g, k, none⟩) hg _, ?_⟩
  have := BlkOk.set h.en k (.int .i64 s)
  simp only at this
  rw [row_set] at this
  rwa [row_congr (g := fun j => if j < k + 1 then pre ws (j + 1) else 0) (fun j _ => by
    by_cases e : j = k
    · subst e; simp [hs]
    · simp only [e, if_false]
      by_cases e2 : j < k
      · rw [if_pos e2, if_pos (by omega)]
      · rw [if_neg e2, if_neg (by omega)])] at this
theorem NwC.end_ (h : NwC w g n n ws wr) (hn : ws.length = n) : BlkOk wr (EN g ws) := by
  subst hn
  have := h.en
  rwa [row_congr (g := fun j => pre ws (j + 1)) (fun j hj => by rw [if_pos hj])] at this
end
theorem fnew_any {w : World} {A : Option Addr} {n c : Nat} {ws : List Int} (h : Il w A n c ws) :
    Calls Try.prog 8 #[.slice A n c] w fun e w' => (mayW ws = 0 ∧ NewOk w ws e w') ∨ (¬ mayW ws = 0 ∧ e = .returned (.tuple #[.pointer none, .int .i64 (mayW ws)]) ∧ Below w.heap.size w w') := by
  have hl := h.len
  have hcap : n ≤ 9223372036854775807 := by have := h.cap; have := h.max; unfold maxLen at this; omega
  by_cases c0 : n = 0
  · subst c0
    have hm : mayW ws = 4 := by unfold mayW; rw [if_pos hl]
    clear h hl hcap
    rw [hm]
    go_enter Try.func8, Try.ntmps8
    go_wp2
    go_ret2
    exact .inr ⟨by decide, rfl, Below.refl _ _⟩
  by_cases c1 : 64 < n
  · have hm : mayW ws = 5 := by unfold mayW; rw [if_neg (by omega), if_pos (by omega)]
    have hn0 : ¬ (n : Int) = 0 := by omega
    have hn1 : (64 : Int) < (n : Int) := by omega
    clear h hl hcap c0 c1
    rw [hm]
    go_enter Try.func8, Try.ntmps8
    go_wp2
    go_ret2
    exact .inr ⟨by decide, rfl, Below.refl _ _⟩
  have hn0 : ¬ (n : Int) = 0 := by omega
  have hn1 : ¬ (64 : Int) < (n : Int) := by omega
  have hn9 : n ≤ 64 := by omega
  have hmk := make64_run n (by omega)
  have HI := Lib.hid h
  have HL := Lib.hid (show ws.length = n ∧ 0 < n ∧ n ≤ 64 by omega)
  clear h hl hcap c0 c1
  go_enter Try.func8, Try.ntmps8
  go_wp2_with fail
  generalize hwa : World.alloc w _ = v1
  have h1 := NwC.start w n ws
  rw [hwa] at h1
  obtain ⟨g, hg⟩ : ∃ g, w.heap.size = g := ⟨_, rfl⟩
  have HG := Lib.hid (show w.heap.size ≤ g by omega)
  rw [show NwC w w.heap.size n 0 ws v1 = NwC w g n 0 ws v1 by rw [← hg]] at h1
  rw [hg]
  have HS := Lib.hid h1
  clear h1 hwa hg hmk
  go_loopw [5, 19] (fun s i wr => ∃ k : Nat, k ≤ n ∧ okTo ws k ∧ s = .int .i64 (pre ws k) ∧ i = .int .i64 k ∧ NwC w g n k ws wr) (fun _ i _ => n - (intOf i).toNat)
  case atStart => exact ⟨0, Nat.zero_le _, okTo.zero, by rw [pre_zero], rfl, HS.out⟩
  case round =>
    obtain ⟨k, hk, hok, rfl, rfl, hc⟩ := hrel
    clear HS
    have HC := Lib.hid hc
    clear hc
    by_cases hlt : k < n
    · obtain ⟨ad, x, rfl, hx, hwf, _⟩ := HI.out.one hlt
      have hcw : wr.cell? (ad.add k) = some (.int .i64 x) := (HI.out.below HC.out.bl).the hlt hx
      have HX := Lib.hid hx
      by_cases hbad : 0 ≤ x ∧ x ≤ 1048576
      · have hok2 := hok.succ hx hbad.1 hbad.2
        have hle := hok.le (by rw [HL.out.1]; omega)
        have hps := pre_succ hx
        obtain ⟨s, hs⟩ : ∃ s, pre ws k = s := ⟨_, rfl⟩
        rw [hs] at hps hle
        have hwr : IntKind.i64.wrap (s + x) = s + x := by rw [IntKind.wrap_i64]; omega
        have hx2 : ¬ x < 0 := by omega
        have hx3 : ¬ 1048576 < x := by omega
        have hc0 := HC.out.cell hlt
        have hf0 := HC.out.fr
        have HP := Lib.hid hps
        have HO := Lib.hid hok2
        clear hx hwf hps hle hbad hok hok2
        rw [hs]
        clear hs
        go_wp2
        go_roundw
        case rel => exact ⟨k + 1, hlt, HO.out, by rw [HP.out], by go_num, HC.out.put HG.out HP.out⟩
        case measure => simp [intOf]; omega
      · have hm := mayW_bad (by rw [HL.out.1]; exact HL.out.2.1) (by rw [HL.out.1]; exact HL.out.2.2) hx hbad
        have HM := Lib.hid hm
        have HB := Lib.hid HC.out.bl
        rcases Int.lt_or_le x 0 with hx2 | hx2
        · clear hx hwf hbad hok hm
          go_wp2
          go_ret2
          exact .inr ⟨by rw [HM.out]; decide, by rw [HM.out]; rfl, HB.out⟩
        · have hx3 : 1048576 < x := by omega
          have hx2 : ¬ x < 0 := by omega
          clear hx hwf hbad hok hm
          go_wp2
          go_ret2
          exact .inr ⟨by rw [HM.out]; decide, by rw [HM.out]; rfl, HB.out⟩
    · obtain rfl : k = n := by omega
      have hokw : okW ws := by
        have := HL.out.1
        exact okTo.all (by rw [this]; exact hok)
      by_cases hz : pre ws k = 0
      · have hm := mayW_null (by rw [HL.out.1]; exact HL.out.2.1) (by rw [HL.out.1]; exact HL.out.2.2) hokw (by rw [HL.out.1]; exact hz)
        rw [hz]
        have HM := Lib.hid hm
        have HB := Lib.hid HC.out.bl
        clear hok hokw hz hm
        go_wp2
        go_ret2
        exact .inr ⟨by rw [HM.out]; decide, by rw [HM.out]; rfl, HB.out⟩
      · have hm : mayW ws = 0 := by
          refine mayW_zero.2 ⟨by rw [HL.out.1]; exact HL.out.2.1, by rw [HL.out.1]; exact HL.out.2.2, hokw, ?_⟩
          have := (pre_le hokw k).1
          rw [HL.out.1]
          omega
        have HM := Lib.hid hm
        obtain ⟨s, hs⟩ : ∃ s, pre ws k = s := ⟨_, rfl⟩
        rw [hs] at hz
        rw [hs]
        clear hok hokw hm hs
        go_wp2
        go_ret2
        refine .inl ⟨HM.out, wr.heap.size, g, rfl, ⟨?_, ?_⟩, HC.out.bl.size, HG.out, ?_, HC.out.bl.alloc HC.out.bl.size _⟩
        · have := heap_alloc_new wr (.cells #[.slice (some ⟨g, 0, none⟩) k k] 57)
          rw [TB, HL.out.1]
          exact this
        · exact (HC.out.end_ HL.out.1).on ((Below.refl _ wr).alloc (Nat.le_refl _) _)
        · have := BlkOk.lt HC.out.en
          simp only at this
          omega
end Go.Proofs.Ytfdpddlefobcpaa
