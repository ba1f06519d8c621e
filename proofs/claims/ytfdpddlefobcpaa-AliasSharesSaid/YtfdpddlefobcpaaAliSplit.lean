/- What the program's split of layer 11 answers over this translation. -/
import Derived.Test.YtfdpddlefobcpaaAliMem
namespace Go.Proofs.Ytfdpddlefobcpaa
open Go.RowKit Go.Shelf
set_option linter.unusedVariables false
set_option linter.unusedSimpArgs false
set_option maxRecDepth 20000
open N
/-- the row that bears both lists -/
def BO (b m : Nat) (f : Nat → Int) : Blk := ⟨b, row m f, 3⟩
theorem BO.set {w : World} {b m : Nat} {f : Nat → Int} (h : BlkOk w (BO b m f)) (k : Nat) (x : Int) : BlkOk (w.setCell ⟨b, k, none⟩ (.int .i64 x)) (BO b m (up f k x)) := by
  have h1 := BlkOk.set h k (.int .i64 x)
  simp only [BO] at h1
  rw [row_set] at h1
  exact h1
/-- split at work -/
structure SpC (w : World) (b n m : Nat) (q : Nat → Int) (W : Int) (k : Nat) (wr : World) : Prop where
  bl : Below w.heap.size w wr
  ge : w.heap.size ≤ b
  bo : ∃ f, BlkOk wr (BO b m f) ∧ Stk f 0 (lows q W k) ∧ Stk f n (highs q W k)
section
variable {w wr : World} {b n m k y : Nat} {q : Nat → Int} {W : Int} {ty : TypeId}
theorem SpC.start (w : World) (n m : Nat) (q : Nat → Int) (W : Int) : SpC w w.heap.size n m q W 0 (w.alloc (.cells (row m (fun _ => 0)).toArray 3)) :=
  ⟨(Below.refl _ w).alloc (Nat.le_refl _) _, Nat.le_refl _, fun _ => 0, heap_alloc_new w _, Stk.nil, Stk.nil⟩
theorem SpC.on (h : SpC w b n m q W k wr) {w' : World} (hb : Below wr.heap.size wr w') : SpC w b n m q W k w' := by
  obtain ⟨f, h1, h2, h3⟩ := h.bo
  exact ⟨h.bl.trans (hb.mono h.bl.size), h.ge, f, h1.on hb, h2, h3⟩
theorem SpC.low (h : SpC w b n m q W k wr) (hq : q k < W) (hk : k < n) {p : Nat} (hp : (lows q W k).length = p) : SpC w b n m q W (k + 1) (wr.setCell ⟨b, 0 + p, none⟩ (.int .i64 (k : Int))) := by
  subst hp
  obtain ⟨f, h1, h2, h3⟩ := h.bo
  have hl := @lows_len q W k
  refine ⟨h.bl.setCell (p := ⟨b, _, none⟩) h.ge _, h.ge, _, BO.set h1 _ _, ?_, ?_⟩
  · rw [lows, if_pos hq]; exact h2.push k
  · rw [highs, if_pos hq]; exact h3.far (.inl (by omega))
theorem SpC.high (h : SpC w b n m q W k wr) (hq : ¬ q k < W) (hk : k < n) {p : Nat} (hp : (highs q W k).length = p) : SpC w b n m q W (k + 1) (wr.setCell ⟨b, n + p, none⟩ (.int .i64 (k : Int))) := by
  subst hp
  obtain ⟨f, h1, h2, h3⟩ := h.bo
  have hl := @lows_len q W k
  refine ⟨h.bl.setCell (p := ⟨b, _, none⟩) h.ge _, h.ge, _, BO.set h1 _ _, ?_, ?_⟩
  · rw [lows, if_neg hq]; exact h2.far (.inr (by omega))
  · rw [highs, if_neg hq]; exact h3.push k
end
theorem split_any {w : World} {g n : Nat} {q : Nat → Int} {W : Int} (h : BlkOk w (CU g n q)) (hn : 0 < n) (hn9 : n ≤ 64) :
    Calls Try.prog 36 #[.slice (some ⟨g, 0, none⟩) n n, .int .i64 W] w fun e w' => ∃ b, e = .returned (.tuple #[.slice (some ⟨b, 0, none⟩) (lows q W n).length n, .slice (some ⟨b, n, none⟩) (highs q W n).length n]) ∧ SpC w b n (2 * n) q W n w' := by
  obtain ⟨m, hm⟩ : ∃ m, 2 * n = m := ⟨_, rfl⟩
  have hm1 := makeI_run m (by omega)
  have hwm : IntKind.i64.wrap (2 * (n : Int)) = (m : Int) := by rw [IntKind.wrap_i64]; omega
  have h3 : (0 : Int) ≤ (n : Int) := by omega
  have h4 : (n : Int) ≤ (m : Int) := by omega
  have HM := Lib.hid hm
  rw [hm]
  have HH := Lib.hid h
  clear h hm
  have hmn : ¬ m = n := by have := HM.out; omega
  have hmn2 : m - n = n := by have := HM.out; omega
  go_enter Try.func36, Try.ntmps36
  go_wp2_with fail
  go_region
  generalize hwa : World.alloc _ _ = v1
  have h1 := SpC.start w n m q W
  rw [hwa] at h1
  obtain ⟨b, hb⟩ : ∃ b, w.heap.size = b := ⟨_, rfl⟩
  rw [show SpC w w.heap.size n m q W 0 v1 = SpC w b n m q W 0 v1 by rw [← hb]] at h1
  rw [hb]
  have HS := Lib.hid (h1.on (w' := v1.drew) ⟨rfl, rfl, rfl, Nat.le_refl _, fun _ _ => rfl⟩)
  clear h1 hwa hb hm1 hwm h3 h4 hmn hmn2
  go_wp2_with fail
  go_loopw [4, 5, 26] (fun lo hi i wr => ∃ k : Nat, k ≤ n ∧ lo = .slice (some ⟨b, 0, none⟩) (lows q W k).length n ∧ hi = .slice (some ⟨b, n, none⟩) (highs q W k).length n ∧ i = .int .i64 k ∧ SpC w b n m q W k wr) (fun _ _ i _ => n - (intOf i).toNat)
  case atStart => exact ⟨0, Nat.zero_le _, rfl, rfl, rfl, HS.out⟩
  case round =>
    obtain ⟨k, hk, rfl, rfl, rfl, hc⟩ := hrel
    clear HS
    have HC := Lib.hid hc
    clear hc
    obtain ⟨p, hp⟩ : ∃ p, (lows q W k).length = p := ⟨_, rfl⟩
    obtain ⟨p', hp'⟩ : ∃ p, (highs q W k).length = p := ⟨_, rfl⟩
    have hpp : p + p' = k := by rw [← hp, ← hp']; exact lows_len
    rw [hp, hp']
    have HP := Lib.hid hp
    have HP' := Lib.hid hp'
    clear hp hp'
    by_cases hlt : k < n
    · have hcell : wr.cell? ⟨g, k, none⟩ = some (.int .i64 (q k)) := BlkOk.cell (HH.out.on HC.out.bl) (row_get hlt)
      obtain ⟨x, hx⟩ : ∃ x, q k = x := ⟨_, rfl⟩
      rw [hx] at hcell
      obtain ⟨f, hf, _⟩ := HC.out.bo
      have HF := Lib.hid (hf.on ((Below.refl _ wr).alloc (Nat.le_refl _) (.cells #[.int .i64 (k : Int)] 3)))
      have HY := Lib.hid (show BlkOk (wr.alloc (.cells #[.int .i64 (k : Int)] 3)) ⟨wr.heap.size, [.int .i64 (k : Int)], 3⟩ from heap_alloc_new _ _)
      have HCA := Lib.hid (HC.out.on ((Below.refl _ wr).alloc (Nat.le_refl _) (.cells #[.int .i64 (k : Int)] 3)))
      have HR := Lib.hid (show p + 1 ≤ n ∧ 0 + p < m ∧ p' + 1 ≤ n ∧ n + p' < m by have := HM.out; omega)
      clear hf hpp
      by_cases hlow : x < W
      · have HN := HCA.out.low (by rw [hx]; exact hlow) hlt HP.out
        rw [Nat.zero_add] at HN
        have HN := Lib.hid HN
        have HL := Lib.hid (show (lows q W (k + 1)).length = p + 1 ∧ (highs q W (k + 1)).length = p' by rw [lows, highs, if_pos (by rw [hx]; exact hlow), if_pos (by rw [hx]; exact hlow), List.length_cons, HP.out, HP'.out]; exact ⟨rfl, rfl⟩)
        clear hx
        go_wp2_with (at_builtin; refine wp_app11 rfl _ _ rfl (by rfl) (by rfl) HF.out HY.out HR.out.1 HR.out.2.1 ?_)
        go_roundw
        case rel => exact ⟨k + 1, hlt, by rw [HL.out.1], by rw [HL.out.2], by go_num, HN.out⟩
        case measure => simp [intOf]; omega
      · have HN := Lib.hid (show SpC w b n m q W (k + 1) _ from HCA.out.high (by rw [hx]; exact hlow) hlt HP'.out)
        have HL := Lib.hid (show (lows q W (k + 1)).length = p ∧ (highs q W (k + 1)).length = p' + 1 by rw [lows, highs, if_neg (by rw [hx]; exact hlow), if_neg (by rw [hx]; exact hlow), List.length_cons, HP.out, HP'.out]; exact ⟨rfl, rfl⟩)
        clear hx
        go_wp2_with (at_builtin; refine wp_app11 rfl _ _ rfl (by rfl) (by rfl) HF.out HY.out HR.out.2.2.1 HR.out.2.2.2 ?_)
        go_roundw
        case rel => exact ⟨k + 1, hlt, by rw [HL.out.1], by rw [HL.out.2], by go_num, HN.out⟩
        case measure => simp [intOf]; omega
    · obtain rfl : k = n := by omega
      go_wp2
      go_ret2
      exact ⟨b, by rw [HP.out, HP'.out]; rfl, HC.out⟩
end Go.Proofs.Ytfdpddlefobcpaa
