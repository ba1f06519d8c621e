/- The statements' own helpers of layer 5: own (a whole number in memory of its own), spoil (written over). -/
import Derived.Test.YtgahnchfefngeaaGreatDoorWholeOut
namespace Go.Proofs.YtgahnchfefngeaaGreatDoor
open Go.RowKit
set_option linter.unusedVariables false
set_option maxRecDepth 20000
open N
section
variable {w w' : World} {A A' : Option Addr} {n c m d : Nat} {xs ys : List Int}
theorem own_any (w : World) (b : Bool) (h : Sl w A n c xs) (hn : n ≤ 1000) :
    Calls Tryz.prog 21 #[.agg #[.bool b, .slice A n c]] w fun e w' => ∃ A' c', e = .returned (.agg #[.bool b, .slice A' n c']) ∧ N.Own w' w.heap.size A' n c' xs ∧ Below w.heap.size w w' := by
  obtain ⟨w1, hw1⟩ : ∃ w1, w.alloc (.cells #[.bool b, .slice A n c] 25) = w1 := ⟨_, rfl⟩
  obtain ⟨w2, hw2⟩ : ∃ w2, w1.alloc (.cells #[.bool false, .slice none 0 0] 25) = w2 := ⟨_, rfl⟩
  have hz1 : w1.heap.size = w.heap.size + 1 := by rw [← hw1, World.size_alloc]
  have hz2 : w2.heap.size = w.heap.size + 1 + 1 := by rw [← hw2, World.size_alloc, hz1]
  have hT := ((Held.start w).alloc hw1).alloc hw2
  rw [hz1] at hT
  have h0 : N.Own (w2.alloc (.cells #[] 48)) (w.heap.size + 1 + 1) (some ⟨w.heap.size + 1 + 1, 0, none⟩) 0 0 [] := by
    have := (Arr.lit w2 [] #[] rfl).own (Nat.le_refl _) rfl (Nat.zero_le _) (Nat.le_refl _)
    rw [hz2] at this
    exact ⟨this, Dg.nil⟩
  have hb0 : Below w2.heap.size w2 (w2.alloc (.cells #[] 48)) := (Below.refl _ w2).alloc (Nat.le_refl _) _
  have hs0 := (h.below hT.below).below hb0
  have hT3 := hT.on hb0
  have HT := Lib.hid hT3
  have hz3 : w.heap.size + 1 + 1 ≤ (w2.alloc (.cells #[] 48)).heap.size := by rw [World.size_alloc, hz2]; omega
  subst hw2
  subst hw1
  clear hz1 hz2 hT hb0 hT3
  go_enter Tryz.func21, Tryz.ntmps21
  obtain ⟨x0, x1⟩ := HT.out.c2 1 rfl
  go_wp2_with (at_builtin; refine wp_app rfl _ _ _ rfl slNat (w.heap.size + 1 + 1) rfl h0 rfl hs0 (by omega) (by omega) hz3 ?_; intro A2 c2 w3 hown2 _ _ hb2; simp only [Nat.zero_add, List.nil_append] at hown2; clear x0 x1; have hX := (HT.out.row 1 (g := w.heap.size) rfl); have hY := (HT.out.row 0 (g := w.heap.size + 1) rfl); have hx : BoxI w3 w.heap.size b A n c := BoxI.below hX hb2 (by omega); have hy : BoxI w3 (w.heap.size + 1) false none 0 0 := BoxI.below hY hb2 (by omega); have HW := Lib.hid (HT.out.below.trans (hb2.mono (by omega))); clear hX hY HT h0 hs0 hb2 hz3; obtain ⟨w4, rfl⟩ : ∃ w4 : World, w4 = w3 := ⟨_, rfl⟩; have x0 := hx.c0; have x1 := hx.c1; have f0 := hx.fr 0; have f1 := hx.fr 1; have y0 := hy.c0; have y1 := hy.c1; have f2 := hy.fr 0; have f3 := hy.fr 1; have HX := Lib.hid hx; have HY := Lib.hid hy; have HO := Lib.hid hown2; clear hx hy hown2)
  have hb1 : Below w.heap.size w (w4.setCell ⟨w.heap.size, 1, none⟩ (.slice A2 n c2)) := HW.out.setCell (Nat.le_refl _) _
  have hy2 : BoxI (w4.setCell ⟨w.heap.size, 1, none⟩ (.slice A2 n c2)) (w.heap.size + 1) false none 0 0 := BoxI.far HY.out (by show w.heap.size + 1 ≠ w.heap.size; omega) _
  refine bodyPost_ret (results_I rfl rfl ((hy2.set0 b).set1 A2 n c2)) rfl ?_
  refine ⟨A2, c2, rfl, ?_, (hb1.setCell (p := ⟨w.heap.size + 1, 0, none⟩) (Nat.le_succ _) _).setCell (p := ⟨w.heap.size + 1, 1, none⟩) (Nat.le_succ _) _⟩
  exact (((HO.out.keep (grow_set w4 w.heap.size 1 _) (fun k hk => by injection hk with hk; omega)).keep (grow_set _ (w.heap.size + 1) 0 _) (fun k hk => by injection hk with hk; omega)).keep (grow_set _ (w.heap.size + 1) 1 _) (fun k hk => by injection hk with hk; omega)).mono (by omega)
end
namespace N
/-- a row that may be written over: its block, all its room -/
def RowOk (base g : Nat) (w : World) (A : Option Addr) (n c : Nat) : Prop := n ≤ c ∧ c ≤ maxLen ∧ ((A = none ∧ n = 0 ∧ c = 0) ∨ ∃ g' cur, A = some ⟨g', 0, none⟩ ∧ base ≤ g' ∧ g' ≠ g ∧ w.heap[g']? = some (.cells cur 48 (0, 0)) ∧ cur.size = c)
theorem RowOk.set {base g : Nat} {w : World} {A : Option Addr} {n c : Nat} (h : RowOk base g w A n c) (g2 k : Nat) (u : Value) : RowOk base g (w.setCell ⟨g2, k, none⟩ u) A n c := by
  refine ⟨h.1, h.2.1, ?_⟩
  rcases h.2.2 with h1 | ⟨g', cur, h1, h2, h3, h4, h5⟩
  · exact .inl h1
  · refine .inr ?_
    by_cases e : g' = g2
    · subst e
      refine ⟨g', cur.setIfInBounds k u, h1, h2, h3, ?_, by rw [Array.size_setIfInBounds]; exact h5⟩
      simp [World.setCell, Array.getElem?_modify, h4]
    · exact ⟨g', cur, h1, h2, h3, (Below.heap_setCell w ⟨g2, k, none⟩ u g' e).trans h4, h5⟩
theorem Ints.set {w : World} {g : Nat} {l : List (Bool × Option Addr × Nat × Nat)} (h : Ints w g l) {g2 : Nat} (hg : g2 ≠ g) (k : Nat) (u : Value) : Ints (w.setCell ⟨g2, k, none⟩ u) g l := fun j hj => by
  obtain ⟨b, A, n, c, h1, h2, h3⟩ := h j hj
  refine ⟨b, A, n, c, h1, ?_, ?_⟩
  · rw [World.cell?_setCell_other _ _ _ _ (fun e => hg (congrArg Addr.block e))]; exact h2
  · rw [World.cell?_setCell_other _ _ _ _ (fun e => hg (congrArg Addr.block e))]; exact h3
theorem Own.rowOk {w : World} {base g : Nat} {A : Option Addr} {n c : Nat} {xs : List Int} (h : N.Own w base A n c xs) (hg : (Value.slice A n c).ownBlock ≠ some g) : RowOk base g w A n c := by
  refine ⟨h.sl.cap, h.sl.max, ?_⟩
  rcases h.row.2 with ⟨e, e0⟩ | ⟨g', cap, cur, e, hb, hh, hnc, hm, hsz, ht⟩
  · cases e
    exact .inl ⟨rfl, e0, rfl⟩
  · cases e
    exact .inr ⟨g', cur, rfl, hb, fun e => hg (by rw [e]; rfl), hh, by omega⟩
end N
set_option maxHeartbeats 1000000 in
theorem spoil_i (w : World) (base g : Nat) (l : List (Bool × Option Addr × Nat × Nat)) (h : Ints w g l) (hl : l.length ≤ 100) (hr : ∀ t ∈ l, RowOk base g w t.2.1 t.2.2.1 t.2.2.2) :
    Calls Tryz.prog 32 #[.slice (some ⟨g, 0, none⟩) l.length l.length] w fun e w' => (∃ v, e = .returned v) ∧ Below base w w' := by
  obtain ⟨q, hq⟩ : ∃ q : Nat, l.length = q := ⟨_, rfl⟩
  have HH := Lib.hid h
  have HQ := Lib.hid hq
  have HR := Lib.hid hr
  rw [hq] at hl ⊢
  clear hr h hq
  go_enter Tryz.func32, Tryz.ntmps32
  go_wp2
  go_loopw [2] (fun i wr => ∃ k : Nat, k ≤ q ∧ i = .int .i64 k ∧ Ints wr g l ∧ (∀ t ∈ l, RowOk base g wr t.2.1 t.2.2.1 t.2.2.2) ∧ Below base w wr) (fun i _ => q - (intOf i).toNat)
  case atStart => exact ⟨0, Nat.zero_le _, rfl, HH.out, HR.out, Below.refl _ _⟩
  case round =>
    obtain ⟨k, hk, rfl, hI, hRow, hb⟩ := hrel
    obtain ⟨wo, rfl⟩ : ∃ wo : World, wo = wr := ⟨_, rfl⟩
    by_cases hlt : k < q
    · obtain ⟨b, A, n, c, h1, h2, h3⟩ := hI k (by have := HQ.out; omega)
      have hro := hRow _ (List.mem_of_getElem? h1)
      have hcn : n ≤ c := hro.1
      have hcm : c ≤ maxLen := hro.2.1
      unfold maxLen at hcm
      have H1 := Lib.hid h1
      have HI := Lib.hid hI
      have HRow := Lib.hid hRow
      have HB := Lib.hid hb
      have HRO := Lib.hid hro
      clear h1 hI hRow hb hro
      rcases HRO.out.2.2 with ⟨rfl, rfl, rfl⟩ | ⟨g', cur0, rfl, _, _, _, _⟩
      · go_wp2
        go_quiet (fail)
        generalize hwd : World.drewN wo _ = wd
        have hI1 : Ints wd g l := by rw [← hwd]; exact HI.out
        have hR1 : ∀ t ∈ l, RowOk base g wd t.2.1 t.2.2.1 t.2.2.2 := by rw [← hwd]; exact HRow.out
        have hB1 : Below base w wd := HB.out.trans (by rw [← hwd]; exact ⟨rfl, rfl, rfl, Nat.le_refl _, fun _ _ => rfl⟩)
        have HI1 := Lib.hid hI1
        have HR1 := Lib.hid hR1
        have HB1 := Lib.hid hB1
        clear hI1 hR1 hB1 hwd h2 h3
        go_wp2
        go_loopw [4] (fun i wr => ∃ j : Nat, j ≤ 0 ∧ i = .int .i64 j ∧ Ints wr g l ∧ (∀ t ∈ l, RowOk base g wr t.2.1 t.2.2.1 t.2.2.2) ∧ Below base w wr) (fun i _ => 0 - (intOf i).toNat)
        case atStart => exact ⟨0, Nat.zero_le _, rfl, HI1.out, HR1.out, HB1.out⟩
        case round =>
          obtain ⟨j, hj, rfl, hI2, hR2, hB2⟩ := hrel
          obtain ⟨wi, rfl⟩ : ∃ wi : World, wi = wr := ⟨_, rfl⟩
          obtain rfl : j = 0 := by omega
          have HI2 := Lib.hid hI2
          have HR2 := Lib.hid hR2
          have HB2 := Lib.hid hB2
          clear hI2 hR2 hB2
          go_wp2
          go_roundw
          case rel => exact ⟨k + 1, by omega, by go_num, HI2.out, HR2.out, HB2.out⟩
          case measure => simp [intOf]; omega
      · go_wp2
        go_quiet (fail)
        generalize hwd : World.drewN wo _ = wd
        have hI1 : Ints wd g l := by rw [← hwd]; exact HI.out
        have hR1 : ∀ t ∈ l, RowOk base g wd t.2.1 t.2.2.1 t.2.2.2 := by rw [← hwd]; exact HRow.out
        have hB1 : Below base w wd := HB.out.trans (by rw [← hwd]; exact ⟨rfl, rfl, rfl, Nat.le_refl _, fun _ _ => rfl⟩)
        have HI1 := Lib.hid hI1
        have HR1 := Lib.hid hR1
        have HB1 := Lib.hid hB1
        clear hI1 hR1 hB1 hwd h2 h3
        go_wp2
        go_loopw [4] (fun i wr => ∃ j : Nat, j ≤ c ∧ i = .int .i64 j ∧ Ints wr g l ∧ (∀ t ∈ l, RowOk base g wr t.2.1 t.2.2.1 t.2.2.2) ∧ Below base w wr) (fun i _ => c - (intOf i).toNat)
        case atStart => exact ⟨0, Nat.zero_le _, rfl, HI1.out, HR1.out, HB1.out⟩
        case round =>
          obtain ⟨j, hj, rfl, hI2, hR2, hB2⟩ := hrel
          obtain ⟨wi, rfl⟩ : ∃ wi : World, wi = wr := ⟨_, rfl⟩
          by_cases hjl : j < c
          · obtain ⟨hr1, hr2, hr3⟩ := hR2 _ (List.mem_of_getElem? H1.out)
            rcases hr3 with ⟨e, _⟩ | ⟨g'', cur, e, e2, e3, e4, e5⟩
            · cases e
            · cases e
              have e5 : cur.size = c := e5
              have hc1 : wi.cell? ⟨g', j, none⟩ = some cur[j] := by rw [cell_of_row _ _ _ _ _ _ e4, Array.getElem?_eq_getElem (by omega)]
              have hf1 : wi.frozen? ⟨g', j, none⟩ = false := by simp [World.frozen?, e4]
              have HI2 := Lib.hid hI2
              have HR2 := Lib.hid hR2
              have HB2 := Lib.hid hB2
              have HG := Lib.hid e2
              have HG3 := Lib.hid e3
              clear hI2 hR2 hB2 hr1 hr2 e2 e3 e4 e5
              go_wp2
              go_roundw
              case rel => exact ⟨j + 1, by omega, by go_num, Ints.set HI2.out HG3.out j _, fun t ht => (HR2.out t ht).set g' j _, HB2.out.setCell (p := ⟨g', j, none⟩) HG.out _⟩
              case measure => simp [intOf]; omega
          · obtain rfl : j = c := by omega
            have HI2 := Lib.hid hI2
            have HR2 := Lib.hid hR2
            have HB2 := Lib.hid hB2
            clear hI2 hR2 hB2
            go_wp2
            go_roundw
            case rel => exact ⟨k + 1, by omega, by go_num, HI2.out, HR2.out, HB2.out⟩
            case measure => simp [intOf]; omega
    · obtain rfl : k = q := by omega
      have HB := Lib.hid hb
      clear hI hRow hb
      go_wp2
      go_end0
      exact ⟨⟨_, rfl⟩, HB.out⟩
section
end
end Go.Proofs.YtgahnchfefngeaaGreatDoor
