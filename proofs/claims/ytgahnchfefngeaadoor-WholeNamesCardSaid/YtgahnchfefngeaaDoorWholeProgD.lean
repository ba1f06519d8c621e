/- What the program's package of whole numbers answers, over this translation: Div, Read. -/
import Derived.Test.YtgahnchfefngeaaDoorWholeProgC
namespace Go.Proofs.YtgahnchfefngeaaDoor
open Go.RowKit
set_option linter.unusedVariables false
set_option maxRecDepth 20000
open N
namespace N
theorem Held.pick {w W : World} {a0 a1 a2 a3 a4 a5 a6 : Nat × Array Value × TypeId} (h : Held w [a0, a1, a2, a3, a4, a5, a6] W) : Held w [a0, a5, a6] W := h.sub fun q hq => by
  simp only [List.mem_cons, List.not_mem_nil, or_false] at hq ⊢
  rcases hq with e | e | e <;> simp [e]
theorem Held.r2 {w W : World} {a0 a1 a2 a5 a6 : Nat × Array Value × TypeId} {g g' : Nat} (h : Held w [a0, a1, a2, (g', #[.bool false, .slice none 0 0], 26), (g, #[.bool false, .slice none 0 0], 26), a5, a6] W) (hne : g ≠ g') : R2 w W.heap.size g g' W :=
  ⟨h.below, h.ge 4 rfl, h.ge 3 rfl, h.lt 4 rfl, h.lt 3 rfl, h.below.size, Nat.le_refl _, hne, ⟨_, _, _, _, h.row 4 rfl⟩, ⟨_, _, _, _, h.row 3 rfl⟩⟩
theorem OutI2.below {W w' : World} {m : Nat} {z y q : Int} {e : Ending} (h : OutI2 W m z y q e w') : Below W.heap.size W w' := by
  obtain ⟨A, n, c, A', n', c', he, h1, h2, h3, h4, h5⟩ := h
  exact h5
end N
section
variable {w w' : World} {A A' : Option Addr} {n c m d : Nat} {xs ys : List Int}
theorem minusQ_any (w : World) (k : FuncId) (caps : Array Value) :
    Calls Tryd.prog 34 #[.func (.func k) #[] caps] w fun e w' =>
      e = .returned (.func (.func 53) #[] #[.pointer (some ⟨w.heap.size, 0, none⟩)]) ∧ w' = w.alloc (.cells #[.func (.func k) #[] caps] 61) := by
  go_enter Tryd.func34, Tryd.ntmps34
  go_wp2
  go_ret
  exact ⟨rfl, rfl⟩
/-- what Div of two whole numbers tells, by their signs -/
def Way (z y Q R k : Int) : Prop := ∃ q r, IsD (mg z) (mg y) q r k ∧ (0 ≤ z → 0 ≤ y → Q = q ∧ R = r) ∧ (0 ≤ z → y < 0 → Q = -q ∧ R = r) ∧
  (z < 0 → 0 ≤ y → Q = -(if r = 0 then q else q + 1) ∧ R = (if r = 0 then 0 else mg y - r)) ∧ (z < 0 → y < 0 → Q = (if r = 0 then q else q + 1) ∧ R = (if r = 0 then 0 else mg y - r))
theorem way_zero (z : Int) : Way z 0 0 0 7 :=
  ⟨0, 0, .inr ⟨rfl, rfl, rfl, rfl⟩, fun _ _ => ⟨rfl, rfl⟩, fun _ h => by omega, fun _ _ => ⟨rfl, rfl⟩, fun _ h => by omega⟩
theorem way_yes (z : Int) {y : Int} (hy : y ≠ 0) : Way z y (z / y) (z % y) 0 := by
  have hu : 0 < mg y := mg_pos.2 hy
  have hz : ∀ b, sg z = b → iv b (mg z) = z := fun b e => by rw [← e]; exact iv_sm z
  have hyv : ∀ b, sg y = b → iv b (mg y) = y := fun b e => by rw [← e]; exact iv_sm y
  refine ⟨mg z / mg y, mg z % mg y, .inl ⟨hu, rfl, rfl, rfl⟩, fun h1 h2 => ?_, fun h1 h2 => ?_, fun h1 h2 => ?_, fun h1 h2 => ?_⟩
  · have := iv_div (b := false) (b' := false) (v := mg z) hu (.inl rfl)
    rw [hz _ (sg_f h1), hyv _ (sg_f h2)] at this
    exact this
  · have := iv_div (b := false) (b' := true) (v := mg z) hu (.inl rfl)
    rw [hz _ (sg_f h1), hyv _ (sg_t h2)] at this
    exact this
  · by_cases h0 : mg z % mg y = 0
    · have := iv_div (b := true) (b' := false) (v := mg z) hu (.inr h0)
      rw [hz _ (sg_t h1), hyv _ (sg_f h2)] at this
      rw [if_pos h0, if_pos h0, this.1, this.2, h0]
      exact ⟨rfl, rfl⟩
    · have := iv_div' (b' := false) (v := mg z) hu h0
      rw [hz _ (sg_t h1), hyv _ (sg_f h2)] at this
      rw [if_neg h0, if_neg h0, this.1, this.2]
      exact ⟨rfl, rfl⟩
  · by_cases h0 : mg z % mg y = 0
    · have := iv_div (b := true) (b' := true) (v := mg z) hu (.inr h0)
      rw [hz _ (sg_t h1), hyv _ (sg_t h2)] at this
      rw [if_pos h0, if_pos h0, this.1, this.2, h0]
      exact ⟨rfl, rfl⟩
    · have := iv_div' (b' := true) (v := mg z) hu h0
      rw [hz _ (sg_t h1), hyv _ (sg_t h2)] at this
      rw [if_neg h0, if_neg h0, this.1, this.2]
      exact ⟨rfl, rfl⟩
set_option maxHeartbeats 4000000 in
theorem wdiv_way (w : World) (b : Bool) (h : Sl w A n c xs) (hn : n ≤ 1000000) (b' : Bool) (h' : Sl w A' m d ys) (hm : m ≤ 1000000) {Q R k : Int} (hw : Way (iv b (val B xs)) (iv b' (val B ys)) Q R k) :
    Calls Tryd.prog 15 #[.agg #[.bool b, .slice A n c], .agg #[.bool b', .slice A' m d]] w (OutI2 w (n + m + 1) Q R k) := by
  have hv := h.nn0
  have hu := h'.nn0
  obtain ⟨z, hz⟩ : ∃ z, iv b (val B xs) = z := ⟨_, rfl⟩
  obtain ⟨y, hy⟩ : ∃ y, iv b' (val B ys) = y := ⟨_, rfl⟩
  have mz : mg z = val B xs := by rw [← hz]; exact mg_iv hv
  have my : mg y = val B ys := by rw [← hy]; exact mg_iv hu
  have hsg := fun (k : Int) hk W (hb : Below w.heap.size w W) => signs_any (k := k) W b (h.below hb) (by omega) b' (h'.below hb) (by omega) hk
  rw [hz, hy] at hsg hw
  obtain ⟨q, r, hd, w1, w2, w3, w4⟩ := hw
  rw [mz, my] at hd
  have hdown := fun W (hb : Below w.heap.size w W) => down_any W (h.below hb) hn (h'.below hb) hm hd
  have hup := fun W (hb : Below w.heap.size w W) => up_any W (h.below hb) hn (h'.below hb) hm hd
  rw [← my] at hup
  obtain ⟨uq, huq⟩ : ∃ uq, (if r = 0 then q else q + 1) = uq := ⟨_, rfl⟩
  obtain ⟨ur, hur⟩ : ∃ ur, (if r = 0 then 0 else mg y - r) = ur := ⟨_, rfl⟩
  rw [huq, hur] at hup w3 w4
  clear hd huq hur
  by_cases e1 : z < 0
  all_goals by_cases e2 : y < 0
  · obtain ⟨rfl, rfl⟩ := w4 (by omega) (by omega)
    have HUP := Lib.hid hup
    have HSG := Lib.hid (hsg 3 (by rw [if_pos e1, if_pos e2]; rfl))
    clear hv hu hz hy mz my hsg w1 w2 w3 w4 hdown hup e1 e2 h h'
    go_enter Tryd.func15, Tryd.ntmps15
    go_wp2_with (go_at_call 34; refine (minusQ_any _ _ _).mono ?_; rintro e w' ⟨rfl, rfl⟩)
    generalize hwa : World.alloc (World.alloc (World.alloc (World.alloc (World.alloc (World.alloc (World.alloc w _) _) _) _) _) _) _ = w7
    have h1 := (((((((Held.start w).alloc rfl).alloc rfl).alloc rfl).alloc rfl).alloc rfl).alloc rfl).alloc hwa
    simp only [World.size_alloc] at h1
    clear hwa
    have H2 := Lib.hid (h1.r2 (by omega))
    have HT := Lib.hid h1
    clear h1
    have h1 := HT.out.drew
    have h4 := H2.out.on (W' := w7.drew) ⟨rfl, rfl, rfl, Nat.le_refl _, fun _ _ => rfl⟩
    clear HT H2; have HT := Lib.hid h1; have H2 := Lib.hid h4; clear h1 h4
    go_region_held3 (fun W => (W.cell? ⟨w.heap.size + 1 + 1 + 1 + 1 + 1 + 1, 0, none⟩ = some (.func (.func 33) #[] #[]) ∧ W.cell? ⟨w.heap.size + 1 + 1 + 1 + 1 + 1 + 1, 1, none⟩ = some (.func (.func 53) #[] #[.pointer (some ⟨w.heap.size + 1 + 1 + 1 + 1, 0, none⟩)]) ∧ W.cell? ⟨w.heap.size + 1 + 1 + 1 + 1 + 1 + 1, 2, none⟩ = some (.func (.func 53) #[] #[.pointer (some ⟨w.heap.size + 1 + 1 + 1 + 1 + 1, 0, none⟩)]) ∧ W.cell? ⟨w.heap.size + 1 + 1 + 1 + 1 + 1 + 1, 3, none⟩ = some (.func (.func 35) #[] #[])) ∧ (W.cell? ⟨w.heap.size + 1, 0, none⟩ = some (.bool b') ∧ W.cell? ⟨w.heap.size + 1, 1, none⟩ = some (.slice A' m d)) ∧ (W.cell? ⟨w.heap.size, 0, none⟩ = some (.bool b) ∧ W.cell? ⟨w.heap.size, 1, none⟩ = some (.slice A n c))) (first | with_reducible exact ⟨HT.out.c4 0 rfl, HT.out.c2 5 rfl, HT.out.c2 6 rfl⟩ | with_reducible exact ⟨HT.out.drew.c4 0 rfl, HT.out.drew.c2 5 rfl, HT.out.drew.c2 6 rfl⟩ | with_reducible exact ⟨HF1.out.c4 0 rfl, HF1.out.c2 1 rfl, HF1.out.c2 2 rfl⟩ | with_reducible exact ⟨HF2.out.c4 0 rfl, HF2.out.c2 1 rfl, HF2.out.c2 2 rfl⟩) (first
      | (go_at_call 36; (with_reducible refine (HSG.out _ HT.out.below).mono ?_); rintro e w' ⟨rfl, h1⟩; have h2 := HT.out.on h1; have h4 := H2.out.on h1; clear HT H2 h1; have HT := Lib.hid h2; have H2 := Lib.hid h4; clear h2 h4)
      | (go_at_call 35; (with_reducible refine (HUP.out _ HT.out.below).mono ?_); rintro e w' ho; have hbb := ho.below; have h3 := HT.out.on hbb; have h4 := H2.out.on hbb; have hbs := H2.out.hbase; obtain ⟨A1, n1, c1, A2, n2, c2, rfl, hn1, hn2, ho1, ho2, hb2⟩ := ho; have HO1 := Lib.hid (ho1.mono hbs); have HO2 := Lib.hid (ho2.mono hbs); obtain ⟨⟨a0, a1, x0, x1⟩, ⟨a2, a3, x2, x3⟩, ⟨y0, y1⟩, ⟨y2, y3⟩⟩ := h4.cells; have hf1 := (h3.pick.far h4.ge (by intro q hq; simp only [List.mem_cons, List.not_mem_nil, or_false] at hq; rcases hq with rfl | rfl | rfl <;> first | (show w.heap.size + 1 + 1 + 1 + 1 + 1 + 1 ≠ w.heap.size + 1 + 1; omega) | (show w.heap.size + 1 ≠ w.heap.size + 1 + 1; omega) | (show w.heap.size ≠ w.heap.size + 1 + 1; omega)) 0 (.bool (sg Q))).far h4.ge (by intro q hq; simp only [List.mem_cons, List.not_mem_nil, or_false] at hq; rcases hq with rfl | rfl | rfl <;> first | (show w.heap.size + 1 + 1 + 1 + 1 + 1 + 1 ≠ w.heap.size + 1 + 1; omega) | (show w.heap.size + 1 ≠ w.heap.size + 1 + 1; omega) | (show w.heap.size ≠ w.heap.size + 1 + 1; omega)) 1 (.slice A1 n1 c1); have HF2 := Lib.hid ((hf1.far h4.ge' (by intro q hq; simp only [List.mem_cons, List.not_mem_nil, or_false] at hq; rcases hq with rfl | rfl | rfl <;> first | (show w.heap.size + 1 + 1 + 1 + 1 + 1 + 1 ≠ w.heap.size + 1 + 1 + 1; omega) | (show w.heap.size + 1 ≠ w.heap.size + 1 + 1 + 1; omega) | (show w.heap.size ≠ w.heap.size + 1 + 1 + 1; omega)) 0 (.bool (sg R))).far h4.ge' (by intro q hq; simp only [List.mem_cons, List.not_mem_nil, or_false] at hq; rcases hq with rfl | rfl | rfl <;> first | (show w.heap.size + 1 + 1 + 1 + 1 + 1 + 1 ≠ w.heap.size + 1 + 1 + 1; omega) | (show w.heap.size + 1 ≠ w.heap.size + 1 + 1 + 1; omega) | (show w.heap.size ≠ w.heap.size + 1 + 1 + 1; omega)) 1 (.slice A2 n2 c2)); have HF1 := Lib.hid hf1; have HN1 := Lib.hid hn1; have HN2 := Lib.hid hn2; clear HT H2 hbb ho1 ho2 hb2 hbs hf1 hn1 hn2; have HT := Lib.hid h3; have H2 := Lib.hid h4; clear h3 h4))
    go_wp2
    refine bodyPost_ret (results_I3 rfl rfl rfl rfl (H2.out.put _ _ _ _ _ _ _ _).1 (H2.out.put _ _ _ _ _ _ _ _).2.1) rfl ?_
    exact H2.out.fin HO1.out HO2.out (by have := HN1.out; omega) (by have := HN2.out; omega)
  · obtain ⟨rfl, rfl⟩ := w3 (by omega) (by omega)
    have HUP := Lib.hid hup
    have HSG := Lib.hid (hsg 2 (by rw [if_pos e1, if_neg e2]; rfl))
    clear hv hu hz hy mz my hsg w1 w2 w3 w4 hdown hup e1 e2 h h'
    go_enter Tryd.func15, Tryd.ntmps15
    go_wp2_with (go_at_call 34; refine (minusQ_any _ _ _).mono ?_; rintro e w' ⟨rfl, rfl⟩)
    generalize hwa : World.alloc (World.alloc (World.alloc (World.alloc (World.alloc (World.alloc (World.alloc w _) _) _) _) _) _) _ = w7
    have h1 := (((((((Held.start w).alloc rfl).alloc rfl).alloc rfl).alloc rfl).alloc rfl).alloc rfl).alloc hwa
    simp only [World.size_alloc] at h1
    clear hwa
    have H2 := Lib.hid (h1.r2 (by omega))
    have HT := Lib.hid h1
    clear h1
    have h1 := HT.out.drew
    have h4 := H2.out.on (W' := w7.drew) ⟨rfl, rfl, rfl, Nat.le_refl _, fun _ _ => rfl⟩
    clear HT H2; have HT := Lib.hid h1; have H2 := Lib.hid h4; clear h1 h4
    go_region_held3 (fun W => (W.cell? ⟨w.heap.size + 1 + 1 + 1 + 1 + 1 + 1, 0, none⟩ = some (.func (.func 33) #[] #[]) ∧ W.cell? ⟨w.heap.size + 1 + 1 + 1 + 1 + 1 + 1, 1, none⟩ = some (.func (.func 53) #[] #[.pointer (some ⟨w.heap.size + 1 + 1 + 1 + 1, 0, none⟩)]) ∧ W.cell? ⟨w.heap.size + 1 + 1 + 1 + 1 + 1 + 1, 2, none⟩ = some (.func (.func 53) #[] #[.pointer (some ⟨w.heap.size + 1 + 1 + 1 + 1 + 1, 0, none⟩)]) ∧ W.cell? ⟨w.heap.size + 1 + 1 + 1 + 1 + 1 + 1, 3, none⟩ = some (.func (.func 35) #[] #[])) ∧ (W.cell? ⟨w.heap.size + 1, 0, none⟩ = some (.bool b') ∧ W.cell? ⟨w.heap.size + 1, 1, none⟩ = some (.slice A' m d)) ∧ (W.cell? ⟨w.heap.size, 0, none⟩ = some (.bool b) ∧ W.cell? ⟨w.heap.size, 1, none⟩ = some (.slice A n c))) (first | with_reducible exact ⟨HT.out.c4 0 rfl, HT.out.c2 5 rfl, HT.out.c2 6 rfl⟩ | with_reducible exact ⟨HT.out.drew.c4 0 rfl, HT.out.drew.c2 5 rfl, HT.out.drew.c2 6 rfl⟩ | with_reducible exact ⟨HF1.out.c4 0 rfl, HF1.out.c2 1 rfl, HF1.out.c2 2 rfl⟩ | with_reducible exact ⟨HF2.out.c4 0 rfl, HF2.out.c2 1 rfl, HF2.out.c2 2 rfl⟩) (first
      | (go_at_call 36; (with_reducible refine (HSG.out _ HT.out.below).mono ?_); rintro e w' ⟨rfl, h1⟩; have h2 := HT.out.on h1; have h4 := H2.out.on h1; clear HT H2 h1; have HT := Lib.hid h2; have H2 := Lib.hid h4; clear h2 h4)
      | (go_at_call 53; (with_reducible refine (minus_up _ _ (K := n + m + 1) (by omega) (HT.out.c1 1 rfl) (HT.out.lt 1 rfl) (fun W hb => HUP.out W (HT.out.below.trans (hb.mono HT.out.below.size)))).mono ?_); rintro e w' ho; have hbb := ho.below; have h3 := HT.out.on hbb; have h4 := H2.out.on hbb; have hbs := H2.out.hbase; obtain ⟨A1, n1, c1, A2, n2, c2, rfl, hn1, hn2, ho1, ho2, hb2⟩ := ho; have HO1 := Lib.hid (ho1.mono hbs); have HO2 := Lib.hid (ho2.mono hbs); obtain ⟨⟨a0, a1, x0, x1⟩, ⟨a2, a3, x2, x3⟩, ⟨y0, y1⟩, ⟨y2, y3⟩⟩ := h4.cells; have hf1 := (h3.pick.far h4.ge (by intro q hq; simp only [List.mem_cons, List.not_mem_nil, or_false] at hq; rcases hq with rfl | rfl | rfl <;> first | (show w.heap.size + 1 + 1 + 1 + 1 + 1 + 1 ≠ w.heap.size + 1 + 1; omega) | (show w.heap.size + 1 ≠ w.heap.size + 1 + 1; omega) | (show w.heap.size ≠ w.heap.size + 1 + 1; omega)) 0 (.bool (sg (-uq)))).far h4.ge (by intro q hq; simp only [List.mem_cons, List.not_mem_nil, or_false] at hq; rcases hq with rfl | rfl | rfl <;> first | (show w.heap.size + 1 + 1 + 1 + 1 + 1 + 1 ≠ w.heap.size + 1 + 1; omega) | (show w.heap.size + 1 ≠ w.heap.size + 1 + 1; omega) | (show w.heap.size ≠ w.heap.size + 1 + 1; omega)) 1 (.slice A1 n1 c1); have HF2 := Lib.hid ((hf1.far h4.ge' (by intro q hq; simp only [List.mem_cons, List.not_mem_nil, or_false] at hq; rcases hq with rfl | rfl | rfl <;> first | (show w.heap.size + 1 + 1 + 1 + 1 + 1 + 1 ≠ w.heap.size + 1 + 1 + 1; omega) | (show w.heap.size + 1 ≠ w.heap.size + 1 + 1 + 1; omega) | (show w.heap.size ≠ w.heap.size + 1 + 1 + 1; omega)) 0 (.bool (sg R))).far h4.ge' (by intro q hq; simp only [List.mem_cons, List.not_mem_nil, or_false] at hq; rcases hq with rfl | rfl | rfl <;> first | (show w.heap.size + 1 + 1 + 1 + 1 + 1 + 1 ≠ w.heap.size + 1 + 1 + 1; omega) | (show w.heap.size + 1 ≠ w.heap.size + 1 + 1 + 1; omega) | (show w.heap.size ≠ w.heap.size + 1 + 1 + 1; omega)) 1 (.slice A2 n2 c2)); have HF1 := Lib.hid hf1; have HN1 := Lib.hid hn1; have HN2 := Lib.hid hn2; clear HT H2 hbb ho1 ho2 hb2 hbs hf1 hn1 hn2; have HT := Lib.hid h3; have H2 := Lib.hid h4; clear h3 h4))
    go_wp2
    refine bodyPost_ret (results_I3 rfl rfl rfl rfl (H2.out.put _ _ _ _ _ _ _ _).1 (H2.out.put _ _ _ _ _ _ _ _).2.1) rfl ?_
    exact H2.out.fin HO1.out HO2.out (by have := HN1.out; omega) (by have := HN2.out; omega)
  · obtain ⟨rfl, rfl⟩ := w2 (by omega) (by omega)
    have HDOWN := Lib.hid hdown
    have HSG := Lib.hid (hsg 1 (by rw [if_neg e1, if_pos e2]; rfl))
    clear hv hu hz hy mz my hsg w1 w2 w3 w4 hdown hup e1 e2 h h'
    go_enter Tryd.func15, Tryd.ntmps15
    go_wp2_with (go_at_call 34; refine (minusQ_any _ _ _).mono ?_; rintro e w' ⟨rfl, rfl⟩)
    generalize hwa : World.alloc (World.alloc (World.alloc (World.alloc (World.alloc (World.alloc (World.alloc w _) _) _) _) _) _) _ = w7
    have h1 := (((((((Held.start w).alloc rfl).alloc rfl).alloc rfl).alloc rfl).alloc rfl).alloc rfl).alloc hwa
    simp only [World.size_alloc] at h1
    clear hwa
    have H2 := Lib.hid (h1.r2 (by omega))
    have HT := Lib.hid h1
    clear h1
    have h1 := HT.out.drew
    have h4 := H2.out.on (W' := w7.drew) ⟨rfl, rfl, rfl, Nat.le_refl _, fun _ _ => rfl⟩
    clear HT H2; have HT := Lib.hid h1; have H2 := Lib.hid h4; clear h1 h4
    go_region_held3 (fun W => (W.cell? ⟨w.heap.size + 1 + 1 + 1 + 1 + 1 + 1, 0, none⟩ = some (.func (.func 33) #[] #[]) ∧ W.cell? ⟨w.heap.size + 1 + 1 + 1 + 1 + 1 + 1, 1, none⟩ = some (.func (.func 53) #[] #[.pointer (some ⟨w.heap.size + 1 + 1 + 1 + 1, 0, none⟩)]) ∧ W.cell? ⟨w.heap.size + 1 + 1 + 1 + 1 + 1 + 1, 2, none⟩ = some (.func (.func 53) #[] #[.pointer (some ⟨w.heap.size + 1 + 1 + 1 + 1 + 1, 0, none⟩)]) ∧ W.cell? ⟨w.heap.size + 1 + 1 + 1 + 1 + 1 + 1, 3, none⟩ = some (.func (.func 35) #[] #[])) ∧ (W.cell? ⟨w.heap.size + 1, 0, none⟩ = some (.bool b') ∧ W.cell? ⟨w.heap.size + 1, 1, none⟩ = some (.slice A' m d)) ∧ (W.cell? ⟨w.heap.size, 0, none⟩ = some (.bool b) ∧ W.cell? ⟨w.heap.size, 1, none⟩ = some (.slice A n c))) (first | with_reducible exact ⟨HT.out.c4 0 rfl, HT.out.c2 5 rfl, HT.out.c2 6 rfl⟩ | with_reducible exact ⟨HT.out.drew.c4 0 rfl, HT.out.drew.c2 5 rfl, HT.out.drew.c2 6 rfl⟩ | with_reducible exact ⟨HF1.out.c4 0 rfl, HF1.out.c2 1 rfl, HF1.out.c2 2 rfl⟩ | with_reducible exact ⟨HF2.out.c4 0 rfl, HF2.out.c2 1 rfl, HF2.out.c2 2 rfl⟩) (first
      | (go_at_call 36; (with_reducible refine (HSG.out _ HT.out.below).mono ?_); rintro e w' ⟨rfl, h1⟩; have h2 := HT.out.on h1; have h4 := H2.out.on h1; clear HT H2 h1; have HT := Lib.hid h2; have H2 := Lib.hid h4; clear h2 h4)
      | (go_at_call 53; (with_reducible refine (minus_down _ _ (K := n) (by omega) (HT.out.c1 2 rfl) (HT.out.lt 2 rfl) (fun W hb => HDOWN.out W (HT.out.below.trans (hb.mono HT.out.below.size)))).mono ?_); rintro e w' ho; have hbb := ho.below; have h3 := HT.out.on hbb; have h4 := H2.out.on hbb; have hbs := H2.out.hbase; obtain ⟨A1, n1, c1, A2, n2, c2, rfl, hn1, hn2, ho1, ho2, hb2⟩ := ho; have HO1 := Lib.hid (ho1.mono hbs); have HO2 := Lib.hid (ho2.mono hbs); obtain ⟨⟨a0, a1, x0, x1⟩, ⟨a2, a3, x2, x3⟩, ⟨y0, y1⟩, ⟨y2, y3⟩⟩ := h4.cells; have hf1 := (h3.pick.far h4.ge (by intro q hq; simp only [List.mem_cons, List.not_mem_nil, or_false] at hq; rcases hq with rfl | rfl | rfl <;> first | (show w.heap.size + 1 + 1 + 1 + 1 + 1 + 1 ≠ w.heap.size + 1 + 1; omega) | (show w.heap.size + 1 ≠ w.heap.size + 1 + 1; omega) | (show w.heap.size ≠ w.heap.size + 1 + 1; omega)) 0 (.bool (sg (-q)))).far h4.ge (by intro q hq; simp only [List.mem_cons, List.not_mem_nil, or_false] at hq; rcases hq with rfl | rfl | rfl <;> first | (show w.heap.size + 1 + 1 + 1 + 1 + 1 + 1 ≠ w.heap.size + 1 + 1; omega) | (show w.heap.size + 1 ≠ w.heap.size + 1 + 1; omega) | (show w.heap.size ≠ w.heap.size + 1 + 1; omega)) 1 (.slice A1 n1 c1); have HF2 := Lib.hid ((hf1.far h4.ge' (by intro q hq; simp only [List.mem_cons, List.not_mem_nil, or_false] at hq; rcases hq with rfl | rfl | rfl <;> first | (show w.heap.size + 1 + 1 + 1 + 1 + 1 + 1 ≠ w.heap.size + 1 + 1 + 1; omega) | (show w.heap.size + 1 ≠ w.heap.size + 1 + 1 + 1; omega) | (show w.heap.size ≠ w.heap.size + 1 + 1 + 1; omega)) 0 (.bool (sg R))).far h4.ge' (by intro q hq; simp only [List.mem_cons, List.not_mem_nil, or_false] at hq; rcases hq with rfl | rfl | rfl <;> first | (show w.heap.size + 1 + 1 + 1 + 1 + 1 + 1 ≠ w.heap.size + 1 + 1 + 1; omega) | (show w.heap.size + 1 ≠ w.heap.size + 1 + 1 + 1; omega) | (show w.heap.size ≠ w.heap.size + 1 + 1 + 1; omega)) 1 (.slice A2 n2 c2)); have HF1 := Lib.hid hf1; have HN1 := Lib.hid hn1; have HN2 := Lib.hid hn2; clear HT H2 hbb ho1 ho2 hb2 hbs hf1 hn1 hn2; have HT := Lib.hid h3; have H2 := Lib.hid h4; clear h3 h4))
    go_wp2
    refine bodyPost_ret (results_I3 rfl rfl rfl rfl (H2.out.put _ _ _ _ _ _ _ _).1 (H2.out.put _ _ _ _ _ _ _ _).2.1) rfl ?_
    exact H2.out.fin HO1.out HO2.out (by have := HN1.out; omega) (by have := HN2.out; omega)
  · obtain ⟨rfl, rfl⟩ := w1 (by omega) (by omega)
    have HDOWN := Lib.hid hdown
    have HSG := Lib.hid (hsg 0 (by rw [if_neg e1, if_neg e2]; rfl))
    clear hv hu hz hy mz my hsg w1 w2 w3 w4 hdown hup e1 e2 h h'
    go_enter Tryd.func15, Tryd.ntmps15
    go_wp2_with (go_at_call 34; refine (minusQ_any _ _ _).mono ?_; rintro e w' ⟨rfl, rfl⟩)
    generalize hwa : World.alloc (World.alloc (World.alloc (World.alloc (World.alloc (World.alloc (World.alloc w _) _) _) _) _) _) _ = w7
    have h1 := (((((((Held.start w).alloc rfl).alloc rfl).alloc rfl).alloc rfl).alloc rfl).alloc rfl).alloc hwa
    simp only [World.size_alloc] at h1
    clear hwa
    have H2 := Lib.hid (h1.r2 (by omega))
    have HT := Lib.hid h1
    clear h1
    have h1 := HT.out.drew
    have h4 := H2.out.on (W' := w7.drew) ⟨rfl, rfl, rfl, Nat.le_refl _, fun _ _ => rfl⟩
    clear HT H2; have HT := Lib.hid h1; have H2 := Lib.hid h4; clear h1 h4
    go_region_held3 (fun W => (W.cell? ⟨w.heap.size + 1 + 1 + 1 + 1 + 1 + 1, 0, none⟩ = some (.func (.func 33) #[] #[]) ∧ W.cell? ⟨w.heap.size + 1 + 1 + 1 + 1 + 1 + 1, 1, none⟩ = some (.func (.func 53) #[] #[.pointer (some ⟨w.heap.size + 1 + 1 + 1 + 1, 0, none⟩)]) ∧ W.cell? ⟨w.heap.size + 1 + 1 + 1 + 1 + 1 + 1, 2, none⟩ = some (.func (.func 53) #[] #[.pointer (some ⟨w.heap.size + 1 + 1 + 1 + 1 + 1, 0, none⟩)]) ∧ W.cell? ⟨w.heap.size + 1 + 1 + 1 + 1 + 1 + 1, 3, none⟩ = some (.func (.func 35) #[] #[])) ∧ (W.cell? ⟨w.heap.size + 1, 0, none⟩ = some (.bool b') ∧ W.cell? ⟨w.heap.size + 1, 1, none⟩ = some (.slice A' m d)) ∧ (W.cell? ⟨w.heap.size, 0, none⟩ = some (.bool b) ∧ W.cell? ⟨w.heap.size, 1, none⟩ = some (.slice A n c))) (first | with_reducible exact ⟨HT.out.c4 0 rfl, HT.out.c2 5 rfl, HT.out.c2 6 rfl⟩ | with_reducible exact ⟨HT.out.drew.c4 0 rfl, HT.out.drew.c2 5 rfl, HT.out.drew.c2 6 rfl⟩ | with_reducible exact ⟨HF1.out.c4 0 rfl, HF1.out.c2 1 rfl, HF1.out.c2 2 rfl⟩ | with_reducible exact ⟨HF2.out.c4 0 rfl, HF2.out.c2 1 rfl, HF2.out.c2 2 rfl⟩) (first
      | (go_at_call 36; (with_reducible refine (HSG.out _ HT.out.below).mono ?_); rintro e w' ⟨rfl, h1⟩; have h2 := HT.out.on h1; have h4 := H2.out.on h1; clear HT H2 h1; have HT := Lib.hid h2; have H2 := Lib.hid h4; clear h2 h4)
      | (go_at_call 33; (with_reducible refine (HDOWN.out _ HT.out.below).mono ?_); rintro e w' ho; have hbb := ho.below; have h3 := HT.out.on hbb; have h4 := H2.out.on hbb; have hbs := H2.out.hbase; obtain ⟨A1, n1, c1, A2, n2, c2, rfl, hn1, hn2, ho1, ho2, hb2⟩ := ho; have HO1 := Lib.hid (ho1.mono hbs); have HO2 := Lib.hid (ho2.mono hbs); obtain ⟨⟨a0, a1, x0, x1⟩, ⟨a2, a3, x2, x3⟩, ⟨y0, y1⟩, ⟨y2, y3⟩⟩ := h4.cells; have hf1 := (h3.pick.far h4.ge (by intro q hq; simp only [List.mem_cons, List.not_mem_nil, or_false] at hq; rcases hq with rfl | rfl | rfl <;> first | (show w.heap.size + 1 + 1 + 1 + 1 + 1 + 1 ≠ w.heap.size + 1 + 1; omega) | (show w.heap.size + 1 ≠ w.heap.size + 1 + 1; omega) | (show w.heap.size ≠ w.heap.size + 1 + 1; omega)) 0 (.bool (sg Q))).far h4.ge (by intro q hq; simp only [List.mem_cons, List.not_mem_nil, or_false] at hq; rcases hq with rfl | rfl | rfl <;> first | (show w.heap.size + 1 + 1 + 1 + 1 + 1 + 1 ≠ w.heap.size + 1 + 1; omega) | (show w.heap.size + 1 ≠ w.heap.size + 1 + 1; omega) | (show w.heap.size ≠ w.heap.size + 1 + 1; omega)) 1 (.slice A1 n1 c1); have HF2 := Lib.hid ((hf1.far h4.ge' (by intro q hq; simp only [List.mem_cons, List.not_mem_nil, or_false] at hq; rcases hq with rfl | rfl | rfl <;> first | (show w.heap.size + 1 + 1 + 1 + 1 + 1 + 1 ≠ w.heap.size + 1 + 1 + 1; omega) | (show w.heap.size + 1 ≠ w.heap.size + 1 + 1 + 1; omega) | (show w.heap.size ≠ w.heap.size + 1 + 1 + 1; omega)) 0 (.bool (sg R))).far h4.ge' (by intro q hq; simp only [List.mem_cons, List.not_mem_nil, or_false] at hq; rcases hq with rfl | rfl | rfl <;> first | (show w.heap.size + 1 + 1 + 1 + 1 + 1 + 1 ≠ w.heap.size + 1 + 1 + 1; omega) | (show w.heap.size + 1 ≠ w.heap.size + 1 + 1 + 1; omega) | (show w.heap.size ≠ w.heap.size + 1 + 1 + 1; omega)) 1 (.slice A2 n2 c2)); have HF1 := Lib.hid hf1; have HN1 := Lib.hid hn1; have HN2 := Lib.hid hn2; clear HT H2 hbb ho1 ho2 hb2 hbs hf1 hn1 hn2; have HT := Lib.hid h3; have H2 := Lib.hid h4; clear h3 h4))
    go_wp2
    refine bodyPost_ret (results_I3 rfl rfl rfl rfl (H2.out.put _ _ _ _ _ _ _ _).1 (H2.out.put _ _ _ _ _ _ _ _).2.1) rfl ?_
    exact H2.out.fin HO1.out HO2.out (by have := HN1.out; omega) (by have := HN2.out; omega)
theorem wdiv_any (w : World) (b : Bool) (h : Sl w A n c xs) (hn : n ≤ 1000000) (b' : Bool) (h' : Sl w A' m d ys) (hm : m ≤ 1000000) (h0 : iv b' (val B ys) ≠ 0) :
    Calls Tryd.prog 15 #[.agg #[.bool b, .slice A n c], .agg #[.bool b', .slice A' m d]] w (OutI2 w (n + m + 1) (iv b (val B xs) / iv b' (val B ys)) (iv b (val B xs) % iv b' (val B ys)) 0) :=
  wdiv_way w b h hn b' h' hm (way_yes _ h0)
theorem wdiv_zero (w : World) (b : Bool) (h : Sl w A n c xs) (hn : n ≤ 1000000) (b' : Bool) (h' : Sl w A' m d ys) (hm : m ≤ 1000000) (h0 : iv b' (val B ys) = 0) :
    Calls Tryd.prog 15 #[.agg #[.bool b, .slice A n c], .agg #[.bool b', .slice A' m d]] w (OutI2 w 0 0 0 7) := by
  refine (wdiv_way w b h hn b' h' hm (by rw [h0]; exact way_zero _)).mono fun e w' ho => ?_
  obtain ⟨A, n1, c, A', n', c', he, h1, h2, h3, h4, h5⟩ := ho
  have e1 : n1 = 0 := by rw [← h3.len, mg_0, limbs_zero]; rfl
  have e2 : n' = 0 := by rw [← h4.len, mg_0, limbs_zero]; rfl
  exact ⟨A, n1, c, A', n', c', he, by omega, by omega, h3, h4, h5⟩
theorem RC.outE {w1 w5 : World} {g k m : Nat} {z j : Int} (h : RC w g w1) {A : Option Addr} {n c : Nat} (hn : n ≤ k) (hown : N.Own w5 w1.heap.size A n c (limbs (mg z))) (hb : Below w1.heap.size w1 w5) :
    (w5.cell? ⟨g, 0, none⟩ = some (.bool false) ∧ w5.cell? ⟨g, 1, none⟩ = some (.slice none 0 0)) ∧ (w5.frozen? ⟨g, 0, none⟩ = false ∧ w5.frozen? ⟨g, 1, none⟩ = false) ∧
      Hid (BoxI ((w5.setCell ⟨g, 0, none⟩ (.bool (sg z))).setCell ⟨g, 1, none⟩ (.slice A n c)) g (sg z) A n c) ∧
      Hid (OutIE w k z j (.returned (.tuple #[.agg #[.bool (sg z), .slice A n c], .int .i64 j])) ((w5.setCell ⟨g, 0, none⟩ (.bool (sg z))).setCell ⟨g, 1, none⟩ (.slice A n c))) := by
  have hB := h.box.on hb
  have hlt := h.lt
  refine ⟨⟨hB.c0, hB.c1⟩, ⟨hB.fr 0, hB.fr 1⟩, Lib.hid ((hB.set0 _).set1 _ _ _), Lib.hid ⟨A, n, c, rfl, hn, ?_, ?_⟩⟩
  · exact ((hown.keep (grow_set w5 g 0 _) (fun k hk => by injection hk with hk; omega)).keep (grow_set _ g 1 _) (fun k hk => by injection hk with hk; omega)).mono h.below.size
  · exact ((h.below.trans (hb.mono h.below.size)).setCell (p := ⟨g, 0, none⟩) h.ge _).setCell (p := ⟨g, 1, none⟩) h.ge _
theorem own_nil0 {w : World} {base : Nat} : N.Own w base none 0 0 (limbs (mg 0)) := by rw [mg_0, limbs_zero]; exact N.Own.nil_ _ _
/-- what stands behind a sign, and whether there is one -/
theorem cut_sign (bs : List UInt8) (hl : bs.length ≤ maxLen) : ∃ (T : List UInt8) (ng : Bool), T.length ≤ maxLen ∧
    (∀ W, Calls Tryd.prog 37 #[.string ⟨bs.toArray⟩, .string ⟨#[45]⟩] W fun e w' => e = .returned (.tuple #[.string ⟨T.toArray⟩, .bool ng]) ∧ w' = W) ∧
    rdJ bs = (if rdE T = 0 then (if ng = true ∧ rdV T = 0 then 3 else 0) else rdE T) ∧ rdW bs = iv ng (rdV T) := by
  cases hng : isNg bs with
  | true =>
    obtain ⟨t, rfl⟩ : ∃ t, bs = 45 :: t := ⟨_, ng_cons hng⟩
    obtain ⟨e1, e2⟩ := rdJ_neg hng
    refine ⟨t, true, by simp only [List.length_cons] at hl; omega, fun W => ?_, ?_, by rw [e2, iv_t]; rfl⟩
    · refine (Tryd.strings_CutPrefix ⟨(45 :: t).toArray⟩ ⟨#[45]⟩ W).mono fun e w' ⟨he, hw⟩ => ⟨?_, hw⟩
      rw [he]
      have h1 : Lib.hasPrefix (45 :: t) [45] = true := by simp [Lib.hasPrefix, List.isPrefixOf]
      have h2 : Lib.trimPrefix (45 :: t) [45] = t := by unfold Lib.trimPrefix; rw [if_pos h1]; rfl
      show Ending.returned (.tuple #[.string ⟨(Lib.trimPrefix (45 :: t) [45]).toArray⟩, .bool (Lib.hasPrefix (45 :: t) [45])]) = _
      rw [h1, h2]
    · rw [e1]
      show (if rdE t = 0 then (if rdV t = 0 then (3 : Int) else 0) else rdE t) = _
      congr 1
      by_cases h0 : rdV t = 0
      · rw [if_pos h0, if_pos ⟨rfl, h0⟩]
      · rw [if_neg h0, if_neg (fun h => h0 h.2)]
  | false =>
    obtain ⟨e1, e2⟩ := rdJ_pos hng
    refine ⟨bs, false, hl, fun W => ?_, ?_, by rw [e2, iv_f]⟩
    · refine (Tryd.strings_CutPrefix ⟨bs.toArray⟩ ⟨#[45]⟩ W).mono fun e w' ⟨he, hw⟩ => ⟨?_, hw⟩
      rw [he]
      have h1 : Lib.hasPrefix bs [45] = false := by
        cases bs with
        | nil => rfl
        | cons x t =>
          have : x ≠ 45 := fun e => by subst e; exact absurd hng (by show ¬ (true = false); decide)
          simp [Lib.hasPrefix, List.isPrefixOf]
          exact fun e => this e.symm
      have h2 : Lib.trimPrefix bs [45] = bs := by unfold Lib.trimPrefix; rw [h1]; rfl
      show Ending.returned (.tuple #[.string ⟨(Lib.trimPrefix bs [45]).toArray⟩, .bool (Lib.hasPrefix bs [45])]) = _
      rw [h1, h2]
    · rw [e1]
      by_cases h0 : rdE bs = 0
      · rw [if_pos h0, if_neg (fun h => by cases h.1), h0]
      · rw [if_neg h0]
set_option maxHeartbeats 1000000 in
theorem wread_any (w : World) (bs : List UInt8) (hl : bs.length ≤ maxLen) :
    Calls Tryd.prog 16 #[.string ⟨bs.toArray⟩] w (OutIE w 20001 (rdW bs) (rdJ bs)) := by
  obtain ⟨T, ng, hT, hc, hj, hw⟩ := cut_sign bs hl
  have HC := Lib.hid hc
  have HD := Lib.hid (fun W => pread_any W T hT)
  have hv0 := rdV_nonneg T
  obtain ⟨j, ej⟩ : ∃ j, rdE T = j := ⟨_, rfl⟩
  have hverr : j ≠ 0 → rdV T = 0 := fun h => rdV_err (by rw [ej]; exact h)
  obtain ⟨v, ev⟩ : ∃ v, rdV T = v := ⟨_, rfl⟩
  rw [ej, ev] at hj HD
  rw [ev] at hw hv0 hverr
  rw [hj, hw]
  clear hc hj hw ej ev hT hl
  by_cases h0 : j = 0
  · subst h0
    rw [if_pos rfl]
    clear hverr
    cases ng with
    | false =>
      rw [if_neg (fun h => by cases h.1)]
      have HV := Lib.hid hv0
      have HZ := Lib.hid (show iv false v = v from rfl)
      clear hv0
      go_enter Tryd.func16, Tryd.ntmps16
      go_wp2_with fail
      go_at_call 37
      generalize hw1 : World.alloc w _ = w1
      have HR := Lib.hid (RC.made hw1)
      clear hw1
      refine (HC.out w1).mono ?_
      rintro e w2 ⟨rfl, rfl⟩
      go_wp2_with fail
      go_at_call 38
      refine (HD.out w2).mono ?_
      rintro e w3 ⟨A1, n1, c1, rfl, hn1, ho, hb⟩
      have HM := Lib.hid (signed_own false HV.out ho hn1 hb)
      clear ho hb
      go_wp2_with fail
      go_at_call 30
      refine HM.out.mono ?_
      rintro e w4 ⟨A4, n4, c4, rfl, hn4, ho, hb⟩
      obtain ⟨⟨x0, x1⟩, ⟨y0, y1⟩, HB, HO⟩ := HR.out.outE (j := 0) (m := 0) hn4 ho hb
      clear ho hb
      go_wp2
      refine bodyPost_ret (results_I2 rfl rfl rfl HB.out) rfl ?_
      exact HO.out
    | true =>
      by_cases hz : v = 0
      · subst hz
        rw [if_pos ⟨rfl, rfl⟩, iv_0]
        go_enter Tryd.func16, Tryd.ntmps16
        go_wp2_with fail
        go_at_call 37
        generalize hw1 : World.alloc w _ = w1
        have HR := Lib.hid (RC.made hw1)
        clear hw1
        refine (HC.out w1).mono ?_
        rintro e w2 ⟨rfl, rfl⟩
        go_wp2_with fail
        go_at_call 38
        refine (HD.out w2).mono ?_
        rintro e w3 ⟨A1, n1, c1, rfl, hn1, ho, hb⟩
        have HSL := Lib.hid ho.sl
        obtain ⟨⟨x0, x1⟩, ⟨y0, y1⟩, HB, HO⟩ := HR.out.outE (z := 0) (j := 3) (k := 20001) (m := 0) (Nat.zero_le _) own_nil0 hb
        clear ho hb
        go_wp2_with fail
        go_at_call 28
        refine (zero_yes _ _ _ _ _ HSL.out (by rw [limbs_zero]; rfl)).mono ?_
        rintro e w4 ⟨rfl, rfl⟩
        go_wp2
        refine bodyPost_ret (results_I2 rfl rfl rfl HB.out) rfl ?_
        exact HO.out
      · rw [if_neg (fun h => hz h.2)]
        have HV := Lib.hid hv0
        have HP := Lib.hid (show 0 < v by omega)
        clear hv0 hz
        go_enter Tryd.func16, Tryd.ntmps16
        go_wp2_with fail
        go_at_call 37
        generalize hw1 : World.alloc w _ = w1
        have HR := Lib.hid (RC.made hw1)
        clear hw1
        refine (HC.out w1).mono ?_
        rintro e w2 ⟨rfl, rfl⟩
        go_wp2_with fail
        go_at_call 38
        refine (HD.out w2).mono ?_
        rintro e w3 ⟨A1, n1, c1, rfl, hn1, ho, hb⟩
        have HSL := Lib.hid ho.sl
        have HM := Lib.hid (signed_own true HV.out ho hn1 hb)
        clear ho hb
        go_wp2_with fail
        go_at_call 28
        refine (zero_no _ _ _ _ _ HSL.out (by rw [limbs_val HV.out]; exact HP.out)).mono ?_
        rintro e w4 ⟨rfl, rfl⟩
        go_wp2_with fail
        go_at_call 30
        refine HM.out.mono ?_
        rintro e w4 ⟨A4, n4, c4, rfl, hn4, ho, hb⟩
        obtain ⟨⟨x0, x1⟩, ⟨y0, y1⟩, HB, HO⟩ := HR.out.outE (j := 0) (m := 0) hn4 ho hb
        clear ho hb
        go_wp2
        refine bodyPost_ret (results_I2 rfl rfl rfl HB.out) rfl ?_
        exact HO.out
  · obtain rfl := hverr h0
    rw [if_neg h0, iv_0]
    have hje : (j == 0) = false := by simpa using h0
    have hjn : (j != 0) = true := by simpa using h0
    clear hverr hv0 h0
    go_enter Tryd.func16, Tryd.ntmps16
    go_wp2_with fail
    go_at_call 37
    generalize hw1 : World.alloc w _ = w1
    have HR := Lib.hid (RC.made hw1)
    clear hw1
    refine (HC.out w1).mono ?_
    rintro e w2 ⟨rfl, rfl⟩
    go_wp2_with fail
    go_at_call 38
    refine (HD.out w2).mono ?_
    rintro e w3 ⟨A1, n1, c1, rfl, hn1, ho, hb⟩
    obtain ⟨⟨x0, x1⟩, ⟨y0, y1⟩, HB, HO⟩ := HR.out.outE (z := 0) (j := j) (k := 20001) (m := 0) (Nat.zero_le _) own_nil0 hb
    clear ho hb
    go_wp2
    refine bodyPost_ret (results_I2 rfl rfl rfl HB.out) rfl ?_
    exact HO.out
end
end Go.Proofs.YtgahnchfefngeaaDoor
