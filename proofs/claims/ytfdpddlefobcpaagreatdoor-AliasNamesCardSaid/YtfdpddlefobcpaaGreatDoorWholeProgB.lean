/- What the program's package of whole numbers answers, over this translation: Add, Sub, Mul, Div, Read. -/
import Derived.Test.YtfdpddlefobcpaaGreatDoorWholeProgA
namespace Go.Proofs.YtfdpddlefobcpaaGreatDoor
open Go.RowKit
set_option linter.unusedVariables false
set_option maxRecDepth 20000
open N
namespace N
theorem OutI.below {W w' : World} {m : Nat} {z : Int} {e : Ending} (h : OutI W m z e w') : Below W.heap.size W w' := by
  obtain ⟨A, n, c, he, hn, ho, hb⟩ := h
  exact hb
theorem OutI.le {W w' : World} {m k : Nat} {z : Int} {e : Ending} (h : OutI W m z e w') (hk : m ≤ k) : OutI W k z e w' := by
  obtain ⟨A, n, c, he, hn, ho, hb⟩ := h
  exact ⟨A, n, c, he, Nat.le_trans hn hk, ho, hb⟩
theorem Held.rc {w W : World} {L : List (Nat × Array Value × TypeId)} {g : Nat} (h : Held w L W) (i : Nat) (hi : L[i]? = some (g, #[.bool false, .slice none 0 0], 60)) : RC w g W :=
  ⟨h.below, h.ge i hi, h.lt i hi, h.row i hi⟩
theorem Held.far {w W : World} {L : List (Nat × Array Value × TypeId)} {g : Nat} (h : Held w L W) (hg : w.heap.size ≤ g) (hd : ∀ q ∈ L, q.1 ≠ g) (k : Nat) (v : Value) : Held w L (W.setCell ⟨g, k, none⟩ v) :=
  ⟨h.below.setCell (p := ⟨g, k, none⟩) hg v, fun q hq => ⟨(h.rows q hq).1, (Below.heap_setCell W ⟨g, k, none⟩ v q.1 (hd q hq)).trans (h.rows q hq).2⟩⟩
theorem Held.put1 {w W : World} {L : List (Nat × Array Value × TypeId)} {g : Nat} {q0 : Nat × Array Value × TypeId} {cs : Array Value} {t : TypeId} (h : Held w (q0 :: (g, cs, t) :: L) W) (hd0 : q0.1 ≠ g) (hd : ∀ q ∈ L, q.1 ≠ g) (u v : Value) :
    Held w (q0 :: L) ((W.setCell ⟨g, 0, none⟩ u).setCell ⟨g, 1, none⟩ v) := by
  have hg := h.ge 1 (g := g) rfl
  have h1 : Held w (q0 :: L) W := h.sub fun q hq => by
    rcases List.mem_cons.1 hq with e | e
    · rw [e]; exact List.mem_cons_self
    · exact List.mem_cons_of_mem _ (List.mem_cons_of_mem _ e)
  have hd' : ∀ q ∈ q0 :: L, q.1 ≠ g := fun q hq => by
    rcases List.mem_cons.1 hq with e | e
    · rw [e]; exact hd0
    · exact hd q e
  exact (h1.far hg hd' 0 u).far hg hd' 1 v
theorem Held.put0 {w W : World} {L : List (Nat × Array Value × TypeId)} {g : Nat} {cs : Array Value} {t : TypeId} (h : Held w ((g, cs, t) :: L) W) (hd : ∀ q ∈ L, q.1 ≠ g) (u v : Value) :
    Held w L ((W.setCell ⟨g, 0, none⟩ u).setCell ⟨g, 1, none⟩ v) := by
  have hg := h.ge 0 (g := g) rfl
  have h1 : Held w L W := h.sub fun q hq => List.mem_cons_of_mem _ hq
  exact (h1.far hg hd 0 u).far hg hd 1 v
end N
section
variable {w w' : World} {A A' : Option Addr} {n c m d : Nat} {xs ys : List Int}
theorem wsum_any (w : World) (h : Sl w A n c xs) (hn : n ≤ 1099511627775) (h' : Sl w A' m d ys) (hm : m ≤ 1099511627775) :
    Calls Tryz.prog 114 #[.slice A n c, .slice A' m d] w (OutI w (n + m + 1) (val B xs + val B ys)) := by
  have HN := Lib.hid (show 0 ≤ val B xs + val B ys by have := h.nn0; have := h'.nn0; omega)
  have HS := Lib.hid h
  have HS' := Lib.hid h'
  have HZ := Lib.hid (show iv false (val B xs + val B ys) = val B xs + val B ys from rfl)
  clear h h'
  go_enter Tryz.func114, Tryz.ntmps114
  go_wp2_with fail
  go_at_call 118
  generalize hw1 : World.alloc w _ = w1
  have HR := Lib.hid (RC.made hw1)
  clear hw1
  refine (nadd_any w1 A A' n c m d xs ys (HS.out.below HR.out.below) (HS'.out.below HR.out.below) (by omega) (by omega)).mono ?_
  rintro e w2 ⟨A1, n1, c1, rfl, hn1, ho, hb⟩
  have hM := signed_own false HN.out ho hn1 hb
  rw [HZ.out] at hM
  have HM := Lib.hid hM
  clear ho hb hM
  go_wp2_with fail
  go_at_call 77
  refine HM.out.mono ?_
  rintro e w3 ho
  obtain ⟨A3, n3, c3, rfl, ⟨x0, x1⟩, ⟨y0, y1⟩, HB, HO⟩ := HR.out.out ho
  clear ho
  go_wp2
  refine bodyPost_ret (results_I rfl rfl HB.out) rfl ?_
  exact HO.out
theorem wboth_any (w : World) (h : Sl w A n c xs) (hn : n ≤ 1099511627775) (h' : Sl w A' m d ys) (hm : m ≤ 1099511627775) :
    Calls Tryz.prog 117 #[.slice A n c, .slice A' m d] w (OutI w (n + m + 1) (-(val B xs + val B ys))) := by
  have HN := Lib.hid (show 0 ≤ val B xs + val B ys by have := h.nn0; have := h'.nn0; omega)
  have HS := Lib.hid h
  have HS' := Lib.hid h'
  have HZ := Lib.hid (show iv true (val B xs + val B ys) = -(val B xs + val B ys) from rfl)
  clear h h'
  go_enter Tryz.func117, Tryz.ntmps117
  go_wp2_with fail
  go_at_call 118
  generalize hw1 : World.alloc w _ = w1
  have HR := Lib.hid (RC.made hw1)
  clear hw1
  refine (nadd_any w1 A A' n c m d xs ys (HS.out.below HR.out.below) (HS'.out.below HR.out.below) (by omega) (by omega)).mono ?_
  rintro e w2 ⟨A1, n1, c1, rfl, hn1, ho, hb⟩
  have hM := signed_own true HN.out ho hn1 hb
  rw [HZ.out] at hM
  have HM := Lib.hid hM
  clear ho hb hM
  go_wp2_with fail
  go_at_call 77
  refine HM.out.mono ?_
  rintro e w3 ho
  obtain ⟨A3, n3, c3, rfl, ⟨x0, x1⟩, ⟨y0, y1⟩, HB, HO⟩ := HR.out.out ho
  clear ho
  go_wp2
  refine bodyPost_ret (results_I rfl rfl HB.out) rfl ?_
  exact HO.out
theorem wproduct_any (w : World) (h : Sl w A n c xs) (hn : n ≤ 1099511627775) (h' : Sl w A' m d ys) (hm : m ≤ 1099511627775) :
    Calls Tryz.prog 132 #[.slice A n c, .slice A' m d] w (OutI w (n + m) (val B xs * val B ys)) := by
  have HN := Lib.hid (show 0 ≤ val B xs * val B ys from Int.mul_nonneg h.nn0 h'.nn0)
  have HS := Lib.hid h
  have HS' := Lib.hid h'
  have HZ := Lib.hid (show iv false (val B xs * val B ys) = val B xs * val B ys from rfl)
  clear h h'
  go_enter Tryz.func132, Tryz.ntmps132
  go_wp2_with fail
  go_at_call 103
  generalize hw1 : World.alloc w _ = w1
  have HR := Lib.hid (RC.made hw1)
  clear hw1
  refine (nmul_any w1 A A' n c m d xs ys (HS.out.below HR.out.below) (HS'.out.below HR.out.below) (by omega) (by omega)).mono ?_
  rintro e w2 ⟨A1, n1, c1, rfl, hn1, ho, hb⟩
  have hM := signed_own false HN.out ho hn1 hb
  rw [HZ.out] at hM
  have HM := Lib.hid hM
  clear ho hb hM
  go_wp2_with fail
  go_at_call 77
  refine HM.out.mono ?_
  rintro e w3 ho
  obtain ⟨A3, n3, c3, rfl, ⟨x0, x1⟩, ⟨y0, y1⟩, HB, HO⟩ := HR.out.out ho
  clear ho
  go_wp2
  refine bodyPost_ret (results_I rfl rfl HB.out) rfl ?_
  exact HO.out
theorem wminus_any (w : World) (h : Sl w A n c xs) (hn : n ≤ 1099511627775) (h' : Sl w A' m d ys) (hm : m ≤ 1099511627775) :
    Calls Tryz.prog 133 #[.slice A n c, .slice A' m d] w (OutI w (n + m) (-(val B xs * val B ys))) := by
  have HN := Lib.hid (show 0 ≤ val B xs * val B ys from Int.mul_nonneg h.nn0 h'.nn0)
  have HS := Lib.hid h
  have HS' := Lib.hid h'
  have HZ := Lib.hid (show iv true (val B xs * val B ys) = -(val B xs * val B ys) from rfl)
  clear h h'
  go_enter Tryz.func133, Tryz.ntmps133
  go_wp2_with fail
  go_at_call 103
  generalize hw1 : World.alloc w _ = w1
  have HR := Lib.hid (RC.made hw1)
  clear hw1
  refine (nmul_any w1 A A' n c m d xs ys (HS.out.below HR.out.below) (HS'.out.below HR.out.below) (by omega) (by omega)).mono ?_
  rintro e w2 ⟨A1, n1, c1, rfl, hn1, ho, hb⟩
  have hM := signed_own true HN.out ho hn1 hb
  rw [HZ.out] at hM
  have HM := Lib.hid hM
  clear ho hb hM
  go_wp2_with fail
  go_at_call 77
  refine HM.out.mono ?_
  rintro e w3 ho
  obtain ⟨A3, n3, c3, rfl, ⟨x0, x1⟩, ⟨y0, y1⟩, HB, HO⟩ := HR.out.out ho
  clear ho
  go_wp2
  refine bodyPost_ret (results_I rfl rfl HB.out) rfl ?_
  exact HO.out
theorem wdiff_any (w : World) (h : Sl w A n c xs) (hn : n ≤ 1099511627775) (h' : Sl w A' m d ys) (hm : m ≤ 1099511627775) :
    Calls Tryz.prog 115 #[.slice A n c, .slice A' m d] w (OutI w (n + m + 1) (val B xs - val B ys)) := by
  have HS := Lib.hid h
  have HS' := Lib.hid h'
  by_cases hle : val B ys ≤ val B xs
  · have HN := Lib.hid (show 0 ≤ val B xs - val B ys by omega)
    have HZ := Lib.hid (show iv false (val B xs - val B ys) = val B xs - val B ys from rfl)
    have HL := Lib.hid hle
    clear h h' hle
    go_enter Tryz.func115, Tryz.ntmps115
    go_wp2_with fail
    go_at_call 129
    generalize hw1 : World.alloc w _ = w1
    have HR := Lib.hid (RC.made hw1)
    clear hw1
    refine (nsub_yes w1 A A' n c m d xs ys (HS.out.below HR.out.below) (HS'.out.below HR.out.below) (by omega) (by omega) HL.out).mono ?_
    rintro e w2 ⟨A1, n1, c1, rfl, hn1, ho, hb⟩
    have hM := signed_own (m := n + m + 1) false HN.out ho (by omega) hb
    rw [HZ.out] at hM
    have HM := Lib.hid hM
    clear ho hb hM
    go_wp2_with fail
    go_at_call 77
    refine HM.out.mono ?_
    rintro e w3 ho
    obtain ⟨A3, n3, c3, rfl, ⟨x0, x1⟩, ⟨y0, y1⟩, HB, HO⟩ := HR.out.out ho
    clear ho
    go_wp2
    refine bodyPost_ret (results_I rfl rfl HB.out) rfl ?_
    exact HO.out
  · have HN := Lib.hid (show 0 ≤ val B ys - val B xs by omega)
    have HZ := Lib.hid (show iv true (val B ys - val B xs) = val B xs - val B ys by rw [iv_t]; omega)
    have HL := Lib.hid (show val B xs < val B ys by omega)
    clear h h' hle
    go_enter Tryz.func115, Tryz.ntmps115
    go_wp2_with fail
    go_at_call 129
    generalize hw1 : World.alloc w _ = w1
    have HR := Lib.hid (RC.made hw1)
    clear hw1
    refine (nsub_no w1 A A' n c m d xs ys (HS.out.below HR.out.below) (HS'.out.below HR.out.below) (by omega) (by omega) HL.out).mono ?_
    rintro e w2 ⟨rfl, hb2⟩
    have HB2 := Lib.hid hb2
    clear hb2
    go_wp2_with fail
    go_at_call 129
    refine (nsub_yes w2 A' A m d n c ys xs ((HS'.out.below HR.out.below).below HB2.out) ((HS.out.below HR.out.below).below HB2.out) (by omega) (by omega) (by have := HL.out; omega)).mono ?_
    rintro e w4 ⟨A1, n1, c1, rfl, hn1, ho, hb⟩
    have hM := signed_own (W := w1) (m := n + m + 1) true HN.out (ho.mono HB2.out.size) (by omega) (HB2.out.trans (hb.mono HB2.out.size))
    rw [HZ.out] at hM
    have HM := Lib.hid hM
    clear ho hb hM
    go_wp2_with fail
    go_at_call 77
    refine HM.out.mono ?_
    rintro e w3 ho
    obtain ⟨A3, n3, c3, rfl, ⟨x0, x1⟩, ⟨y0, y1⟩, HB, HO⟩ := HR.out.out ho
    clear ho
    go_wp2
    refine bodyPost_ret (results_I rfl rfl HB.out) rfl ?_
    exact HO.out
theorem wfirst_any (w : World) (h : Sl w A n c xs) (hn : n ≤ 1099511627775) (h' : Sl w A' m d ys) (hm : m ≤ 1099511627775) :
    Calls Tryz.prog 116 #[.slice A n c, .slice A' m d] w (OutI w (n + m + 1) (val B ys - val B xs)) := by
  have HS := Lib.hid h
  have HS' := Lib.hid h'
  clear h h'
  go_enter Tryz.func116, Tryz.ntmps116
  go_wp2_with fail
  go_at_call 115
  generalize hw1 : World.alloc w _ = w1
  have HR := Lib.hid (RC.made hw1)
  clear hw1
  refine (wdiff_any w1 (HS'.out.below HR.out.below) hm (HS.out.below HR.out.below) hn).mono ?_
  rintro e w3 ho
  obtain ⟨A3, n3, c3, rfl, ⟨x0, x1⟩, ⟨y0, y1⟩, HB, HO⟩ := HR.out.out (ho.le (show m + n + 1 ≤ n + m + 1 by omega))
  clear ho
  go_wp2
  refine bodyPost_ret (results_I rfl rfl HB.out) rfl ?_
  exact HO.out
set_option maxHeartbeats 2000000 in
theorem wadd_any (w : World) (b : Bool) (h : Sl w A n c xs) (hn : n ≤ 1000000) (b' : Bool) (h' : Sl w A' m d ys) (hm : m ≤ 1000000) :
    Calls Tryz.prog 101 #[.agg #[.bool b, .slice A n c], .agg #[.bool b', .slice A' m d]] w (OutI w (n + m + 1) (iv b (val B xs) + iv b' (val B ys))) := by
  have hv := h.nn0
  have hu := h'.nn0
  obtain ⟨z, hz⟩ : ∃ z, iv b (val B xs) = z := ⟨_, rfl⟩
  obtain ⟨y, hy⟩ : ∃ y, iv b' (val B ys) = y := ⟨_, rfl⟩
  have mz : mg z = val B xs := by rw [← hz]; exact mg_iv hv
  have my : mg y = val B ys := by rw [← hy]; exact mg_iv hu
  have hsg := fun (k : Int) hk W (hb : Below w.heap.size w W) => signs_any (k := k) W b (h.below hb) (by omega) b' (h'.below hb) (by omega) hk
  rw [hz, hy] at hsg
  rw [hz, hy]
  obtain ⟨Z, hZ⟩ : ∃ Z, z + y = Z := ⟨_, rfl⟩
  rw [hZ]
  by_cases e1 : z < 0
  all_goals by_cases e2 : y < 0
  · have hop := fun W (hb : Below w.heap.size w W) => wboth_any W (h.below hb) (by omega) (h'.below hb) (by omega)
    rw [← mz, ← my, show -(mg z + mg y) = Z by rw [mg_t (by omega), mg_t (by omega), ← hZ]; omega] at hop
    have HOP := Lib.hid hop
    have HSG := Lib.hid (hsg 3 (by rw [if_pos e1, if_pos e2]; rfl))
    clear hv hu hz hy mz my hsg hZ e1 e2 h h' hop
    go_enter Tryz.func101, Tryz.ntmps101
    go_wp2_with fail
    generalize hwa : World.alloc (World.alloc (World.alloc (World.alloc w _) _) _) _ = w4
    have h1 := ((((Held.start w).alloc rfl).alloc rfl).alloc rfl).alloc hwa
    simp only [World.size_alloc] at h1
    clear hwa
    have HT := Lib.hid h1
    clear h1
    have h1 := HT.out.drew
    clear HT; have HT := Lib.hid h1; clear h1
    go_region_held3 (fun W => (W.cell? ⟨w.heap.size + 1 + 1 + 1, 0, none⟩ = some (.func (.func 114) #[] #[]) ∧ W.cell? ⟨w.heap.size + 1 + 1 + 1, 1, none⟩ = some (.func (.func 115) #[] #[]) ∧ W.cell? ⟨w.heap.size + 1 + 1 + 1, 2, none⟩ = some (.func (.func 116) #[] #[]) ∧ W.cell? ⟨w.heap.size + 1 + 1 + 1, 3, none⟩ = some (.func (.func 117) #[] #[])) ∧ (W.cell? ⟨w.heap.size + 1, 0, none⟩ = some (.bool b') ∧ W.cell? ⟨w.heap.size + 1, 1, none⟩ = some (.slice A' m d)) ∧ (W.cell? ⟨w.heap.size, 0, none⟩ = some (.bool b) ∧ W.cell? ⟨w.heap.size, 1, none⟩ = some (.slice A n c))) (first | with_reducible exact ⟨HT.out.c4 0 rfl, HT.out.c2 2 rfl, HT.out.c2 3 rfl⟩ | with_reducible exact ⟨HT.out.drew.c4 0 rfl, HT.out.drew.c2 2 rfl, HT.out.drew.c2 3 rfl⟩ | with_reducible exact ⟨HF.out.c4 0 rfl, HF.out.c2 1 rfl, HF.out.c2 2 rfl⟩) (first
      | (go_at_call 119; (with_reducible refine (HSG.out _ HT.out.below).mono ?_); rintro e w' ⟨rfl, h1⟩; have h2 := HT.out.on h1; clear HT h1; have HT := Lib.hid h2; clear h2)
      | (go_at_call 117; (with_reducible refine (HOP.out _ HT.out.below).mono ?_); rintro e w' ho; have h3 := HT.out.on ho.below; obtain ⟨A5, n5, c5, rfl, ⟨x0, x1⟩, ⟨y0, y1⟩, HB, HO⟩ := (HT.out.rc 1 rfl).out ho; have HF := Lib.hid (h3.put1 (by show w.heap.size + 1 + 1 + 1 ≠ w.heap.size + 1 + 1; omega) (by intro q hq; simp only [List.mem_cons, List.not_mem_nil, or_false] at hq; rcases hq with rfl | rfl <;> first | (show w.heap.size + 1 ≠ w.heap.size + 1 + 1; omega) | (show w.heap.size ≠ w.heap.size + 1 + 1; omega)) (.bool (sg Z)) (.slice A5 n5 c5)); clear HT ho; have HT := Lib.hid h3; clear h3))
    go_wp2
    refine bodyPost_ret (results_I rfl rfl HB.out) rfl ?_
    exact HO.out
  · have hop := fun W (hb : Below w.heap.size w W) => wfirst_any W (h.below hb) (by omega) (h'.below hb) (by omega)
    rw [← mz, ← my, show mg y - mg z = Z by rw [mg_f (z := y) (by omega), mg_t (z := z) (by omega), ← hZ]; omega] at hop
    have HOP := Lib.hid hop
    have HSG := Lib.hid (hsg 2 (by rw [if_pos e1, if_neg e2]; rfl))
    clear hv hu hz hy mz my hsg hZ e1 e2 h h' hop
    go_enter Tryz.func101, Tryz.ntmps101
    go_wp2_with fail
    generalize hwa : World.alloc (World.alloc (World.alloc (World.alloc w _) _) _) _ = w4
    have h1 := ((((Held.start w).alloc rfl).alloc rfl).alloc rfl).alloc hwa
    simp only [World.size_alloc] at h1
    clear hwa
    have HT := Lib.hid h1
    clear h1
    have h1 := HT.out.drew
    clear HT; have HT := Lib.hid h1; clear h1
    go_region_held3 (fun W => (W.cell? ⟨w.heap.size + 1 + 1 + 1, 0, none⟩ = some (.func (.func 114) #[] #[]) ∧ W.cell? ⟨w.heap.size + 1 + 1 + 1, 1, none⟩ = some (.func (.func 115) #[] #[]) ∧ W.cell? ⟨w.heap.size + 1 + 1 + 1, 2, none⟩ = some (.func (.func 116) #[] #[]) ∧ W.cell? ⟨w.heap.size + 1 + 1 + 1, 3, none⟩ = some (.func (.func 117) #[] #[])) ∧ (W.cell? ⟨w.heap.size + 1, 0, none⟩ = some (.bool b') ∧ W.cell? ⟨w.heap.size + 1, 1, none⟩ = some (.slice A' m d)) ∧ (W.cell? ⟨w.heap.size, 0, none⟩ = some (.bool b) ∧ W.cell? ⟨w.heap.size, 1, none⟩ = some (.slice A n c))) (first | with_reducible exact ⟨HT.out.c4 0 rfl, HT.out.c2 2 rfl, HT.out.c2 3 rfl⟩ | with_reducible exact ⟨HT.out.drew.c4 0 rfl, HT.out.drew.c2 2 rfl, HT.out.drew.c2 3 rfl⟩ | with_reducible exact ⟨HF.out.c4 0 rfl, HF.out.c2 1 rfl, HF.out.c2 2 rfl⟩) (first
      | (go_at_call 119; (with_reducible refine (HSG.out _ HT.out.below).mono ?_); rintro e w' ⟨rfl, h1⟩; have h2 := HT.out.on h1; clear HT h1; have HT := Lib.hid h2; clear h2)
      | (go_at_call 116; (with_reducible refine (HOP.out _ HT.out.below).mono ?_); rintro e w' ho; have h3 := HT.out.on ho.below; obtain ⟨A5, n5, c5, rfl, ⟨x0, x1⟩, ⟨y0, y1⟩, HB, HO⟩ := (HT.out.rc 1 rfl).out ho; have HF := Lib.hid (h3.put1 (by show w.heap.size + 1 + 1 + 1 ≠ w.heap.size + 1 + 1; omega) (by intro q hq; simp only [List.mem_cons, List.not_mem_nil, or_false] at hq; rcases hq with rfl | rfl <;> first | (show w.heap.size + 1 ≠ w.heap.size + 1 + 1; omega) | (show w.heap.size ≠ w.heap.size + 1 + 1; omega)) (.bool (sg Z)) (.slice A5 n5 c5)); clear HT ho; have HT := Lib.hid h3; clear h3))
    go_wp2
    refine bodyPost_ret (results_I rfl rfl HB.out) rfl ?_
    exact HO.out
  · have hop := fun W (hb : Below w.heap.size w W) => wdiff_any W (h.below hb) (by omega) (h'.below hb) (by omega)
    rw [← mz, ← my, show mg z - mg y = Z by rw [mg_f (by omega), mg_t (by omega), ← hZ]; omega] at hop
    have HOP := Lib.hid hop
    have HSG := Lib.hid (hsg 1 (by rw [if_neg e1, if_pos e2]; rfl))
    clear hv hu hz hy mz my hsg hZ e1 e2 h h' hop
    go_enter Tryz.func101, Tryz.ntmps101
    go_wp2_with fail
    generalize hwa : World.alloc (World.alloc (World.alloc (World.alloc w _) _) _) _ = w4
    have h1 := ((((Held.start w).alloc rfl).alloc rfl).alloc rfl).alloc hwa
    simp only [World.size_alloc] at h1
    clear hwa
    have HT := Lib.hid h1
    clear h1
    have h1 := HT.out.drew
    clear HT; have HT := Lib.hid h1; clear h1
    go_region_held3 (fun W => (W.cell? ⟨w.heap.size + 1 + 1 + 1, 0, none⟩ = some (.func (.func 114) #[] #[]) ∧ W.cell? ⟨w.heap.size + 1 + 1 + 1, 1, none⟩ = some (.func (.func 115) #[] #[]) ∧ W.cell? ⟨w.heap.size + 1 + 1 + 1, 2, none⟩ = some (.func (.func 116) #[] #[]) ∧ W.cell? ⟨w.heap.size + 1 + 1 + 1, 3, none⟩ = some (.func (.func 117) #[] #[])) ∧ (W.cell? ⟨w.heap.size + 1, 0, none⟩ = some (.bool b') ∧ W.cell? ⟨w.heap.size + 1, 1, none⟩ = some (.slice A' m d)) ∧ (W.cell? ⟨w.heap.size, 0, none⟩ = some (.bool b) ∧ W.cell? ⟨w.heap.size, 1, none⟩ = some (.slice A n c))) (first | with_reducible exact ⟨HT.out.c4 0 rfl, HT.out.c2 2 rfl, HT.out.c2 3 rfl⟩ | with_reducible exact ⟨HT.out.drew.c4 0 rfl, HT.out.drew.c2 2 rfl, HT.out.drew.c2 3 rfl⟩ | with_reducible exact ⟨HF.out.c4 0 rfl, HF.out.c2 1 rfl, HF.out.c2 2 rfl⟩) (first
      | (go_at_call 119; (with_reducible refine (HSG.out _ HT.out.below).mono ?_); rintro e w' ⟨rfl, h1⟩; have h2 := HT.out.on h1; clear HT h1; have HT := Lib.hid h2; clear h2)
      | (go_at_call 115; (with_reducible refine (HOP.out _ HT.out.below).mono ?_); rintro e w' ho; have h3 := HT.out.on ho.below; obtain ⟨A5, n5, c5, rfl, ⟨x0, x1⟩, ⟨y0, y1⟩, HB, HO⟩ := (HT.out.rc 1 rfl).out ho; have HF := Lib.hid (h3.put1 (by show w.heap.size + 1 + 1 + 1 ≠ w.heap.size + 1 + 1; omega) (by intro q hq; simp only [List.mem_cons, List.not_mem_nil, or_false] at hq; rcases hq with rfl | rfl <;> first | (show w.heap.size + 1 ≠ w.heap.size + 1 + 1; omega) | (show w.heap.size ≠ w.heap.size + 1 + 1; omega)) (.bool (sg Z)) (.slice A5 n5 c5)); clear HT ho; have HT := Lib.hid h3; clear h3))
    go_wp2
    refine bodyPost_ret (results_I rfl rfl HB.out) rfl ?_
    exact HO.out
  · have hop := fun W (hb : Below w.heap.size w W) => wsum_any W (h.below hb) (by omega) (h'.below hb) (by omega)
    rw [← mz, ← my, show mg z + mg y = Z by rw [mg_f (by omega), mg_f (by omega), ← hZ]; try omega] at hop
    have HOP := Lib.hid hop
    have HSG := Lib.hid (hsg 0 (by rw [if_neg e1, if_neg e2]; rfl))
    clear hv hu hz hy mz my hsg hZ e1 e2 h h' hop
    go_enter Tryz.func101, Tryz.ntmps101
    go_wp2_with fail
    generalize hwa : World.alloc (World.alloc (World.alloc (World.alloc w _) _) _) _ = w4
    have h1 := ((((Held.start w).alloc rfl).alloc rfl).alloc rfl).alloc hwa
    simp only [World.size_alloc] at h1
    clear hwa
    have HT := Lib.hid h1
    clear h1
    have h1 := HT.out.drew
    clear HT; have HT := Lib.hid h1; clear h1
    go_region_held3 (fun W => (W.cell? ⟨w.heap.size + 1 + 1 + 1, 0, none⟩ = some (.func (.func 114) #[] #[]) ∧ W.cell? ⟨w.heap.size + 1 + 1 + 1, 1, none⟩ = some (.func (.func 115) #[] #[]) ∧ W.cell? ⟨w.heap.size + 1 + 1 + 1, 2, none⟩ = some (.func (.func 116) #[] #[]) ∧ W.cell? ⟨w.heap.size + 1 + 1 + 1, 3, none⟩ = some (.func (.func 117) #[] #[])) ∧ (W.cell? ⟨w.heap.size + 1, 0, none⟩ = some (.bool b') ∧ W.cell? ⟨w.heap.size + 1, 1, none⟩ = some (.slice A' m d)) ∧ (W.cell? ⟨w.heap.size, 0, none⟩ = some (.bool b) ∧ W.cell? ⟨w.heap.size, 1, none⟩ = some (.slice A n c))) (first | with_reducible exact ⟨HT.out.c4 0 rfl, HT.out.c2 2 rfl, HT.out.c2 3 rfl⟩ | with_reducible exact ⟨HT.out.drew.c4 0 rfl, HT.out.drew.c2 2 rfl, HT.out.drew.c2 3 rfl⟩ | with_reducible exact ⟨HF.out.c4 0 rfl, HF.out.c2 1 rfl, HF.out.c2 2 rfl⟩) (first
      | (go_at_call 119; (with_reducible refine (HSG.out _ HT.out.below).mono ?_); rintro e w' ⟨rfl, h1⟩; have h2 := HT.out.on h1; clear HT h1; have HT := Lib.hid h2; clear h2)
      | (go_at_call 114; (with_reducible refine (HOP.out _ HT.out.below).mono ?_); rintro e w' ho; have h3 := HT.out.on ho.below; obtain ⟨A5, n5, c5, rfl, ⟨x0, x1⟩, ⟨y0, y1⟩, HB, HO⟩ := (HT.out.rc 1 rfl).out ho; have HF := Lib.hid (h3.put1 (by show w.heap.size + 1 + 1 + 1 ≠ w.heap.size + 1 + 1; omega) (by intro q hq; simp only [List.mem_cons, List.not_mem_nil, or_false] at hq; rcases hq with rfl | rfl <;> first | (show w.heap.size + 1 ≠ w.heap.size + 1 + 1; omega) | (show w.heap.size ≠ w.heap.size + 1 + 1; omega)) (.bool (sg Z)) (.slice A5 n5 c5)); clear HT ho; have HT := Lib.hid h3; clear h3))
    go_wp2
    refine bodyPost_ret (results_I rfl rfl HB.out) rfl ?_
    exact HO.out
set_option maxHeartbeats 2000000 in
theorem wmul_any (w : World) (b : Bool) (h : Sl w A n c xs) (hn : n ≤ 1000000) (b' : Bool) (h' : Sl w A' m d ys) (hm : m ≤ 1000000) :
    Calls Tryz.prog 120 #[.agg #[.bool b, .slice A n c], .agg #[.bool b', .slice A' m d]] w (OutI w (n + m) (iv b (val B xs) * iv b' (val B ys))) := by
  have hv := h.nn0
  have hu := h'.nn0
  obtain ⟨z, hz⟩ : ∃ z, iv b (val B xs) = z := ⟨_, rfl⟩
  obtain ⟨y, hy⟩ : ∃ y, iv b' (val B ys) = y := ⟨_, rfl⟩
  have mz : mg z = val B xs := by rw [← hz]; exact mg_iv hv
  have my : mg y = val B ys := by rw [← hy]; exact mg_iv hu
  have hsg := fun (k : Int) hk W (hb : Below w.heap.size w W) => signs_any (k := k) W b (h.below hb) (by omega) b' (h'.below hb) (by omega) hk
  rw [hz, hy] at hsg
  rw [hz, hy]
  obtain ⟨Z, hZ⟩ : ∃ Z, z * y = Z := ⟨_, rfl⟩
  rw [hZ]
  by_cases e1 : z < 0
  all_goals by_cases e2 : y < 0
  · have hop := fun W (hb : Below w.heap.size w W) => wproduct_any W (h.below hb) (by omega) (h'.below hb) (by omega)
    rw [← mz, ← my, show mg z * mg y = Z by rw [mg_t (z := z) (by omega), mg_t (z := y) (by omega), ← hZ]; rw [Int.neg_mul_neg]] at hop
    have HOP := Lib.hid hop
    have HSG := Lib.hid (hsg 3 (by rw [if_pos e1, if_pos e2]; rfl))
    clear hv hu hz hy mz my hsg hZ e1 e2 h h' hop
    go_enter Tryz.func120, Tryz.ntmps120
    go_wp2_with fail
    generalize hwa : World.alloc (World.alloc (World.alloc (World.alloc w _) _) _) _ = w4
    have h1 := ((((Held.start w).alloc rfl).alloc rfl).alloc rfl).alloc hwa
    simp only [World.size_alloc] at h1
    clear hwa
    have HT := Lib.hid h1
    clear h1
    have h1 := HT.out.drew
    clear HT; have HT := Lib.hid h1; clear h1
    go_region_held3 (fun W => (W.cell? ⟨w.heap.size + 1 + 1 + 1, 0, none⟩ = some (.func (.func 132) #[] #[]) ∧ W.cell? ⟨w.heap.size + 1 + 1 + 1, 1, none⟩ = some (.func (.func 133) #[] #[]) ∧ W.cell? ⟨w.heap.size + 1 + 1 + 1, 2, none⟩ = some (.func (.func 133) #[] #[]) ∧ W.cell? ⟨w.heap.size + 1 + 1 + 1, 3, none⟩ = some (.func (.func 132) #[] #[])) ∧ (W.cell? ⟨w.heap.size + 1, 0, none⟩ = some (.bool b') ∧ W.cell? ⟨w.heap.size + 1, 1, none⟩ = some (.slice A' m d)) ∧ (W.cell? ⟨w.heap.size, 0, none⟩ = some (.bool b) ∧ W.cell? ⟨w.heap.size, 1, none⟩ = some (.slice A n c))) (first | with_reducible exact ⟨HT.out.c4 0 rfl, HT.out.c2 2 rfl, HT.out.c2 3 rfl⟩ | with_reducible exact ⟨HT.out.drew.c4 0 rfl, HT.out.drew.c2 2 rfl, HT.out.drew.c2 3 rfl⟩ | with_reducible exact ⟨HF.out.c4 0 rfl, HF.out.c2 1 rfl, HF.out.c2 2 rfl⟩) (first
      | (go_at_call 119; (with_reducible refine (HSG.out _ HT.out.below).mono ?_); rintro e w' ⟨rfl, h1⟩; have h2 := HT.out.on h1; clear HT h1; have HT := Lib.hid h2; clear h2)
      | (go_at_call 132; (with_reducible refine (HOP.out _ HT.out.below).mono ?_); rintro e w' ho; have h3 := HT.out.on ho.below; obtain ⟨A5, n5, c5, rfl, ⟨x0, x1⟩, ⟨y0, y1⟩, HB, HO⟩ := (HT.out.rc 1 rfl).out ho; have HF := Lib.hid (h3.put1 (by show w.heap.size + 1 + 1 + 1 ≠ w.heap.size + 1 + 1; omega) (by intro q hq; simp only [List.mem_cons, List.not_mem_nil, or_false] at hq; rcases hq with rfl | rfl <;> first | (show w.heap.size + 1 ≠ w.heap.size + 1 + 1; omega) | (show w.heap.size ≠ w.heap.size + 1 + 1; omega)) (.bool (sg Z)) (.slice A5 n5 c5)); clear HT ho; have HT := Lib.hid h3; clear h3))
    go_wp2
    refine bodyPost_ret (results_I rfl rfl HB.out) rfl ?_
    exact HO.out
  · have hop := fun W (hb : Below w.heap.size w W) => wminus_any W (h.below hb) (by omega) (h'.below hb) (by omega)
    rw [← mz, ← my, show -(mg z * mg y) = Z by rw [mg_t (z := z) (by omega), mg_f (z := y) (by omega), ← hZ]; rw [Int.neg_mul, Int.neg_neg]] at hop
    have HOP := Lib.hid hop
    have HSG := Lib.hid (hsg 2 (by rw [if_pos e1, if_neg e2]; rfl))
    clear hv hu hz hy mz my hsg hZ e1 e2 h h' hop
    go_enter Tryz.func120, Tryz.ntmps120
    go_wp2_with fail
    generalize hwa : World.alloc (World.alloc (World.alloc (World.alloc w _) _) _) _ = w4
    have h1 := ((((Held.start w).alloc rfl).alloc rfl).alloc rfl).alloc hwa
    simp only [World.size_alloc] at h1
    clear hwa
    have HT := Lib.hid h1
    clear h1
    have h1 := HT.out.drew
    clear HT; have HT := Lib.hid h1; clear h1
    go_region_held3 (fun W => (W.cell? ⟨w.heap.size + 1 + 1 + 1, 0, none⟩ = some (.func (.func 132) #[] #[]) ∧ W.cell? ⟨w.heap.size + 1 + 1 + 1, 1, none⟩ = some (.func (.func 133) #[] #[]) ∧ W.cell? ⟨w.heap.size + 1 + 1 + 1, 2, none⟩ = some (.func (.func 133) #[] #[]) ∧ W.cell? ⟨w.heap.size + 1 + 1 + 1, 3, none⟩ = some (.func (.func 132) #[] #[])) ∧ (W.cell? ⟨w.heap.size + 1, 0, none⟩ = some (.bool b') ∧ W.cell? ⟨w.heap.size + 1, 1, none⟩ = some (.slice A' m d)) ∧ (W.cell? ⟨w.heap.size, 0, none⟩ = some (.bool b) ∧ W.cell? ⟨w.heap.size, 1, none⟩ = some (.slice A n c))) (first | with_reducible exact ⟨HT.out.c4 0 rfl, HT.out.c2 2 rfl, HT.out.c2 3 rfl⟩ | with_reducible exact ⟨HT.out.drew.c4 0 rfl, HT.out.drew.c2 2 rfl, HT.out.drew.c2 3 rfl⟩ | with_reducible exact ⟨HF.out.c4 0 rfl, HF.out.c2 1 rfl, HF.out.c2 2 rfl⟩) (first
      | (go_at_call 119; (with_reducible refine (HSG.out _ HT.out.below).mono ?_); rintro e w' ⟨rfl, h1⟩; have h2 := HT.out.on h1; clear HT h1; have HT := Lib.hid h2; clear h2)
      | (go_at_call 133; (with_reducible refine (HOP.out _ HT.out.below).mono ?_); rintro e w' ho; have h3 := HT.out.on ho.below; obtain ⟨A5, n5, c5, rfl, ⟨x0, x1⟩, ⟨y0, y1⟩, HB, HO⟩ := (HT.out.rc 1 rfl).out ho; have HF := Lib.hid (h3.put1 (by show w.heap.size + 1 + 1 + 1 ≠ w.heap.size + 1 + 1; omega) (by intro q hq; simp only [List.mem_cons, List.not_mem_nil, or_false] at hq; rcases hq with rfl | rfl <;> first | (show w.heap.size + 1 ≠ w.heap.size + 1 + 1; omega) | (show w.heap.size ≠ w.heap.size + 1 + 1; omega)) (.bool (sg Z)) (.slice A5 n5 c5)); clear HT ho; have HT := Lib.hid h3; clear h3))
    go_wp2
    refine bodyPost_ret (results_I rfl rfl HB.out) rfl ?_
    exact HO.out
  · have hop := fun W (hb : Below w.heap.size w W) => wminus_any W (h.below hb) (by omega) (h'.below hb) (by omega)
    rw [← mz, ← my, show -(mg z * mg y) = Z by rw [mg_f (z := z) (by omega), mg_t (z := y) (by omega), ← hZ]; rw [Int.mul_neg, Int.neg_neg]] at hop
    have HOP := Lib.hid hop
    have HSG := Lib.hid (hsg 1 (by rw [if_neg e1, if_pos e2]; rfl))
    clear hv hu hz hy mz my hsg hZ e1 e2 h h' hop
    go_enter Tryz.func120, Tryz.ntmps120
    go_wp2_with fail
    generalize hwa : World.alloc (World.alloc (World.alloc (World.alloc w _) _) _) _ = w4
    have h1 := ((((Held.start w).alloc rfl).alloc rfl).alloc rfl).alloc hwa
    simp only [World.size_alloc] at h1
    clear hwa
    have HT := Lib.hid h1
    clear h1
    have h1 := HT.out.drew
    clear HT; have HT := Lib.hid h1; clear h1
    go_region_held3 (fun W => (W.cell? ⟨w.heap.size + 1 + 1 + 1, 0, none⟩ = some (.func (.func 132) #[] #[]) ∧ W.cell? ⟨w.heap.size + 1 + 1 + 1, 1, none⟩ = some (.func (.func 133) #[] #[]) ∧ W.cell? ⟨w.heap.size + 1 + 1 + 1, 2, none⟩ = some (.func (.func 133) #[] #[]) ∧ W.cell? ⟨w.heap.size + 1 + 1 + 1, 3, none⟩ = some (.func (.func 132) #[] #[])) ∧ (W.cell? ⟨w.heap.size + 1, 0, none⟩ = some (.bool b') ∧ W.cell? ⟨w.heap.size + 1, 1, none⟩ = some (.slice A' m d)) ∧ (W.cell? ⟨w.heap.size, 0, none⟩ = some (.bool b) ∧ W.cell? ⟨w.heap.size, 1, none⟩ = some (.slice A n c))) (first | with_reducible exact ⟨HT.out.c4 0 rfl, HT.out.c2 2 rfl, HT.out.c2 3 rfl⟩ | with_reducible exact ⟨HT.out.drew.c4 0 rfl, HT.out.drew.c2 2 rfl, HT.out.drew.c2 3 rfl⟩ | with_reducible exact ⟨HF.out.c4 0 rfl, HF.out.c2 1 rfl, HF.out.c2 2 rfl⟩) (first
      | (go_at_call 119; (with_reducible refine (HSG.out _ HT.out.below).mono ?_); rintro e w' ⟨rfl, h1⟩; have h2 := HT.out.on h1; clear HT h1; have HT := Lib.hid h2; clear h2)
      | (go_at_call 133; (with_reducible refine (HOP.out _ HT.out.below).mono ?_); rintro e w' ho; have h3 := HT.out.on ho.below; obtain ⟨A5, n5, c5, rfl, ⟨x0, x1⟩, ⟨y0, y1⟩, HB, HO⟩ := (HT.out.rc 1 rfl).out ho; have HF := Lib.hid (h3.put1 (by show w.heap.size + 1 + 1 + 1 ≠ w.heap.size + 1 + 1; omega) (by intro q hq; simp only [List.mem_cons, List.not_mem_nil, or_false] at hq; rcases hq with rfl | rfl <;> first | (show w.heap.size + 1 ≠ w.heap.size + 1 + 1; omega) | (show w.heap.size ≠ w.heap.size + 1 + 1; omega)) (.bool (sg Z)) (.slice A5 n5 c5)); clear HT ho; have HT := Lib.hid h3; clear h3))
    go_wp2
    refine bodyPost_ret (results_I rfl rfl HB.out) rfl ?_
    exact HO.out
  · have hop := fun W (hb : Below w.heap.size w W) => wproduct_any W (h.below hb) (by omega) (h'.below hb) (by omega)
    rw [← mz, ← my, show mg z * mg y = Z by rw [mg_f (z := z) (by omega), mg_f (z := y) (by omega), ← hZ]] at hop
    have HOP := Lib.hid hop
    have HSG := Lib.hid (hsg 0 (by rw [if_neg e1, if_neg e2]; rfl))
    clear hv hu hz hy mz my hsg hZ e1 e2 h h' hop
    go_enter Tryz.func120, Tryz.ntmps120
    go_wp2_with fail
    generalize hwa : World.alloc (World.alloc (World.alloc (World.alloc w _) _) _) _ = w4
    have h1 := ((((Held.start w).alloc rfl).alloc rfl).alloc rfl).alloc hwa
    simp only [World.size_alloc] at h1
    clear hwa
    have HT := Lib.hid h1
    clear h1
    have h1 := HT.out.drew
    clear HT; have HT := Lib.hid h1; clear h1
    go_region_held3 (fun W => (W.cell? ⟨w.heap.size + 1 + 1 + 1, 0, none⟩ = some (.func (.func 132) #[] #[]) ∧ W.cell? ⟨w.heap.size + 1 + 1 + 1, 1, none⟩ = some (.func (.func 133) #[] #[]) ∧ W.cell? ⟨w.heap.size + 1 + 1 + 1, 2, none⟩ = some (.func (.func 133) #[] #[]) ∧ W.cell? ⟨w.heap.size + 1 + 1 + 1, 3, none⟩ = some (.func (.func 132) #[] #[])) ∧ (W.cell? ⟨w.heap.size + 1, 0, none⟩ = some (.bool b') ∧ W.cell? ⟨w.heap.size + 1, 1, none⟩ = some (.slice A' m d)) ∧ (W.cell? ⟨w.heap.size, 0, none⟩ = some (.bool b) ∧ W.cell? ⟨w.heap.size, 1, none⟩ = some (.slice A n c))) (first | with_reducible exact ⟨HT.out.c4 0 rfl, HT.out.c2 2 rfl, HT.out.c2 3 rfl⟩ | with_reducible exact ⟨HT.out.drew.c4 0 rfl, HT.out.drew.c2 2 rfl, HT.out.drew.c2 3 rfl⟩ | with_reducible exact ⟨HF.out.c4 0 rfl, HF.out.c2 1 rfl, HF.out.c2 2 rfl⟩) (first
      | (go_at_call 119; (with_reducible refine (HSG.out _ HT.out.below).mono ?_); rintro e w' ⟨rfl, h1⟩; have h2 := HT.out.on h1; clear HT h1; have HT := Lib.hid h2; clear h2)
      | (go_at_call 132; (with_reducible refine (HOP.out _ HT.out.below).mono ?_); rintro e w' ho; have h3 := HT.out.on ho.below; obtain ⟨A5, n5, c5, rfl, ⟨x0, x1⟩, ⟨y0, y1⟩, HB, HO⟩ := (HT.out.rc 1 rfl).out ho; have HF := Lib.hid (h3.put1 (by show w.heap.size + 1 + 1 + 1 ≠ w.heap.size + 1 + 1; omega) (by intro q hq; simp only [List.mem_cons, List.not_mem_nil, or_false] at hq; rcases hq with rfl | rfl <;> first | (show w.heap.size + 1 ≠ w.heap.size + 1 + 1; omega) | (show w.heap.size ≠ w.heap.size + 1 + 1; omega)) (.bool (sg Z)) (.slice A5 n5 c5)); clear HT ho; have HT := Lib.hid h3; clear h3))
    go_wp2
    refine bodyPost_ret (results_I rfl rfl HB.out) rfl ?_
    exact HO.out
end
end Go.Proofs.YtfdpddlefobcpaaGreatDoor
