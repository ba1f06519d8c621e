/- What the program's package of whole numbers answers, over this translation: Make, May, Sign, Neg, Of, Small, Cmp, Show. -/
import Derived.Test.YtfdpddlefobcpaaGreatDoorGDec
import Derived.Test.YtfdpddlefobcpaaGreatDoorGWhole
import Derived.Test.YtfdpddlefobcpaaGreatDoorShelf
import Derived.Laws.EntriesVeiled
import Derived.Deep.RegionHeld3
namespace Go.Proofs.YtfdpddlefobcpaaGreatDoor
open Go.RowKit
set_option linter.unusedVariables false
set_option maxRecDepth 20000
open N
open Go.Lib (decDigits nDigits decDigits_length nDigits_pos)
section
variable {w w' : World} {A A' : Option Addr} {n c m d : Nat} {xs ys : List Int}
/-- what is made of limbs of the call's own: how its sign is told -/
theorem sg_of_len {b : Bool} {v : Int} (hv : 0 ≤ v) {n : Nat} (hn : (limbs v).length = n) : sg (iv b v) = (b && decide (0 < n)) := by
  rw [sg_iv hv]
  congr 1
  have h : n = 0 ↔ v = 0 := by
    constructor
    · intro e
      subst e
      have := limbs_val hv
      rw [List.eq_nil_of_length_eq_zero hn] at this
      exact this.symm
    · intro e
      subst e
      rw [limbs_zero] at hn
      exact hn.symm
  by_cases h0 : v = 0
  · rw [decide_eq_false (by omega), decide_eq_false (by have := h.2 h0; omega)]
  · rw [decide_eq_true (by omega), decide_eq_true (by have := fun e => h0 (h.1 e); omega)]
theorem signed_any (w : World) (b : Bool) (A : Option Addr) (n c : Nat) :
    Calls Tryz.prog 77 #[.bool b, .slice A n c] w fun e w' => e = .returned (.agg #[.bool (b && decide (0 < n)), .slice A n c]) ∧ Below w.heap.size w w' := by
  cases b with
  | false =>
    go_enter Tryz.func77, Tryz.ntmps77
    go_wp2
    refine bodyPost_ret (results_I rfl rfl (BoxI.made rfl).1) rfl ?_
    exact ⟨rfl, (BoxI.made rfl).2⟩
  | true =>
    go_enter Tryz.func77, Tryz.ntmps77
    go_wp2
    refine bodyPost_ret (results_I rfl rfl (BoxI.made rfl).1) rfl ?_
    exact ⟨rfl, (BoxI.made rfl).2⟩
/-- of limbs of a call's own -/
theorem signed_own {W w : World} {m : Nat} {v : Int} (b : Bool) (hv : 0 ≤ v) (ho : N.Own w W.heap.size A n c (limbs v)) (hn : n ≤ m) (hb : Below W.heap.size W w) :
    Calls Tryz.prog 77 #[.bool b, .slice A n c] w (OutI W m (iv b v)) :=
  (signed_any w b A n c).mono fun e w' ⟨he, hb'⟩ => ⟨A, n, c, by rw [he, sg_of_len hv ho.len], hn, by rw [mg_iv hv]; exact ho.below hb', hb.trans (hb'.mono hb.size)⟩
theorem wsign_any (w : World) (b : Bool) (h : Sl w A n c xs) (hn : n ≤ 1099511627776) :
    Calls Tryz.prog 131 #[.agg #[.bool b, .slice A n c]] w fun e w' => e = .returned (.int .i64 (sgn (iv b (val B xs)))) ∧ Below w.heap.size w w' := by
  have hv0 := h.nn0
  by_cases hz : val B xs = 0
  · have HS := Lib.hid (show sgn (iv b (val B xs)) = 0 by rw [hz, iv_0]; rfl)
    have HZ := Lib.hid fun W (hb : Below w.heap.size w W) => zero_yes W A n c xs (h.below hb) hz
    clear h hv0 hz
    go_enter Tryz.func131, Tryz.ntmps131
    go_wp2_with (go_at_call 79; refine (HZ.out _ (BoxI.made rfl).2).mono ?_; rintro e w' ⟨rfl, rfl⟩)
    go_ret
    exact ⟨by rw [HS.out]; rfl, (BoxI.made rfl).2⟩
  · have HZ := Lib.hid fun W (hb : Below w.heap.size w W) => zero_no W A n c xs (h.below hb) (by omega)
    cases b with
    | false =>
      have HS := Lib.hid (show sgn (iv false (val B xs)) = 1 by rw [iv_f]; exact sgn_pos (by omega))
      clear h hv0 hz
      go_enter Tryz.func131, Tryz.ntmps131
      go_wp2_with (go_at_call 79; refine (HZ.out _ (BoxI.made rfl).2).mono ?_; rintro e w' ⟨rfl, rfl⟩)
      go_ret
      exact ⟨by rw [HS.out]; rfl, (BoxI.made rfl).2⟩
    | true =>
      have HS := Lib.hid (show sgn (iv true (val B xs)) = -1 by rw [iv_t]; exact sgn_neg (by omega))
      clear h hv0 hz
      go_enter Tryz.func131, Tryz.ntmps131
      go_wp2_with (go_at_call 79; refine (HZ.out _ (BoxI.made rfl).2).mono ?_; rintro e w' ⟨rfl, rfl⟩)
      go_ret
      exact ⟨by rw [HS.out]; rfl, (BoxI.made rfl).2⟩
/-- the block in which a call makes its result -/
structure RC (w : World) (g : Nat) (w1 : World) : Prop where
  below : Below w.heap.size w w1
  ge : w.heap.size ≤ g
  lt : g < w1.heap.size
  box : BoxI w1 g false none 0 0
theorem RC.made {w1 : World} (h : w.alloc (.cells #[.bool false, .slice none 0 0] 60) = w1) : RC w w.heap.size w1 := by
  obtain ⟨hB, hb⟩ := BoxI.made h
  exact ⟨hb, Nat.le_refl _, hB.lt, hB⟩
/-- the same, behind other blocks -/
theorem RC.over {w0 w1 : World} (hb0 : Below w.heap.size w w0) (h0 : w.heap.size ≤ w0.heap.size) (h : w0.alloc (.cells #[.bool false, .slice none 0 0] 60) = w1) : RC w w0.heap.size w1 := by
  obtain ⟨hB, hb⟩ := BoxI.made h
  exact ⟨hb0.trans (hb.mono h0), h0, hB.lt, hB⟩
theorem RC.out {w1 w5 : World} {g k : Nat} {z : Int} {e : Ending} (h : RC w g w1) (ho : OutI w1 k z e w5) :
    ∃ A n c, e = .returned (.agg #[.bool (sg z), .slice A n c]) ∧ (w5.cell? ⟨g, 0, none⟩ = some (.bool false) ∧ w5.cell? ⟨g, 1, none⟩ = some (.slice none 0 0)) ∧ (w5.frozen? ⟨g, 0, none⟩ = false ∧ w5.frozen? ⟨g, 1, none⟩ = false) ∧
      Hid (BoxI ((w5.setCell ⟨g, 0, none⟩ (.bool (sg z))).setCell ⟨g, 1, none⟩ (.slice A n c)) g (sg z) A n c) ∧
      Hid (OutI w k z (.returned (.agg #[.bool (sg z), .slice A n c])) ((w5.setCell ⟨g, 0, none⟩ (.bool (sg z))).setCell ⟨g, 1, none⟩ (.slice A n c))) := by
  obtain ⟨A, n, c, he, hn, hown, hb⟩ := ho
  have hB := h.box.on hb
  have hlt := h.lt
  refine ⟨A, n, c, he, ⟨hB.c0, hB.c1⟩, ⟨hB.fr 0, hB.fr 1⟩, Lib.hid ((hB.set0 _).set1 _ _ _), Lib.hid ⟨A, n, c, rfl, hn, ?_, ?_⟩⟩
  · exact ((hown.keep (grow_set w5 g 0 _) (fun k hk => by injection hk with hk; omega)).keep (grow_set _ g 1 _) (fun k hk => by injection hk with hk; omega)).mono h.below.size
  · exact ((h.below.trans (hb.mono h.below.size)).setCell (p := ⟨g, 0, none⟩) h.ge _).setCell (p := ⟨g, 1, none⟩) h.ge _
theorem wmake_any (w : World) (b : Bool) (h : Sl w A n c xs) (hn : n ≤ 1099511627776) :
    Calls Tryz.prog 78 #[.bool b, .slice A n c] w (OutI w n (iv b (val B xs))) := by
  have HV := Lib.hid h.nn0
  have HS := Lib.hid h
  clear h
  go_enter Tryz.func78, Tryz.ntmps78
  go_wp2_with fail
  go_at_call 82
  generalize hw1 : World.alloc w _ = w1
  have HR := Lib.hid (RC.made hw1)
  clear hw1
  refine (trim_any w1 A n c xs (HS.out.below HR.out.below) hn).mono ?_
  rintro e w2 ⟨A1, n1, c1, rfl, hn1, ho, hb⟩
  have HM := Lib.hid (signed_own b HV.out ho hn1 hb)
  clear ho hb
  go_wp2_with fail
  go_at_call 77
  refine HM.out.mono ?_
  rintro e w3 ho
  obtain ⟨A3, n3, c3, rfl, ⟨x0, x1⟩, ⟨y0, y1⟩, HB, HO⟩ := HR.out.out ho
  clear ho
  go_wp2
  refine bodyPost_ret (results_I rfl rfl HB.out) rfl ?_
  exact HO.out
theorem wneg_any (w : World) (b : Bool) (h : Sl w A n c xs) (hn : n ≤ 1099511627776) :
    Calls Tryz.prog 54 #[.agg #[.bool b, .slice A n c]] w (OutI w n (-(iv b (val B xs)))) := by
  rw [← iv_neg]
  have HS := Lib.hid h
  clear h
  go_enter Tryz.func54, Tryz.ntmps54
  go_wp2_with fail
  go_at_call 78
  generalize hw1 : World.alloc (World.alloc w _) _ = w1
  have HR := Lib.hid (RC.over (BoxI.made rfl).2 (by simp only [World.size_alloc]; omega) hw1)
  rw [World.size_alloc] at HR
  clear hw1
  refine (wmake_any w1 _ (HS.out.below HR.out.below) hn).mono ?_
  rintro e w3 ho
  obtain ⟨A3, n3, c3, rfl, ⟨x0, x1⟩, ⟨y0, y1⟩, HB, HO⟩ := HR.out.out ho
  clear ho
  go_wp2
  refine bodyPost_ret (results_I rfl rfl HB.out) rfl ?_
  exact HO.out
theorem wof_any (w : World) (z : Int) (h1 : -9223372036854775808 ≤ z) (h2 : z ≤ 9223372036854775807) :
    Calls Tryz.prog 53 #[.int .i64 z] w (OutI w 1 z) := by
  by_cases hz : z < 0
  · have HO := fun W => of_any W (-z) ⟨by omega, by omega⟩
    have e1 : IntKind.u64.wrap (-IntKind.u64.wrap z) = -z := by rw [IntKind.wrap_u64, IntKind.wrap_u64]; omega
    have HZ := Lib.hid (show iv true (-z) = z by rw [iv_t]; omega)
    have HV := Lib.hid (show 0 ≤ -z by omega)
    clear h1 h2
    go_enter Tryz.func53, Tryz.ntmps53
    go_wp2_with fail
    go_at_call 56
    generalize hw1 : World.alloc w _ = w1
    have HR := Lib.hid (RC.made hw1)
    clear hw1
    refine (HO w1).mono ?_
    rintro e w2 ⟨A1, n1, c1, rfl, hn1, ho, hb⟩
    have HM := signed_own true HV.out ho hn1 hb
    rw [HZ.out] at HM
    have HM := Lib.hid HM
    clear ho hb
    go_wp2_with fail
    go_at_call 77
    refine HM.out.mono ?_
    rintro e w3 ho
    obtain ⟨A3, n3, c3, rfl, ⟨x0, x1⟩, ⟨y0, y1⟩, HB, HO⟩ := HR.out.out ho
    clear ho
    go_wp2
    refine bodyPost_ret (results_I rfl rfl HB.out) rfl ?_
    exact HO.out
  · have HO := fun W => of_any W z ⟨by omega, by omega⟩
    have e1 : IntKind.u64.wrap z = z := by rw [IntKind.wrap_u64]; omega
    have HZ := Lib.hid (show iv false z = z from rfl)
    have HV := Lib.hid (show 0 ≤ z by omega)
    clear h1 h2
    go_enter Tryz.func53, Tryz.ntmps53
    go_wp2_with fail
    go_at_call 56
    generalize hw1 : World.alloc w _ = w1
    have HR := Lib.hid (RC.made hw1)
    clear hw1
    refine (HO w1).mono ?_
    rintro e w2 ⟨A1, n1, c1, rfl, hn1, ho, hb⟩
    have HM := signed_own false HV.out ho hn1 hb
    rw [HZ.out] at HM
    have HM := Lib.hid HM
    clear ho hb
    go_wp2_with fail
    go_at_call 77
    refine HM.out.mono ?_
    rintro e w3 ho
    obtain ⟨A3, n3, c3, rfl, ⟨x0, x1⟩, ⟨y0, y1⟩, HB, HO⟩ := HR.out.out ho
    clear ho
    go_wp2
    refine bodyPost_ret (results_I rfl rfl HB.out) rfl ?_
    exact HO.out
theorem sgn_iv_cmp {b b' : Bool} {v u : Int} (hv : 0 ≤ v) (hu : 0 ≤ u) : (sgn (iv b v) ≠ sgn (iv b' u) → cmpI (sgn (iv b v)) (sgn (iv b' u)) = sgn (iv b v - iv b' u)) ∧
    (sgn (iv b v) = sgn (iv b' u) → sgn (iv b v) * cmpI v u = sgn (iv b v - iv b' u)) := by
  have key : ∀ {q p : Int}, q < p → cmpI q p = -1 := fun h => cmpI_lt h
  have keg : ∀ {q p : Int}, p < q → cmpI q p = 1 := fun h => cmpI_gt h
  have hb : ∀ (b : Bool) (x : Int), iv b x = x ∨ iv b x = -x := fun b x => by cases b <;> simp [iv]
  have hbb : (∃ z, iv b v = z ∧ (z = v ∨ z = -v)) := ⟨_, rfl, hb b v⟩
  have hbb' : (∃ z, iv b' u = z ∧ (z = u ∨ z = -u)) := ⟨_, rfl, hb b' u⟩
  obtain ⟨z, ez, hz⟩ := hbb
  obtain ⟨y, ey, hy⟩ := hbb'
  rw [ez, ey]
  rcases sgn_cases z with ⟨a1, a2⟩ | ⟨a1, a2⟩ | ⟨a1, a2⟩ <;> rcases sgn_cases y with ⟨b1, b2⟩ | ⟨b1, b2⟩ | ⟨b1, b2⟩ <;> rw [a2, b2]
  · refine ⟨fun h => absurd rfl h, fun _ => ?_⟩
    rcases Int.lt_trichotomy v u with h | h | h
    · rw [key h, sgn_pos (by omega)]; rfl
    · rw [cmpI_eq h, sgn_zero (by omega)]; rfl
    · rw [keg h, sgn_neg (by omega)]; rfl
  · exact ⟨fun _ => by rw [sgn_neg (by omega)]; rfl, fun h => absurd h (by decide)⟩
  · exact ⟨fun _ => by rw [sgn_neg (by omega)]; rfl, fun h => absurd h (by decide)⟩
  · exact ⟨fun _ => by rw [sgn_pos (by omega)]; rfl, fun h => absurd h (by decide)⟩
  · exact ⟨fun h => absurd rfl h, fun _ => by rw [sgn_zero (by omega), Int.zero_mul]⟩
  · exact ⟨fun _ => by rw [sgn_neg (by omega)]; rfl, fun h => absurd h (by decide)⟩
  · exact ⟨fun _ => by rw [sgn_pos (by omega)]; rfl, fun h => absurd h (by decide)⟩
  · exact ⟨fun _ => by rw [sgn_pos (by omega)]; rfl, fun h => absurd h (by decide)⟩
  · refine ⟨fun h => absurd rfl h, fun _ => ?_⟩
    rcases Int.lt_trichotomy v u with h | h | h
    · rw [key h, sgn_neg (by omega)]; rfl
    · rw [cmpI_eq h, sgn_zero (by omega)]; rfl
    · rw [keg h, sgn_pos (by omega)]; rfl
/-- which of the four: 0 none below 0, 1 the second, 2 the first, 3 both -/
theorem signs_any (w : World) (b : Bool) (h : Sl w A n c xs) (hn : n ≤ 1099511627776) (b' : Bool) (h' : Sl w A' m d ys) (hm : m ≤ 1099511627776) {k : Int}
    (hk : (if iv b (val B xs) < 0 then 2 else 0) + (if iv b' (val B ys) < 0 then 1 else 0) = k) :
    Calls Tryz.prog 119 #[.agg #[.bool b, .slice A n c], .agg #[.bool b', .slice A' m d]] w fun e w' => e = .returned (.int .i64 k) ∧ Below w.heap.size w w' := by
  have hsx := fun W (hb : Below w.heap.size w W) => wsign_any W b (h.below hb) hn
  have hsy := fun W (hb : Below w.heap.size w W) => wsign_any W b' (h'.below hb) hm
  have hq3 := sgn_cases (iv b (val B xs))
  have hp3 := sgn_cases (iv b' (val B ys))
  obtain ⟨q, hq⟩ : ∃ q, sgn (iv b (val B xs)) = q := ⟨_, rfl⟩
  obtain ⟨p, hp⟩ : ∃ p, sgn (iv b' (val B ys)) = p := ⟨_, rfl⟩
  rw [hq] at hsx hq3
  rw [hp] at hsy hp3
  have HSX := Lib.hid hsx
  have HSY := Lib.hid hsy
  have hkk : (if q < 0 then (2 : Int) else 0) + (if p < 0 then 1 else 0) = k := by
    rw [← hk]
    congr 1
    · congr 1; exact propext ⟨fun _ => by omega, fun _ => by omega⟩
    · congr 1; exact propext ⟨fun _ => by omega, fun _ => by omega⟩
  clear hsx hsy hq3 hp3 hq hp hk h h'
  by_cases e1 : q < 0
  all_goals by_cases e2 : p < 0
  · rw [if_pos e1, if_pos e2] at hkk
    subst hkk
    go_enter Tryz.func119, Tryz.ntmps119
    go_wp2_with fail
    go_at_call 131
    generalize hwa : World.alloc (World.alloc w _) _ = w2
    have h1 := ((Held.start w).alloc rfl).alloc hwa
    simp only [World.size_alloc] at h1
    clear hwa
    have HT := Lib.hid h1
    clear h1
    refine (HSX.out _ HT.out.below).mono ?_
    rintro e w3 ⟨rfl, h1⟩
    have h2 := HT.out.on h1
    clear HT h1
    have HT := Lib.hid h2
    clear h2
    obtain ⟨x1, x2⟩ := HT.out.c2 0 rfl
    obtain ⟨x3, x4⟩ := HT.out.c2 1 rfl
    go_wp2_with (go_at_call 131; (refine (HSY.out _ HT.out.below).mono ?_); rintro e w4 ⟨rfl, h1⟩)
    go_ret
    exact ⟨rfl, (HT.out.on h1).below⟩
  · rw [if_pos e1, if_neg e2] at hkk
    subst hkk
    have e2 : 0 ≤ p := by omega
    go_enter Tryz.func119, Tryz.ntmps119
    go_wp2_with fail
    go_at_call 131
    generalize hwa : World.alloc (World.alloc w _) _ = w2
    have h1 := ((Held.start w).alloc rfl).alloc hwa
    simp only [World.size_alloc] at h1
    clear hwa
    have HT := Lib.hid h1
    clear h1
    refine (HSX.out _ HT.out.below).mono ?_
    rintro e w3 ⟨rfl, h1⟩
    have h2 := HT.out.on h1
    clear HT h1
    have HT := Lib.hid h2
    clear h2
    obtain ⟨x1, x2⟩ := HT.out.c2 0 rfl
    obtain ⟨x3, x4⟩ := HT.out.c2 1 rfl
    go_wp2_with (go_at_call 131; (refine (HSY.out _ HT.out.below).mono ?_); rintro e w4 ⟨rfl, h1⟩)
    go_ret
    exact ⟨rfl, (HT.out.on h1).below⟩
  · rw [if_neg e1, if_pos e2] at hkk
    subst hkk
    have e1 : 0 ≤ q := by omega
    go_enter Tryz.func119, Tryz.ntmps119
    go_wp2_with fail
    go_at_call 131
    generalize hwa : World.alloc (World.alloc w _) _ = w2
    have h1 := ((Held.start w).alloc rfl).alloc hwa
    simp only [World.size_alloc] at h1
    clear hwa
    have HT := Lib.hid h1
    clear h1
    refine (HSX.out _ HT.out.below).mono ?_
    rintro e w3 ⟨rfl, h1⟩
    have h2 := HT.out.on h1
    clear HT h1
    have HT := Lib.hid h2
    clear h2
    obtain ⟨x1, x2⟩ := HT.out.c2 0 rfl
    obtain ⟨x3, x4⟩ := HT.out.c2 1 rfl
    go_wp2_with (go_at_call 131; (refine (HSY.out _ HT.out.below).mono ?_); rintro e w4 ⟨rfl, h1⟩)
    go_ret
    exact ⟨rfl, (HT.out.on h1).below⟩
  · rw [if_neg e1, if_neg e2] at hkk
    subst hkk
    have e1 : 0 ≤ q := by omega
    have e2 : 0 ≤ p := by omega
    go_enter Tryz.func119, Tryz.ntmps119
    go_wp2_with fail
    go_at_call 131
    generalize hwa : World.alloc (World.alloc w _) _ = w2
    have h1 := ((Held.start w).alloc rfl).alloc hwa
    simp only [World.size_alloc] at h1
    clear hwa
    have HT := Lib.hid h1
    clear h1
    refine (HSX.out _ HT.out.below).mono ?_
    rintro e w3 ⟨rfl, h1⟩
    have h2 := HT.out.on h1
    clear HT h1
    have HT := Lib.hid h2
    clear h2
    obtain ⟨x1, x2⟩ := HT.out.c2 0 rfl
    obtain ⟨x3, x4⟩ := HT.out.c2 1 rfl
    go_wp2_with (go_at_call 131; (refine (HSY.out _ HT.out.below).mono ?_); rintro e w4 ⟨rfl, h1⟩)
    go_ret
    exact ⟨rfl, (HT.out.on h1).below⟩
end
end Go.Proofs.YtfdpddlefobcpaaGreatDoor
