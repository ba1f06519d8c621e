/- What the program's package of whole numbers answers, over this translation: Div, Read. -/
import Derived.Test.YtpokcocfdchfeaaGreatDoorWholeProgC
namespace Go.Proofs.YtpokcocfdchfeaaGreatDoor
open Go.RowKit
set_option linter.unusedVariables false
set_option maxRecDepth 20000
open N
namespace N
theorem Held.pick {w W : World} {a0 a1 a2 a3 a4 a5 a6 : Nat × Array Value × TypeId} (h : Held w [a0, a1, a2, a3, a4, a5, a6] W) : Held w [a0, a5, a6] W := h.sub fun q hq => by
  simp only [List.mem_cons, List.not_mem_nil, or_false] at hq ⊢
  rcases hq with e | e | e <;> simp [e]
theorem Held.r2 {w W : World} {a0 a1 a2 a5 a6 : Nat × Array Value × TypeId} {g g' : Nat} (h : Held w [a0, a1, a2, (g', #[.bool false, .slice none 0 0], 25), (g, #[.bool false, .slice none 0 0], 25), a5, a6] W) (hne : g ≠ g') : R2 w W.heap.size g g' W :=
  ⟨h.below, h.ge 4 rfl, h.ge 3 rfl, h.lt 4 rfl, h.lt 3 rfl, h.below.size, Nat.le_refl _, hne, ⟨_, _, _, _, h.row 4 rfl⟩, ⟨_, _, _, _, h.row 3 rfl⟩⟩
theorem OutI2.below {W w' : World} {m : Nat} {z y q : Int} {e : Ending} (h : OutI2 W m z y q e w') : Below W.heap.size W w' := by
  obtain ⟨A, n, c, A', n', c', he, h1, h2, h3, h4, h5⟩ := h
  exact h5
end N
section
variable {w w' : World} {A A' : Option Addr} {n c m d : Nat} {xs ys : List Int}
/-- what Div of two whole numbers tells, by their signs -/
def Way (z y Q R k : Int) : Prop := ∃ q r, IsD (mg z) (mg y) q r k ∧ (0 ≤ z → 0 ≤ y → Q = q ∧ R = r) ∧ (0 ≤ z → y < 0 → Q = -q ∧ R = r) ∧
  (z < 0 → 0 ≤ y → Q = -(if r = 0 then q else q + 1) ∧ R = (if r = 0 then 0 else mg y - r)) ∧ (z < 0 → y < 0 → Q = (if r = 0 then q else q + 1) ∧ R = (if r = 0 then 0 else mg y - r))
theorem way_zero (z : Int) : Way z 0 0 0 7 :=
  ⟨0, 0, .inr ⟨rfl, rfl, rfl, rfl⟩, fun _ _ => ⟨rfl, rfl⟩, fun _ h => by omega, fun _ _ => ⟨rfl, rfl⟩, fun _ h => by omega⟩
theorem way_yes (z : Int) {y : Int} (hy : y ≠ 0) : Way z y (z / y) (z % y) 0 := by
  have hu : 0 < mg y := mg_pos.2 hy
  have hz : ∀ b, sg z = b → iv b (mg z) = z := fun b e => by rw [← e]; exact iv_sm z
  have hyv : ∀ b, sg y = b → iv b (mg y) = y := fun b e => by rw [← e]; exact iv_sm y
  refine ⟨mg z / mg y, mg z % mg y, .inl ⟨hu, rfl, rfl, rfl⟩, fun h1 h2 => ?_, fun h1 h2 => ?_, fun h1 h2 => ?_, fun h1 h2 => ?_⟩
  · have := iv_div (b := false) (b' := false) (v := mg z) hu (.inl rfl)
    rw [hz _ (sg_f h1), hyv _ (sg_f h2)] at this
    exact this
  · have := iv_div (b := false) (b' := true) (v := mg z) hu (.inl rfl)
    rw [hz _ (sg_f h1), hyv _ (sg_t h2)] at this
    exact this
  · by_cases h0 : mg z % mg y = 0
    · have := iv_div (b := true) (b' := false) (v := mg z) hu (.inr h0)
      rw [hz _ (sg_t h1), hyv _ (sg_f h2)] at this
      rw [if_pos h0, if_pos h0, this.1, this.2, h0]
      exact ⟨rfl, rfl⟩
    · have := iv_div' (b' := false) (v := mg z) hu h0
      rw [hz _ (sg_t h1), hyv _ (sg_f h2)] at this
      rw [if_neg h0, if_neg h0, this.1, this.2]
      exact ⟨rfl, rfl⟩
  · by_cases h0 : mg z % mg y = 0
    · have := iv_div (b := true) (b' := true) (v := mg z) hu (.inr h0)
      rw [hz _ (sg_t h1), hyv _ (sg_t h2)] at this
      rw [if_pos h0, if_pos h0, this.1, this.2, h0]
      exact ⟨rfl, rfl⟩
    · have := iv_div' (b' := true) (v := mg z) hu h0
      rw [hz _ (sg_t h1), hyv _ (sg_t h2)] at this
      rw [if_neg h0, if_neg h0, this.1, this.2]
      exact ⟨rfl, rfl⟩
theorem RC.outE {w1 w5 : World} {g k m : Nat} {z j : Int} (h : RC w g w1) {A : Option Addr} {n c : Nat} (hn : n ≤ k) (hown : N.Own w5 w1.heap.size A n c (limbs (mg z))) (hb : Below w1.heap.size w1 w5) :
    (w5.cell? ⟨g, 0, none⟩ = some (.bool false) ∧ w5.cell? ⟨g, 1, none⟩ = some (.slice none 0 0)) ∧ (w5.frozen? ⟨g, 0, none⟩ = false ∧ w5.frozen? ⟨g, 1, none⟩ = false) ∧
      Hid (BoxI ((w5.setCell ⟨g, 0, none⟩ (.bool (sg z))).setCell ⟨g, 1, none⟩ (.slice A n c)) g (sg z) A n c) ∧
      Hid (OutIE w k z j (.returned (.tuple #[.agg #[.bool (sg z), .slice A n c], .int .i64 j])) ((w5.setCell ⟨g, 0, none⟩ (.bool (sg z))).setCell ⟨g, 1, none⟩ (.slice A n c))) := by
  have hB := h.box.on hb
  have hlt := h.lt
  refine ⟨⟨hB.c0, hB.c1⟩, ⟨hB.fr 0, hB.fr 1⟩, Lib.hid ((hB.set0 _).set1 _ _ _), Lib.hid ⟨A, n, c, rfl, hn, ?_, ?_⟩⟩
  · exact ((hown.keep (grow_set w5 g 0 _) (fun k hk => by injection hk with hk; omega)).keep (grow_set _ g 1 _) (fun k hk => by injection hk with hk; omega)).mono h.below.size
  · exact ((h.below.trans (hb.mono h.below.size)).setCell (p := ⟨g, 0, none⟩) h.ge _).setCell (p := ⟨g, 1, none⟩) h.ge _
theorem own_nil0 {w : World} {base : Nat} : N.Own w base none 0 0 (limbs (mg 0)) := by rw [mg_0, limbs_zero]; exact N.Own.nil_ _ _
/-- what stands behind a sign, and whether there is one -/
theorem cut_sign (bs : List UInt8) (hl : bs.length ≤ maxLen) : ∃ (T : List UInt8) (ng : Bool), T.length ≤ maxLen ∧
    (∀ W, Calls Tryz.prog 61 #[.string ⟨bs.toArray⟩, .string ⟨#[45]⟩] W fun e w' => e = .returned (.tuple #[.string ⟨T.toArray⟩, .bool ng]) ∧ w' = W) ∧
    rdJ bs = (if rdE T = 0 then (if ng = true ∧ rdV T = 0 then 3 else 0) else rdE T) ∧ rdW bs = iv ng (rdV T) := by
  cases hng : isNg bs with
  | true =>
    obtain ⟨t, rfl⟩ : ∃ t, bs = 45 :: t := ⟨_, ng_cons hng⟩
    obtain ⟨e1, e2⟩ := rdJ_neg hng
    refine ⟨t, true, by simp only [List.length_cons] at hl; omega, fun W => ?_, ?_, by rw [e2, iv_t]; rfl⟩
    · refine (Tryz.strings_CutPrefix ⟨(45 :: t).toArray⟩ ⟨#[45]⟩ W).mono fun e w' ⟨he, hw⟩ => ⟨?_, hw⟩
      rw [he]
      have h1 : Lib.hasPrefix (45 :: t) [45] = true := by simp [Lib.hasPrefix, List.isPrefixOf]
      have h2 : Lib.trimPrefix (45 :: t) [45] = t := by unfold Lib.trimPrefix; rw [if_pos h1]; rfl
      show Ending.returned (.tuple #[.string ⟨(Lib.trimPrefix (45 :: t) [45]).toArray⟩, .bool (Lib.hasPrefix (45 :: t) [45])]) = _
      rw [h1, h2]
    · rw [e1]
      show (if rdE t = 0 then (if rdV t = 0 then (3 : Int) else 0) else rdE t) = _
      congr 1
      by_cases h0 : rdV t = 0
      · rw [if_pos h0, if_pos ⟨rfl, h0⟩]
      · rw [if_neg h0, if_neg (fun h => h0 h.2)]
  | false =>
    obtain ⟨e1, e2⟩ := rdJ_pos hng
    refine ⟨bs, false, hl, fun W => ?_, ?_, by rw [e2, iv_f]⟩
    · refine (Tryz.strings_CutPrefix ⟨bs.toArray⟩ ⟨#[45]⟩ W).mono fun e w' ⟨he, hw⟩ => ⟨?_, hw⟩
      rw [he]
      have h1 : Lib.hasPrefix bs [45] = false := by
        cases bs with
        | nil => rfl
        | cons x t =>
          have : x ≠ 45 := fun e => by subst e; exact absurd hng (by show ¬ (true = false); decide)
          simp [Lib.hasPrefix, List.isPrefixOf]
          exact fun e => this e.symm
      have h2 : Lib.trimPrefix bs [45] = bs := by unfold Lib.trimPrefix; rw [h1]; rfl
      show Ending.returned (.tuple #[.string ⟨(Lib.trimPrefix bs [45]).toArray⟩, .bool (Lib.hasPrefix bs [45])]) = _
      rw [h1, h2]
    · rw [e1]
      by_cases h0 : rdE bs = 0
      · rw [if_pos h0, if_neg (fun h => by cases h.1), h0]
      · rw [if_neg h0]
set_option maxHeartbeats 1000000 in
theorem wread_any (w : World) (bs : List UInt8) (hl : bs.length ≤ maxLen) :
    Calls Tryz.prog 36 #[.string ⟨bs.toArray⟩] w (OutIE w 20001 (rdW bs) (rdJ bs)) := by
  obtain ⟨T, ng, hT, hc, hj, hw⟩ := cut_sign bs hl
  have HC := Lib.hid hc
  have HD := Lib.hid (fun W => pread_any W T hT)
  have hv0 := rdV_nonneg T
  obtain ⟨j, ej⟩ : ∃ j, rdE T = j := ⟨_, rfl⟩
  have hverr : j ≠ 0 → rdV T = 0 := fun h => rdV_err (by rw [ej]; exact h)
  obtain ⟨v, ev⟩ : ∃ v, rdV T = v := ⟨_, rfl⟩
  rw [ej, ev] at hj HD
  rw [ev] at hw hv0 hverr
  rw [hj, hw]
  clear hc hj hw ej ev hT hl
  by_cases h0 : j = 0
  · subst h0
    rw [if_pos rfl]
    clear hverr
    cases ng with
    | false =>
      rw [if_neg (fun h => by cases h.1)]
      have HV := Lib.hid hv0
      have HZ := Lib.hid (show iv false v = v from rfl)
      clear hv0
      go_enter Tryz.func36, Tryz.ntmps36
      go_wp2_with fail
      go_at_call 61
      generalize hw1 : World.alloc w _ = w1
      have HR := Lib.hid (RC.made hw1)
      clear hw1
      refine (HC.out w1).mono ?_
      rintro e w2 ⟨rfl, rfl⟩
      go_wp2_with fail
      go_at_call 37
      refine (HD.out w2).mono ?_
      rintro e w3 ⟨A1, n1, c1, rfl, hn1, ho, hb⟩
      have HM := Lib.hid (signed_own false HV.out ho hn1 hb)
      clear ho hb
      go_wp2_with fail
      go_at_call 50
      refine HM.out.mono ?_
      rintro e w4 ⟨A4, n4, c4, rfl, hn4, ho, hb⟩
      obtain ⟨⟨x0, x1⟩, ⟨y0, y1⟩, HB, HO⟩ := HR.out.outE (j := 0) (m := 0) hn4 ho hb
      clear ho hb
      go_wp2
      refine bodyPost_ret (results_I2 rfl rfl rfl HB.out) rfl ?_
      exact HO.out
    | true =>
      by_cases hz : v = 0
      · subst hz
        rw [if_pos ⟨rfl, rfl⟩, iv_0]
        go_enter Tryz.func36, Tryz.ntmps36
        go_wp2_with fail
        go_at_call 61
        generalize hw1 : World.alloc w _ = w1
        have HR := Lib.hid (RC.made hw1)
        clear hw1
        refine (HC.out w1).mono ?_
        rintro e w2 ⟨rfl, rfl⟩
        go_wp2_with fail
        go_at_call 37
        refine (HD.out w2).mono ?_
        rintro e w3 ⟨A1, n1, c1, rfl, hn1, ho, hb⟩
        have HSL := Lib.hid ho.sl
        obtain ⟨⟨x0, x1⟩, ⟨y0, y1⟩, HB, HO⟩ := HR.out.outE (z := 0) (j := 3) (k := 20001) (m := 0) (Nat.zero_le _) own_nil0 hb
        clear ho hb
        go_wp2_with fail
        go_at_call 26
        refine (zero_yes _ _ _ _ _ HSL.out (by rw [limbs_zero]; rfl)).mono ?_
        rintro e w4 ⟨rfl, rfl⟩
        go_wp2
        refine bodyPost_ret (results_I2 rfl rfl rfl HB.out) rfl ?_
        exact HO.out
      · rw [if_neg (fun h => hz h.2)]
        have HV := Lib.hid hv0
        have HP := Lib.hid (show 0 < v by omega)
        clear hv0 hz
        go_enter Tryz.func36, Tryz.ntmps36
        go_wp2_with fail
        go_at_call 61
        generalize hw1 : World.alloc w _ = w1
        have HR := Lib.hid (RC.made hw1)
        clear hw1
        refine (HC.out w1).mono ?_
        rintro e w2 ⟨rfl, rfl⟩
        go_wp2_with fail
        go_at_call 37
        refine (HD.out w2).mono ?_
        rintro e w3 ⟨A1, n1, c1, rfl, hn1, ho, hb⟩
        have HSL := Lib.hid ho.sl
        have HM := Lib.hid (signed_own true HV.out ho hn1 hb)
        clear ho hb
        go_wp2_with fail
        go_at_call 26
        refine (zero_no _ _ _ _ _ HSL.out (by rw [limbs_val HV.out]; exact HP.out)).mono ?_
        rintro e w4 ⟨rfl, rfl⟩
        go_wp2_with fail
        go_at_call 50
        refine HM.out.mono ?_
        rintro e w4 ⟨A4, n4, c4, rfl, hn4, ho, hb⟩
        obtain ⟨⟨x0, x1⟩, ⟨y0, y1⟩, HB, HO⟩ := HR.out.outE (j := 0) (m := 0) hn4 ho hb
        clear ho hb
        go_wp2
        refine bodyPost_ret (results_I2 rfl rfl rfl HB.out) rfl ?_
        exact HO.out
  · obtain rfl := hverr h0
    rw [if_neg h0, iv_0]
    have hje : (j == 0) = false := by simpa using h0
    have hjn : (j != 0) = true := by simpa using h0
    clear hverr hv0 h0
    go_enter Tryz.func36, Tryz.ntmps36
    go_wp2_with fail
    go_at_call 61
    generalize hw1 : World.alloc w _ = w1
    have HR := Lib.hid (RC.made hw1)
    clear hw1
    refine (HC.out w1).mono ?_
    rintro e w2 ⟨rfl, rfl⟩
    go_wp2_with fail
    go_at_call 37
    refine (HD.out w2).mono ?_
    rintro e w3 ⟨A1, n1, c1, rfl, hn1, ho, hb⟩
    obtain ⟨⟨x0, x1⟩, ⟨y0, y1⟩, HB, HO⟩ := HR.out.outE (z := 0) (j := j) (k := 20001) (m := 0) (Nat.zero_le _) own_nil0 hb
    clear ho hb
    go_wp2
    refine bodyPost_ret (results_I2 rfl rfl rfl HB.out) rfl ?_
    exact HO.out
end
end Go.Proofs.YtpokcocfdchfeaaGreatDoor
