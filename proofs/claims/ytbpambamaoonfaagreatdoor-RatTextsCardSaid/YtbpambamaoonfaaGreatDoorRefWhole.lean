/- What the document's own package of whole numbers answers, over this translation. -/
import Derived.Test.YtbpambamaoonfaaGreatDoorGRefB
import Derived.Test.YtbpambamaoonfaaGreatDoorGDec
import Derived.Test.YtbpambamaoonfaaGreatDoorGWhole
import Derived.Deep.QuietTactic
import Derived.BigQuiet
namespace Go.Proofs.YtbpambamaoonfaaGreatDoor
open Go.RowKit
set_option linter.unusedVariables false
set_option maxRecDepth 20000
open N
open Go.Lib (decDigits nDigits decDigits_length nDigits_pos)
section
variable {w : World} {A A' : Option Addr} {n c m d : Nat} {xs ys : List Int}
theorem rmake_any (w : World) (b : Bool) (h : Sl w A n c xs) (hn : n ≤ 1099511627776) :
    Calls Tryz.prog 81 #[.bool b, .slice A n c] w (OutI w n (iv b (val B xs))) := by
  have hv0 := h.nn0
  have hlt := h.lt
  have HTT := Lib.hid h
  have fin : ∀ (g : Nat) (b' b0 : Bool) (A1 A0 : Option Addr) (n1 c1 n0 c0 : Nat) (w1 w2 : World), b' = sg (iv b (val B xs)) → N.Own w2 w1.heap.size A1 n1 c1 (limbs (val B xs)) → Below w1.heap.size w1 w2 → Below w.heap.size w w1 → w.heap.size = g → g < w1.heap.size →
      OutI w n (iv b (val B xs)) (.returned (.agg #[.bool b', .slice A1 n1 c1])) ((w2.setCell ⟨g, 0, none⟩ (.bool b')).setCell ⟨g, 1, none⟩ (.slice A1 n1 c1)) := by
    intro g b' b0 A1 A0 n1 c1 n0 c0 w1 w2 e ho hb hb1 hg hg1
    rw [e]
    refine OutI.tight (m := n1) ⟨A1, n1, c1, rfl, Nat.le_refl _, ?_, ?_⟩ (by rw [mg_iv hv0]; exact hlt)
    · rw [mg_iv hv0]
      exact ((ho.keep (grow_set w2 g 0 _) (fun k hk => by injection hk with hk; omega)).keep (grow_set _ g 1 _) (fun k hk => by injection hk with hk; omega)).mono hb1.size
    · exact ((hb1.trans (hb.mono hb1.size)).setCell (show w.heap.size ≤ g by omega) _).setCell (show w.heap.size ≤ g by omega) _
  have FIN := Lib.hid fin
  clear fin hlt h
  go_enter Tryz.func81, Tryz.ntmps81
  go_wp2_with fail
  go_at_call 27
  generalize hw1 : World.alloc w _ = w1
  obtain ⟨hB1, hb1⟩ := BoxI.made hw1
  clear hw1
  refine (rtrim_any w1 A n c xs (HTT.out.below hb1) hn).mono ?_
  rintro e w2 ⟨A1, n1, c1, rfl, _, ho, hb⟩
  have hB2 := hB1.on hb
  have c0 := hB2.c0
  have c1' := hB2.c1
  have f0 := hB2.fr 0
  have f1 := hB2.fr 1
  have hg1 := hB1.lt
  have hBX : ∀ b' : Bool, BoxI ((w2.setCell ⟨w.heap.size, 0, none⟩ (.bool b')).setCell ⟨w.heap.size, 1, none⟩ (.slice A1 n1 c1)) w.heap.size b' A1 n1 c1 := fun b' => (hB2.set0 b').set1 A1 n1 c1
  have HBX := Lib.hid hBX
  clear hBX
  have HL := Lib.hid ho.len
  have HO := Lib.hid ho
  have HB1 := Lib.hid hb1
  have HB := Lib.hid hb
  clear hB1 hB2 ho hb hb1
  have hE : ∀ b', b' = sg (iv b (val B xs)) → OutI w n (iv b (val B xs)) (.returned (.agg #[.bool b', .slice A1 n1 c1])) ((w2.setCell ⟨w.heap.size, 0, none⟩ (.bool b')).setCell ⟨w.heap.size, 1, none⟩ (.slice A1 n1 c1)) :=
    fun b' e => FIN.out _ b' false A1 none n1 c1 0 0 w1 w2 e HO.out HB.out HB1.out rfl hg1
  have HE := Lib.hid hE
  clear hE
  by_cases hb : b = false
  · subst hb
    have HS := Lib.hid (show false = sg (iv false (val B xs)) by rw [iv_f, sg_f hv0])
    clear hv0
    go_wp2
    refine bodyPost_ret (results_I rfl rfl (HBX.out _)) rfl ?_
    exact HE.out _ HS.out
  · obtain rfl : b = true := by cases b; exact absurd rfl hb; rfl
    by_cases hz : val B xs = 0
    · have HS := Lib.hid (show false = sg (iv true (val B xs)) by rw [hz]; rfl)
      obtain rfl : n1 = 0 := by rw [← HL.out, hz, limbs_zero]; rfl
      clear hv0 hz hb
      go_wp2
      refine bodyPost_ret (results_I rfl rfl (HBX.out _)) rfl ?_
      exact HE.out _ HS.out
    · have HS := Lib.hid (show true = sg (iv true (val B xs)) by rw [sg_iv hv0, Bool.true_and]; exact (decide_eq_true (by omega)).symm)
      have hn1 : 0 < n1 := by
        rcases Nat.eq_zero_or_pos n1 with e | e
        · have h1 := limbs_val hv0
          rw [List.eq_nil_of_length_eq_zero (HL.out.trans e)] at h1
          exact absurd h1.symm hz
        · exact e
      clear hv0 hz hb
      go_wp2
      refine bodyPost_ret (results_I rfl rfl (HBX.out _)) rfl ?_
      exact HE.out _ HS.out
theorem sh_sum (T : List UInt8) : (⟨#[45]⟩ : ByteArray) ++ ⟨T.toArray⟩ = ⟨(45 :: T).toArray⟩ := ByteArray.mk_append_mk [45] T
theorem OutIE.fin {w w1 w2 : World} {g n1 c1 : Nat} {A1 : Option Addr} {z k : Int} {b : Bool} (hb1 : Below w.heap.size w w1) (hg : w.heap.size = g) (hg1 : g < w1.heap.size) (ho : N.Own w2 w1.heap.size A1 n1 c1 (limbs (mg z))) (hb2 : Below w1.heap.size w1 w2) (hn : n1 ≤ 20001) (hs : b = sg z) :
    OutIE w 20001 z k (.returned (.tuple #[.agg #[.bool b, .slice A1 n1 c1], .int .i64 k])) ((w2.setCell ⟨g, 0, none⟩ (.bool b)).setCell ⟨g, 1, none⟩ (.slice A1 n1 c1)) := by
  subst hs
  refine ⟨A1, n1, c1, rfl, hn, ?_, ?_⟩
  · exact ((ho.keep (grow_set w2 g 0 _) (fun k hk => by injection hk with hk; omega)).keep (grow_set _ g 1 _) (fun k hk => by injection hk with hk; omega)).mono hb1.size
  · exact ((hb1.trans (hb2.mono hb1.size)).setCell (show w.heap.size ≤ g by omega) _).setCell (show w.heap.size ≤ g by omega) _
theorem read_cut (b : UInt8) (t : List UInt8) : (⟨(b :: t).toArray⟩ : ByteArray).extract 1 (t.length + 1) = ⟨t.toArray⟩ := ext_drop (b :: t) 1
theorem own_nilz {w : World} {base : Nat} : N.Own w base none 0 0 (limbs (mg 0)) := by rw [mg_0, limbs_zero]; exact N.Own.nil_ _ _
theorem rreadi_any (w : World) (bs : List UInt8) (hl : bs.length ≤ maxLen) :
    Calls Tryz.prog 45 #[.string ⟨bs.toArray⟩] w (OutIE w 20001 (rdW bs) (rdJ bs)) := by
  cases hng : isNg bs with
  | true =>
    obtain ⟨t, rfl⟩ : ∃ t, bs = 45 :: t := ⟨_, ng_cons hng⟩
    have hl1 : t.length + 1 ≤ maxLen := by simpa using hl
    have hlt : t.length ≤ maxLen := by omega
    have HR := Lib.hid (fun W => rread_any W t hlt)
    have hx : ∀ W : World, (Instr.index 9 (.string ⟨(45 :: t).toArray⟩) (.int .i64 0)).run Tryz.prog W = .ok (.int .u8 45) W := fun W => str_at (45 :: t) 9 strU .i64 0 (by simp) W
    have hE : (45 :: t).isEmpty = false := rfl
    obtain ⟨e1, e2⟩ := rdJ_neg hng
    obtain ⟨z, hz⟩ : ∃ z, rdW (45 :: t) = z := ⟨_, rfl⟩
    obtain ⟨j, hj⟩ : ∃ j, rdJ (45 :: t) = j := ⟨_, rfl⟩
    have hze := rdW_err (bs := 45 :: t)
    rw [hz, hj] at hze ⊢
    rw [hj] at e1
    rw [hz] at e2
    obtain ⟨k, hk⟩ : ∃ k, rdE t = k := ⟨_, rfl⟩
    obtain ⟨v, hv⟩ : ∃ v, rdV t = v := ⟨_, rfl⟩
    have hv0 := rdV_nonneg t
    have hsz : (t.length : Int) + 1 ≤ 9223372036854775807 := by unfold maxLen at hl1; omega
    rw [List.tail_cons] at e1 e2
    rw [hk, hv] at HR e1
    rw [hv] at e2 hv0
    clear hz hj hk hv hng hlt hl hl1
    by_cases hk0 : k = 0
    · subst hk0
      rw [if_pos rfl] at e1
      by_cases hv0' : v = 0
      · subst hv0'
        rw [if_pos rfl] at e1
        obtain rfl := hze (by rw [e1]; decide)
        subst e1
        clear hze e2 hv0
        go_enter Tryz.func45, Tryz.ntmps45
        go_wp2_with fail
        go_at_call 46
        generalize hw1 : World.alloc w _ = w1
        obtain ⟨hB1, hb1⟩ := BoxI.made hw1
        clear hw1
        rw [read_cut]
        refine (HR.out w1).mono ?_
        rintro e w2 ⟨A1, n1, c1, rfl, hn1, ho, hb2⟩
        obtain rfl : n1 = 0 := by rw [← ho.len, limbs_zero]; rfl
        have hB2 := hB1.on hb2
        have x0 := hB2.c0
        have x1 := hB2.c1
        have f0 := hB2.fr 0
        have f1 := hB2.fr 1
        have hg1 := Lib.hid hB1.lt
        have HBX := Lib.hid ((hB2.set0 false).set1 none 0 0)
        have HB1 := Lib.hid hb1
        have HB2 := Lib.hid hb2
        clear hB1 hB2 hb1 hb2 ho
        go_wp2
        refine bodyPost_ret (results_I2 rfl rfl rfl HBX.out) rfl ?_
        exact OutIE.fin HB1.out rfl hg1.out own_nilz HB2.out (Nat.zero_le _) rfl
      · rw [if_neg hv0'] at e1
        subst e1
        have HNZ := Lib.hid hv0'
        have HV0 := Lib.hid hv0
        have HZ := Lib.hid (show iv true v = z from e2.symm)
        clear hze e2 hv0 hv0'
        go_enter Tryz.func45, Tryz.ntmps45
        go_wp2_with fail
        go_at_call 46
        generalize hw1 : World.alloc w _ = w1
        obtain ⟨hB1, hb1⟩ := BoxI.made hw1
        clear hw1
        rw [read_cut]
        refine (HR.out w1).mono ?_
        rintro e w2 ⟨A1, n1, c1, rfl, hn1, ho, hb2⟩
        have hn0 : ((n1 : Int) == 0) = false := by
          have : n1 ≠ 0 := fun e => by
            have h1 := limbs_val HV0.out
            rw [List.eq_nil_of_length_eq_zero (ho.len.trans e)] at h1
            exact HNZ.out h1.symm
          simpa using this
        have hm := rmake_any w2 true ho.sl (by omega)
        rw [limbs_val HV0.out, HZ.out] at hm
        have HM := Lib.hid hm
        have hB2 := hB1.on hb2
        have hg1 := Lib.hid hB1.lt
        have x0 := hB2.c0
        have x1 := hB2.c1
        have HBB := Lib.hid hB2
        have HB1 := Lib.hid hb1
        have HB2 := Lib.hid hb2
        clear hB1 hB2 hb1 hb2 ho hm
        go_wp2_with fail
        go_at_call 81
        refine HM.out.mono ?_
        rintro e w3 ⟨A3, n3, c3, rfl, hn3, ho3, hb3⟩
        clear x0 x1
        have hB3 := HBB.out.on hb3
        have x0 := hB3.c0
        have x1 := hB3.c1
        have f0 := hB3.fr 0
        have f1 := hB3.fr 1
        have HBX := Lib.hid ((hB3.set0 (sg z)).set1 A3 n3 c3)
        have HO := Lib.hid (ho3.mono HB2.out.size)
        have HB3 := Lib.hid (HB2.out.trans (hb3.mono HB2.out.size))
        clear hB3 ho3 hb3
        go_wp2
        refine bodyPost_ret (results_I2 rfl rfl rfl HBX.out) rfl ?_
        exact OutIE.fin HB1.out rfl hg1.out HO.out HB3.out (by omega) rfl
    · rw [if_neg hk0] at e1
      subst e1
      obtain rfl := hze hk0
      have hke : (j != 0) = true := by simpa using hk0
      clear hze e2 hv0 hk0
      go_enter Tryz.func45, Tryz.ntmps45
      go_wp2_with fail
      go_at_call 46
      generalize hw1 : World.alloc w _ = w1
      obtain ⟨hB1, hb1⟩ := BoxI.made hw1
      clear hw1
      rw [read_cut]
      refine (HR.out w1).mono ?_
      rintro e w2 ⟨A1, n1, c1, rfl, hn1, ho, hb2⟩
      have hB2 := hB1.on hb2
      have x0 := hB2.c0
      have x1 := hB2.c1
      have f0 := hB2.fr 0
      have f1 := hB2.fr 1
      have hg1 := Lib.hid hB1.lt
      have HBX := Lib.hid ((hB2.set0 false).set1 none 0 0)
      have HB1 := Lib.hid hb1
      have HB2 := Lib.hid hb2
      clear hB1 hB2 hb1 hb2 ho
      go_wp2
      refine bodyPost_ret (results_I2 rfl rfl rfl HBX.out) rfl ?_
      exact OutIE.fin HB1.out rfl hg1.out own_nilz HB2.out (Nat.zero_le _) rfl
  | false =>
    have HR := Lib.hid (fun W => rread_any W bs hl)
    obtain ⟨e1, e2⟩ := rdJ_pos hng
    have hze := rdW_err (bs := bs)
    have hv0 := rdV_nonneg bs
    obtain ⟨z, hz⟩ : ∃ z, rdW bs = z := ⟨_, rfl⟩
    obtain ⟨j, hj⟩ : ∃ j, rdJ bs = j := ⟨_, rfl⟩
    rw [hz, hj] at hze ⊢
    rw [hj] at e1
    rw [hz] at e2
    rw [← e1, ← e2] at HR
    rw [← e2] at hv0
    clear hz hj e2
    by_cases he : bs = []
    · subst he
      obtain rfl : j = 4 := e1
      obtain rfl := hze (by decide)
      clear hze hv0 hng
      go_enter Tryz.func45, Tryz.ntmps45
      go_wp2_with fail
      go_at_call 46
      generalize hw1 : World.alloc w _ = w1
      obtain ⟨hB1, hb1⟩ := BoxI.made hw1
      clear hw1
      refine (HR.out w1).mono ?_
      rintro e w2 ⟨A1, n1, c1, rfl, hn1, ho, hb2⟩
      have hB2 := hB1.on hb2
      have x0 := hB2.c0
      have x1 := hB2.c1
      have f0 := hB2.fr 0
      have f1 := hB2.fr 1
      have hg1 := Lib.hid hB1.lt
      have HBX := Lib.hid ((hB2.set0 false).set1 none 0 0)
      have HB1 := Lib.hid hb1
      have HB2 := Lib.hid hb2
      clear hB1 hB2 hb1 hb2 ho
      go_wp2
      refine bodyPost_ret (results_I2 rfl rfl rfl HBX.out) rfl ?_
      exact OutIE.fin HB1.out rfl hg1.out own_nilz HB2.out (Nat.zero_le _) rfl
    · clear e1
      have hE : bs.isEmpty = false := by
        cases bs with
        | nil => exact absurd rfl he
        | cons b t => rfl
      have hpos : 0 < bs.length := by
        cases bs with
        | nil => exact absurd rfl he
        | cons b t => simp
      have hx : ∀ W : World, (Instr.index 9 (.string ⟨bs.toArray⟩) (.int .i64 0)).run Tryz.prog W = .ok (.int .u8 (bat bs 0)) W := fun W => str_at bs 9 strU .i64 0 hpos W
      have hb45 : (bat bs 0 == 45) = false := by
        cases bs with
        | nil => exact absurd rfl he
        | cons b t =>
          rw [beq_eq_false_iff_ne]
          intro e
          have e' : b.toNat = 45 := by have : ((b.toNat : Nat) : Int) = 45 := e; omega
          have : b = 45 := UInt8.toNat_inj.1 e'
          subst this
          exact absurd hng (by show ¬ (true = false); decide)
      obtain ⟨y, hy⟩ : ∃ y, bat bs 0 = y := ⟨_, rfl⟩
      rw [hy] at hx hb45
      clear hy he hng
      by_cases hk0 : j = 0
      · subst hk0
        have HV0 := Lib.hid hv0
        have HZ := Lib.hid (show iv false z = z from rfl)
        clear hze hv0
        go_enter Tryz.func45, Tryz.ntmps45
        go_wp2_with fail
        go_at_call 46
        generalize hw1 : World.alloc w _ = w1
        obtain ⟨hB1, hb1⟩ := BoxI.made hw1
        clear hw1
        refine (HR.out w1).mono ?_
        rintro e w2 ⟨A1, n1, c1, rfl, hn1, ho, hb2⟩
        have hm := rmake_any w2 false ho.sl (by omega)
        rw [limbs_val HV0.out, HZ.out] at hm
        have HM := Lib.hid hm
        have hB2 := hB1.on hb2
        have hg1 := Lib.hid hB1.lt
        have x0 := hB2.c0
        have x1 := hB2.c1
        have HBB := Lib.hid hB2
        have HB1 := Lib.hid hb1
        have HB2 := Lib.hid hb2
        clear hB1 hB2 hb1 hb2 ho hm
        go_wp2_with fail
        go_at_call 81
        refine HM.out.mono ?_
        rintro e w3 ⟨A3, n3, c3, rfl, hn3, ho3, hb3⟩
        clear x0 x1
        have hB3 := HBB.out.on hb3
        have x0 := hB3.c0
        have x1 := hB3.c1
        have f0 := hB3.fr 0
        have f1 := hB3.fr 1
        have HBX := Lib.hid ((hB3.set0 (sg z)).set1 A3 n3 c3)
        have HO := Lib.hid (ho3.mono HB2.out.size)
        have HB3 := Lib.hid (HB2.out.trans (hb3.mono HB2.out.size))
        clear hB3 ho3 hb3
        go_wp2
        refine bodyPost_ret (results_I2 rfl rfl rfl HBX.out) rfl ?_
        exact OutIE.fin HB1.out rfl hg1.out HO.out HB3.out (by omega) rfl
      · obtain rfl := hze hk0
        have hke : (j != 0) = true := by simpa using hk0
        clear hze hv0 hk0
        go_enter Tryz.func45, Tryz.ntmps45
        go_wp2_with fail
        go_at_call 46
        generalize hw1 : World.alloc w _ = w1
        obtain ⟨hB1, hb1⟩ := BoxI.made hw1
        clear hw1
        refine (HR.out w1).mono ?_
        rintro e w2 ⟨A1, n1, c1, rfl, hn1, ho, hb2⟩
        have hB2 := hB1.on hb2
        have x0 := hB2.c0
        have x1 := hB2.c1
        have f0 := hB2.fr 0
        have f1 := hB2.fr 1
        have hg1 := Lib.hid hB1.lt
        have HBX := Lib.hid ((hB2.set0 false).set1 none 0 0)
        have HB1 := Lib.hid hb1
        have HB2 := Lib.hid hb2
        clear hB1 hB2 hb1 hb2 ho
        go_wp2
        refine bodyPost_ret (results_I2 rfl rfl rfl HBX.out) rfl ?_
        exact OutIE.fin HB1.out rfl hg1.out own_nilz HB2.out (Nat.zero_le _) rfl
end
end Go.Proofs.YtbpambamaoonfaaGreatDoor
