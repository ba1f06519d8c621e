/- What the document's own Read answers, over this translation: the natural of decimal digits, or why it is none. -/
import Derived.Test.YtbadbjmhmadbmaaDoorRefTen
import Derived.Test.YtbadbjmhmadbmaaDoorBytMem
import Derived.Test.YtbadbjmhmadbmaaDoorQuoMem
import Derived.Test.YtbadbjmhmadbmaaDoorNatJoin
namespace Go.Proofs.YtbadbjmhmadbmaaDoor
open Go.RowKit
set_option linter.unusedVariables false
set_option maxRecDepth 20000
open N
namespace N
/-- digits times ten, and a digit more: what is done below place j -/
structure RRst (ls : List Int) (d : Int) (j : Nat) (q : Int) (zs : List Int) : Prop where
  len : zs.length = ls.length
  dg : Dg D zs
  q0 : 0 ≤ q
  q1 : q ≤ 9
  sum : val D zs + q * Q D j + 9 * (val D ls - lo D ls j) = val D ls * 10 + d
  rest : ∀ i, j ≤ i → lim zs i = lim ls i
theorem RRst.start {ls : List Int} {d : Int} (hd : Dg D ls) (h0 : 0 ≤ d) (h1 : d ≤ 9) : RRst ls d 0 d ls :=
  ⟨rfl, hd, h0, h1, by rw [Q_zero, lo_zero]; omega, fun _ _ => rfl⟩
theorem RRst.bd {ls : List Int} {d : Int} {j : Nat} {q : Int} {zs : List Int} (h : RRst ls d j q zs) : 0 ≤ lim zs j * 10 + q ∧ lim zs j * 10 + q < 655360 := by
  have h1 := h.dg.lim (b := D) (by decide) j
  have h2 : lim zs j < 65536 := h1.2
  have := h.q0; have := h.q1; omega
theorem RRst.step {ls : List Int} {d : Int} {j : Nat} {q : Int} {zs : List Int} (h : RRst ls d j q zs) (hj : j < ls.length) :
    RRst ls d (j + 1) ((lim zs j * 10 + q) / 65536) (zs.set j ((lim zs j * 10 + q) % 65536)) := by
  obtain ⟨b0, b1⟩ := h.bd
  refine ⟨by rw [List.length_set, h.len], h.dg.set j (by omega) (by show _ < (65536 : Int); omega), by omega, by omega, ?_, fun i hi => ?_⟩
  · have hs := h.sum
    have hr := h.rest j (Nat.le_refl _)
    rw [val_set D zs j _ (by rw [h.len]; exact hj), lo_succ, Q_succ, ← hr]
    obtain ⟨x, hx⟩ : ∃ x, lim zs j * 10 + q = x := ⟨_, rfl⟩
    have e1 : x / 65536 * (Q D j * 65536) = (x / 65536 * 65536) * Q D j := by rw [Int.mul_comm (Q D j), Int.mul_assoc]
    have e2 : (x % 65536 - lim zs j) * Q D j + (x / 65536 * 65536) * Q D j = (lim zs j * 9 + q) * Q D j := by
      rw [← Int.add_mul]; congr 1; omega
    rw [hx]
    show val D zs + _ + x / 65536 * (Q D j * 65536) + _ = _
    rw [e1]
    have e3 : (lim zs j * 9 + q) * Q D j = 9 * (lim zs j * Q D j) + q * Q D j := by rw [Int.add_mul, Int.mul_comm (lim zs j) 9, Int.mul_assoc]
    omega
  · rw [lim_set _ _ _ _ (by rw [h.len]; exact hj), if_neg (by omega)]; exact h.rest i (by omega)
theorem RRst.done {ls : List Int} {d : Int} {j : Nat} {q : Int} {zs : List Int} (h : RRst ls d j q zs) (hj : ls.length ≤ j) (hj' : j ≤ ls.length) : val D (zs ++ [q]) = val D ls * 10 + d := by
  obtain rfl : j = ls.length := by omega
  have hs := h.sum
  rw [lo_all D ls _ (Nat.le_refl _)] at hs
  rw [val_append, h.len]
  show _ + _ * (q + D * 0) = _
  rw [Int.mul_zero, Int.add_zero, Int.mul_comm]
  omega
theorem dv_take (bs : List UInt8) (k : Nat) (h : k < bs.length) : (dv (bs.take (k + 1)) : Int) = (dv (bs.take k) : Int) * 10 + (((bs.getD k 0).toNat - 48 : Nat) : Int) := by
  rw [List.take_succ_eq_append_getElem h, dv_snoc, List.getD_eq_getElem?_getD, List.getElem?_eq_getElem h]
  simp
end N
def RdRel (w : World) (bs : List UInt8) (l i : Value) (wr : World) : Prop :=
  ∃ (k : Nat) (ls : List Int) (A : Option Addr) (n c : Nat), i = .int .i64 k ∧ k ≤ bs.length ∧ l = .slice A n c ∧ n ≤ k ∧ Own wr w.heap.size A n c ls ∧ Dg D ls ∧ val D ls = (dv (bs.take k) : Int) ∧ Below w.heap.size w wr
set_option maxHeartbeats 1000000 in
theorem rread_any (w : World) (bs : List UInt8) (hl : bs.length ≤ maxLen) :
    Calls Tryd.prog 18 #[.string ⟨bs.toArray⟩] w (Out2 w 20001 (rdV bs) (rdE bs)) := by
  unfold maxLen at hl
  have bad : ∀ k : Int, k ≠ 0 → rdE bs = k → Out2 w 20001 (rdV bs) (rdE bs) (.returned (.tuple #[.slice none 0 0, .int .i64 k])) w := by
    intro k hk e
    refine ⟨none, 0, 0, by rw [e], Nat.zero_le _, ?_, Below.refl _ _⟩
    rw [show rdV bs = 0 by unfold rdV; rw [if_neg (by omega)], limbs_zero]
    exact Own.nil_ _ _
  have HBAD := Lib.hid bad
  clear bad
  have hidx : ∀ (k : Nat), k < bs.length → ∀ W : World, (Instr.index 9 (.string ⟨bs.toArray⟩) (.int .i64 (k : Int))).run Tryd.prog W = .ok (.int .u8 (bat bs k)) W := fun k hk W => str_at bs 9 strU .i64 k hk W
  have HIDX := Lib.hid hidx
  clear hidx
  by_cases h0 : bs.length = 0
  · have h0b : ((bs.length : Int) == 0) = true := by rw [h0]; rfl
    have HE := Lib.hid (rdE_short h0)
    clear h0
    go_enter Tryd.func18, Tryd.ntmps18
    go_wp2
    go_ret2
    exact HBAD.out 4 (by decide) HE.out
  · have h0b : ((bs.length : Int) == 0) = false := by simpa using h0
    have H0 := Lib.hid h0
    have hpos : 0 < bs.length := by omega
    clear h0
    go_enter Tryd.func18, Tryd.ntmps18
    go_wp2
    go_loop [4] (fun i => ∃ k : Nat, i = .int .i64 k ∧ k ≤ bs.length ∧ ∀ j, j < k → IsD (bs.getD j 0)) (fun i => bs.length - (intOf i).toNat)
    case atStart => exact ⟨0, rfl, Nat.zero_le _, fun j hj => by omega⟩
    case round =>
      obtain ⟨k, rfl, hk, hj⟩ := hrel
      by_cases hlt : k < bs.length
      · have hx := HIDX.out k hlt
        by_cases hD : IsD (bs.getD k 0)
        · have HJ := Lib.hid hj
          have HD := Lib.hid hD
          obtain ⟨x, hxe⟩ : ∃ x, bat bs k = x := ⟨_, rfl⟩
          have hb1 : 48 ≤ x ∧ x ≤ 57 := by
            rw [← hxe]; unfold bat; unfold IsD at hD; omega
          obtain ⟨b1, b2⟩ := hb1
          rw [hxe] at hx
          clear hD hj hxe
          go_wp2
          go_round
          case rel =>
            refine ⟨k + 1, by go_num, by omega, fun j h => ?_⟩
            by_cases e : j = k
            · rw [e]; exact HD.out
            · exact HJ.out j (by omega)
          case measure => simp [intOf]; omega
        · have HE := Lib.hid (rdE_form hlt hD)
          obtain ⟨x, hxe⟩ : ∃ x, bat bs k = x := ⟨_, rfl⟩
          have hb1 : x < 48 ∨ 57 < x := by
            rw [← hxe]; unfold bat; unfold IsD at hD; omega
          rw [hxe] at hx
          clear hD hj hxe
          by_cases b1 : x < 48
          · clear hb1
            go_wp2
            go_ret2
            exact HBAD.out 3 (by decide) HE.out
          · have b2 : 57 < x := by omega
            clear hb1
            go_wp2
            go_ret2
            exact HBAD.out 3 (by decide) HE.out
      · obtain rfl : k = bs.length := by omega
        have ha := (all_iff bs).2 hj
        have HJ := Lib.hid hj
        have HA := Lib.hid ha
        clear hj ha
        have hx : ∀ W : World, (Instr.index 9 (.string ⟨bs.toArray⟩) (.int .i64 0)).run Tryd.prog W = .ok (.int .u8 (bat bs 0)) W := HIDX.out 0 hpos
        by_cases hz : (bs.getD 0 0).toNat = 48 ∧ 1 < bs.length
        · obtain ⟨z1, z2⟩ := hz
          have HE := Lib.hid (rdE_zero HA.out z1 z2)
          have hb0 : bat bs 0 = 48 := by unfold bat; rw [z1]; rfl
          rw [hb0] at hx
          clear z1 hb0
          go_wp2
          go_ret2
          exact HBAD.out 3 (by decide) HE.out
        · have HZ := Lib.hid hz
          have hz' : (bat bs 0 == 48) = false ∨ ((bat bs 0 == 48) = true ∧ ¬ (1 < bs.length)) := by
            unfold bat
            by_cases e : (bs.getD 0 0).toNat = 48
            · right
              exact ⟨by rw [e]; rfl, fun e' => hz ⟨e, e'⟩⟩
            · left
              rw [beq_eq_false_iff_ne]; omega
          obtain ⟨y, hy⟩ : ∃ y, bat bs 0 = y := ⟨_, rfl⟩
          rw [hy] at hx hz'
          clear hz hy
          rcases hz' with z1 | ⟨z1, z2⟩
          all_goals
            by_cases hlong : 20000 < bs.length
            · have HE := Lib.hid (rdE_long HA.out HZ.out hlong)
              first
              | (exfalso; omega)
              | (go_wp2
                 go_ret2
                 exact HBAD.out 5 (by decide) HE.out)
            · have HE := Lib.hid (rdE_ok H0.out HA.out HZ.out hlong)
              go_wp2
              clear hx
              go_loopw [5, 6] (fun l i wr => RdRel w bs l i wr) (fun _ i _ => bs.length - (intOf i).toNat)
              case atStart => exact ⟨0, [], none, 0, 0, rfl, Nat.zero_le _, rfl, Nat.le_refl _, Own.nil_ _ _, Dg.nil, rfl, Below.refl _ _⟩
              case round =>
                obtain ⟨k, ls, A, n, c, rfl, hk, rfl, hn, ho, hd, hv, hb⟩ := hrel
                obtain ⟨wi, rfl⟩ : ∃ wi : World, wi = wr := ⟨_, rfl⟩
                by_cases hlt : k < bs.length
                · have hx := HIDX.out k hlt
                  have hD := HJ.out k hlt
                  obtain ⟨x, hxe⟩ : ∃ x, bat bs k = x := ⟨_, rfl⟩
                  have hb1 : 48 ≤ x ∧ x ≤ 57 := by
                    rw [← hxe]; unfold bat; unfold IsD at hD; omega
                  have hxv : (((bs.getD k 0).toNat - 48 : Nat) : Int) = x - 48 := by
                    rw [← hxe]; unfold bat; unfold IsD at hD; omega
                  obtain ⟨b1, b2⟩ := hb1
                  rw [hxe] at hx
                  have hdv := dv_take bs k hlt
                  rw [hxv, ← hv] at hdv
                  have HDV := Lib.hid hdv
                  have HST := Lib.hid (RRst.start hd (show 0 ≤ x - 48 by omega) (show x - 48 ≤ 9 by omega))
                  have hln := ho.len
                  have HLN := Lib.hid hln
                  have HO := Lib.hid ho
                  have HB := Lib.hid hb
                  have w1 : IntKind.u8.wrap (x - 48) = x - 48 := by rw [IntKind.wrap_u8]; omega
                  clear hD hxe hxv hdv hv hd hln ho hb
                  go_wp2
                  clear hx w1
                  go_loopw [7, 8] (fun cs ks wr => ∃ (j : Nat) (q : Int) (zs : List Int), cs = .int .u64 q ∧ ks = .int .i64 j ∧ j ≤ n ∧ RRst ls (x - 48) j q zs ∧ Own wr w.heap.size A n c zs ∧ Below w.heap.size w wr) (fun _ ks _ => n - (intOf ks).toNat)
                  case atStart => exact ⟨0, _, ls, rfl, rfl, Nat.zero_le _, HST.out, HO.out, HB.out⟩
                  case round =>
                    obtain ⟨j, q, zs, rfl, rfl, hj, hR, ho, hb⟩ := hrel
                    obtain ⟨wj, rfl⟩ : ∃ wj : World, wj = wr := ⟨_, rfl⟩
                    have hzl := ho.len
                    have q0 := hR.q0
                    have q1 := hR.q1
                    by_cases hjn : j < n
                    · obtain ⟨g, rfl, hg, hnc, hcm, hP⟩ := ho.arp (by omega)
                      have hcz := hP.cell (k := j) (by omega)
                      have hfz := hP.frozen j
                      have HS := Lib.hid (hR.step (by rw [HLN.out]; exact hjn))
                      obtain ⟨c0, c1⟩ := hR.bd
                      have hm0 := (hR.dg.lim (b := D) (by decide) j).1
                      have w1 : IntKind.u64.wrap (lim zs j * 10) = lim zs j * 10 := by rw [IntKind.wrap_u64]; omega
                      have w2 : IntKind.u64.wrap (lim zs j * 10 + q) = lim zs j * 10 + q := by rw [IntKind.wrap_u64]; omega
                      have HP := Lib.hid (hP.set j ((lim zs j * 10 + q) % 65536) (by omega))
                      have HBj := Lib.hid hb
                      have HZL := Lib.hid hzl
                      clear hR ho hb hzl hP
                      first
                      | (exfalso; omega)
                      | (go_wp2
                         go_roundw
                         case rel =>
                           refine ⟨j + 1, _, _, rfl, by go_num, by omega, HS.out, HP.out.own hg (by rw [List.length_set]; exact HZL.out) (by omega) hcm HS.out.dg.up, HBj.out.setCell hg _⟩
                         case measure => simp [intOf]; omega)
                    · obtain rfl : j = n := by omega
                      have hdone := hR.done (by rw [HLN.out]; exact Nat.le_refl _) (by rw [HLN.out]; exact Nat.le_refl _)
                      rw [← HDV.out] at hdone
                      have HDN := Lib.hid hdone
                      have HBj := Lib.hid hb
                      have HOj := Lib.hid ho
                      have HDG := Lib.hid hR.dg
                      clear hR ho hb hzl hdone
                      by_cases hq : 0 < q
                      · have ho5 := HOj.out.below ((Below.refl wj.heap.size wj).alloc (Nat.le_refl _) (.cells #[.int .u64 q] 33))
                        have hs5 := (Arr.lit wj [q] #[.int .u64 q] rfl).sl (n := 1) rfl (by unfold maxLen; omega) (Dg.one (by omega) (by show q < 18446744073709551616; omega))
                        have hb5 := HBj.out.alloc HBj.out.size (.cells #[.int .u64 q] 33)
                        go_wp2_with (first
                          | (at_builtin; refine wp_app rfl _ _ _ rfl slU w.heap.size rfl ho5 rfl hs5 (by omega) (by omega) hb5.size ?_; intro A6 c6 w6 hown6 _ _ hb6))
                        go_roundw
                        case rel => exact ⟨k + 1, zs ++ [q], A6, j + 1, c6, by go_num, by omega, rfl, by omega, hown6, HDG.out.append (Dg.one (by omega) (by show q < 65536; omega)), HDN.out, hb5.trans hb6⟩
                        case measure => simp [intOf]; omega
                      · obtain rfl : q = 0 := by omega
                        go_wp2
                        go_roundw
                        case rel =>
                          refine ⟨k + 1, zs, A, j, c, by go_num, by omega, rfl, by omega, HOj.out, HDG.out, ?_, HBj.out⟩
                          rw [← HDN.out, val_append]
                          show _ = _ + _ * (0 + D * 0)
                          simp
                        case measure => simp [intOf]; omega
                · obtain rfl : k = bs.length := by omega
                  have hsl := ho.sl
                  have HV := Lib.hid hv
                  have HB := Lib.hid hb
                  have HDG := Lib.hid hd
                  clear hv hb hd ho
                  go_wp2_with (go_at_call 37; refine (join_any _ _ _ _ ls hsl HDG.out (by omega)).mono ?_; rintro e w4 ⟨A4, n4, c4, rfl, hn4, ho4, hb4⟩)
                  go_ret2
                  rw [HV.out, List.take_of_length_le (Nat.le_refl _)] at ho4
                  refine ⟨A4, n4, c4, by rw [HE.out]; rfl, by omega, ?_, HB.out.trans (hb4.mono HB.out.size)⟩
                  rw [show rdV bs = (dv bs : Int) by unfold rdV; rw [if_pos HE.out]]
                  exact ho4.mono HB.out.size
end Go.Proofs.YtbadbjmhmadbmaaDoor
