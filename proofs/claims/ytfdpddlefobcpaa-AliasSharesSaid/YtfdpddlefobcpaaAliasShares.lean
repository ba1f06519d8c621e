/-
  PROVED: the statement AliasShares (tombolalaw11.AliasShares) about the landed commit: for every input the law returns true and leaves its arguments as they were. Conditions: none beyond those that the given row itself prints.
-/
import Derived.Test.YtfdpddlefobcpaaRows
import Derived.WalkKit
import Derived.ProofKit
import Derived.OpenShut
import Derived.RowKit3
import Derived.Test.YtfdpddlefobcpaaGFrame
import Derived.Test.YtfdpddlefobcpaaAliAwake
import Derived.Test.YtfdpddlefobcpaaI64Open
import Derived.Test.YtfdpddlefobcpaaFreRat
namespace Go.Proofs.Ytfdpddlefobcpaa.aliasShares
open Go.ChangeShapes Go.WideShapes Go.ChangeAt Go.RowKit
set_option linter.unusedVariables false
set_option linter.unusedSimpArgs false
set_option maxRecDepth 20000
open N
theorem own : ownKnob Try.prog.godebug = none := by kernel_rfl
theorem fnew_ok11 {w : World} {A : Option Addr} {n c : Nat} {ws : List Int} (hi : Il w A n c ws) (hm : mayW ws = 0) : Calls Try.prog 8 #[.slice A n c] w (NewOk w ws) := by
  refine (fnew_any hi).mono ?_
  rintro e w' (⟨_, h1⟩ | ⟨h1, _⟩)
  · exact h1
  · exact absurd hm h1
theorem fnew_no11 {w : World} {A : Option Addr} {n c : Nat} {ws : List Int} (hi : Il w A n c ws) {z : Int} (hm : mayW ws = z) (hz : ¬ z = 0) :
    Calls Try.prog 8 #[.slice A n c] w fun e w' => e = .returned (.tuple #[.pointer none, .int .i64 z]) ∧ Below w.heap.size w w' := by
  subst hm
  refine (fnew_any hi).mono ?_
  rintro e w' (⟨h1, _⟩ | ⟨_, h1, hb⟩)
  · exact absurd h1 hz
  · exact ⟨h1, hb⟩
/-- the numbers that pick i, of the first places -/
def prk (c : Nat → Int) (o : Nat → Nat) (W : Int) (i : Nat) : Nat → Int := sumZ fun k => (if k = i then c k else 0) + (if o k = i then W - c k else 0)
theorem prk_le {c : Nat → Int} {o : Nat → Nat} {W : Int} {n i : Nat} (hc : ∀ j, j < n → 0 ≤ c j ∧ c j ≤ W) (hW : W ≤ 67108864) {k : Nat} (hk : k ≤ n) : 0 ≤ prk c o W i k ∧ prk c o W i k ≤ 134217728 * (k : Int) := by
  unfold prk
  induction k with
  | zero => exact ⟨Int.le_refl _, by simp [sumZ]⟩
  | succ k ih =>
    have h1 := ih (by omega)
    have h2 := hc k (by omega)
    rw [sumZ]
    split <;> split <;> omega
set_option maxRecDepth 100000 in
set_option maxHeartbeats 8000000 in
theorem walk (w : World) (A0 : Option Addr) (n0 c0 : Nat) (xs0 : List Int) (h0 : Il w A0 n0 c0 xs0) :
    Calls Try.prog 3 #[.slice A0 n0 c0] w fun e w' => e = .returned (.bool true) ∧ Below w.heap.size w w' := by
  have HI := Lib.hid h0
  have HLN := Lib.hid h0.len
  clear h0
  by_cases h8 : 100 < n0
  · have h9 : (100 : Int) < (n0 : Int) := by omega
    go_enter Try.func3, Try.ntmps3
    go_wp2_with (go_at_call 6; refine (awake11 _).mono ?_; rintro e w1 ⟨rfl, hb1⟩; have HB := Lib.hid hb1; clear hb1)
    go_ret
    exact ⟨rfl, HB.out⟩
  · have h9 : ¬ (100 : Int) < (n0 : Int) := by omega
    by_cases hm : mayW xs0 = 0
    · have HM := Lib.hid hm
      have HW := Lib.hid (mayW_zero.1 hm)
      clear hm
      obtain ⟨s, hs⟩ : ∃ s, pre xs0 xs0.length = s := ⟨_, rfl⟩
      have HS := Lib.hid hs
      have HTAB := altab_tab HW.out
      have hs0 := HW.out.pos
      have hs1 := (HW.out.le (Nat.le_refl _)).2.2
      rw [hs] at hs0 hs1
      rw [hs, HLN.out] at HTAB
      have HTB := Lib.hid HTAB
      clear HTAB hs
      have hn9 : n0 ≤ 64 := by have := HW.out.l1; rw [HLN.out] at this; exact this
      have HN9 := Lib.hid hn9
      clear hn9
      go_enter Try.func3, Try.ntmps3
      go_wp2_with (first
        | (go_at_call 6; refine (awake11 _).mono ?_; rintro e w1 ⟨rfl, hb1⟩; have HB := Lib.hid hb1; clear hb1)
        | (go_at_call 7; (with_reducible refine (anew_ok (HI.out.below HB.out) HM.out).mono ?_); rintro e w2 ⟨t, g1, g2, rfl, hT, _, _, _, hb2⟩; have HT := Lib.hid hT; have HB2 := Lib.hid (HB.out.trans (hb2.mono HB.out.size)); clear hT hb2)
        | (go_at_call 8; (with_reducible refine (fnew_ok11 (HI.out.below HB2.out) HM.out).mono ?_); rintro e w3 ⟨tf, gf, rfl, hF, _, _, _, hb3⟩; have HF := Lib.hid hF; have HT2 := Lib.hid (HT.out.on hb3); have HB3 := Lib.hid (HB2.out.trans (hb3.mono HB2.out.size)); clear hF hb3)
        | fail)
      go_loop [7, 8] (fun s i => ∃ k : Nat, k ≤ n0 ∧ s = .int .i64 (pre xs0 k) ∧ i = .int .i64 k) (fun _ i => n0 - (intOf i).toNat)
      case atStart => exact ⟨0, Nat.zero_le _, by rw [pre_zero], rfl⟩
      case round =>
        obtain ⟨k, hk, rfl, rfl⟩ := hrel
        by_cases hlt : k < n0
        · obtain ⟨ad, x, rfl, hx, hwf, _⟩ := HI.out.one hlt
          have hcw : w3.cell? (ad.add k) = some (.int .i64 x) := (HI.out.below HB3.out).the hlt hx
          have hps := pre_succ hx
          have hle := HW.out.le (k := k) (by rw [HLN.out]; exact hk)
          have hxb := HW.out.ok x (List.mem_of_getElem? hx)
          obtain ⟨q, hq⟩ : ∃ q, pre xs0 k = q := ⟨_, rfl⟩
          rw [hq] at hps hle
          have hwr : IntKind.i64.wrap (q + x) = q + x := by rw [IntKind.wrap_i64]; omega
          have j1 : (0 : Int) ≤ (k : Int) := by omega
          have j2 : (k : Int) < (n0 : Int) := by omega
          have HP := Lib.hid hps
          clear hx hwf hps hle hxb
          rw [hq]
          clear hq
          go_wp2
          go_round
          case rel => exact ⟨k + 1, hlt, by rw [HP.out], by go_num⟩
          case measure => simp [intOf]; omega
        · obtain rfl : k = n0 := by omega
          have hsk : pre xs0 k = s := by have := HS.out; rwa [HLN.out] at this
          rw [hsk]
          clear hsk
          have HB := Lib.hid HB3.out
          go_wp2_with (first
        | (go_at_call 9; (with_reducible refine (ta_sum HT2.out HS.out).mono ?_); rintro e wx ⟨rfl, rfl⟩)
        | (go_at_call 10; (with_reducible refine (ta_len HT2.out HLN.out).mono ?_); rintro e wx ⟨rfl, rfl⟩)
        | fail)
          go_loopw [9] (fun i wr => ∃ j : Nat, j ≤ k ∧ i = .int .i64 j ∧ Ta wr t g1 g2 xs0 ∧ TbOk wr tf gf xs0 ∧ Below w.heap.size w wr) (fun i _ => k - (intOf i).toNat)
          case atStart => exact ⟨0, Nat.zero_le _, rfl, HT2.out, HF.out, HB3.out⟩
          case round =>
            obtain ⟨j, hj, rfl, hT2, hF2, hbw⟩ := hrel
            clear HT HT2 HF HB HB2 HB3
            have HT := Lib.hid hT2
            have HF := Lib.hid hF2
            have HB := Lib.hid hbw
            clear hT2 hF2 hbw
            by_cases hlt2 : j < k
            · obtain ⟨ad, x, rfl, hx, _, _⟩ := HI.out.one hlt2
              have HX := Lib.hid hx
              obtain ⟨q, hq⟩ : ∃ q : Rat, mkRat x s.toNat = q := ⟨_, rfl⟩
              have HQ := Lib.hid hq
              have hpf := HTB.out.prs j hlt2
              have hht := hts_le HW.out (i := j) (by rw [HLN.out]; exact hlt2)
              have hh : hts xs0 j = (k : Int) * x := by unfold hts; rw [HLN.out, List.getD_eq_getElem?_getD, hx]; rfl
              rw [hh] at hpf hht
              obtain ⟨p, hp⟩ : ∃ p, (k : Int) * x = p := ⟨_, rfl⟩
              rw [hp] at hpf hht
              have hwp : IntKind.i64.wrap ((k : Int) * x) = p := by rw [hp, IntKind.wrap_i64]; omega
              have HPF := Lib.hid (show prk (cutA xs0) (othA xs0) s j k = p from hpf)
              have HJ := Lib.hid (show j < xs0.length by rw [HLN.out]; exact hlt2)
              clear hx hq hpf hht hh hp
              go_wp2_with fail
              go_loop [10, 11] (fun many i => ∃ i' : Nat, i' ≤ k ∧ many = .int .i64 (prk (cutA xs0) (othA xs0) s j i') ∧ i = .int .i64 i') (fun _ i => k - (intOf i).toNat)
              case atStart => exact ⟨0, Nat.zero_le _, rfl, rfl⟩
              case round =>
                obtain ⟨i, hi, rfl, rfl⟩ := hrel
                by_cases hlt3 : i < k
                · have hst : prk (cutA xs0) (othA xs0) s j (i + 1) = prk (cutA xs0) (othA xs0) s j i + ((if i = j then cutA xs0 i else 0) + (if othA xs0 i = j then s - cutA xs0 i else 0)) := rfl
                  have hmb := prk_le (o := othA xs0) (i := j) (fun j hj => ⟨(HTB.out.cut j hj).1, (HTB.out.cut j hj).2.1⟩) hs1 hi
                  have hcb := HTB.out.cut i hlt3
                  have hn9 := HN9.out
                  obtain ⟨m, hm⟩ : ∃ m, prk (cutA xs0) (othA xs0) s j i = m := ⟨_, rfl⟩
                  obtain ⟨c, hc⟩ : ∃ c, cutA xs0 i = c := ⟨_, rfl⟩
                  obtain ⟨o, ho⟩ : ∃ o, othA xs0 i = o := ⟨_, rfl⟩
                  rw [hm, hc, ho] at hst
                  rw [hm] at hmb
                  rw [hc, ho] at hcb
                  rw [hm]
                  have HC := Lib.hid hc
                  have HO := Lib.hid (show ((othA xs0 i : Nat) : Int) = (o : Int) by rw [ho])
                  have HIL := Lib.hid (show i < xs0.length by rw [HLN.out]; exact hlt3)
                  have hs1_ := hs1
                  clear hm hc ho
                  by_cases hij : i = j
                  · by_cases hoj : o = j
                    · rw [if_pos hij, if_pos hoj] at hst
                      subst hij
                      have hoj2 := hoj.symm
                      subst hoj2
                      have w1_ : IntKind.i64.wrap (m + c) = m + c := by rw [IntKind.wrap_i64]; omega
                      have w2_ : IntKind.i64.wrap (m + c + s) = m + c + s := by rw [IntKind.wrap_i64]; omega
                      have w3_ : IntKind.i64.wrap (m + c + s - c) = m + c + s - c := by rw [IntKind.wrap_i64]; omega
                      have HST := Lib.hid (show prk (cutA xs0) (othA xs0) s i (i + 1) = m + c + s - c by rw [hst]; omega)
                      clear hst hoj hmb hcb hn9 hs1_
                      go_wp2_with (first
                        | (go_at_call 11; (with_reducible refine (ta_cut HT.out HIL.out HC.out rfl).mono ?_); rintro e wx ⟨rfl, rfl⟩)
                        | (go_at_call 12; (with_reducible refine (ta_oth HT.out HIL.out HO.out rfl).mono ?_); rintro e wx ⟨rfl, rfl⟩))
                      go_round
                      case rel => exact ⟨i + 1, hlt3, by rw [HST.out], by go_num⟩
                      case measure => simp [intOf]; omega
                    · rw [if_pos hij, if_neg hoj] at hst
                      subst hij
                      have e2 : ¬ (o : Int) = (i : Int) := by omega
                      have w1_ : IntKind.i64.wrap (m + c) = m + c := by rw [IntKind.wrap_i64]; omega
                      have HST := Lib.hid (show prk (cutA xs0) (othA xs0) s i (i + 1) = m + c by rw [hst]; omega)
                      clear hst hoj hmb hcb hn9 hs1_
                      go_wp2_with (first
                        | (go_at_call 11; (with_reducible refine (ta_cut HT.out HIL.out HC.out rfl).mono ?_); rintro e wx ⟨rfl, rfl⟩)
                        | (go_at_call 12; (with_reducible refine (ta_oth HT.out HIL.out HO.out rfl).mono ?_); rintro e wx ⟨rfl, rfl⟩))
                      go_round
                      case rel => exact ⟨i + 1, hlt3, by rw [HST.out], by go_num⟩
                      case measure => simp [intOf]; omega
                  · by_cases hoj : o = j
                    · rw [if_neg hij, if_pos hoj] at hst
                      have e1 : ¬ (i : Int) = (j : Int) := by omega
                      have hoj2 := hoj.symm
                      subst hoj2
                      have w2_ : IntKind.i64.wrap (m + s) = m + s := by rw [IntKind.wrap_i64]; omega
                      have w3_ : IntKind.i64.wrap (m + s - c) = m + s - c := by rw [IntKind.wrap_i64]; omega
                      have HST := Lib.hid (show prk (cutA xs0) (othA xs0) s j (i + 1) = m + s - c by rw [hst]; omega)
                      clear hst hij hoj hmb hcb hn9 hs1_
                      go_wp2_with (first
                        | (go_at_call 11; (with_reducible refine (ta_cut HT.out HIL.out HC.out rfl).mono ?_); rintro e wx ⟨rfl, rfl⟩)
                        | (go_at_call 12; (with_reducible refine (ta_oth HT.out HIL.out HO.out rfl).mono ?_); rintro e wx ⟨rfl, rfl⟩))
                      go_round
                      case rel => exact ⟨i + 1, hlt3, by rw [HST.out], by go_num⟩
                      case measure => simp [intOf]; omega
                    · rw [if_neg hij, if_neg hoj] at hst
                      have e1 : ¬ (i : Int) = (j : Int) := by omega
                      have e2 : ¬ (o : Int) = (j : Int) := by omega
                      have HST := Lib.hid (show prk (cutA xs0) (othA xs0) s j (i + 1) = m by rw [hst]; omega)
                      clear hst hij hoj hmb hcb hn9 hs1_
                      go_wp2_with (first
                        | (go_at_call 11; (with_reducible refine (ta_cut HT.out HIL.out HC.out rfl).mono ?_); rintro e wx ⟨rfl, rfl⟩)
                        | (go_at_call 12; (with_reducible refine (ta_oth HT.out HIL.out HO.out rfl).mono ?_); rintro e wx ⟨rfl, rfl⟩))
                      go_round
                      case rel => exact ⟨i + 1, hlt3, by rw [HST.out], by go_num⟩
                      case measure => simp [intOf]; omega
                · obtain rfl : i = k := by omega
                  rw [HPF.out]
                  have hS := Lib.hid (SC.fresh11 HB.out)
                  go_wp2_with fail
                  go_at_call 13
                  with_reducible refine (ta_share (HT.out.on hS.out.bl) HW.out HX.out HS.out HQ.out rfl).mono ?_
                  rintro e v4 ho
                  obtain ⟨A1, n1, c1, A2, n2, c2, rfl, h1⟩ := hS.out.rRE (Nat.le_refl _) ho
                  clear hS; have hS := Lib.hid h1; clear h1
                  have h1 := (hS.out.boxed (vs := [.bool (sg q.num), .slice A1 n1 c1, .slice A2 n2 c2]) (ty := 42) rfl rfl)
                  try simp only [World.size_alloc] at h1
                  obtain ⟨p0_0, p1_0, p2_0⟩ := h1.cs3 0 rfl
                  clear h1
                  go_wp2_with fail
                  clear p0_0 p1_0 p2_0
                  generalize hwa : World.alloc v4 _ = v5
                  have h1 := (hS.out.boxed (vs := [.bool (sg q.num), .slice A1 n1 c1, .slice A2 n2 c2]) (ty := 42) rfl hwa)
                  have hsz : v5.heap.size = v4.heap.size + 1 := by rw [← hwa]; simp only [World.size_alloc]
                  try rw [← hsz]
                  clear hwa hsz
                  clear hS; have hS := Lib.hid h1; clear h1
                  obtain ⟨x0_0, x1_0, x2_0⟩ := hS.out.cs3 0 rfl
                  go_wp2_with fail
                  go_at_call 14
                  with_reducible refine (tshare_ok (HF.out.on hS.out.bl) HW.out HX.out HS.out HQ.out).mono ?_
                  rintro e v6 ho
                  clear x0_0 x1_0 x2_0
                  obtain ⟨A3, n3, c3, A4, n4, c4, rfl, h1⟩ := hS.out.rRE (Nat.le_refl _) ho
                  clear hS; have hS := Lib.hid h1; clear h1
                  obtain ⟨x0_0, x1_0, x2_0⟩ := hS.out.cs3 0 rfl
                  have hcz := (HI.out.below (hS.out.boxed (vs := [.bool (sg q.num), .slice A3 n3 c3, .slice A4 n4 c4]) (ty := 42) rfl rfl).wb11).the hlt2 HX.out
                  have z1 : (0 : Int) ≤ (j : Int) := by omega
                  have z2 : (j : Int) < (i : Int) := by omega
                  have h1 := (hS.out.boxed (vs := [.bool (sg q.num), .slice A3 n3 c3, .slice A4 n4 c4]) (ty := 42) rfl rfl)
                  try simp only [World.size_alloc] at h1
                  obtain ⟨p0_0, p1_0, p2_0⟩ := h1.cs3 0 rfl
                  obtain ⟨p0_1, p1_1, p2_1⟩ := h1.cs3 1 rfl
                  clear h1
                  go_wp2_with fail
                  clear x0_0 x1_0 x2_0
                  clear p0_0 p1_0 p2_0 p0_1 p1_1 p2_1
                  generalize hwa : World.alloc v6 _ = v7
                  have h1 := (hS.out.boxed (vs := [.bool (sg q.num), .slice A3 n3 c3, .slice A4 n4 c4]) (ty := 42) rfl hwa)
                  have hsz : v7.heap.size = v6.heap.size + 1 := by rw [← hwa]; simp only [World.size_alloc]
                  try rw [← hsz]
                  clear hwa hsz
                  clear hS; have hS := Lib.hid h1; clear h1
                  obtain ⟨x0_0, x1_0, x2_0⟩ := hS.out.cs3 0 rfl
                  obtain ⟨x0_1, x1_1, x2_1⟩ := hS.out.cs3 1 rfl
                  clear hcz
                  go_wp2_with (first
                    | (go_at_call 15; (with_reducible refine (is9_told (r := q) (r' := q) (k := 1) (k' := 1) hS.out (by repeat (first | exact List.mem_cons_self | apply List.mem_cons_of_mem)) (by repeat (first | exact List.mem_cons_self | apply List.mem_cons_of_mem)) (by repeat (first | exact List.mem_cons_self | apply List.mem_cons_of_mem)) (by repeat (first | exact List.mem_cons_self | apply List.mem_cons_of_mem)) rfl).mono ?_); rintro e w' ⟨rfl, h1⟩; clear x0_0 x1_0 x2_0 x0_1 x1_1 x2_1; clear hS; have hS := Lib.hid h1; clear h1; obtain ⟨x0_0, x1_0, x2_0⟩ := hS.out.cs3 0 rfl; obtain ⟨x0_1, x1_1, x2_1⟩ := hS.out.cs3 1 rfl))
                  go_roundw
                  case rel => exact ⟨j + 1, hlt2, by go_num, HT.out.on hS.out.bl, HF.out.on hS.out.bl, hS.out.wb11⟩
                  case measure => simp [intOf]; omega
            · obtain rfl : j = k := by omega
              go_wp2
              go_ret
              exact ⟨rfl, HB.out⟩
    · obtain ⟨z, hz1, hz2, _, _⟩ := mayW_ways (fun e => hm (mayW_zero.2 e))
      have HM := Lib.hid hz1
      have HZ := Lib.hid hz2
      have hzb : ¬ z = 0 := hz2
      clear hz1 hm
      go_enter Try.func3, Try.ntmps3
      go_wp2_with (first
        | (go_at_call 6; refine (awake11 _).mono ?_; rintro e w1 ⟨rfl, hb1⟩; have HB := Lib.hid hb1; clear hb1)
        | (go_at_call 7; (with_reducible refine (anew_no (HI.out.below HB.out) HM.out HZ.out).mono ?_); rintro e w2 ⟨rfl, hb2⟩; have HB2 := Lib.hid (HB.out.trans (hb2.mono HB.out.size)); clear hb2)
        | (go_at_call 8; (with_reducible refine (fnew_no11 (HI.out.below HB2.out) HM.out HZ.out).mono ?_); rintro e w3 ⟨rfl, hb3⟩; have HB3 := Lib.hid (HB2.out.trans (hb3.mono HB2.out.size)); clear hb3))
      go_ret
      exact ⟨rfl, HB3.out⟩
set_option maxRecDepth 100000 in
theorem lifted (os : Os) (started : os.Started) (H : Type) (enc : TypeId × Value → H) :
    ReturnsInHanded {} Try.checked os 3 .any (Rows.aliasSharesSpec.pre6 enc Try.prog Try.f3 Rows.aliasSharesRow.domain false) (Rows.aliasSharesSpec.post enc Try.prog Try.f3 false true false false) := by
  refine returnsInHanded_of_change (C := Try.checked) own started (by kernel_rfl) Try.func3
    (ChangeSpec.witness6 (enc := enc) (C := Try.checked) false ⟨#[], #[.slice none 0 0], []⟩ 8 (by kernel_rfl) (by kernel_rfl) (by kernel_rfl) (by kernel_rfl)) ?_
  intro W base args ds gs before hval0 hW hcnd _
  have hval : ∀ (j : Nat) t v, Try.f3.params[j]? = some t → args[j]? = some v → Value.okWide Try.prog W .any base t v := hval0
  have hW' := hW
  obtain ⟨p, q, hA0, hV, hpq, hfz, hnd⟩ := hW
  have hA : DataW.TrodAll enc Try.prog W 0 (fun _ => true) true Try.f3.params.toList args.toList ds p := hA0
  rw [Try.params3] at hA hval
  obtain ⟨v0, vs0, d0, ds0, p0, q0, hargs, rfl, rfl, h0, r0⟩ := trodAll_cons hA
  obtain ⟨rfl, rfl, rfl⟩ := trodAll_nil r0
  obtain rfl : args = #[v0] := by cases args; simp_all
  obtain ⟨rfl, rfl⟩ := trodVars_none hV
  obtain ⟨A0, n0, c0, xs0, rfl, s0⟩ := open_i64s_ (hval 0 22 v0 rfl rfl) h0
  refine (walk W A0 n0 c0 xs0 s0).mono fun e W' ⟨he, hb⟩ => ?_
  subst he
  exact ⟨_, rfl, Frame.close laidOut hW' rfl rfl rfl Try.underlying4 (fun t ht => by rw [Try.params3] at ht; simp at ht; rcases ht with rfl <;> exact ⟨by kernel_rfl, of_decide_eq_true (by kernel_rfl)⟩) hb⟩
theorem over : Rows.aliasSharesRow.holds Try.pinned (OpenSpec.ofChange Rows.aliasSharesSpec) :=
  OpenClaim.holds_of_wide 3 Try.f3 rfl rfl rfl rfl rfl rfl rfl ⟨rfl, rfl, rfl, rfl, rfl⟩ rfl rfl rfl rfl rfl (by kernel_rfl) Try.func3 (by kernel_rfl)
    (of_decide_eq_true (by kernel_rfl)) (by unfold Func.isWrapper; first | (rw [if_pos (by decide +kernel)]; kernel_rfl) | (rw [if_neg (by decide +kernel)]; exact ⟨rfl, rfl⟩))
    (fun os started H enc _ => lifted os started H enc)
/-- the statement -/
theorem proved : Rows.AliasSharesSaid :=
  over
#print axioms proved
end Go.Proofs.Ytfdpddlefobcpaa.aliasShares
