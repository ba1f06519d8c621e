/-
  PROVED: the statement FreqShares (tombolalaw10.FreqShares) about the landed commit: for every input the law returns true and leaves its arguments as they were. Conditions: none beyond those that the given row itself prints.
-/
import Derived.Test.YtolfjhfmcgibbaaGreatDoorCards
import Derived.Test.YtolfjhfmcgibbaaGreatDoorTie
import Derived.LaidMore
import Derived.Lay
import Derived.SevenTiedAt
import Derived.Stop.Joined
import Derived.Test.YtolfjhfmcgibbaaGreatDoorRows
import Derived.WalkKit
import Derived.ProofKit
import Derived.OpenShut
import Derived.RowKit3
import Derived.Test.YtolfjhfmcgibbaaGreatDoorGFrame
import Derived.Test.YtolfjhfmcgibbaaGreatDoorFreSame
import Derived.Deep.RegionHeld3
namespace Go.Proofs.YtolfjhfmcgibbaaGreatDoor.freqShares
open Go.ChangeShapes Go.WideShapes Go.ChangeAt Go.RowKit
set_option linter.unusedVariables false
set_option linter.unusedSimpArgs false
set_option maxRecDepth 20000
open N
theorem own : ownKnob Tryz.prog.godebug = none := by kernel_rfl
open RC
set_option maxRecDepth 100000 in
set_option maxHeartbeats 40000000 in
theorem walk (w : World) (A0 : Option Addr) (n0 c0 : Nat) (xs0 : List Int) (h0 : Il w A0 n0 c0 xs0) :
    Calls Tryz.prog 6 #[.slice A0 n0 c0] w fun e w' => e = .returned (.bool true) ∧ Below w.heap.size w w' := by
  have hS := Lib.hid (CS.start w)
  have HI := Lib.hid h0
  have hlen := h0.len
  have HLN := Lib.hid hlen
  clear h0
  by_cases hm : mayW xs0 = 0
  · have HM := Lib.hid hm
    have HW := Lib.hid (mayW_zero.1 hm)
    clear hm
    obtain ⟨M, hsm⟩ : ∃ M : Nat, pre xs0 xs0.length = (M : Int) := ⟨(pre xs0 xs0.length).toNat, by have := HW.out.pos; omega⟩
    have HS := Lib.hid hsm
    have hM := HW.out.pos
    rw [hsm] at hM
    clear hsm
    by_cases h8 : 3000 < M
    · have h9 : (3000 : Int) < (M : Int) := by omega
      go_enter Tryz.func6, Tryz.ntmps6
      go_wp2_with fail
      go_at_call 11
      refine (new10_s hS.out (HI.out.below hS.out.bl) HM.out).mono ?_
      rintro e v1 ⟨t, g, rfl, h1⟩
      have h2 : CS w v1 [TB t g xs0.length, EN g xs0] := h1
      clear hS h1; have hS := Lib.hid h2; clear h2
      go_wp2_with fail
      go_at_call 19
      refine (sum10_s hS.out 0 1 rfl rfl HW.out HS.out).mono ?_
      rintro e v2 ⟨rfl, h1⟩
      have h2 : CS w v2 [TB t g xs0.length, EN g xs0] := h1
      clear hS h1; have hS := Lib.hid h2; clear h2
      go_wp2_with fail
      go_at_call 10
      refine (awake10_s hS.out).mono ?_
      rintro e v3 ⟨rfl, h1⟩
      have h2 : CS w v3 [TB t g xs0.length, EN g xs0] := h1
      clear hS h1; have hS := Lib.hid h2; clear h2
      go_wp2
      go_ret
      exact ⟨rfl, hS.out.bl⟩
    · have h9 : ¬ (3000 : Int) < (M : Int) := by omega
      have hn0 : 0 < n0 ∧ n0 ≤ 64 := by have h1 := HW.out.l0; have h2 := HW.out.l1; omega
      have hMM : 0 < M ∧ M ≤ 3000 := by omega
      have HMM := Lib.hid hMM
      have hmk := make64_run n0 (by omega)
      clear hlen
      go_enter Tryz.func6, Tryz.ntmps6
      go_wp2_with fail
      go_at_call 11
      refine (new10_s hS.out (HI.out.below hS.out.bl) HM.out).mono ?_
      rintro e v1 ⟨t, g, rfl, h1⟩
      have h2 : CS w v1 [TB t g xs0.length, EN g xs0] := h1
      clear hS h1; have hS := Lib.hid h2; clear h2
      go_wp2_with fail
      go_at_call 19
      refine (sum10_s hS.out 0 1 rfl rfl HW.out HS.out).mono ?_
      rintro e v2 ⟨rfl, h1⟩
      have h2 : CS w v2 [TB t g xs0.length, EN g xs0] := h1
      clear hS h1; have hS := Lib.hid h2; clear h2
      go_wp2_with fail
      go_at_call 10
      refine (awake10_s hS.out).mono ?_
      rintro e v3 ⟨rfl, h1⟩
      have h2 : CS w v3 [TB t g xs0.length, EN g xs0] := h1
      clear hS h1; have hS := Lib.hid h2; clear h2
      have HT0 := Lib.hid (show TbOk v3 t g xs0 from hS.out.tb 0 rfl 1 rfl)
      have HB0 := Lib.hid hS.out.bl
      clear hS
      go_wp2_with fail
      generalize hwa : World.alloc v3 _ = vh
      have h1 := HitC.start HB0.out HT0.out HW.out.ok n0
      rw [hwa] at h1
      obtain ⟨h, hh⟩ : ∃ h, v3.heap.size = h := ⟨_, rfl⟩
      have HNE := Lib.hid (show t ≠ h ∧ g ≠ h ∧ w.heap.size ≤ h by (have q1 := HB0.out.size; have q2 := BlkOk.lt HT0.out.tb; have q3 := BlkOk.lt HT0.out.en; simp only [TB, EN] at q2 q3; omega))
      rw [show HitC w t g v3.heap.size n0 xs0 0 vh = HitC w t g h n0 xs0 0 vh by rw [hh]] at h1
      rw [hh]
      have HC := Lib.hid h1
      clear h1 hwa hh HT0 HB0 hmk
      go_loopw [6, 7] (fun l r wr => ∃ R L : Nat, R ≤ M ∧ l = .int .i64 (L : Int) ∧ r = .int .i64 (R : Int) ∧ (∀ (r' : Int) (i : Nat), (R : Int) ≤ r' → Pk xs0 r' i → L ≤ i) ∧ HitC w t g h n0 xs0 (R : Int) wr) (fun _ r _ => M - (intOf r).toNat)
      case atStart => exact ⟨0, 0, Nat.zero_le _, rfl, rfl, fun _ _ _ _ => Nat.zero_le _, HC.out⟩
      case round =>
        obtain ⟨R, L, hR, rfl, rfl, hL, hc⟩ := hrel
        clear HC
        have HC := Lib.hid hc
        have HL9 := Lib.hid hL
        clear hc hL
        by_cases hlt : R < M
        · have hltI : (R : Int) < (M : Int) := by omega
          obtain ⟨p, hp⟩ := pk_some (ws := xs0) (r := (R : Int)) (by omega) (by rw [HS.out]; exact hltI)
          have HP := Lib.hid hp
          have hpn : p < n0 := by have := hp.1; rw [HLN.out] at this; exact this
          have hpL : ¬ (p : Int) < (L : Int) := by have := HL9.out _ _ (Int.le_refl _) hp; omega
          have hpN : ¬ (n0 : Int) ≤ (p : Int) := by omega
          obtain ⟨q, hq⟩ : ∃ q, hitF xs0 (R : Int) p = q := ⟨_, rfl⟩
          have hqb := hitF_le HW.out.ok (R : Int) p (by omega)
          rw [hq] at hqb
          have hwq : IntKind.i64.wrap (q + 1) = q + 1 := by rw [IntKind.wrap_i64]; omega
          have hwR : IntKind.i64.wrap ((R : Int) + 1) = ((R + 1 : Nat) : Int) := by rw [IntKind.wrap_i64]; omega
          have HQ := Lib.hid hq
          have HX := Lib.hid (show R + 1 ≤ M ∧ M - (R + 1) < M - R by omega)
          clear hp hq hqb hlt
          go_wp2_with (first
            | (go_at_call 19; refine (tsum_any HC.out.tb HW.out.l1 HS.out).mono ?_; rintro e w1 ⟨rfl, hw1⟩; rw [hw1]; clear hw1 w1)
            | (go_at_call 13; refine (tpick_ok HC.out.tb HW.out HP.out).mono ?_; rintro e w2 ⟨rfl, hb⟩; have HC2 := Lib.hid (HC.out.on hb); have hc2 := HC2.out.cell hpn HQ.out; have hf2 := HC2.out.fr; clear hb))
          go_roundw
          case rel => exact ⟨R + 1, p, HX.out.1, rfl, rfl, fun r' i hr' hi => HP.out.mono HW.out.ok hi (by omega), HC2.out.put HNE.out.2.2 HNE.out.1 HNE.out.2.1 HW.out.ok HP.out (by rw [HQ.out])⟩
          case measure => have := HX.out.2; simp [intOf]; omega
        · obtain rfl : R = M := by omega
          have hltI : ¬ (R : Int) < (R : Int) := by omega
          clear HL9
          obtain ⟨v8, rfl⟩ : ∃ v : World, v = wr := ⟨_, rfl⟩
          have HB8 := Lib.hid HC.out.bl
          obtain ⟨q0, hq0⟩ : ∃ q : Rat, mkRat 0 1 = q := ⟨_, rfl⟩
          have HQ0 := Lib.hid (show mkRat (pre xs0 0) R = q0 by rw [pre_zero, ← hq0]; simp)
          have hS := Lib.hid (SC.start v8)
          go_wp2_with (first
            | (go_at_call 19; refine (tsum_any HC.out.tb HW.out.l1 HS.out).mono ?_; rintro e w1 ⟨rfl, hw1⟩; rw [hw1]; clear hw1 w1)
            | fail)
          have HW9 := Lib.hid (fun (W : World) (hb : Below v8.heap.size v8 W) => HI.out.below (HB8.out.trans (hb.mono HB8.out.size)))
          have HT := Lib.hid HC.out.tb
          go_wp2_with fail
          go_at_call 31
          with_reducible refine (fof_any _ 0 (by decide) (by decide)).mono ?_
          rintro e v9 ho
          rw [hq0] at ho
          obtain ⟨A1, n1, c1, A2, n2, c2, rfl, h1⟩ := hS.out.rR (Nat.le_refl _) ho
          clear hS; have hS := Lib.hid h1; clear h1
          have h1 := (hS.out.boxed (vs := [.bool (sg (q0).num), .slice A1 n1 c1, .slice A2 n2 c2]) (ty := 37) rfl rfl)
          try simp only [World.size_alloc] at h1
          obtain ⟨p0_0, p1_0, p2_0⟩ := h1.cs3 0 rfl
          clear h1
          go_wp2_with fail
          clear p0_0 p1_0 p2_0
          generalize hwa : World.alloc v9 _ = v10
          have h1 := (hS.out.boxed (vs := [.bool (sg (q0).num), .slice A1 n1 c1, .slice A2 n2 c2]) (ty := 37) rfl hwa)
          have hsz : v10.heap.size = v9.heap.size + 1 := by rw [← hwa]; simp only [World.size_alloc]
          try rw [← hsz]
          clear hwa hsz
          clear hS; have hS := Lib.hid h1; clear h1
          obtain ⟨x0_0, x1_0, x2_0⟩ := hS.out.cs3 0 rfl
          obtain ⟨gs, hgs⟩ : ∃ gs, v9.heap.size = gs := ⟨_, rfl⟩
          rw [hgs] at hS
          try rw [hgs]
          clear hgs
          go_loopw [11] (fun i wq => ∃ (j : Nat) (rr : Rat) (A : Option Addr) (n c : Nat) (A' : Option Addr) (n' c' : Nat) (ty : TypeId), j ≤ n0 ∧ i = .int .i64 (j : Int) ∧ mkRat (pre xs0 j) R = rr ∧ SC v8 v8 wq [⟨A, n, c, 1, limbs (mg rr.num), mg rr.num⟩, ⟨A', n', c', 1, limbs rr.den, rr.den⟩] [⟨gs, [.bool (sg (rr).num), .slice A n c, .slice A' n' c'], ty⟩] []) (fun i _ => n0 - (intOf i).toNat)
          case atStart => exact ⟨0, q0, _, _, _, _, _, _, _, Nat.zero_le _, rfl, HQ0.out, hS.out.drop10⟩
          case round =>
            obtain ⟨j, rr, A, n, c, A', n', c', ty, hj, rfl, hrr, hS0⟩ := hrel
            obtain ⟨wo, rfl⟩ : ∃ wo : World, wo = wr := ⟨_, rfl⟩
            clear hS
            have hS := Lib.hid hS0
            have HRR := Lib.hid hrr
            clear hS0 hrr
            by_cases hlt : j < n0
            · obtain ⟨x, hx, hx0, hx1⟩ := HW.out.ok.at (k := j) (by rw [HLN.out]; exact hlt)
              have HX := Lib.hid hx
              have HXF := Lib.hid (show hitF xs0 (R : Int) j = x by rw [← HS.out]; exact hitF_end HW.out.ok hx)
              have HPS := Lib.hid (pre_succ hx)
              obtain ⟨r, hr⟩ : ∃ r, mkRat x R = r := ⟨_, rfl⟩
              have HR := Lib.hid (show mkRat x (R : Int).toNat = r by rw [Int.toNat_natCast]; exact hr)
              have hpb := HW.out.le (k := j + 1) (by rw [HLN.out]; omega)
              have hpb0 := HW.out.le (k := j) (by rw [HLN.out]; omega)
              rw [HS.out] at hpb hpb0
              obtain ⟨r2, hr2⟩ : ∃ r, rr + mkRat x R = r := ⟨_, rfl⟩
              have HR2 := Lib.hid (show mkRat (pre xs0 (j + 1)) R = r2 ∧ RB 1 r2 by
                obtain ⟨P, hP⟩ := Int.eq_ofNat_of_zero_le hpb0.1
                obtain ⟨X, hX⟩ := Int.eq_ofNat_of_zero_le hx0
                rw [HPS.out, hP, hX] at hpb
                rw [HPS.out, ← hr2, ← HRR.out, hP, hX, share_add HMM.out.1]
                refine ⟨rfl, ?_⟩
                rw [← Int.natCast_add]
                exact share_rb (by omega) HMM.out.1 HMM.out.2)
              have HRA := Lib.hid (show rr + r = r2 by rw [← hr]; exact hr2)
              have hxo1 : -9223372036854775808 ≤ x := by omega
              have hxo2 : x ≤ 9223372036854775807 := by omega
              have hmo1 : -9223372036854775808 ≤ (R : Int) := by omega
              have hmo2 : (R : Int) ≤ 9223372036854775807 := by omega
              have hmo0 : 0 < (R : Int) := by omega
              obtain ⟨ad, rfl⟩ : ∃ ad, A0 = some ad := by
                obtain ⟨ad, e, _⟩ := HI.out.at' j hlt
                exact ⟨ad, e⟩
              have HCW := Lib.hid (fun (W : World) (hb : Below v8.heap.size v8 W) => (HW9.out W hb).the hlt hx)
              have HCH := Lib.hid (fun (W : World) (hb : Below v8.heap.size v8 W) => (HC.out.on hb).cell hlt HXF.out)
              clear hx hx0 hx1 hr hr2 hpb hpb0
              obtain ⟨x0_0, x1_0, x2_0⟩ := hS.out.cs3 0 rfl
              go_wp2_with fail
              go_at_call 15
              with_reducible refine (tshare_ok (HT.out.on hS.out.bl) HW.out HX.out HS.out HR.out).mono ?_
              rintro e v11 ho
              clear x0_0 x1_0 x2_0
              obtain ⟨A5, n5, c5, A6, n6, c6, rfl, h1⟩ := hS.out.rRE (Nat.le_refl _) ho
              clear hS; have hS := Lib.hid h1; clear h1
              obtain ⟨x0_0, x1_0, x2_0⟩ := hS.out.cs3 0 rfl
              have h1 := (hS.out.boxed (vs := [.bool (sg (r).num), .slice A5 n5 c5, .slice A6 n6 c6]) (ty := 37) rfl rfl)
              try simp only [World.size_alloc] at h1
              obtain ⟨p0_0, p1_0, p2_0⟩ := h1.cs3 0 rfl
              obtain ⟨p0_1, p1_1, p2_1⟩ := h1.cs3 1 rfl
              clear h1
              go_wp2_with fail
              clear x0_0 x1_0 x2_0
              clear p0_0 p1_0 p2_0 p0_1 p1_1 p2_1
              generalize hwa : World.alloc v11 _ = v12
              have h1 := (hS.out.boxed (vs := [.bool (sg (r).num), .slice A5 n5 c5, .slice A6 n6 c6]) (ty := 37) rfl hwa)
              have hsz : v12.heap.size = v11.heap.size + 1 := by rw [← hwa]; simp only [World.size_alloc]
              try rw [← hsz]
              clear hwa hsz
              clear hS; have hS := Lib.hid h1; clear h1
              obtain ⟨x0_0, x1_0, x2_0⟩ := hS.out.cs3 0 rfl
              obtain ⟨x0_1, x1_1, x2_1⟩ := hS.out.cs3 1 rfl
              go_wp2_with fail
              clear x0_0 x1_0 x2_0 x0_1 x1_1 x2_1
              refine wp_region_rc (fs [[.val 82 (mV (.slice (some ad) n0 c0))], [.val 83 (mV (.int .i64 (j : Int)))], [.val 84 (mV (.pointer (some (ad.add j))))], [.val 85 (mV (.int .i64 x))], [.val 86 (mV (.pointer (some ⟨t, 0, none⟩)))], [.val 87 (mV (.int .i64 (R : Int)))], [.val 88 (mR2 (r) (1) (0))], [.val 81 (mR2 (r) (1) (0))], [.val 89 (mR (r) (1))], [.val 90 (mV (.int .i64 (0)))], [.blk 14 φp (mSh 3)], [.blk 14 φp (mR (r) (1))], [.val 15 (mV (.int .i64 (0)))]]) [14, 15, 81, 82, 83, 84, 85, 86, 87, 88, 89, 90] hS.out ?_ (by kernel_rfl) ?_ (fun j hj => fs_big hj)
              · intro i hi L a w' S Bn T1 O D hp hno hni
                match i, hi with
                | 0, _ =>
                  have p : a.eval (.tmp 0) = .slice (some ad) n0 c0 := D.at0 rfl rfl
                  exact st_pure (v := .slice (some ad) n0 c0) D hno rfl rfl rfl (by simp only [Act.eval] at p; simp only [execOp, Act.eval]; go_simp) (of_decide_eq_true rfl) (of_decide_eq_true rfl) (by kernel_rfl) rfl rfl
                | 1, _ =>
                  have p : a.eval (.tmp 11) = .int .i64 (j : Int) := D.at0 rfl rfl
                  exact st_pure (v := .int .i64 (j : Int)) D hno rfl rfl rfl (by simp only [Act.eval] at p; simp only [execOp, Act.eval]; go_simp) (of_decide_eq_true rfl) (of_decide_eq_true rfl) (by kernel_rfl) rfl rfl
                | 2, _ =>
                  have p82 : a.eval (.tmp 82) = .slice (some ad) n0 c0 := D.vt (hp 0 (by kernel_rfl)) rfl
                  have p83 : a.eval (.tmp 83) = .int .i64 (j : Int) := D.vt (hp 1 (by kernel_rfl)) rfl
                  exact st_pure (v := .pointer (some (ad.add j))) D hno rfl rfl rfl (by simp only [Act.eval] at p82 p83; simp only [execOp, Act.eval]; go_simp) (of_decide_eq_true rfl) (of_decide_eq_true rfl) (by kernel_rfl) rfl rfl
                | 3, _ =>
                  have p84 : a.eval (.tmp 84) = .pointer (some (ad.add j)) := D.vt (hp 2 (by kernel_rfl)) rfl
                  have hcell : w'.cell? (ad.add j) = some (.int .i64 x) := HCW.out _ D.sc.bl
                  exact st_pure (v := .int .i64 x) D hno rfl rfl rfl (by simp only [Act.eval] at p84; simp only [execOp, Act.eval]; go_simp) (of_decide_eq_true rfl) (of_decide_eq_true rfl) (by kernel_rfl) rfl rfl
                | 4, _ =>
                  have p : a.eval (.tmp 3) = .pointer (some ⟨t, 0, none⟩) := D.at0 rfl rfl
                  exact st_pure (v := .pointer (some ⟨t, 0, none⟩)) D hno rfl rfl rfl (by simp only [Act.eval] at p; simp only [execOp, Act.eval]; go_simp) (of_decide_eq_true rfl) (of_decide_eq_true rfl) (by kernel_rfl) rfl rfl
                | 5, _ =>
                  have pq0 : a.eval (.tmp 86) = .pointer (some ⟨t, 0, none⟩) := D.vt (hp 4 (by kernel_rfl)) rfl
                  have hv : #[Operand.tmp 86].map a.eval = #[.pointer (some ⟨t, 0, none⟩)] := by simp only [List.map_toArray, List.map_cons, List.map_nil, pq0]
                  refine st_call D hno rfl hv Tryz.func19 (by kernel_rfl) rfl (tsum_c D.sc HT.out HW.out.l1 HS.out) (of_decide_eq_true rfl) (of_decide_eq_true rfl) (by kernel_rfl) rfl ?_
                  rintro e w2 ⟨rfl, h1⟩
                  exact ⟨_, _, _, rfl, h1, fun t ht => ht, fun t ht => ht, rfl⟩
                | 6, _ =>
                  have pq0 : a.eval (.tmp 85) = .int .i64 x := D.vt (hp 3 (by kernel_rfl)) rfl
                  have pq1 : a.eval (.tmp 87) = .int .i64 (R : Int) := D.vt (hp 5 (by kernel_rfl)) rfl
                  have hv : #[Operand.tmp 85, Operand.tmp 87].map a.eval = #[.int .i64 x, .int .i64 (R : Int)] := by simp only [List.map_toArray, List.map_cons, List.map_nil, pq0, pq1]
                  refine st_call D hno rfl hv Tryz.func32 (by kernel_rfl) rfl (fover_c10 D.sc hxo1 hxo2 hmo1 hmo2 hmo0 HR.out) (of_decide_eq_true rfl) (of_decide_eq_true rfl) (by kernel_rfl) rfl ?_
                  rintro e w2 ⟨A, n, c, A', n', c', rfl, h1⟩
                  exact ⟨_, _, _, rfl, h1, fun t ht => List.mem_cons_of_mem _ (List.mem_cons_of_mem _ ht), fun t ht => List.mem_cons_of_mem _ (List.mem_cons_of_mem _ ht), ⟨A, n, c, A', n', c', rfl, List.mem_cons_self, List.mem_cons_of_mem _ List.mem_cons_self, List.mem_cons_self, List.mem_cons_of_mem _ List.mem_cons_self⟩⟩
                | 7, _ =>
                  have p := D.vt (t := 88) (hp 6 (by kernel_rfl)) rfl
                  exact st_pure (v := a.eval (.tmp 88)) D hno rfl rfl rfl (by simp only [execOp, Act.eval]; go_simp) (of_decide_eq_true rfl) (of_decide_eq_true rfl) (by kernel_rfl) rfl p
                | 8, _ =>
                  obtain ⟨Aq, nq, cq, Aq', nq', cq', eq, mq, mq', oq, oq'⟩ := D.vt (t := 81) (hp 7 (by kernel_rfl)) rfl
                  exact st_pure (v := .agg #[.bool (sg (r).num), .slice Aq nq cq, .slice Aq' nq' cq']) D hno rfl rfl rfl (by simp only [Act.eval] at eq; simp only [execOp, Act.eval]; go_simp) (of_decide_eq_true rfl) (of_decide_eq_true rfl) (by kernel_rfl) rfl ⟨_, _, _, _, _, _, rfl, mq, mq', oq, oq'⟩
                | 9, _ =>
                  obtain ⟨Aq, nq, cq, Aq', nq', cq', eq, mq, mq', oq, oq'⟩ := D.vt (t := 81) (hp 7 (by kernel_rfl)) rfl
                  exact st_pure (v := .int .i64 (0)) D hno rfl rfl rfl (by simp only [Act.eval] at eq; simp only [execOp, Act.eval]; go_simp) (of_decide_eq_true rfl) (of_decide_eq_true rfl) (by kernel_rfl) rfl rfl
                | 10, _ =>
                  exact st_alloc (vs := [.bool false, .slice none 0 0, .slice none 0 0]) (bt := 37) D hno hni rfl rfl rfl (by simp only [execOp]; go_simp; try exact rfl) (of_decide_eq_true rfl) (of_decide_eq_true rfl) (by decide) (by kernel_rfl) rfl ⟨_, rfl, rfl⟩
                | 11, _ =>
                  obtain ⟨Aq, nq, cq, Aq', nq', cq', eq, mq, mq', oq, oq'⟩ := D.vt (t := 89) (hp 8 (by kernel_rfl)) rfl
                  exact st_store (m := mR (r) (1)) (j0 := 10) D rfl (by decide) (hp 10 (by kernel_rfl)) rfl eq (⟨_, _, _, _, _, _, rfl, mq, mq', oq, oq'⟩) (by kernel_rfl) rfl infoRat rfl (by simp [Value.oneCell'])
                | 12, _ =>
                  have p : a.eval (.tmp 90) = .int .i64 (0) := D.vt (hp 9 (by kernel_rfl)) rfl
                  exact st_pure (v := .int .i64 (0)) D hno rfl rfl rfl (by simp only [Act.eval] at p; simp only [execOp, Act.eval]; go_simp) (of_decide_eq_true rfl) (of_decide_eq_true rfl) (by kernel_rfl) rfl rfl
                | i + 13, hi => exact absurd hi (by show ¬ (i + 13 < 13); omega)
              · intro a w5 S Bn T1 O hfr hsc hs0 ho0 htags hgs hkeep hf
                have hQ_0 := hkeep 0 (fun j hj m hm => by exact absurd hm (onlyOld_spec (i := 1000) (by kernel_rfl) j (by rintro rfl; exact absurd hj (by decide)) m))
                have hQ_1 := hkeep 1 (fun j hj m hm => by exact absurd hm (onlyOld_spec (i := 1000) (by kernel_rfl) j (by rintro rfl; exact absurd hj (by decide)) m))
                obtain ⟨QN, hbN, epN, AN, nN, cN, AN', nN', cN', evN, mN, mN', oN, oN'⟩ : Ft.ok a S O Bn T1 (.blk 14 φp (mR (r) (1))) := hf 11 (by decide) _ (List.mem_singleton.2 rfl)
                obtain ⟨GN, hGN⟩ : ∃ g, QN.g = g := ⟨_, rfl⟩
                have hgN := blk_eq hGN evN
                have epN : a.eval (.tmp 14) = .pointer (some ⟨GN, 0, none⟩) := by rw [epN, hGN]; rfl
                have ek15 : a.eval (.tmp 15) = .int .i64 (0) := hf 12 (by decide) _ (List.mem_singleton.2 rfl)
                obtain rfl := list_2 (by simpa using congrArg List.length hgs) hQ_0 hQ_1
                rw [hgN] at hbN
                have h1 := end_one hsc hbN (mem_more mN' (mem_more mN hs0)) (mem_more oN' (mem_more oN ho0))
                obtain ⟨tyN, htyN⟩ : ∃ t, QN.ty = t := ⟨_, rfl⟩
                rw [htyN] at h1
                clear htyN
                have hc := hfr.closed
                simp only [List.map_cons, List.map_nil] at hc
                rw [epN, ek15] at hc
                clear hfr hsc hs0 ho0 htags hgs hkeep hf
                clear mN
                clear mN'
                clear oN
                clear oN'
                clear hQ_0 hQ_1 hbN hgN hGN evN
                clear ek15
                generalize a.eval (.tmp 81) = u81_ at hc
                generalize a.eval (.tmp 82) = u82_ at hc
                generalize a.eval (.tmp 83) = u83_ at hc
                generalize a.eval (.tmp 84) = u84_ at hc
                generalize a.eval (.tmp 85) = u85_ at hc
                generalize a.eval (.tmp 86) = u86_ at hc
                generalize a.eval (.tmp 87) = u87_ at hc
                generalize a.eval (.tmp 88) = u88_ at hc
                generalize a.eval (.tmp 89) = u89_ at hc
                generalize a.eval (.tmp 90) = u90_ at hc
                subst hc
                clear hS; have hS := Lib.hid h1; clear h1
                simp only [putAll, List.foldl_cons, List.foldl_nil, Act.put, List.setIfInBounds_toArray, List.set_cons_zero, List.set_cons_succ]
                obtain ⟨v40, hww⟩ : ∃ x, x = w5 := ⟨_, rfl⟩
                subst hww
                obtain ⟨x0_0, x1_0, x2_0⟩ := hS.out.cs3 0 rfl
                obtain ⟨x0_1, x1_1, x2_1⟩ := hS.out.cs3 1 rfl
                obtain ⟨x0_2, x1_2, x2_2⟩ := hS.out.cs3 2 rfl
                go_wp2_with fail
                clear x0_0 x1_0 x2_0 x0_1 x1_1 x2_1 x0_2 x1_2 x2_2
                have h1 := hS.out.drew
                clear hS; have hS := Lib.hid h1; clear h1
                try simp only [List.append_eq, List.cons_append, List.nil_append]
                go_region_held3 (fun W => (W.cell? ⟨GN, 0, none⟩ = some (.bool (sg (r).num)) ∧ W.cell? ⟨GN, 1, none⟩ = some (.slice AN nN cN) ∧ W.cell? ⟨GN, 2, none⟩ = some (.slice AN' nN' cN')) ∧ (W.cell? ⟨v11.heap.size, 0, none⟩ = some (.bool (sg (r).num)) ∧ W.cell? ⟨v11.heap.size, 1, none⟩ = some (.slice A5 n5 c5) ∧ W.cell? ⟨v11.heap.size, 2, none⟩ = some (.slice A6 n6 c6)) ∧ (W.cell? ⟨gs, 0, none⟩ = some (.bool (sg (rr).num)) ∧ W.cell? ⟨gs, 1, none⟩ = some (.slice A n c) ∧ W.cell? ⟨gs, 2, none⟩ = some (.slice A' n' c')) ∧ (W.cell? ⟨h, j, none⟩ = some (.int .i64 x)) ∧ (W.cell? (ad.add j) = some (.int .i64 x))) (first | with_reducible exact ⟨hS.out.cs3 0 rfl, hS.out.cs3 1 rfl, hS.out.cs3 2 rfl, HCH.out _ hS.out.bl, HCW.out _ hS.out.bl⟩ | with_reducible exact ⟨hS.out.drew.cs3 0 rfl, hS.out.drew.cs3 1 rfl, hS.out.drew.cs3 2 rfl, HCH.out _ hS.out.drew.bl, HCW.out _ hS.out.drew.bl⟩ | with_reducible exact ⟨(hS.out.alloc _).cs3 0 rfl, (hS.out.alloc _).cs3 1 rfl, (hS.out.alloc _).cs3 2 rfl, HCH.out _ (hS.out.alloc _).bl, HCW.out _ (hS.out.alloc _).bl⟩ | with_reducible exact ⟨((hS.out.alloc _).alloc _).cs3 0 rfl, ((hS.out.alloc _).alloc _).cs3 1 rfl, ((hS.out.alloc _).alloc _).cs3 2 rfl, HCH.out _ ((hS.out.alloc _).alloc _).bl, HCW.out _ ((hS.out.alloc _).alloc _).bl⟩) (first
                  | (go_at_call 33; (with_reducible refine (fsame_10 (r := r) hS.out (by repeat (first | exact List.mem_cons_self | apply List.mem_cons_of_mem)) (by repeat (first | exact List.mem_cons_self | apply List.mem_cons_of_mem)) (by repeat (first | exact List.mem_cons_self | apply List.mem_cons_of_mem)) (by repeat (first | exact List.mem_cons_self | apply List.mem_cons_of_mem))).mono ?_); rintro e w' ⟨rfl, h1⟩; clear hS; have hS := Lib.hid h1; clear h1))
                obtain ⟨x0_0, x1_0, x2_0⟩ := hS.out.cs3 0 rfl
                obtain ⟨x0_1, x1_1, x2_1⟩ := hS.out.cs3 1 rfl
                obtain ⟨x0_2, x1_2, x2_2⟩ := hS.out.cs3 2 rfl
                go_wp2_with fail
                go_at_call 34
                with_reducible refine (fadd_10 hS.out (by repeat (first | exact List.mem_cons_self | apply List.mem_cons_of_mem)) (by repeat (first | exact List.mem_cons_self | apply List.mem_cons_of_mem)) (by repeat (first | exact List.mem_cons_self | apply List.mem_cons_of_mem)) (by repeat (first | exact List.mem_cons_self | apply List.mem_cons_of_mem)) HRA.out HR2.out.2).mono ?_
                rintro e v41 ⟨A9, n9, c9, A10, n10, c10, rfl, h1⟩
                clear x0_0 x1_0 x2_0 x0_1 x1_1 x2_1 x0_2 x1_2 x2_2
                clear hS; have hS := Lib.hid h1; clear h1
                obtain ⟨x0_0, x1_0, x2_0⟩ := hS.out.cs3 0 rfl
                obtain ⟨x0_1, x1_1, x2_1⟩ := hS.out.cs3 1 rfl
                obtain ⟨x0_2, x1_2, x2_2⟩ := hS.out.cs3 2 rfl
                have hp0 := hS.out.put3 2 rfl (hS.out.ge_ 2 rfl) (.bool (sg (r2).num)) (.slice A9 n9 c9) (.slice A10 n10 c10)
                simp only [List.set_cons_zero, List.set_cons_succ] at hp0
                have fz0_0 := hS.out.frs 2 rfl 0
                have fz0_1 := hS.out.frs 2 rfl 1
                have fz0_2 := hS.out.frs 2 rfl 2
                obtain ⟨p00_0, p01_0, p02_0⟩ := hp0.cs3 0 rfl
                obtain ⟨p00_1, p01_1, p02_1⟩ := hp0.cs3 1 rfl
                obtain ⟨p00_2, p01_2, p02_2⟩ := hp0.cs3 2 rfl
                have HPUT := Lib.hid hp0
                clear hp0
                go_wp2_with fail
                clear fz0_0 fz0_1 fz0_2
                clear p00_0 p01_0 p02_0 p00_1 p01_1 p02_1 p00_2 p01_2 p02_2
                clear x0_0 x1_0 x2_0 x0_1 x1_1 x2_1 x0_2 x1_2 x2_2
                have h1 := HPUT.out
                clear HPUT
                generalize hwa : World.setCell (World.setCell (World.setCell v41 _ _) _ _) _ _ = v42 at *
                clear hwa
                clear hS; have hS := Lib.hid h1; clear h1
                obtain ⟨x0_0, x1_0, x2_0⟩ := hS.out.cs3 0 rfl
                obtain ⟨x0_1, x1_1, x2_1⟩ := hS.out.cs3 1 rfl
                obtain ⟨x0_2, x1_2, x2_2⟩ := hS.out.cs3 2 rfl
                go_roundw
                case rel => exact ⟨j + 1, r2, A9, n9, c9, A10, n10, c10, _, hlt, by go_num, HR2.out.1, hS.out.sub (fun t ht => by
                  rcases List.mem_cons.1 ht with e | e
                  · rw [e]; exact List.mem_cons_self
                  · rcases List.mem_cons.1 e with e | e
                    · rw [e]; exact List.mem_cons_of_mem _ List.mem_cons_self
                    · cases e) (List.Sublist.cons _ (List.Sublist.cons _ (List.Sublist.refl _))) (fun t ht => by cases ht)⟩
                case measure => simp [intOf]; omega
            · obtain rfl : j = n0 := by omega
              have HZ := Lib.hid (show shR rr = [49] by
                refine shR_lit10 (by decide +kernel) ?_
                have h1 := HRR.out
                rw [show pre xs0 j = (R : Int) by rw [← HLN.out]; exact HS.out, share_all HMM.out.1] at h1
                rw [← h1]
                decide +kernel)
              obtain ⟨x0_0, x1_0, x2_0⟩ := hS.out.cs3 0 rfl
              go_wp2_with fail
              go_at_call 30
              with_reducible refine (fshow_any _ (hS.out.frm0 (r := rr) (M := 1) (by repeat (first | exact List.mem_cons_self | apply List.mem_cons_of_mem)) (by repeat (first | exact List.mem_cons_self | apply List.mem_cons_of_mem)) (Nat.le_refl _) (Nat.le_refl _) (rv_self _)) (by decide) (by decide) HZ.out).mono ?_
              rintro e v11 ⟨rfl, hb⟩
              clear x0_0 x1_0 x2_0
              have h1 := hS.out.below hb
              clear hb
              clear hS; have hS := Lib.hid h1; clear h1
              obtain ⟨x0_0, x1_0, x2_0⟩ := hS.out.cs3 0 rfl
              go_wp2
              go_ret
              first
                | exact ⟨rfl, HB8.out.trans (hS.out.bl.mono HB8.out.size)⟩
                | (refine ⟨?_, HB8.out.trans (hS.out.bl.mono HB8.out.size)⟩; simp)
  · obtain ⟨z, hz1, hz2, _, _⟩ := mayW_ways (fun e => hm (mayW_zero.2 e))
    have HM := Lib.hid hz1
    have HZ := Lib.hid hz2
    clear hz1 hm
    go_enter Tryz.func6, Tryz.ntmps6
    go_wp2_with fail
    go_at_call 11
    refine (new10_no hS.out (HI.out.below hS.out.bl) HM.out HZ.out).mono ?_
    rintro e v1 ⟨rfl, h1⟩
    have h2 : CS w v1 [] := h1
    clear hS h1; have hS := Lib.hid h2; clear h2
    go_wp2_with fail
    go_at_call 10
    refine (awake10_s hS.out).mono ?_
    rintro e v2 ⟨rfl, h1⟩
    have h2 : CS w v2 [] := h1
    clear hS h1; have hS := Lib.hid h2; clear h2
    go_wp2
    go_ret
    exact ⟨rfl, hS.out.bl⟩
set_option maxRecDepth 100000 in
theorem lifted (os : Os) (started : os.Started) (H : Type) (enc : TypeId × Value → H) :
    ReturnsInHanded {} Tryz.checked os 6 .any (fun w args => (Rows.freqSharesSpec.pre enc Tryz.prog Tryz.f6 Rows.freqSharesRow.domain false w args ∧ laidMetH Tryz.prog Rows.freqSharesRow.laid w) ∧ sizedMet enc Tryz.prog Tryz.f6 (OpenSpec.ofChange Rows.freqSharesSpec) false w args) (Rows.freqSharesSpec.post enc Tryz.prog Tryz.f6 false true false false) := by
  refine returnsInHanded_of_change_and (C := Tryz.checked) (X := fun w _ => laidMetH Tryz.prog Rows.freqSharesRow.laid w) (fun _ _ _ hh h => h.of_heap hh) own started (by kernel_rfl) Tryz.func6
    (ChangeSpec.witness_shaped (enc := enc) (C := Tryz.checked) (os := os) (X := fun w _ => laidMetH Tryz.prog Rows.freqSharesRow.laid w) false (World.laidAll Tryz.prog os Rows.freqSharesRow.laid) #[.slice none 0 0] 8 (World.laidAll_os _ _ _)
      (World.shaped_of_ZipB (by kernel_rfl) (by kernel_rfl)) (by kernel_rfl) (by kernel_rfl) (by kernel_rfl)
      (by rw [MakeChecks.laidMetH_plain _ _ _ (by kernel_rfl)]; exact laidMet_laidAll _ (by kernel_rfl) (by kernel_rfl))) ?_
  intro W base args ds gs before hval0 hW hcnd _ _ _
  have hval : ∀ (j : Nat) t v, Tryz.f6.params[j]? = some t → args[j]? = some v → Value.okWide Tryz.prog W .any base t v := hval0
  have hW' := hW
  obtain ⟨p, q, hA0, hV, hpq, hfz, hnd⟩ := hW
  have hA : DataW.TrodAll enc Tryz.prog W 0 (fun _ => true) true Tryz.f6.params.toList args.toList ds p := hA0
  rw [Tryz.params6] at hA hval
  obtain ⟨v0, vs0, d0, ds0, p0, q0, hargs, rfl, rfl, h0, r0⟩ := trodAll_cons hA
  obtain ⟨rfl, rfl, rfl⟩ := trodAll_nil r0
  obtain rfl : args = #[v0] := by cases args; simp_all
  obtain ⟨rfl, rfl⟩ := trodVars_none hV
  obtain ⟨A0, n0, c0, xs0, rfl, s0⟩ := open_i64s_ (hval 0 22 v0 rfl rfl) h0
  refine (walk W A0 n0 c0 xs0 s0).mono fun e W' ⟨he, hb⟩ => ?_
  subst he
  exact ⟨_, rfl, Frame.close laidOut hW' rfl rfl rfl Tryz.underlying4 (fun t ht => by rw [Tryz.params6] at ht; simp at ht; rcases ht with rfl <;> exact ⟨by kernel_rfl, of_decide_eq_true (by kernel_rfl)⟩) hb⟩
theorem over : Rows.freqSharesRow.holds Tryz.pinned (OpenSpec.ofChange Rows.freqSharesSpec) :=
  OpenClaim.holds_of_wide 6 Tryz.f6 rfl rfl rfl rfl rfl rfl rfl ⟨rfl, rfl, rfl, rfl, rfl⟩ rfl rfl rfl rfl rfl (by kernel_rfl) Tryz.func6 (by kernel_rfl)
    (of_decide_eq_true (by kernel_rfl)) (by unfold Func.isWrapper; first | (rw [if_pos (by decide +kernel)]; kernel_rfl) | (rw [if_neg (by decide +kernel)]; exact ⟨rfl, rfl⟩))
    (fun os started H enc _ => lifted os started H enc)
/-- the statement -/
theorem proved : Rows.FreqSharesCardSaid :=
  Claim7.holds_tied_plain_at .later [] _ _ _ _ over (fun _ h => by cases h) (by kernel_rfl) (fun _ h => by cases h) freqShares_row_tie rfl ⟨rfl, rfl⟩ (by kernel_rfl) rfl
    (fun f fn hf hfn => by
      obtain rfl : f = 6 := Option.some.inj ((show Tryz.prog.funcNamed "tombola/tombolalaw10.FreqShares" = some 6 by kernel_rfl).symm.trans hf) |>.symm
      obtain rfl : fn = Tryz.f6 := (Option.some.inj (Tryz.func6.symm.trans hfn)).symm
      exact ⟨by kernel_rfl, (fun j t ht => by
        rw [Tryz.params6] at ht
        have hm : t ∈ [22] := by simpa using Array.mem_of_getElem? ht
        have hall : ([22].all fun u => !Tryz.prog.wantsStandIn u) = true := by kernel_rfl
        exact (show Tryz.prog.wantsStandIn t = false by simpa using List.all_eq_true.1 hall t hm))⟩)
    (by kernel_rfl)
#print axioms proved
end Go.Proofs.YtolfjhfmcgibbaaGreatDoor.freqShares
