/-
  PROVED: the statement BitsRise (tombolalaw07.BitsRise) about the landed commit: for every input the law returns true and leaves its arguments as they were. Conditions: none beyond those that the given row itself prints.
-/
import Derived.Test.YtcpkkceoobioiaaDoorCards
import Derived.Test.YtcpkkceoobioiaaDoorTie
import Derived.LaidMore
import Derived.Lay
import Derived.SevenTiedAt
import Derived.Stop.Joined
import Derived.Test.YtcpkkceoobioiaaDoorRows
import Derived.WalkKit
import Derived.ProofKit
import Derived.OpenShut
import Derived.RowKit3
import Derived.Test.YtcpkkceoobioiaaDoorGFrame
import Derived.Test.YtcpkkceoobioiaaDoorBitAwake
import Derived.Test.YtcpkkceoobioiaaDoorBitMath4
namespace Go.Proofs.YtcpkkceoobioiaaDoor.bitsRise
open Go.ChangeShapes Go.WideShapes Go.ChangeAt Go.RowKit
set_option linter.unusedVariables false
set_option linter.unusedSimpArgs false
set_option maxRecDepth 20000
open N
theorem own : ownKnob Tryd.prog.godebug = none := by kernel_rfl
/-- what lies in the cells of the law when n strings have come -/
structure RiseC (k lf s0 M n : Nat) (W : World) : Prop where
  a : W.cell? ⟨s0, 0, none⟩ = some (.int .u16 (lf : Int))
  b : W.cell? ⟨s0 + 1, 0, none⟩ = some (.bool false)
  c : W.frozen? ⟨s0 + 1, 0, none⟩ = false
  d : W.cell? ⟨M, 0, none⟩ = some (.int .i64 (k : Int))
  e : W.cell? ⟨M + 1, 0, none⟩ = some (.int .i64 (n : Int))
  f : W.frozen? ⟨M + 1, 0, none⟩ = false
  g : W.cell? ⟨M + 1 + 1, 0, none⟩ = some (.string ⟨(lastS k n).toArray⟩)
  h : W.frozen? ⟨M + 1 + 1, 0, none⟩ = false
theorem RiseC.below {k lf s0 M n B : Nat} {W W' : World} (r : RiseC k lf s0 M n W) (hb : Below B W W') (h1 : s0 + 2 ≤ M) (h2 : M + 2 < B) : RiseC k lf s0 M n W' :=
  ⟨(hb.cell (p := ⟨s0, 0, none⟩) (by show s0 < _; omega)).trans r.a, (hb.cell (p := ⟨s0 + 1, 0, none⟩) (by show s0 + 1 < _; omega)).trans r.b, (hb.frozen (p := ⟨s0 + 1, 0, none⟩) (by show s0 + 1 < _; omega)).trans r.c,
   (hb.cell (p := ⟨M, 0, none⟩) (by show M < _; omega)).trans r.d, (hb.cell (p := ⟨M + 1, 0, none⟩) (by show M + 1 < _; omega)).trans r.e, (hb.frozen (p := ⟨M + 1, 0, none⟩) (by show M + 1 < _; omega)).trans r.f,
   (hb.cell (p := ⟨M + 1 + 1, 0, none⟩) (by show M + 1 + 1 < _; omega)).trans r.g, (hb.frozen (p := ⟨M + 1 + 1, 0, none⟩) (by show M + 1 + 1 < _; omega)).trans r.h⟩
theorem RiseC.step {k lf s0 M n : Nat} {W : World} (r : RiseC k lf s0 M n W) (h1 : s0 + 2 ≤ M) :
    RiseC k lf s0 M (n + 1) ((W.setCell ⟨M + 1, 0, none⟩ (.int .i64 ((n : Int) + 1))).setCell ⟨M + 1 + 1, 0, none⟩ (.string ⟨(lastS k (n + 1)).toArray⟩)) := by
  have ne : ∀ (p : Addr), p.block ≠ M + 1 → p.block ≠ M + 1 + 1 → ((W.setCell ⟨M + 1, 0, none⟩ (.int .i64 ((n : Int) + 1))).setCell ⟨M + 1 + 1, 0, none⟩ (.string ⟨(lastS k (n + 1)).toArray⟩)).cell? p = W.cell? p := fun p h2 h3 =>
    (World.cell?_of_block (Below.heap_setCell _ _ _ _ h3)).trans (World.cell?_of_block (Below.heap_setCell _ _ _ _ h2))
  have fz : ∀ (p : Addr), ((W.setCell ⟨M + 1, 0, none⟩ (.int .i64 ((n : Int) + 1))).setCell ⟨M + 1 + 1, 0, none⟩ (.string ⟨(lastS k (n + 1)).toArray⟩)).frozen? p = W.frozen? p := fun p => by
    rw [World.frozen?_setCell, World.frozen?_setCell]
  refine ⟨(ne ⟨s0, 0, none⟩ (by show s0 ≠ M + 1; omega) (by show s0 ≠ M + 1 + 1; omega)).trans r.a, (ne ⟨s0 + 1, 0, none⟩ (by show s0 + 1 ≠ M + 1; omega) (by show s0 + 1 ≠ M + 1 + 1; omega)).trans r.b, (fz _).trans r.c, (ne ⟨M, 0, none⟩ (by show M ≠ M + 1; omega) (by show M ≠ M + 1 + 1; omega)).trans r.d, ?_, (fz _).trans r.f, ?_, (fz _).trans r.h⟩
  · refine (World.cell?_of_block (Below.heap_setCell _ _ _ _ (by show M + 1 ≠ M + 1 + 1; omega))).trans ?_
    have := World.cell?_setCell_same' W ⟨M + 1, 0, none⟩ (.int .i64 ((n : Int) + 1)) (by rw [r.e]; rfl)
    rw [this]; congr 2
  · refine World.cell?_setCell_same' _ _ _ ?_
    rw [World.cell?_of_block (w := W) (Below.heap_setCell _ _ _ _ (by show M + 1 + 1 ≠ M + 1; omega)), r.g]; rfl
attribute [local go_sem] Oper.semAt_some
set_option maxRecDepth 100000 in
set_option maxHeartbeats 4000000 in
theorem walk (w : World) (a0 : Int) (w0 : (Lit.int .u8 a0).wf = true) (a1 : Int) (w1 : (Lit.int .u16 a1).wf = true) :
    Calls Tryd.prog 9 #[.int .u8 a0, .int .u16 a1] w fun e w' => e = .returned (.bool true) ∧ Below w.heap.size w w' := by
  have ba := bounds_u8 w0
  have bl := bounds_u16 w1
  obtain ⟨k, hk⟩ : ∃ k : Nat, a0 % 13 = (k : Int) := ⟨(a0 % 13).toNat, by omega⟩
  have hk12 : k ≤ 12 := by omega
  obtain ⟨lf, rfl⟩ := Int.eq_ofNat_of_zero_le bl.1
  have hp12 : 2 ^ k ≤ 4096 := Nat.pow_le_pow_right (n := 2) (by decide) hk12
  have htm : a0.tmod 13 = (k : Int) := by rw [Int.tmod_eq_emod_of_nonneg ba.1]; exact hk
  have hro : Fence.wide.round = none := rfl
  refine calls_of_wp_z 6 Tryd.func9 rfl ?_
  simp only [Tryd.ntmps9, List.size_toArray, List.length_cons, List.length_nil, Nat.reduceAdd, Nat.reduceSub, Array.replicate_succ, Array.replicate_zero, List.push_toArray, List.append_toArray, List.nil_append, List.cons_append]
  go_wp2_with fail
  go_at_call 13
  have hc0 : ((w.alloc (.cells #[.int .u16 (lf : Int)] 37)).alloc (.cells #[.bool false] 4)).cell? ⟨w.heap.size, 0, none⟩ = some (.int .u16 (lf : Int)) ∧ ((w.alloc (.cells #[.int .u16 (lf : Int)] 37)).alloc (.cells #[.bool false] 4)).cell? ⟨w.heap.size + 1, 0, none⟩ = some (.bool false) ∧ ((w.alloc (.cells #[.int .u16 (lf : Int)] 37)).alloc (.cells #[.bool false] 4)).frozen? ⟨w.heap.size + 1, 0, none⟩ = false := by
    refine ⟨?_, ?_, ?_⟩ <;> go_simp
  obtain ⟨W0, hW0⟩ : ∃ x, (w.alloc (.cells #[.int .u16 (lf : Int)] 37)).alloc (.cells #[.bool false] 4) = x := ⟨_, rfl⟩
  rw [hW0]
  have hs0 : W0.heap.size = w.heap.size + 2 := by rw [← hW0]; simp
  rw [hW0] at hc0
  have hb0 : Below w.heap.size w W0 := by rw [← hW0]; exact ((Below.refl _ w).alloc (Nat.le_refl _) _).alloc (by simp) _
  refine (bawake W0).mono ?_
  rintro e w1 ⟨rfl, hb⟩
  have hs1 : w.heap.size + 2 ≤ w1.heap.size := by have := hb.size; omega
  have hc1 : w1.cell? ⟨w.heap.size, 0, none⟩ = some (.int .u16 (lf : Int)) ∧ w1.cell? ⟨w.heap.size + 1, 0, none⟩ = some (.bool false) ∧ w1.frozen? ⟨w.heap.size + 1, 0, none⟩ = false :=
    ⟨(hb.cell (p := ⟨w.heap.size, 0, none⟩) (by show w.heap.size < _; omega)).trans hc0.1, (hb.cell (p := ⟨w.heap.size + 1, 0, none⟩) (by show w.heap.size + 1 < _; omega)).trans hc0.2.1, (hb.frozen (p := ⟨w.heap.size + 1, 0, none⟩) (by show w.heap.size + 1 < _; omega)).trans hc0.2.2⟩
  have hbw : Below w.heap.size w w1 := hb0.trans (hb.mono hb0.size)
  clear hW0 hs0 hc0 hb0 hb
  have HC1 := Lib.hid hc1
  have HBW := Lib.hid hbw
  clear hc1 hbw
  go_wp2_with (go_at_call 31; refine (all_any _ _).mono ?_; rintro e w2 ⟨rfl, rfl⟩)
  refine (wpIn_wide (n := 6)).1 ?_
  refine gen_w fun L hL => ?_
  have hbL : Below w1.heap.size w1 L := by rw [hL]; exact (((((Below.refl _ w1).alloc (Nat.le_refl _) _).alloc (by simp) _).alloc (by simp; omega) _).alloc (by simp; omega) _)
  have hsL : L.heap.size = w1.heap.size + 4 := by rw [hL]; simp
  have hnew : L.cell? ⟨w1.heap.size, 0, none⟩ = some (.int .i64 (k : Int)) ∧ L.cell? ⟨w1.heap.size + 1, 0, none⟩ = some (.int .i64 ((0 : Nat) : Int)) ∧ L.frozen? ⟨w1.heap.size + 1, 0, none⟩ = false ∧ L.cell? ⟨w1.heap.size + 1 + 1, 0, none⟩ = some (.string ⟨(lastS k 0).toArray⟩) ∧ L.frozen? ⟨w1.heap.size + 1 + 1, 0, none⟩ = false ∧ L.cell? ⟨w1.heap.size + 3, 0, none⟩ = some (.int .i64 (k : Int)) := by
    rw [show lastS k 0 = [] from rfl]
    rw [hL]; refine ⟨?_, ?_, ?_, ?_, ?_, ?_⟩ <;> go_simp
  clear hL
  obtain ⟨M, hM⟩ : ∃ M, w1.heap.size = M := ⟨_, rfl⟩
  obtain ⟨s0, hs0⟩ : ∃ s, w.heap.size = s := ⟨_, rfl⟩
  have hsh : IntKind.i64.wrap ((2 : Int) ^ k) = ((2 ^ k : Nat) : Int) := by
    have h2 : ((2 : Int) ^ k) = ((2 ^ k : Nat) : Int) := (W.cast_pow k).symm
    obtain ⟨q, hq⟩ : ∃ q : Nat, 2 ^ k = q := ⟨_, rfl⟩
    rw [h2, hq, IntKind.wrap_i64]
    rw [hq] at hp12
    omega
  have hR0 : RiseC k lf s0 M 0 L := by
    rw [← hM, ← hs0]
    exact ⟨(hbL.cell (p := ⟨w.heap.size, 0, none⟩) (by show w.heap.size < _; omega)).trans HC1.out.1, (hbL.cell (p := ⟨w.heap.size + 1, 0, none⟩) (by show w.heap.size + 1 < _; omega)).trans HC1.out.2.1, (hbL.frozen (p := ⟨w.heap.size + 1, 0, none⟩) (by show w.heap.size + 1 < _; omega)).trans HC1.out.2.2, hnew.1, hnew.2.1, hnew.2.2.1, hnew.2.2.2.1, hnew.2.2.2.2.1⟩
  have hbwL : Below w.heap.size w L := HBW.out.trans (hbL.mono HBW.out.size)
  have hcb := hnew.2.2.2.2.2
  rw [hM] at hsL hs1 hcb ⊢
  rw [hs0] at hs1 hbwL ⊢
  clear hnew HC1 HBW hbL
  have hfar : Far L.heap.size (fun (pre : List (List UInt8)) (W : World) => RiseC k lf s0 M pre.length W ∧ pre.length ≤ lf ∧ Below s0 w W) := fun s A C hs hb =>
    ⟨hs.1.below hb (by omega) (by omega), hs.2.1, hs.2.2.trans (hb.mono (by omega))⟩
  have hfarx : ∀ c : Code, Far L.heap.size (fun (pre : List (List UInt8)) (W : World) => c = .exit 0 ∧ RiseC k lf s0 M pre.length W ∧ pre.length = lf + 1 ∧ Below s0 w W) := fun c s A C hs hb =>
    ⟨hs.1, hs.2.1.below hb (by omega) (by omega), hs.2.2.1, hs.2.2.2.trans (hb.mono (by omega))⟩
  refine wp_range1 (gf := 43) (lb := #[.pointer (some ⟨M + 3, 0, none⟩)]) rfl (enters_of Tryd.func43 (by kernel_rfl) rfl) (enc := fun l : List UInt8 => .string ⟨l.toArray⟩)
    (all_iter k hk12 (M + 3) L (by omega) hcb) (Below.refl _ _) _ _ hfar hfarx ⟨hR0, Nat.zero_le _, hbwL⟩ (of_decide_eq_true rfl) ?body ?done ?stop
  case body =>
    rintro l pre x W ⟨hR, hlf, hb⟩ ⟨post, hall⟩ hsz
    obtain ⟨rfl, hi⟩ := allS_at hall
    obtain ⟨i, hie⟩ : ∃ i, pre.length = i := ⟨_, rfl⟩
    rw [hie] at hR hlf hi ⊢
    obtain ⟨s, hse⟩ : ∃ s, ofB k i = s := ⟨_, rfl⟩
    have hsl : s.length = k := by rw [← hse, ofB_length]
    have hsm : s.length ≤ maxLen := by unfold maxLen; omega
    obtain ⟨n1, n2⟩ := nu_ofB (k := k) (i := i) (by omega) hi
    obtain ⟨ah, hae⟩ : ∃ a, lastS k i = a := ⟨_, rfl⟩
    have ham : ah.length ≤ maxLen := by have := lastS_len k i; rw [hae] at this; unfold maxLen; omega
    have hnx : 0 < i → nextB ah = (s, true) := fun h0 => by
      obtain ⟨j, rfl⟩ : ∃ j, i = j + 1 := ⟨i - 1, by omega⟩
      rw [← hae, lastS_succ, ← hse]
      exact next_of (by omega) hi
    have hls : lastS k (i + 1) = s := by rw [lastS_succ, hse]
    rw [hse] at n1 n2 ⊢
    have hil : (pre ++ [s]).length = i + 1 := by simp [hie]
    have H1 := Lib.hid (fun W : World => show Calls Tryd.prog 14 #[.string ⟨s.toArray⟩] W fun e w' => e = .returned (.tuple #[.int .u64 (i : Int), .int .i64 0]) ∧ Below W.heap.size W w' from by
      have h := num_any W s hsm
      rwa [n2, n1] at h)
    have H2 := Lib.hid (fun W : World => next_any W ah ham)
    have HNX := Lib.hid hnx
    have HR := Lib.hid hR
    obtain ⟨c1, c2, c3, c4, c5, c6, c7, c8⟩ := hR
    rw [hae] at c7
    have HIL := Lib.hid hil
    have HLS := Lib.hid hls
    have HB := Lib.hid hb
    have HAE := Lib.hid hae
    clear hall hil hls hb hse hae hnx n1 n2
    gi_wp2_with fail
    refine ⟨trivial, ?_⟩
    gi_at_call 14
    refine (CallsIn.inRound l (callsIn_wide.2 (H1.out W))).mono ?_
    rintro e Wa ⟨rfl, hba⟩
    have HRa := Lib.hid (HR.out.below hba (by omega) (by omega))
    obtain ⟨d1, d2, d3, d4, d5, d6, d7, d8⟩ := HRa.out
    rw [HAE.out] at d7
    have HAa := Lib.hid (Above.of_below (B := L.heap.size) hba)
    have HBa := Lib.hid (HB.out.trans (hba.mono (by omega)))
    have hza : W.heap.size ≤ Wa.heap.size := hba.size
    clear c1 c2 c3 c4 c5 c6 c7 c8 hba HB HR
    gi_wp2_with fail
    refine ⟨trivial, ?_⟩
    gi_at_call 22
    refine (CallsIn.inRound l (callsIn_wide.2 (H2.out Wa))).mono ?_
    rintro e Wb ⟨rfl, hbb⟩
    have HRb := Lib.hid (HRa.out.below hbb (by omega) (by omega))
    obtain ⟨e1, e2, e3, e4, e5, e6, e7, e8⟩ := HRb.out
    rw [HAE.out] at e7
    have HAb := Lib.hid (HAa.out.trans (Above.of_below (B := L.heap.size) hbb))
    have HBb := Lib.hid (HBa.out.trans (hbb.mono (by omega)))
    have hfin : RiseC k lf s0 M (i + 1) ((Wb.setCell ⟨M + 1, 0, none⟩ (.int .i64 ((i : Int) + 1))).setCell ⟨M + 1 + 1, 0, none⟩ (.string ⟨s.toArray⟩)) := by
      rw [← HLS.out]; exact HRb.out.step (by omega)
    have hab : Above L.heap.size W ((Wb.setCell ⟨M + 1, 0, none⟩ (.int .i64 ((i : Int) + 1))).setCell ⟨M + 1 + 1, 0, none⟩ (.string ⟨s.toArray⟩)) :=
      (HAb.out.trans (Above.set _ _ (by show M + 1 < _; omega))).trans (Above.set _ _ (by show M + 1 + 1 < _; omega))
    have hbf : Below s0 w ((Wb.setCell ⟨M + 1, 0, none⟩ (.int .i64 ((i : Int) + 1))).setCell ⟨M + 1 + 1, 0, none⟩ (.string ⟨s.toArray⟩)) :=
      (HBb.out.setCell (p := ⟨M + 1, 0, none⟩) (by show s0 ≤ M + 1; omega) _).setCell (p := ⟨M + 1 + 1, 0, none⟩) (by show s0 ≤ M + 1 + 1; omega) _
    have HF := Lib.hid hfin
    have HA := Lib.hid hab
    have HBF := Lib.hid hbf
    clear d1 d2 d3 d4 d5 d6 d7 d8 hbb HBa HAa HRa hfin hab hbf HBb HAb
    obtain ⟨nx, hnxe⟩ : ∃ p, nextB ah = p := ⟨_, rfl⟩
    rw [hnxe]
    rw [hnxe] at HNX
    clear hnxe
    by_cases h0 : 0 < i
    · have hz : (0 : Int) < (i : Int) := by omega
      have hnx := HNX.out h0
      subst hnx
      by_cases hbr : lf < i + 1
      · have hbr2 : (lf : Int) < (i : Int) + 1 := by omega
        have hie : i + 1 = lf + 1 := by omega
        have HIE := Lib.hid hie
        clear hie hlf
        gi_wp2
        exact ⟨HA.out, rfl, by rw [HIL.out]; exact HF.out, by rw [HIL.out]; exact HIE.out, HBF.out⟩
      · have hbr2 : ¬ ((lf : Int) < (i : Int) + 1) := by omega
        have hle : i + 1 ≤ lf := by omega
        have HLE := Lib.hid hle
        clear hle hlf
        gi_wp2
        exact ⟨HA.out, by rw [HIL.out]; exact HF.out, by rw [HIL.out]; exact HLE.out, HBF.out⟩
    · have hz : ¬ ((0 : Int) < (i : Int)) := by omega
      by_cases hbr : lf < i + 1
      · have hbr2 : (lf : Int) < (i : Int) + 1 := by omega
        have hie : i + 1 = lf + 1 := by omega
        have HIE := Lib.hid hie
        clear hie hlf
        gi_wp2
        exact ⟨HA.out, rfl, by rw [HIL.out]; exact HF.out, by rw [HIL.out]; exact HIE.out, HBF.out⟩
      · have hbr2 : ¬ ((lf : Int) < (i : Int) + 1) := by omega
        have hle : i + 1 ≤ lf := by omega
        have HLE := Lib.hid hle
        clear hle hlf
        gi_wp2
        exact ⟨HA.out, by rw [HIL.out]; exact HF.out, by rw [HIL.out]; exact HLE.out, HBF.out⟩
  case done =>
    rintro D Wd hD ⟨hR, hle, hb⟩ hK
    rw [allS_length] at hR hle
    have hm : min (((2 ^ k : Nat) : Int)) ((lf : Int) + 1) = ((2 ^ k : Nat) : Int) := by omega
    obtain ⟨c1, c2, c3, c4, c5, c6, c7, c8⟩ := hR
    have HB := Lib.hid hb
    have HK := Lib.hid hK
    clear hb hK
    go_wp2_with fail
    go_region
    have h2k : ((2 : Int) ^ k) = ((2 ^ k : Nat) : Int) := (W.cast_pow k).symm
    have he : ((2 : Int) ^ k == min ((2 : Int) ^ k) ((lf : Int) + 1)) = true := by
      rw [h2k]
      obtain ⟨q, hq⟩ : ∃ q : Nat, 2 ^ k = q := ⟨_, rfl⟩
      rw [hq] at hle
      rw [hq, beq_iff_eq]
      omega
    rw [he]
    obtain ⟨X, hX⟩ : ∃ X, (Wd.setCell ⟨s0 + 1, 0, none⟩ (.bool true)).drew = X := ⟨_, rfl⟩
    have hXK : X.heap[D]? = some (.deferred (some [])) := by rw [← hX]; exact (KeepsOthers.setCell Wd ⟨s0 + 1, 0, none⟩ (.bool true)).same D _ HK.out rfl
    have hXc : X.cell? ⟨s0 + 1, 0, none⟩ = some (.bool true) := by rw [← hX]; exact World.cell?_setCell_same' Wd ⟨s0 + 1, 0, none⟩ (.bool true) (by rw [c2]; rfl)
    have hXb : Below s0 w X := by rw [← hX]; exact (HB.out.setCell (p := ⟨s0 + 1, 0, none⟩) (by show s0 ≤ s0 + 1; omega) _).drew
    rw [hX]
    clear hX he HB HK c1 c2 c3 c4 c5 c6 c7 c8
    go_wp2
    refine ⟨by simp, .inl ⟨_, _, rfl, run_takeDeferred hXK, ?_⟩⟩
    have hc5 := cell_kept hXc (grownBy_putObj' _ D (.deferred none)) (fun r e => by cases e; exact ⟨_, hXK, rfl⟩)
    exact ⟨.bool true, by simp [results, Tryd.f9, go_sem, hc5], rfl, by rw [hs0]; exact hXb.trans (below_put _ _ (by omega))⟩
  case stop =>
    rintro D c pre x post Wd hD hall ⟨rfl, hR, hle, hb⟩ hK
    have h2k0 : lf + 1 ≤ 2 ^ k := by
      have := congrArg List.length hall
      rw [allS_length] at this
      simp at this hle
      omega
    rw [hle] at hR
    obtain ⟨c1, c2, c3, c4, c5, c6, c7, c8⟩ := hR
    have HB := Lib.hid hb
    have HK := Lib.hid hK
    clear hb hK hall hle
    gi_wp2_with fail
    go_wp2_with fail
    go_region
    have h2k : ((2 : Int) ^ k) = ((2 ^ k : Nat) : Int) := (W.cast_pow k).symm
    have he : ((lf : Int) + 1 == min ((2 : Int) ^ k) ((lf : Int) + 1)) = true := by
      rw [h2k]
      obtain ⟨q, hq⟩ : ∃ q : Nat, 2 ^ k = q := ⟨_, rfl⟩
      rw [hq] at h2k0
      rw [hq, beq_iff_eq]
      omega
    rw [he]
    obtain ⟨X, hX⟩ : ∃ X, (Wd.setCell ⟨s0 + 1, 0, none⟩ (.bool true)).drew = X := ⟨_, rfl⟩
    have hXK : X.heap[D]? = some (.deferred (some [])) := by rw [← hX]; exact (KeepsOthers.setCell Wd ⟨s0 + 1, 0, none⟩ (.bool true)).same D _ HK.out rfl
    have hXc : X.cell? ⟨s0 + 1, 0, none⟩ = some (.bool true) := by rw [← hX]; exact World.cell?_setCell_same' Wd ⟨s0 + 1, 0, none⟩ (.bool true) (by rw [c2]; rfl)
    have hXb : Below s0 w X := by rw [← hX]; exact (HB.out.setCell (p := ⟨s0 + 1, 0, none⟩) (by show s0 ≤ s0 + 1; omega) _).drew
    rw [hX]
    clear hX he HB HK c1 c2 c3 c4 c5 c6 c7 c8
    go_wp2
    refine ⟨by simp, .inl ⟨_, _, rfl, run_takeDeferred hXK, ?_⟩⟩
    have hc5 := cell_kept hXc (grownBy_putObj' _ D (.deferred none)) (fun r e => by cases e; exact ⟨_, hXK, rfl⟩)
    exact ⟨.bool true, by simp [results, Tryd.f9, go_sem, hc5], rfl, by rw [hs0]; exact hXb.trans (below_put _ _ (by omega))⟩
set_option maxRecDepth 100000 in
theorem lifted (os : Os) (started : os.Started) (H : Type) (enc : TypeId × Value → H) :
    ReturnsInHanded {} Tryd.checked os 9 .any (fun w args => (Rows.bitsRiseSpec.pre enc Tryd.prog Tryd.f9 Rows.bitsRiseRow.domain false w args ∧ laidMetH Tryd.prog Rows.bitsRiseRow.laid w) ∧ sizedMet enc Tryd.prog Tryd.f9 (OpenSpec.ofChange Rows.bitsRiseSpec) false w args) (Rows.bitsRiseSpec.post enc Tryd.prog Tryd.f9 false true false false) := by
  refine returnsInHanded_of_change_and (C := Tryd.checked) (X := fun w _ => laidMetH Tryd.prog Rows.bitsRiseRow.laid w) (fun _ _ _ hh h => h.of_heap hh) own started (by kernel_rfl) Tryd.func9
    (ChangeSpec.witness_shaped (enc := enc) (C := Tryd.checked) (os := os) (X := fun w _ => laidMetH Tryd.prog Rows.bitsRiseRow.laid w) false (World.laidAll Tryd.prog os Rows.bitsRiseRow.laid) #[.int .u8 0, .int .u16 0] 8 (World.laidAll_os _ _ _)
      (World.shaped_of_ZipB (by kernel_rfl) (by kernel_rfl)) (by kernel_rfl) (by kernel_rfl) (by kernel_rfl)
      (by rw [MakeChecks.laidMetH_plain _ _ _ (by kernel_rfl)]; exact laidMet_laidAll _ (by kernel_rfl) (by kernel_rfl))) ?_
  intro W base args ds gs before hval0 hW hcnd _ _ _
  have hval : ∀ (j : Nat) t v, Tryd.f9.params[j]? = some t → args[j]? = some v → Value.okWide Tryd.prog W .any base t v := hval0
  have hW' := hW
  obtain ⟨p, q, hA0, hV, hpq, hfz, hnd⟩ := hW
  have hA : DataW.TrodAll enc Tryd.prog W 0 (fun _ => true) true Tryd.f9.params.toList args.toList ds p := hA0
  rw [Tryd.params9] at hA hval
  obtain ⟨v0, vs0, d0, ds0, p0, q0, hargs, rfl, rfl, h0, r0⟩ := trodAll_cons hA
  obtain ⟨v1, vs1, d1, ds1, p1, q1, rfl, rfl, rfl, h1, r1⟩ := trodAll_cons r0
  obtain ⟨rfl, rfl, rfl⟩ := trodAll_nil r1
  obtain rfl : args = #[v0, v1] := by cases args; simp_all
  obtain ⟨rfl, rfl⟩ := trodVars_none hV
  obtain ⟨a0, rfl, rfl, rfl, w0⟩ := open_int Tryd.underlying5 (hval 0 5 v0 rfl rfl) h0
  obtain ⟨a1, rfl, rfl, rfl, w1⟩ := open_int Tryd.underlying37 (hval 1 37 v1 rfl rfl) h1
  refine (walk W a0 w0 a1 w1).mono fun e W' ⟨he, hb⟩ => ?_
  subst he
  exact ⟨_, rfl, Frame.close laidOut hW' rfl rfl rfl Tryd.underlying4 (fun t ht => by rw [Tryd.params9] at ht; simp at ht; rcases ht with rfl | rfl <;> exact ⟨by kernel_rfl, of_decide_eq_true (by kernel_rfl)⟩) hb⟩
theorem over : Rows.bitsRiseRow.holds Tryd.pinned (OpenSpec.ofChange Rows.bitsRiseSpec) :=
  OpenClaim.holds_of_wide 9 Tryd.f9 rfl rfl rfl rfl rfl rfl rfl ⟨rfl, rfl, rfl, rfl, rfl⟩ rfl rfl rfl rfl rfl (by kernel_rfl) Tryd.func9 (by kernel_rfl)
    (of_decide_eq_true (by kernel_rfl)) (by unfold Func.isWrapper; first | (rw [if_pos (by decide +kernel)]; kernel_rfl) | (rw [if_neg (by decide +kernel)]; exact ⟨rfl, rfl⟩))
    (fun os started H enc _ => lifted os started H enc)
/-- the statement -/
theorem proved : Rows.BitsRiseCardSaid :=
  Claim7.holds_tied_plain_at .later [] _ _ _ _ over (fun _ h => by cases h) (by kernel_rfl) (fun _ h => by cases h) bitsRise_row_tie rfl ⟨rfl, rfl⟩ (by kernel_rfl) rfl
    (fun f fn hf hfn => by
      obtain rfl : f = 9 := Option.some.inj ((show Tryd.prog.funcNamed "tombola/tombolalaw07.BitsRise" = some 9 by kernel_rfl).symm.trans hf) |>.symm
      obtain rfl : fn = Tryd.f9 := (Option.some.inj (Tryd.func9.symm.trans hfn)).symm
      exact ⟨by kernel_rfl, (fun j t ht => by
        rw [Tryd.params9] at ht
        have hm : t ∈ [5, 37] := by simpa using Array.mem_of_getElem? ht
        have hall : ([5, 37].all fun u => !Tryd.prog.wantsStandIn u) = true := by kernel_rfl
        exact (show Tryd.prog.wantsStandIn t = false by simpa using List.all_eq_true.1 hall t hm))⟩)
    (by kernel_rfl)
#print axioms proved
end Go.Proofs.YtcpkkceoobioiaaDoor.bitsRise
