/- What the program's cutLow of layer 11 answers over this translation. -/
import Derived.Test.YtfdpddlefobcpaaAliSplit
namespace Go.Proofs.Ytfdpddlefobcpaa
open Go.RowKit Go.Shelf
set_option linter.unusedVariables false
set_option linter.unusedSimpArgs false
set_option maxRecDepth 20000
open N
def lenV : Value → Nat
  | .slice _ n _ => n
  | _ => 0
/-- the blocks of a table at work -/
structure CtX (B : Nat) (w : World) (t g1 g2 gh b n m : Nat) (W : Int) (h c : Nat → Int) (o : Nat → Nat) (f : Nat → Int) (wr : World) : Prop where
  bl : Below B w wr
  al : AlOk wr t g1 g2 n W c o
  hh : BlkOk wr (CU gh n h)
  bo : BlkOk wr (BO b m f)
  ge : B ≤ g1 ∧ B ≤ g2 ∧ B ≤ gh ∧ B ≤ b ∧ B ≤ wr.heap.size
  ne : gh ≠ g1 ∧ b ≠ g2
section
variable {B : Nat} {w wr w' : World} {t g1 g2 gh b n m k y : Nat} {W x : Int} {h c f : Nat → Int} {o : Nat → Nat}
theorem CtX.on (H : CtX B w t g1 g2 gh b n m W h c o f wr) (hb : Below wr.heap.size wr w') : CtX B w t g1 g2 gh b n m W h c o f w' :=
  ⟨H.bl.trans (hb.mono H.ge.2.2.2.2), H.al.on hb, H.hh.on hb, H.bo.on hb, ⟨H.ge.1, H.ge.2.1, H.ge.2.2.1, H.ge.2.2.2.1, Nat.le_trans H.ge.2.2.2.2 hb.size⟩, H.ne⟩
theorem CtX.drew (H : CtX B w t g1 g2 gh b n m W h c o f wr) : CtX B w t g1 g2 gh b n m W h c o f wr.drew := H.on ⟨rfl, rfl, rfl, Nat.le_refl _, fun _ _ => rfl⟩
theorem CtX.nes (H : CtX B w t g1 g2 gh b n m W h c o f wr) : t ≠ gh ∧ gh ≠ g2 ∧ b ≠ g1 ∧ b ≠ gh :=
  ⟨blk_ne H.al.tb H.hh (show 60 ≠ 2 by decide), blk_ne H.hh H.al.ot (show 2 ≠ 3 by decide), blk_ne H.bo H.al.cu (show 3 ≠ 2 by decide), blk_ne H.bo H.hh (show 3 ≠ 2 by decide)⟩
theorem CtX.put2 (H : CtX B w t g1 g2 gh b n m W h c o f wr) (k : Nat) (x : Int) (y : Nat) : CtX B w t g1 g2 gh b n m W h (up c k x) (up o k y) f ((wr.setCell ⟨g1, k, none⟩ (.int .i64 x)).setCell ⟨g2, k, none⟩ (.int .i64 (y : Int))) := by
  obtain ⟨n1, n2, n3, n4⟩ := H.nes
  exact ⟨(H.bl.setCell (p := ⟨g1, k, none⟩) H.ge.1 _).setCell (p := ⟨g2, k, none⟩) H.ge.2.1 _, H.al.put k x y, (H.hh.far (p := ⟨g1, k, none⟩) H.ne.1 _).far (p := ⟨g2, k, none⟩) n2 _, (H.bo.far (p := ⟨g1, k, none⟩) n3 _).far (p := ⟨g2, k, none⟩) H.ne.2 _, by simpa [World.setCell] using H.ge, H.ne⟩
theorem CtX.puth (H : CtX B w t g1 g2 gh b n m W h c o f wr) (k : Nat) (x : Int) : CtX B w t g1 g2 gh b n m W (up h k x) c o f (wr.setCell ⟨gh, k, none⟩ (.int .i64 x)) := by
  obtain ⟨n1, n2, n3, n4⟩ := H.nes
  exact ⟨H.bl.setCell (p := ⟨gh, k, none⟩) H.ge.2.2.1 _, ⟨H.al.tb.far (p := ⟨gh, k, none⟩) n1 _, H.al.cu.far (p := ⟨gh, k, none⟩) (Ne.symm H.ne.1) _, H.al.ot.far (p := ⟨gh, k, none⟩) (Ne.symm n2) _⟩, CU.set H.hh k x, H.bo.far (p := ⟨gh, k, none⟩) n4 _, by simpa [World.setCell] using H.ge, H.ne⟩
theorem CtX.putb (H : CtX B w t g1 g2 gh b n m W h c o f wr) (k : Nat) (x : Int) : CtX B w t g1 g2 gh b n m W h c o (up f k x) (wr.setCell ⟨b, k, none⟩ (.int .i64 x)) := by
  obtain ⟨n1, n2, n3, n4⟩ := H.nes
  have n5 : t ≠ b := blk_ne H.al.tb H.bo (show 60 ≠ 3 by decide)
  exact ⟨H.bl.setCell (p := ⟨b, k, none⟩) H.ge.2.2.2.1 _, ⟨H.al.tb.far (p := ⟨b, k, none⟩) n5 _, H.al.cu.far (p := ⟨b, k, none⟩) (Ne.symm n3) _, H.al.ot.far (p := ⟨b, k, none⟩) (Ne.symm H.ne.2) _⟩, H.hh.far (p := ⟨b, k, none⟩) (Ne.symm n4) _, BO.set H.bo k x, by simpa [World.setCell] using H.ge, H.ne⟩
theorem CtX.at_h (H : CtX B w t g1 g2 gh b n m W h c o f wr) (hk : k < n) (hx : h k = x) : wr.cell? ⟨gh, k, none⟩ = some (.int .i64 x) := by rw [← hx]; exact BlkOk.cell H.hh (row_get hk)
theorem CtX.at_b (H : CtX B w t g1 g2 gh b n m W h c o f wr) (hk : k < m) (hx : f k = x) : wr.cell? ⟨b, k, none⟩ = some (.int .i64 x) := by rw [← hx]; exact BlkOk.cell H.bo (row_get hk)
/-- what the stores of a place ask -/
def CtS (t g1 g2 gh n l : Nat) (x : Int) (wr : World) : Prop := wr.cell? ⟨t, 1, none⟩ = some (.slice (some ⟨g1, 0, none⟩) n n) ∧ wr.cell? ⟨t, 2, none⟩ = some (.slice (some ⟨g2, 0, none⟩) n n) ∧ wr.cell? ⟨gh, l, none⟩ = some (.int .i64 x)
theorem CtX.s0 (H : CtX B w t g1 g2 gh b n m W h c o f wr) {l : Nat} (hl : l < n) {x : Int} (hx : h l = x) : CtS t g1 g2 gh n l x wr := ⟨H.al.c12.1, H.al.c12.2, H.at_h hl hx⟩
theorem CtX.s1 (H : CtX B w t g1 g2 gh b n m W h c o f wr) {l : Nat} (hl : l < n) {x : Int} (hx : h l = x) (v : Value) : CtS t g1 g2 gh n l x (wr.setCell ⟨g1, l, none⟩ v) := by
  have h1 := TA.c12 (H.al.tb1 l v)
  refine ⟨h1.1, h1.2, ?_⟩
  rw [← hx]
  exact BlkOk.cell (H.hh.far (p := ⟨g1, l, none⟩) H.ne.1 v) (row_get hl)
end
/-- cutLow at work -/
structure CtC (B : Nat) (w : World) (t g1 g2 gh b n : Nat) (W : Int) (q : Nat → Int) (R z : Al) (wr : World) : Prop where
  x : ∃ f, CtX B w t g1 g2 gh b n (2 * n) W z.h z.c z.o f wr ∧ Stk f 0 z.lo ∧ Stk f n z.hi
  inv : AlInv W n q z
  len : z.lo.length + z.hi.length ≤ n
  fin : runA W (z.lo.length + z.hi.length) z = R
theorem AlInv.len2 {W : Int} {n : Nat} {q : Nat → Int} {s : Al} (I : AlInv W n q s) (hl : s.lo.length + s.hi.length ≤ n) (hn : 0 < n) : s.lo.length ≤ n ∧ s.hi.length ≤ n := by omega
set_option maxHeartbeats 4000000 in
theorem cutLow_any {w : World} {B t g1 g2 gh n : Nat} {W : Int} {q : Nat → Int} {s : Al} (hT : AlOk w t g1 g2 n W s.c s.o) (hh : BlkOk w (CU gh n s.h)) (hne : gh ≠ g1) (I : AlInv W n q s) (hq : ∀ j, j < n → q j ≤ 67108864) (hW : 0 < W ∧ W ≤ 67108864) (hn : 0 < n ∧ n ≤ 64) (hlo : s.lo = lows s.h W n) (hhi : s.hi = highs s.h W n) (hg : B ≤ g1 ∧ B ≤ g2 ∧ B ≤ gh ∧ B ≤ w.heap.size) :
    Calls Try.prog 21 #[.pointer (some ⟨t, 0, none⟩), .slice (some ⟨gh, 0, none⟩) n n] w fun e w' => e = .returned (.tuple #[]) ∧ AlOk w' t g1 g2 n W (runA W n s).c (runA W n s).o ∧ Below B w w' := by
  have hc0 := hT.cs.1
  have HSP := Lib.hid (split_any (W := W) hh hn.1 hn.2)
  have HST := Lib.hid (fun (b : Nat) (W1 : World) (h : SpC w b n (2 * n) s.h W n W1) => show CtC B w t g1 g2 gh b n W q (runA W n s) s W1 from by
    obtain ⟨f, h1, h2, h3⟩ := h.bo
    have hl : s.lo.length + s.hi.length = n := by rw [hlo, hhi]; exact lows_len
    refine ⟨⟨f, ⟨h.bl.mono hg.2.2.2, hT.on h.bl, hh.on h.bl, h1, ⟨hg.1, hg.2.1, hg.2.2.1, Nat.le_trans hg.2.2.2 h.ge, Nat.le_trans hg.2.2.2 h.bl.size⟩, hne, fun e => ?_⟩, by rw [hlo]; exact h2, by rw [hhi]; exact h3⟩, I, by omega, by rw [hl]⟩
    have h4 := BlkOk.lt hT.ot
    have h5 := h.ge
    simp only [OT] at h4
    omega)
  have HLO := Lib.hid hlo
  have HHI := Lib.hid hhi
  have HQ := Lib.hid hq
  have HN := Lib.hid hn
  have HW := Lib.hid hW
  clear hT hh hne I hq hlo hhi hn hg
  go_enter Try.func21, Try.ntmps21
  go_wp2_with (go_at_call 36; refine HSP.out.mono ?_; rintro e w1 ⟨b, rfl, hS⟩; have HS := Lib.hid (HST.out b w1 hS); clear hS)
  rw [← HLO.out, ← HHI.out]
  clear hc0 HSP HST
  go_loopw [4, 5] (fun lo hi wr => ∃ z : Al, lo = .slice (some ⟨b, 0, none⟩) z.lo.length n ∧ hi = .slice (some ⟨b, n, none⟩) z.hi.length n ∧ CtC B w t g1 g2 gh b n W q (runA W n s) z wr) (fun lo hi _ => lenV lo + lenV hi)
  case atStart => exact ⟨s, rfl, rfl, HS.out⟩
  case round =>
    obtain ⟨z, rfl, rfl, hc⟩ := hrel
    clear HS
    have HC := Lib.hid hc
    clear hc
    rcases e1 : z.lo with _ | ⟨l, lo⟩
    · go_wp2
      go_end0
      have hf := HC.out.fin
      rw [runA_end (.inl e1)] at hf
      obtain ⟨f, hx, _⟩ := HC.out.x
      exact ⟨rfl, by rw [← hf]; exact hx.al, hx.bl⟩
    rcases e2 : z.hi with _ | ⟨d, hi⟩
    · obtain ⟨P, hP⟩ : ∃ P, (l :: lo).length = P := ⟨_, rfl⟩
      have hP0 : (0 : Int) < (P : Int) := by rw [← hP, List.length_cons]; omega
      rw [hP]
      clear hP
      go_wp2
      go_end0
      have hf := HC.out.fin
      rw [runA_end (.inr e2)] at hf
      obtain ⟨f, hx, _⟩ := HC.out.x
      exact ⟨rfl, by rw [← hf]; exact hx.al, hx.bl⟩
    obtain ⟨f, hx, hs1, hs2⟩ := HC.out.x
    have I := HC.out.inv
    have hlen := HC.out.len
    have hfin := HC.out.fin
    rw [e1, e2, List.length_cons, List.length_cons] at hlen hfin
    obtain ⟨m1, m2, m3, m4, m5⟩ := I.ne e1 e2
    obtain ⟨l0, l1⟩ := I.low l (by rw [e1]; exact List.mem_cons_self)
    obtain ⟨d0, d1⟩ := I.high d (by rw [e2]; exact List.mem_cons_self)
    have hln := (I.lt l (by rw [e1]; exact List.mem_append_left _ List.mem_cons_self)).1
    have hdn := (I.lt d (by rw [e2]; exact List.mem_append_right _ List.mem_cons_self)).1
    have hqd := HQ.out d hdn
    have hw9 := HW.out
    have hn9 := HN.out
    rw [e1] at hs1
    rw [e2] at hs2
    have ht1 := hs1.top
    have ht2 := hs2.top
    rw [Nat.zero_add] at ht1
    obtain ⟨p, hp⟩ : ∃ p, lo.length = p := ⟨_, rfl⟩
    obtain ⟨p', hp'⟩ : ∃ p, hi.length = p := ⟨_, rfl⟩
    obtain ⟨P, hP⟩ : ∃ P, p + 1 = P := ⟨_, rfl⟩
    obtain ⟨P', hP'⟩ : ∃ P, p' + 1 = P := ⟨_, rfl⟩
    obtain ⟨x, hxl⟩ : ∃ x, z.h l = x := ⟨_, rfl⟩
    obtain ⟨y, hyd⟩ : ∃ y, z.h d = y := ⟨_, rfl⟩
    obtain ⟨g, hgv⟩ : ∃ g, y - (W - x) = g := ⟨_, rfl⟩
    obtain ⟨m, hm⟩ : ∃ m, 2 * n = m := ⟨_, rfl⟩
    rw [List.length_cons, List.length_cons, hp, hp', hP, hP']
    rw [hp, hp'] at hlen hfin
    rw [hp] at ht1
    rw [hp'] at ht2
    rw [hxl] at l0 l1
    rw [hyd] at d0 d1
    rw [hm] at hx
    have hcut : z.cut W l d lo hi = if g < W then ⟨up z.h d g, up z.c l x, up z.o l d, d :: lo, hi⟩ else ⟨up z.h d g, up z.c l x, up z.o l d, lo, d :: hi⟩ := by unfold Al.cut; rw [hxl, hyd, hgv]
    have hfin2 : runA W (p + p' + 1) (z.cut W l d lo hi) = runA W n s := by rw [← hfin, show p + 1 + (p' + 1) = p + p' + 1 + 1 by omega, runA_step e1 e2]
    have hI2 := I.cut e1 e2
    rw [hcut] at hfin2 hI2
    -- what the walk knows
    have HX0 := Lib.hid hx
    have HFIN := Lib.hid hfin2
    have HINV := Lib.hid hI2
    have HS1 := Lib.hid hs1
    have HS2 := Lib.hid hs2
    have HPL := Lib.hid (show lo.length = p ∧ hi.length = p' ∧ p + 1 = P ∧ p' + 1 = P' ∧ 2 * n = m ∧ p + 1 + (p' + 1) ≤ n from ⟨hp, hp', hP, hP', hm, hlen⟩)
    have HXL := Lib.hid hxl
    have HYD := Lib.hid hyd
    have HLN := Lib.hid (show l < n ∧ d < n ∧ l ≠ d from ⟨hln, hdn, m1⟩)
    have k1 := hx.al.c12
    obtain ⟨k2, k3⟩ := k1
    have k4 := hx.at_b (k := p) (by omega) ht1
    have k5 := hx.at_b (k := n + p') (by omega) ht2
    have k6 := hx.at_h hln hxl
    have hP0 : (0 : Int) < (P : Int) := by omega
    have hP0' : (0 : Int) < (P' : Int) := by omega
    have hwp : IntKind.i64.wrap ((P : Int) - 1) = (p : Int) := by rw [IntKind.wrap_i64]; omega
    have hwp' : IntKind.i64.wrap ((P' : Int) - 1) = (p' : Int) := by rw [IntKind.wrap_i64]; omega
    have i1 : (0 : Int) ≤ (p : Int) := by omega
    have i2 : (p : Int) < (P : Int) := by omega
    have i3 : (0 : Int) ≤ (p' : Int) := by omega
    have i4 : (p' : Int) < (P' : Int) := by omega
    have i5 : (p : Int) ≤ (n : Int) := by omega
    have i6 : (p' : Int) ≤ (n : Int) := by omega
    have i7 : (0 : Int) ≤ (l : Int) := by omega
    have i8 : (l : Int) < (n : Int) := by omega
    have i9 : (0 : Int) ≤ (d : Int) := by omega
    have i10 : (d : Int) < (n : Int) := by omega
    have hwx : IntKind.i64.wrap (W - x) = W - x := by rw [IntKind.wrap_i64]; omega
    have hwg : IntKind.i64.wrap (y - (W - x)) = g := by rw [hgv, IntKind.wrap_i64]; omega
    clear hx hs1 hs2 I hlen hfin m1 m2 m3 m4 m5 l0 l1 d0 d1 hln hdn hqd hw9 hn9 ht1 ht2 hp hp' hP hP' hxl hyd hgv hm hcut hfin2 hI2 e1 e2 HC
    go_wp2_with fail
    go_region_held3 (fun W' => W'.cell? ⟨b, p, none⟩ = some (.int .i64 (l : Int)) ∧ W'.cell? ⟨b, n + p', none⟩ = some (.int .i64 (d : Int))) (exact ⟨k4, k5⟩) (fail)
    go_wp2_with fail
    have f1 : wr.frozen? ⟨g1, l, none⟩ = false := BlkOk.fr HX0.out.al.cu l
    have f2 : wr.frozen? ⟨g2, l, none⟩ = false := BlkOk.fr HX0.out.al.ot l
    have v1 := HX0.out.al.cut HLN.out.1 rfl
    have v2 := HX0.out.al.oth HLN.out.1 rfl
    have hn3 := HX0.out.al.ne.2.2
    go_region_held3 (fun W' => W'.cell? ⟨t, 1, none⟩ = some (.slice (some ⟨g1, 0, none⟩) n n) ∧ W'.cell? ⟨t, 2, none⟩ = some (.slice (some ⟨g2, 0, none⟩) n n) ∧ W'.cell? ⟨gh, l, none⟩ = some (.int .i64 x)) (first | exact ⟨k2, k3, k6⟩ | exact HX0.out.drew.drew.s1 HLN.out.1 HXL.out _ | exact (HX0.out.drew.drew.put2 l x d).s0 HLN.out.1 HXL.out) (fail)
    generalize hw1 : World.setCell _ _ _ = w1
    have HX1 := Lib.hid (show CtX B w t g1 g2 gh b n m W z.h (up z.c l x) (up z.o l d) f w1 by rw [← hw1]; exact HX0.out.put2 l x d)
    clear hw1 f1 f2 v1 v2 hn3 k2 k3 k4 k5 k6 HX0
    have j1 := HX1.out.al.cs.1
    have j2 := HX1.out.at_h HLN.out.2.1 HYD.out
    have j3 := HX1.out.at_h HLN.out.1 HXL.out
    have j4 : w1.frozen? ⟨gh, d, none⟩ = false := BlkOk.fr HX1.out.hh d
    go_wp2_with fail
    go_region
    generalize hw2 : World.drew _ = w2
    have HX2 := Lib.hid (show CtX B w t g1 g2 gh b n m W (up z.h d g) (up z.c l x) (up z.o l d) f w2 by rw [← hw2]; exact (HX1.out.puth d g).drew.drew.drew)
    clear hw2 j1 j2 j3 j4 HX1 hwx hwg
    have j1 := HX2.out.al.cs.1
    have j2 := HX2.out.at_h HLN.out.2.1 up_at
    go_wp2_with fail
    go_region
    have HXD := Lib.hid (HX2.out.drew)
    have HF := Lib.hid ((HX2.out.on ((Below.refl _ w2).alloc (Nat.le_refl _) (.cells #[.int .i64 (d : Int)] 3))).drew)
    have HY := Lib.hid (show BlkOk (w2.alloc (.cells #[.int .i64 (d : Int)] 3)).drew ⟨w2.heap.size, [.int .i64 (d : Int)], 3⟩ from heap_alloc_new w2 _)
    have HPB := Lib.hid (((HX2.out.on ((Below.refl _ w2).alloc (Nat.le_refl _) (.cells #[.int .i64 (d : Int)] 3))).putb p (d : Int)).drew)
    have HRM := Lib.hid (show p + 1 ≤ n ∧ 0 + p < m by have := HPL.out; omega)
    by_cases hgw : g < W
    · have HI2 := HINV.out
      have HFI := HFIN.out
      rw [if_pos hgw] at HI2 HFI
      have HI3 := Lib.hid HI2
      have HFI3 := Lib.hid HFI
      clear HI2 HFI
      go_wp2_with (at_builtin; refine wp_app11 rfl _ _ rfl (by rfl) (by rfl) HF.out.bo HY.out HRM.out.1 HRM.out.2 ?_)
      go_roundw
      case rel =>
        obtain ⟨q1, q2, q3, q4, q5, q6⟩ := HPL.out
        refine ⟨⟨up z.h d g, up z.c l x, up z.o l d, d :: lo, hi⟩, by simp only [List.length_cons, q1], by simp only [q2], ⟨up f p (d : Int), by rw [q5]; exact HPB.out, ?_, ?_⟩, HI3.out, ?_, ?_⟩
        · have h1 := HS1.out.pop.push d
          rwa [q1, Nat.zero_add] at h1
        · exact HS2.out.pop.far (.inl (by omega))
        · simp only [List.length_cons, q1, q2]; omega
        · simp only [List.length_cons, q1, q2]
          rw [← HFI3.out]
          congr 1; omega
      case measure =>
        have := HPL.out
        simp only [lenV]
        omega
    · have HI2 := HINV.out
      have HFI := HFIN.out
      rw [if_neg hgw] at HI2 HFI
      have HI3 := Lib.hid HI2
      have HFI3 := Lib.hid HFI
      clear HI2 HFI
      go_wp2
      go_roundw
      case rel =>
        obtain ⟨q1, q2, q3, q4, q5, q6⟩ := HPL.out
        refine ⟨⟨up z.h d g, up z.c l x, up z.o l d, lo, d :: hi⟩, by simp only [q1], by simp only [List.length_cons, q2, q4], ⟨f, by rw [q5]; exact HXD.out, HS1.out.pop, HS2.out⟩, HI3.out, ?_, ?_⟩
        · simp only [List.length_cons, q1, q2]; omega
        · simp only [List.length_cons, q1, q2]
          rw [← HFI3.out]
          congr 1
      case measure =>
        have := HPL.out
        simp only [lenV]
        omega
end Go.Proofs.Ytfdpddlefobcpaa
