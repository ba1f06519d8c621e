/- Shares added up, and how often each place is picked: Same, Add, Over over states; the row of hits. -/
import Derived.Test.YtolfjhfmcgibbaaGreatDoorFreState
import Derived.Test.YtolfjhfmcgibbaaGreatDoorRatD
namespace Go.Proofs.YtolfjhfmcgibbaaGreatDoor
open Go.RowKit
set_option linter.unusedVariables false
set_option linter.unusedSimpArgs false
set_option maxRecDepth 20000
open N
namespace N
/-- how often a place is picked by the numbers below r -/
def hitF (ws : List Int) (r : Int) (i : Nat) : Int := if r ≤ pre ws i then 0 else if r < pre ws (i + 1) then r - pre ws i else pre ws (i + 1) - pre ws i
theorem hitF_zero {ws : List Int} (h : okW ws) (i : Nat) : hitF ws 0 i = 0 := by
  have := (pre_le h i).1
  unfold hitF
  rw [if_pos this]
theorem hitF_step {ws : List Int} {r : Int} {p : Nat} (h : okW ws) (hp : Pk ws r p) (i : Nat) : hitF ws (r + 1) i = if i = p then hitF ws r p + 1 else hitF ws r i := by
  obtain ⟨_, p1, p2⟩ := hp
  by_cases e : i = p
  · subst e
    rw [if_pos rfl]
    unfold hitF
    (repeat' split) <;> omega
  · rw [if_neg e]
    have hs := pre_step h i
    rcases Nat.lt_or_ge i p with h1 | h1
    · have := pre_mono h (show i + 1 ≤ p by omega)
      unfold hitF
      (repeat' split) <;> omega
    · have := pre_mono h (show p + 1 ≤ i by omega)
      unfold hitF
      (repeat' split) <;> omega
theorem hitF_end {ws : List Int} {x : Int} {i : Nat} (h : okW ws) (hx : ws[i]? = some x) : hitF ws (pre ws ws.length) i = x := by
  have hi := (List.getElem?_eq_some_iff.1 hx).1
  have h1 := pre_succ hx
  have h2 := pre_mono h (show i + 1 ≤ ws.length by omega)
  have h3 := (h x (List.mem_of_getElem? hx)).1
  unfold hitF
  (repeat' split) <;> omega
theorem hitF_le {ws : List Int} (h : okW ws) (r : Int) (i : Nat) (hr : 0 ≤ r) : 0 ≤ hitF ws r i ∧ hitF ws r i ≤ 1048576 := by
  have hs := pre_step h i
  unfold hitF
  (repeat' split) <;> omega
theorem share_add {x y d : Nat} (hd : 0 < d) : mkRat (x : Int) d + mkRat (y : Int) d = mkRat ((x : Int) + y) d := by
  have h1 : ((d : Nat) : Rat) ≠ 0 := by
    have : (d : Rat) ≠ ((0 : Nat) : Rat) := by simp; omega
    simpa using this
  simp only [Rat.mkRat_eq_div, Rat.intCast_add, Rat.intCast_natCast]
  grind
theorem share_all {d : Nat} (hd : 0 < d) : mkRat (d : Int) d = 1 := by
  have h1 : ((d : Nat) : Rat) ≠ 0 := by
    have : (d : Rat) ≠ ((0 : Nat) : Rat) := by simp; omega
    simpa using this
  simp only [Rat.mkRat_eq_div, Rat.intCast_natCast]
  grind
theorem share_rb {x d : Nat} (hx : x ≤ 3000) (h0 : 0 < d) (hd : d ≤ 3000) : RB 1 (mkRat (x : Int) d) := by
  have h9 : Q B 1 = 18446744073709551616 := by decide +kernel
  have h1 := RB.rv (b := false) (v := (x : Int)) (d := (d : Int)) (k := 1) (by omega) (by omega) (by rw [h9]; omega) (by rw [h9]; omega)
  unfold rv iv at h1
  simpa using h1
/-- the hits at work: the table, the row -/
structure HitC (w : World) (t g h n : Nat) (ws : List Int) (r : Int) (wr : World) : Prop where
  bl : Below w.heap.size w wr
  tb : TbOk wr t g ws
  en : BlkOk wr ⟨h, row n (hitF ws r), 2⟩
section
variable {w w1 wr : World} {t g h n p : Nat} {ws : List Int} {r : Int}
theorem HitC.start (hb : Below w.heap.size w w1) (hT : TbOk w1 t g ws) (hok : okW ws) (n : Nat) : HitC w t g w1.heap.size n ws 0 (w1.alloc (.cells (row n (fun _ => 0)).toArray 2)) := by
  refine ⟨hb.alloc hb.size _, hT.on ((Below.refl _ w1).alloc (Nat.le_refl _) _), ?_⟩
  have e : row n (hitF ws 0) = row n (fun _ => 0) := row_congr (fun j _ => hitF_zero hok j)
  rw [e]
  exact heap_alloc_new w1 _
theorem HitC.on (hc : HitC w t g h n ws r w1) (hb : Below w1.heap.size w1 wr) : HitC w t g h n ws r wr := ⟨hc.bl.trans (hb.mono hc.bl.size), hc.tb.on hb, hc.en.on hb⟩
theorem HitC.cell (hc : HitC w t g h n ws r w1) {j : Nat} (hj : j < n) {x : Int} (hx : hitF ws r j = x) : w1.cell? ⟨h, j, none⟩ = some (.int .i64 x) := by
  rw [← hx]; exact BlkOk.cell hc.en (row_get hj)
theorem HitC.fr (hc : HitC w t g h n ws r w1) (j : Nat) : w1.frozen? ⟨h, j, none⟩ = false := BlkOk.fr hc.en j
theorem HitC.put (hc : HitC w t g h n ws r w1) (hh : w.heap.size ≤ h) (h1 : t ≠ h) (h2 : g ≠ h) (hok : okW ws) (hp : Pk ws r p) {x : Int} (hx : hitF ws r p + 1 = x) : HitC w t g h n ws (r + 1) (w1.setCell ⟨h, p, none⟩ (.int .i64 x)) := by
  refine ⟨hc.bl.setCell (p := ⟨h, p, none⟩) hh _, ⟨BlkOk.far (p := ⟨h, p, none⟩) hc.tb.tb h1 _, BlkOk.far (p := ⟨h, p, none⟩) hc.tb.en h2 _⟩, ?_⟩
  have h3 := BlkOk.set hc.en p (.int .i64 x)
  simp only at h3
  rw [row_set] at h3
  have e : row n (hitF ws (r + 1)) = row n (fun j => if j = p then x else hitF ws r j) := row_congr (fun j _ => by rw [hitF_step hok hp j, hx])
  rw [e]
  exact h3
end
end N
section
variable {w0 v0 w w' : World} {S O : List Ent} {T : List Blk} {A A' A1 A1' : Option Addr} {n c n' c' n1 c1 n1' c1' k k' : Nat} {v : Int} {r r0 r1 : Rat} {t g : Nat} {ws : List Int}
theorem SC.narrow (h : SC w0 v0 w S T O) (h1 : (⟨A, n, c, k, limbs v, v⟩ : Ent) ∈ S) (hv : 0 ≤ v) {K : Nat} (hK : v < Q B K) : SC w0 v0 w (⟨A, n, c, K, limbs v, v⟩ :: S) T O := by
  obtain ⟨a1, a2, a3⟩ := h.get h1
  refine ⟨h.st.cons a1 (by rw [← a1.len]; exact (limbs_len_le hv K).2 hK) a3, h.bl, h.box, h.from_, h.nd, fun t ht => ?_, h.own, h.apo⟩
  rcases List.mem_cons.1 ht with e | e
  · subst e; exact h.apart ⟨A, n, c, k, limbs v, v⟩ h1
  · exact h.apart t e
theorem SC.drop10 (h : SC w0 v0 w S T O) : SC w0 v0 w S T [] := h.sub (fun t ht => ht) (List.Sublist.refl _) (fun t ht => by cases ht)
theorem fsame_10 (h : SC w0 v0 w S T O) (h1 : (⟨A, n, c, 1, limbs (mg r.num), mg r.num⟩ : Ent) ∈ S) (h2 : (⟨A', n', c', 1, limbs r.den, r.den⟩ : Ent) ∈ S) (g1 : (⟨A1, n1, c1, 1, limbs (mg r.num), mg r.num⟩ : Ent) ∈ S) (g2 : (⟨A1', n1', c1', 1, limbs r.den, r.den⟩ : Ent) ∈ S) :
    Calls Tryz.prog 33 #[.agg #[.bool (sg r.num), .slice A n c, .slice A' n' c'], .agg #[.bool (sg r.num), .slice A1 n1 c1, .slice A1' n1' c1']] w fun e w' => e = .returned (.bool true) ∧ SC w0 v0 w' S T O :=
  (fsame_any w (h.frm0 h1 h2 (Nat.le_refl _) (Nat.le_refl _) (rv_self r)) (h.frm0 g1 g2 (Nat.le_refl _) (Nat.le_refl _) (rv_self r)) (by decide) (by decide) (by decide) (by decide) (q := true) (by rw [beq_iff_eq]; exact rs_eq0.2 rfl)).mono fun e w' ⟨he, hb⟩ => ⟨he, h.below hb⟩
theorem fadd_10 (h : SC w0 v0 w S T O) (h1 : (⟨A, n, c, 1, limbs (mg r0.num), mg r0.num⟩ : Ent) ∈ S) (h2 : (⟨A', n', c', 1, limbs r0.den, r0.den⟩ : Ent) ∈ S) (g1 : (⟨A1, n1, c1, 1, limbs (mg r1.num), mg r1.num⟩ : Ent) ∈ S) (g2 : (⟨A1', n1', c1', 1, limbs r1.den, r1.den⟩ : Ent) ∈ S) (hr : r0 + r1 = r) (hb : RB 1 r) :
    Calls Tryz.prog 34 #[.agg #[.bool (sg r0.num), .slice A n c, .slice A' n' c'], .agg #[.bool (sg r1.num), .slice A1 n1 c1, .slice A1' n1' c1']] w fun e w' => ∃ A n c A' n' c', e = .returned (.agg #[.bool (sg r.num), .slice A n c, .slice A' n' c']) ∧ SC w0 v0 w' (⟨A, n, c, 1, limbs (mg r.num), mg r.num⟩ :: ⟨A', n', c', 1, limbs r.den, r.den⟩ :: S) T O := by
  subst hr
  refine (fadd_any w (h.frm0 h1 h2 (Nat.le_refl _) (Nat.le_refl _) (rv_self r0)) (h.frm0 g1 g2 (Nat.le_refl _) (Nat.le_refl _) (rv_self r1)) (by decide) (by decide)).mono ?_
  intro e w' ho
  obtain ⟨A, n, c, A', n', c', he, h3⟩ := h.rR (Nat.le_refl _) ho
  refine ⟨A, n, c, A', n', c', he, ?_⟩
  have h4 := h3.narrow (List.mem_cons_of_mem _ List.mem_cons_self) (Int.le_of_lt (rden_pos _)) hb.2
  have h5 := h4.narrow (List.mem_cons_of_mem _ List.mem_cons_self) (mg_nn _) hb.1
  exact h5.sub (fun t ht => by
    rcases List.mem_cons.1 ht with e | e
    · rw [e]; exact List.mem_cons_self
    · rcases List.mem_cons.1 e with e | e
      · rw [e]; exact List.mem_cons_of_mem _ List.mem_cons_self
      · exact List.mem_cons_of_mem _ (List.mem_cons_of_mem _ (List.mem_cons_of_mem _ (List.mem_cons_of_mem _ e)))) (List.Sublist.refl _) (fun t ht => List.mem_cons_of_mem _ (List.mem_cons_of_mem _ ht))
theorem tsum_c (h : SC w0 v0 w S T O) (hT : TbOk v0 t g ws) (hm : ws.length ≤ 64) {s : Int} (hs : pre ws ws.length = s) :
    Calls Tryz.prog 19 #[.pointer (some ⟨t, 0, none⟩)] w fun e w' => e = .returned (.int .i64 s) ∧ SC w0 v0 w' S T O := by
  refine (tsum_any (hT.on h.bl) hm hs).mono ?_
  rintro e w' ⟨rfl, rfl⟩
  exact ⟨rfl, h⟩
theorem fover_c10 (h : SC w0 v0 w S T O) {x y : Int} (hx1 : -9223372036854775808 ≤ x) (hx2 : x ≤ 9223372036854775807) (hy1 : -9223372036854775808 ≤ y) (hy2 : y ≤ 9223372036854775807) (hy : 0 < y) (hr : mkRat x y.toNat = r) :
    Calls Tryz.prog 32 #[.int .i64 x, .int .i64 y] w fun e w' => ∃ A n c A' n' c', e = .returned (.tuple #[.agg #[.bool (sg r.num), .slice A n c, .slice A' n' c'], .int .i64 0]) ∧
      SC w0 v0 w' (⟨A, n, c, 1, limbs (mg r.num), mg r.num⟩ :: ⟨A', n', c', 1, limbs r.den, r.den⟩ :: S) T (⟨A, n, c, 1, limbs (mg r.num), mg r.num⟩ :: ⟨A', n', c', 1, limbs r.den, r.den⟩ :: O) :=
  (fover_pos w hx1 hx2 hy1 hy2 hy hr).mono fun e w' ho => h.rRE (Nat.le_refl _) ho
end
end Go.Proofs.YtolfjhfmcgibbaaGreatDoor
