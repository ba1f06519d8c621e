/- The calls of the lower layers at hand over a state SC; what a fraction's call tells. -/
import Derived.Test.YtfdpddlefobcpaaGreatDoorRatState
namespace Go.Proofs.YtfdpddlefobcpaaGreatDoor
open Go.RowKit
set_option linter.unusedVariables false
set_option maxRecDepth 20000
open N
open Go.Lib (decDigits nDigits decDigits_length nDigits_pos)
namespace N
/-- what a call tells that makes a fraction, in memory of its own; m: how many limbs each part has at most -/
def OutR (W : World) (m : Nat) (r : Rat) (e : Ending) (w' : World) : Prop :=
  ∃ A n c A' n' c', e = .returned (.agg #[.bool (sg r.num), .slice A n c, .slice A' n' c']) ∧ n ≤ m ∧ n' ≤ m ∧ N.Own w' W.heap.size A n c (limbs (mg r.num)) ∧ N.Own w' W.heap.size A' n' c' (limbs r.den) ∧ Below W.heap.size W w'
/-- the same, beside an error's number -/
def OutRE (W : World) (m : Nat) (r : Rat) (k : Int) (e : Ending) (w' : World) : Prop :=
  ∃ A n c A' n' c', e = .returned (.tuple #[.agg #[.bool (sg r.num), .slice A n c, .slice A' n' c'], .int .i64 k]) ∧ n ≤ m ∧ n' ≤ m ∧ N.Own w' W.heap.size A n c (limbs (mg r.num)) ∧ N.Own w' W.heap.size A' n' c' (limbs r.den) ∧ Below W.heap.size W w'
/-- the zero value beside an error's number -/
def OutRZ (W : World) (k : Int) (e : Ending) (w' : World) : Prop := e = .returned (.tuple #[.agg #[.bool false, .slice none 0 0, .slice none 0 0], .int .i64 k]) ∧ Below W.heap.size W w'
/-- how many limbs a fraction's parts have at most -/
def RB (k : Nat) (r : Rat) : Prop := mg r.num < Q B k ∧ (r.den : Int) < Q B k
theorem RB.le {k m : Nat} {r : Rat} (h : RB k r) (hk : k ≤ m) : RB m r := ⟨Int.lt_of_lt_of_le h.1 (QB_le hk), Int.lt_of_lt_of_le h.2 (QB_le hk)⟩
theorem RB.rv {b : Bool} {v d : Int} {k : Nat} (hv : 0 ≤ v) (hd : 0 < d) (h1 : v < Q B k) (h2 : d < Q B k) : RB k (N.rv b v d) :=
  ⟨Int.lt_of_le_of_lt (rden_lt hv hd).1 h1, Int.lt_of_le_of_lt (rden_lt hv hd).2 h2⟩
end N
section
variable {w0 v0 w w' : World} {S O : List Ent} {T : List Blk} {A A' : Option Addr} {n c m d k k' : Nat} {xs ys : List Int} {v u z y : Int} {b b' : Bool}
theorem SC.rN (h : SC w0 v0 w S T O) {m k : Nat} {r : Int} {e : Ending} (hr : 0 ≤ r) (hm : m ≤ k) (ho : Out w m r e w') : ∃ A n c, e = .returned (.slice A n c) ∧ SC w0 v0 w' (⟨A, n, c, k, limbs r, r⟩ :: S) T (⟨A, n, c, k, limbs r, r⟩ :: O) := by
  obtain ⟨A, n, c, he, hn, hown, hb⟩ := ho
  exact ⟨A, n, c, he, h.new hb hown (by omega) (limbs_val hr)⟩
theorem SC.rN2 (h : SC w0 v0 w S T O) {m k : Nat} {r j : Int} {e : Ending} (hr : 0 ≤ r) (hm : m ≤ k) (ho : Out2 w m r j e w') : ∃ A n c, e = .returned (.tuple #[.slice A n c, .int .i64 j]) ∧ SC w0 v0 w' (⟨A, n, c, k, limbs r, r⟩ :: S) T (⟨A, n, c, k, limbs r, r⟩ :: O) := by
  obtain ⟨A, n, c, he, hn, hown, hb⟩ := ho
  exact ⟨A, n, c, he, h.new hb hown (by omega) (limbs_val hr)⟩
theorem SC.rD (h : SC w0 v0 w S T O) {m k : Nat} {q r j : Int} {e : Ending} (hq : 0 ≤ q) (hr : 0 ≤ r) (hm : m ≤ k) (ho : OutD3 w m q r j e w') : ∃ A n c A' n' c', e = .returned (.tuple #[.slice A n c, .slice A' n' c', .int .i64 j]) ∧ SC w0 v0 w' (⟨A, n, c, k, limbs q, q⟩ :: S) T (⟨A, n, c, k, limbs q, q⟩ :: O) := by
  obtain ⟨A, n, c, A', n', c', he, hn, _, hown, _, _, hb⟩ := ho
  exact ⟨A, n, c, A', n', c', he, h.new hb hown (by omega) (limbs_val hq)⟩
theorem SC.rI (h : SC w0 v0 w S T O) {m k : Nat} {e : Ending} (hm : m ≤ k) (ho : OutI w m z e w') : ∃ A n c, e = .returned (.agg #[.bool (sg z), .slice A n c]) ∧ SC w0 v0 w' (⟨A, n, c, k, limbs (mg z), mg z⟩ :: S) T (⟨A, n, c, k, limbs (mg z), mg z⟩ :: O) := by
  obtain ⟨A, n, c, he, hn, hown, hb⟩ := ho
  exact ⟨A, n, c, he, h.new hb hown (by omega) (limbs_val (mg_nn z))⟩
theorem SC.rIE (h : SC w0 v0 w S T O) {m k : Nat} {e : Ending} {j : Int} (hm : m ≤ k) (ho : OutIE w m z j e w') : ∃ A n c, e = .returned (.tuple #[.agg #[.bool (sg z), .slice A n c], .int .i64 j]) ∧ SC w0 v0 w' (⟨A, n, c, k, limbs (mg z), mg z⟩ :: S) T (⟨A, n, c, k, limbs (mg z), mg z⟩ :: O) := by
  obtain ⟨A, n, c, he, hn, hown, hb⟩ := ho
  exact ⟨A, n, c, he, h.new hb hown (by omega) (limbs_val (mg_nn z))⟩
theorem SC.rR (h : SC w0 v0 w S T O) {m k : Nat} {r : Rat} {e : Ending} (hm : m ≤ k) (ho : OutR w m r e w') : ∃ A n c A' n' c', e = .returned (.agg #[.bool (sg r.num), .slice A n c, .slice A' n' c']) ∧
    SC w0 v0 w' (⟨A, n, c, k, limbs (mg r.num), mg r.num⟩ :: ⟨A', n', c', k, limbs r.den, r.den⟩ :: S) T (⟨A, n, c, k, limbs (mg r.num), mg r.num⟩ :: ⟨A', n', c', k, limbs r.den, r.den⟩ :: O) := by
  obtain ⟨A, n, c, A', n', c', he, hn, hn', ho1, ho2, hb⟩ := ho
  exact ⟨A, n, c, A', n', c', he, h.new2 hb ho1 (by omega) (limbs_val (mg_nn _)) ho2 (by omega) (limbs_val (Int.le_of_lt (rden_pos r)))⟩
theorem SC.rRE (h : SC w0 v0 w S T O) {m k : Nat} {r : Rat} {e : Ending} {j : Int} (hm : m ≤ k) (ho : OutRE w m r j e w') : ∃ A n c A' n' c', e = .returned (.tuple #[.agg #[.bool (sg r.num), .slice A n c, .slice A' n' c'], .int .i64 j]) ∧
    SC w0 v0 w' (⟨A, n, c, k, limbs (mg r.num), mg r.num⟩ :: ⟨A', n', c', k, limbs r.den, r.den⟩ :: S) T (⟨A, n, c, k, limbs (mg r.num), mg r.num⟩ :: ⟨A', n', c', k, limbs r.den, r.den⟩ :: O) := by
  obtain ⟨A, n, c, A', n', c', he, hn, hn', ho1, ho2, hb⟩ := ho
  exact ⟨A, n, c, A', n', c', he, h.new2 hb ho1 (by omega) (limbs_val (mg_nn _)) ho2 (by omega) (limbs_val (Int.le_of_lt (rden_pos r)))⟩
theorem own_len {base K : Nat} {xs : List Int} {v : Int} (h : N.Own w base A n c xs) (hx : xs = limbs v) (hv : 0 ≤ v) (hK : v < Q B K) : n ≤ K := by
  rw [← h.sl.len, hx]; exact (limbs_len_le hv K).2 hK
/-- a function's end: what it tells is of its own -/
theorem SC.toR (h : SC w0 w0 w S T O) {M : Nat} {r : Rat} (h1 : (⟨A, n, c, k, xs, v⟩ : Ent) ∈ O) (h2 : (⟨A', m, d, k', ys, u⟩ : Ent) ∈ O) (hb : b = sg r.num) (hx : xs = limbs (mg r.num)) (hy : ys = limbs r.den) (hM : RB M r) :
    OutR w0 M r (.returned (.agg #[.bool b, .slice A n c, .slice A' m d])) w := by
  have o1 := h.own _ h1
  have o2 := h.own _ h2
  simp only at o1 o2
  refine ⟨A, n, c, A', m, d, by rw [hb], own_len o1 hx (mg_nn _) hM.1, own_len o2 hy (Int.le_of_lt (rden_pos r)) hM.2, ?_, ?_, h.bl⟩
  · rw [← hx]; exact o1
  · rw [← hy]; exact o2
theorem SC.toRE (h : SC w0 w0 w S T O) {M : Nat} {r : Rat} {j : Int} (h1 : (⟨A, n, c, k, xs, v⟩ : Ent) ∈ O) (h2 : (⟨A', m, d, k', ys, u⟩ : Ent) ∈ O) (hb : b = sg r.num) (hx : xs = limbs (mg r.num)) (hy : ys = limbs r.den) (hM : RB M r) :
    OutRE w0 M r j (.returned (.tuple #[.agg #[.bool b, .slice A n c, .slice A' m d], .int .i64 j])) w := by
  obtain ⟨A2, n2, c2, A2', n2', c2', he, h3⟩ := h.toR (b := b) h1 h2 hb hx hy hM
  cases he
  exact ⟨A, n, c, A', m, d, rfl, h3⟩
theorem zero_c (h : SC w0 v0 w S T O) (h1 : (⟨A, n, c, k, xs, v⟩ : Ent) ∈ S) (hk : k ≤ 1000000) {q : Bool} (hq : decide (v = 0) = q) :
    Calls Tryz.prog 79 #[.slice A n c] w fun e w' => e = .returned (.bool q) ∧ SC w0 v0 w' S T O := by
  obtain ⟨a1, a2, rfl⟩ := h.get h1
  subst hq
  by_cases hv : val B xs = 0
  · rw [decide_eq_true hv]
    exact (zero_yes w A n c xs a1 hv).mono fun e w' ⟨he, hb⟩ => ⟨he, by rw [hb]; exact h⟩
  · rw [decide_eq_false hv]
    exact (zero_no w A n c xs a1 (by have := val_nonneg (b := B) (by decide) a1.dg; omega)).mono fun e w' ⟨he, hb⟩ => ⟨he, by rw [hb]; exact h⟩
theorem ncmp_c (h : SC w0 v0 w S T O) (h1 : (⟨A, n, c, k, xs, v⟩ : Ent) ∈ S) (hk : k ≤ 1000000) (h2 : (⟨A', m, d, k', ys, u⟩ : Ent) ∈ S) (hk' : k' ≤ 1000000) {q : Int} (hq : cmpI v u = q) :
    Calls Tryz.prog 126 #[.slice A n c, .slice A' m d] w fun e w' => e = .returned (.int .i64 q) ∧ SC w0 v0 w' S T O := by
  obtain ⟨a1, a2, rfl⟩ := h.get h1
  obtain ⟨b1, b2, rfl⟩ := h.get h2
  subst hq
  exact (ncmp_any w A A' n c m d xs ys a1 b1 (by omega) (by omega)).mono fun e w' ⟨he, hb⟩ => ⟨he, h.below hb⟩
theorem nof_c (h : SC w0 v0 w S T O) {x : Int} (hx : W.Wd x) :
    Calls Tryz.prog 56 #[.int .u64 x] w fun e w' => ∃ A n c, e = .returned (.slice A n c) ∧ SC w0 v0 w' (⟨A, n, c, 1, limbs x, x⟩ :: S) T (⟨A, n, c, 1, limbs x, x⟩ :: O) := by
  exact (of_any w x hx).mono fun e w' ho => h.rN hx.1 (Nat.le_refl _) ho
theorem nmul_c (h : SC w0 v0 w S T O) (h1 : (⟨A, n, c, k, xs, v⟩ : Ent) ∈ S) (hk : k ≤ 1000000) (h2 : (⟨A', m, d, k', ys, u⟩ : Ent) ∈ S) (hk' : k' ≤ 1000000) {r : Int} (hr : v * u = r) :
    Calls Tryz.prog 103 #[.slice A n c, .slice A' m d] w fun e w' => ∃ A n c, e = .returned (.slice A n c) ∧ SC w0 v0 w' (⟨A, n, c, k + k', limbs r, r⟩ :: S) T (⟨A, n, c, k + k', limbs r, r⟩ :: O) := by
  obtain ⟨a1, a2, rfl⟩ := h.get h1
  obtain ⟨b1, b2, rfl⟩ := h.get h2
  subst hr
  exact (nmul_any w A A' n c m d xs ys a1 b1 (by omega) (by omega)).mono fun e w' ho => h.rN (Int.mul_nonneg (val_nonneg (by decide) a1.dg) (val_nonneg (by decide) b1.dg)) (by omega) ho
theorem gcd_c (h : SC w0 v0 w S T O) (h1 : (⟨A, n, c, k, xs, v⟩ : Ent) ∈ S) (hk : k ≤ 1000000) (h2 : (⟨A', m, d, k', ys, u⟩ : Ent) ∈ S) (hk' : k' ≤ 1000000) {r : Int} (hr : gI v u = r) :
    Calls Tryz.prog 80 #[.slice A n c, .slice A' m d] w fun e w' => ∃ A n c, e = .returned (.slice A n c) ∧ SC w0 v0 w' (⟨A, n, c, k + k', limbs r, r⟩ :: S) T (⟨A, n, c, k + k', limbs r, r⟩ :: O) := by
  obtain ⟨a1, a2, rfl⟩ := h.get h1
  obtain ⟨b1, b2, rfl⟩ := h.get h2
  subst hr
  exact (qgcd_any w A A' n c m d (k + k') xs ys a1 b1 (by omega) (by omega) (by omega)).mono fun e w' ho => h.rN (gI_nonneg _ _) (Nat.le_refl _) ho
theorem div_c (h : SC w0 v0 w S T O) (h1 : (⟨A, n, c, k, xs, v⟩ : Ent) ∈ S) (hk : k ≤ 1000000) (h2 : (⟨A', m, d, k', ys, u⟩ : Ent) ∈ S) (hk' : k' ≤ 1000000) (hu : 0 < u) {r : Int} (hr : v / u = r) :
    Calls Tryz.prog 108 #[.slice A n c, .slice A' m d] w fun e w' => ∃ A n c A' n' c', e = .returned (.tuple #[.slice A n c, .slice A' n' c', .int .i64 0]) ∧ SC w0 v0 w' (⟨A, n, c, k, limbs r, r⟩ :: S) T (⟨A, n, c, k, limbs r, r⟩ :: O) := by
  obtain ⟨a1, a2, rfl⟩ := h.get h1
  obtain ⟨b1, b2, rfl⟩ := h.get h2
  subst hr
  exact (qdiv_any w A A' n c m d xs ys a1 b1 (by omega) (by omega) hu).mono fun e w' ho => h.rD (Int.ediv_nonneg (val_nonneg (by decide) a1.dg) (Int.le_of_lt hu)) (Int.emod_nonneg _ (by omega)) a2 ho
theorem shl_c (h : SC w0 v0 w S T O) (h1 : (⟨A, n, c, k, xs, v⟩ : Ent) ∈ S) (hk : k ≤ 1000000) {q : Int} (h0 : 0 ≤ q) (hq : q ≤ 65536) {r : Int} (hr : v * 2 ^ q.toNat = r) :
    Calls Tryz.prog 65 #[.slice A n c, .int .i64 q] w fun e w' => ∃ A n c, e = .returned (.tuple #[.slice A n c, .int .i64 0]) ∧ SC w0 v0 w' (⟨A, n, c, k + 1025, limbs r, r⟩ :: S) T (⟨A, n, c, k + 1025, limbs r, r⟩ :: O) := by
  obtain ⟨a1, a2, rfl⟩ := h.get h1
  subst hr
  exact (nshl_any w A n c xs a1 (by omega) q h0 hq).mono fun e w' ho => h.rN2 (Int.mul_nonneg (val_nonneg (by decide) a1.dg) (Int.le_of_lt (Int.pow_pos (by decide)))) (by omega) ho
theorem shl_x (h : SC w0 v0 w S T O) (h1 : (⟨A, n, c, k, xs, v⟩ : Ent) ∈ S) (hk : k ≤ 1000000) {q : Int} (hq : q < 0 ∨ 65536 < q) :
    Calls Tryz.prog 65 #[.slice A n c, .int .i64 q] w fun e w' => e = .returned (.tuple #[.slice none 0 0, .int .i64 1]) ∧ SC w0 v0 w' S T O := by
  obtain ⟨a1, a2, rfl⟩ := h.get h1
  exact (nshl_no w A n c xs a1 q hq).mono fun e w' ⟨he, hb⟩ => ⟨he, by rw [hb]; exact h⟩
theorem make_c (h : SC w0 v0 w S T O) (h1 : (⟨A, n, c, k, xs, v⟩ : Ent) ∈ S) (hk : k ≤ 1000000) {r : Int} (hr : iv b v = r) :
    Calls Tryz.prog 78 #[.bool b, .slice A n c] w fun e w' => ∃ A n c, e = .returned (.agg #[.bool (sg r), .slice A n c]) ∧ SC w0 v0 w' (⟨A, n, c, k, limbs (mg r), mg r⟩ :: S) T (⟨A, n, c, k, limbs (mg r), mg r⟩ :: O) := by
  obtain ⟨a1, a2, rfl⟩ := h.get h1
  subst hr
  exact (wmake_any w b a1 (by omega)).mono fun e w' ho => h.rI a2 ho
theorem wof_c (h : SC w0 v0 w S T O) {r : Int} (h1 : -9223372036854775808 ≤ r) (h2 : r ≤ 9223372036854775807) :
    Calls Tryz.prog 53 #[.int .i64 r] w fun e w' => ∃ A n c, e = .returned (.agg #[.bool (sg r), .slice A n c]) ∧ SC w0 v0 w' (⟨A, n, c, 1, limbs (mg r), mg r⟩ :: S) T (⟨A, n, c, 1, limbs (mg r), mg r⟩ :: O) := by
  exact (wof_any w r h1 h2).mono fun e w' ho => h.rI (Nat.le_refl _) ho
theorem neg_c (h : SC w0 v0 w S T O) (h1 : (⟨A, n, c, k, xs, v⟩ : Ent) ∈ S) (hk : k ≤ 1000000) {r : Int} (hr : -(iv b v) = r) :
    Calls Tryz.prog 54 #[.agg #[.bool b, .slice A n c]] w fun e w' => ∃ A n c, e = .returned (.agg #[.bool (sg r), .slice A n c]) ∧ SC w0 v0 w' (⟨A, n, c, k, limbs (mg r), mg r⟩ :: S) T (⟨A, n, c, k, limbs (mg r), mg r⟩ :: O) := by
  obtain ⟨a1, a2, rfl⟩ := h.get h1
  subst hr
  exact (wneg_any w b a1 (by omega)).mono fun e w' ho => h.rI a2 ho
theorem wadd_c (h : SC w0 v0 w S T O) (h1 : (⟨A, n, c, k, xs, v⟩ : Ent) ∈ S) (hk : k ≤ 1000000) (h2 : (⟨A', m, d, k', ys, u⟩ : Ent) ∈ S) (hk' : k' ≤ 1000000) {r : Int} (hr : iv b v + iv b' u = r) :
    Calls Tryz.prog 101 #[.agg #[.bool b, .slice A n c], .agg #[.bool b', .slice A' m d]] w fun e w' => ∃ A n c, e = .returned (.agg #[.bool (sg r), .slice A n c]) ∧ SC w0 v0 w' (⟨A, n, c, k + k' + 1, limbs (mg r), mg r⟩ :: S) T (⟨A, n, c, k + k' + 1, limbs (mg r), mg r⟩ :: O) := by
  obtain ⟨a1, a2, rfl⟩ := h.get h1
  obtain ⟨b1, b2, rfl⟩ := h.get h2
  subst hr
  exact (wadd_any w b a1 (by omega) b' b1 (by omega)).mono fun e w' ho => h.rI (by omega) ho
theorem wmul_c (h : SC w0 v0 w S T O) (h1 : (⟨A, n, c, k, xs, v⟩ : Ent) ∈ S) (hk : k ≤ 1000000) (h2 : (⟨A', m, d, k', ys, u⟩ : Ent) ∈ S) (hk' : k' ≤ 1000000) {r : Int} (hr : iv b v * iv b' u = r) :
    Calls Tryz.prog 120 #[.agg #[.bool b, .slice A n c], .agg #[.bool b', .slice A' m d]] w fun e w' => ∃ A n c, e = .returned (.agg #[.bool (sg r), .slice A n c]) ∧ SC w0 v0 w' (⟨A, n, c, k + k', limbs (mg r), mg r⟩ :: S) T (⟨A, n, c, k + k', limbs (mg r), mg r⟩ :: O) := by
  obtain ⟨a1, a2, rfl⟩ := h.get h1
  obtain ⟨b1, b2, rfl⟩ := h.get h2
  subst hr
  exact (wmul_any w b a1 (by omega) b' b1 (by omega)).mono fun e w' ho => h.rI (by omega) ho
end
end Go.Proofs.YtfdpddlefobcpaaGreatDoor
