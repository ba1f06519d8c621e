/- Gathered: NatDigits, NatJoin, RefTen, RefShow, RefRead, RefAdd, RefCmp, RefSub, RefTell. -/
import Derived.Test.YtfdpddlefobcpaaGMem
import Derived.Test.YtfdpddlefobcpaaGMath
import Derived.Test.YtfdpddlefobcpaaGNatA
/- What the document's own helpers for digits of 16 bits (cut, Digits, Join) answer, over this translation. -/
namespace Go.Proofs.Ytfdpddlefobcpaa
open Go.RowKit
set_option linter.unusedVariables false
set_option maxRecDepth 20000
open N
namespace N
theorem Dg.up {xs : List Int} (h : Dg D xs) : Dg B xs := fun x hx => ⟨(h x hx).1, by have : x < 65536 := (h x hx).2; show x < 18446744073709551616; omega⟩
theorem QD_four (k : Nat) : Q D (4 * k) = Q B k := by
  unfold Q
  rw [Int.pow_mul]; rfl
/-- what a call tells that makes digits -/
def OutD (W : World) (m : Nat) (r : Int) (e : Ending) (w' : World) : Prop :=
  ∃ A n c, e = .returned (.slice A n c) ∧ n ≤ m ∧ N.Own w' W.heap.size A n c (digs r) ∧ Below W.heap.size W w'
theorem digs_start {xs ds : List Int} {x : Int} (k : Nat) (hx : x = lim xs k) (hl : ds.length = 4 * k) (hv : val D ds = lo B xs k) : val D ds + x * Q D (4 * k + 0) = lo B xs (k + 1) := by
  rw [Nat.add_zero, QD_four, lo_succ, hv, hx]
theorem digs_step {ds : List Int} {x V : Int} {p : Nat} (hx : 0 ≤ x) (hl : ds.length = p) (h : val D ds + x * Q D p = V) : val D (ds ++ [x % 65536]) + x / 65536 * Q D (p + 1) = V := by
  rw [val_append, hl, ← h, Q_succ]
  show val D ds + Q D p * (x % 65536 + 65536 * 0) + x / 65536 * (Q D p * 65536) = _
  have e : x = x % 65536 + 65536 * (x / 65536) := by omega
  have e2 : x * Q D p = x % 65536 * Q D p + 65536 * (x / 65536) * Q D p := by rw [← Int.add_mul, ← e]
  rw [e2, Int.mul_zero, Int.add_zero, Int.mul_comm (Q D p) (x % 65536), Int.mul_comm (Q D p) 65536, ← Int.mul_assoc (x / 65536), Int.mul_comm (x / 65536) 65536]
  omega
end N
def DigOut (w : World) (xs : List Int) (i o : Value) (wr : World) : Prop :=
  ∃ (k : Nat) (ds : List Int) (A : Option Addr) (n c : Nat), i = .int .i64 k ∧ k ≤ xs.length ∧ o = .slice A n c ∧ n = 4 * k ∧ N.Own wr w.heap.size A n c ds ∧ Dg D ds ∧ val D ds = lo B xs k ∧ Below w.heap.size w wr
def DigIn (w : World) (xs : List Int) (k : Nat) (x o i : Value) (wr : World) : Prop :=
  ∃ (q : Nat) (ds : List Int) (y : Int) (A : Option Addr) (n c : Nat), i = .int .i64 q ∧ q ≤ 4 ∧ x = .int .u64 y ∧ 0 ≤ y ∧ y < Q D (4 - q) ∧ o = .slice A n c ∧ n = 4 * k + q ∧ N.Own wr w.heap.size A n c ds ∧ Dg D ds ∧ val D ds + y * Q D (4 * k + q) = lo B xs (k + 1) ∧ Below w.heap.size w wr
end Go.Proofs.Ytfdpddlefobcpaa
/- What the document's own Join answers, over this translation. -/
namespace Go.Proofs.Ytfdpddlefobcpaa
open Go.RowKit
set_option linter.unusedVariables false
set_option maxRecDepth 20000
open N
namespace N
theorem val_lim0 (b : Int) : ∀ ys : List Int, (∀ j, lim ys j = 0) → val b ys = 0
  | [], _ => rfl
  | y :: t, h => by
    unfold val
    have h0 := h 0
    rw [lim_cons_zero] at h0
    rw [h0, val_lim0 b t (fun j => by have := h (j + 1); rwa [lim_cons_succ] at this)]; simp
theorem lo_nn (b : Int) (xs : List Int) {k : Nat} (h : nn xs ≤ k) : lo b xs k = val b xs := by
  rw [val_split b xs k, val_lim0 b (xs.drop k) (fun j => by rw [lim_drop]; exact nn_zero xs _ (by omega))]; simp
theorem val_ge {b : Int} (hb : 1 < b) {xs : List Int} (h : Dg b xs) (h0 : 0 < nn xs) : Q b (nn xs - 1) ≤ val b xs := by
  rw [val_top b xs h0]
  have h1 := lo_lt (by omega) h (nn xs - 1)
  have h2 := nn_top xs h0
  have h3 := h.lim (by omega) (nn xs - 1)
  have h4 := Q_pos (show 0 < b by omega) (nn xs - 1)
  have h5 : 1 * Q b (nn xs - 1) ≤ lim xs (nn xs - 1) * Q b (nn xs - 1) := Int.mul_le_mul_of_nonneg_right (by omega) (by omega)
  omega
theorem Q_mono {b : Int} (hb : 1 ≤ b) {i j : Nat} (h : i ≤ j) : Q b i ≤ Q b j := by
  have e : Q b j = Q b i * Q b (j - i) := by rw [← Q_add]; congr 1; omega
  have h1 := Q_pos (show 0 < b by omega) i
  have h2 := Q_pos (show 0 < b by omega) (j - i)
  have h3 : Q b i * 1 ≤ Q b i * Q b (j - i) := Int.mul_le_mul_of_nonneg_left (by omega) (by omega)
  rw [e]; omega
theorem QD4 : Q D 4 = 18446744073709551616 := by unfold Q; decide
theorem QD3 : Q D 3 = 281474976710656 := by unfold Q; decide
/-- the joined limbs are the canonical ones -/
theorem join_full {ds zs : List Int} (hd : Dg D ds) (hz : Dg B zs) (hv : val B zs = val D ds) (h1 : nn ds ≤ 4 * zs.length) (h2 : 4 * zs.length < nn ds + 4) : zs = limbs (val D ds) := by
  rw [← hv, limbs_of hz]
  refine (tr_full ?_).symm
  have hle := nn_le zs
  by_cases h0 : zs.length = 0
  · omega
  · have hn : 0 < nn ds := by omega
    have h3 := val_ge (b := D) (by decide) hd hn
    have h4 : Q D (4 * (zs.length - 1)) ≤ Q D (nn ds - 1) := Q_mono (by decide) (by omega)
    rw [QD_four] at h4
    have h5 := limbs_len_le (val_nonneg (b := B) (by decide) hz) (zs.length - 1)
    rw [← nn_limbs hz, hv] at h5
    omega
theorem join_step {ds : List Int} {x V : Int} {s : Nat} (h : x * Q D (s + 1) + lo D ds (s + 1) = V) : (x * 65536 + lim ds s) * Q D s + lo D ds s = V := by
  rw [lo_succ, Q_succ] at h
  rw [← h, Int.add_mul, Int.mul_assoc, Int.mul_comm (65536 : Int)]
  show x * (Q D s * 65536) + _ + _ = x * (Q D s * 65536) + _
  omega
end N
def JoinOut (w : World) (ds : List Int) (o i : Value) (wr : World) : Prop :=
  ∃ (p : Nat) (zs : List Int) (A : Option Addr) (n c : Nat), i = .int .i64 p ∧ p = 4 * zs.length ∧ p < nn ds + 4 ∧ o = .slice A n c ∧ N.Own wr w.heap.size A n c zs ∧ val B zs = lo D ds p ∧ Below w.heap.size w wr
def JoinIn (ds : List Int) (p hi : Nat) (x k : Value) : Prop :=
  ∃ (r : Nat) (y : Int), k = .int .i64 ((p : Int) + r - 1) ∧ p + r ≤ hi ∧ x = .int .u64 y ∧ 0 ≤ y ∧ y < Q D (hi - p - r) ∧ y * Q D (p + r) + lo D ds (p + r) = lo D ds hi
end Go.Proofs.Ytfdpddlefobcpaa
/- What the document's own Ten (a natural divided by ten, over its digits of 16 bits) answers, over this translation. -/
namespace Go.Proofs.Ytfdpddlefobcpaa
open Go.RowKit
set_option linter.unusedVariables false
set_option maxRecDepth 20000
open N
namespace N
theorem val_drop (b : Int) (xs : List Int) (k : Nat) (h : k < xs.length) : val b (xs.drop k) = lim xs k + b * val b (xs.drop (k + 1)) := by
  rw [List.drop_eq_getElem_cons h, lim_lt xs k h]; rfl
theorem set_drop (zs : List Int) (k : Nat) (v : Int) (h : k < zs.length) : (zs.set k v).drop (k + 1) = zs.drop (k + 1) := by
  refine ext_lim (by simp) fun j => ?_
  rw [lim_drop, lim_drop, lim_set _ _ _ _ h, if_neg (by omega)]
theorem ten_arith (l h : Int) : (l + 65536 * h) / 10 = (h % 10 * 65536 + l) / 10 + 65536 * (h / 10) ∧ (l + 65536 * h) % 10 = (h % 10 * 65536 + l) % 10 := by omega
/-- one round: the digit at place k -/
theorem ten_step {xs zs : List Int} {k : Nat} (hk : k < xs.length) (hl : zs.length = xs.length) (hz : val D (zs.drop (k + 1)) = val D (xs.drop (k + 1)) / 10) :
    val D ((zs.set k ((val D (xs.drop (k + 1)) % 10 * 65536 + lim xs k) / 10)).drop k) = val D (xs.drop k) / 10 ∧ (val D (xs.drop (k + 1)) % 10 * 65536 + lim xs k) % 10 = val D (xs.drop k) % 10 := by
  obtain ⟨h1, h2⟩ := ten_arith (lim xs k) (val D (xs.drop (k + 1)))
  rw [val_drop D _ k (by rw [List.length_set]; omega), set_drop _ _ _ (by omega), lim_set _ _ _ _ (by omega), if_pos rfl, hz, val_drop D xs k hk]
  exact ⟨h1.symm, h2.symm⟩
end N
/-- the answer: the quotient's digits, in memory of the call's own, and what is left -/
def OutTen (W : World) (m : Nat) (v : Int) (e : Ending) (w' : World) : Prop :=
  ∃ A n c, e = .returned (.tuple #[.slice A n c, .int .u64 (v % 10)]) ∧ n ≤ m ∧ N.Own w' W.heap.size A n c (digs (v / 10)) ∧ Below W.heap.size W w'
end Go.Proofs.Ytfdpddlefobcpaa
/- What the document's own Show and Many answer, over this translation: the decimal digits. -/
namespace Go.Proofs.Ytfdpddlefobcpaa
open Go.RowKit
set_option linter.unusedVariables false
set_option maxRecDepth 20000
open N
open Go.Lib (decDigits nDigits decDigits_length nDigits_pos)
namespace N
/-- the digits of what is left, none of 0 -/
def topD (u : Nat) : List UInt8 := if u = 0 then [] else decDigits u
theorem topD_zero : topD 0 = [] := by simp [topD]
theorem topD_pos {u : Nat} (h : 0 < u) : topD u = decDigits u := by unfold topD; rw [if_neg (by omega)]
theorem topD_step {u : Nat} (h : 0 < u) : topD u = topD (u / 10) ++ [UInt8.ofNat (48 + u % 10)] := by
  rw [topD_pos h]
  by_cases h' : u < 10
  · rw [dd_small h', show u / 10 = 0 by omega, topD_zero, show u % 10 = u by omega]; rfl
  · rw [dd_big h', topD_pos (by omega)]
theorem nDigits_le {u k : Nat} (h : u < 10 ^ k) (hk : 1 ≤ k) : nDigits u ≤ k := (padD_dd k u h hk).1
theorem nDigits_val {xs : List Int} {n v : Nat} (hd : Dg B xs) (hl : xs.length = n) (hv : val B xs = (v : Int)) : nDigits v ≤ 20 * n + 1 := by
  refine nDigits_le ?_ (by omega)
  have h1 := val_lt (b := B) (by decide) hd
  rw [hl, hv] at h1
  have h2 : (Q B n) = ((18446744073709551616 ^ n : Nat) : Int) := by unfold Q; rw [Int.natCast_pow]; rfl
  rw [h2] at h1
  have h3 : v < 18446744073709551616 ^ n := by exact_mod_cast h1
  have h4 : 18446744073709551616 ^ n ≤ (10 ^ 20) ^ n := Nat.pow_le_pow_left (by decide) n
  rw [← Nat.pow_mul] at h4
  have h5 : 10 ^ (20 * n) ≤ 10 ^ (20 * n + 1) := Nat.pow_le_pow_right (by omega) (by omega)
  omega
theorem digs_nil_iff {u : Nat} : (digs (u : Int)).length = 0 ↔ u = 0 := by
  have h := digs_len_le (n := (u : Int)) (by omega) 0
  rw [Q_zero] at h
  omega
theorem rev_step (bs : List UInt8) (k : Nat) (h : k < bs.length) :
    (List.replicate (bs.length - k) 0 ++ (bs.take k).reverse).set (bs.length - 1 - k) bs[k] = List.replicate (bs.length - (k + 1)) 0 ++ (bs.take (k + 1)).reverse := by
  rw [show bs.length - k = (bs.length - (k + 1)) + 1 by omega, List.replicate_succ', List.append_assoc, List.set_append_right _ _ (by simp; omega), List.length_replicate,
    show bs.length - 1 - k - (bs.length - (k + 1)) = 0 by omega, List.take_succ_eq_append_getElem h, List.reverse_append]
  rfl
def lenOf : Value → Nat
  | .slice _ n _ => n
  | _ => 0
end N
def ShRel (w : World) (v M : Nat) (l t : Value) (wr : World) : Prop :=
  ∃ (u : Nat) (bs : List UInt8) (A : Option Addr) (n c : Nat) (A' : Option Addr) (m d : Nat), l = .slice A n c ∧ t = .slice A' m d ∧ n ≤ M ∧ N.Own wr w.heap.size A n c (digs (u : Int)) ∧ OwnB wr w.heap.size A' m d bs ∧ decDigits v = topD u ++ bs.reverse ∧ Below w.heap.size w wr
end Go.Proofs.Ytfdpddlefobcpaa
/- What the document's own Read answers, over this translation: the natural of decimal digits, or why it is none. -/
namespace Go.Proofs.Ytfdpddlefobcpaa
open Go.RowKit
set_option linter.unusedVariables false
set_option maxRecDepth 20000
open N
namespace N
/-- digits times ten, and a digit more: what is done below place j -/
structure RRst (ls : List Int) (d : Int) (j : Nat) (q : Int) (zs : List Int) : Prop where
  len : zs.length = ls.length
  dg : Dg D zs
  q0 : 0 ≤ q
  q1 : q ≤ 9
  sum : val D zs + q * Q D j + 9 * (val D ls - lo D ls j) = val D ls * 10 + d
  rest : ∀ i, j ≤ i → lim zs i = lim ls i
theorem RRst.start {ls : List Int} {d : Int} (hd : Dg D ls) (h0 : 0 ≤ d) (h1 : d ≤ 9) : RRst ls d 0 d ls :=
  ⟨rfl, hd, h0, h1, by rw [Q_zero, lo_zero]; omega, fun _ _ => rfl⟩
theorem RRst.bd {ls : List Int} {d : Int} {j : Nat} {q : Int} {zs : List Int} (h : RRst ls d j q zs) : 0 ≤ lim zs j * 10 + q ∧ lim zs j * 10 + q < 655360 := by
  have h1 := h.dg.lim (b := D) (by decide) j
  have h2 : lim zs j < 65536 := h1.2
  have := h.q0; have := h.q1; omega
theorem RRst.step {ls : List Int} {d : Int} {j : Nat} {q : Int} {zs : List Int} (h : RRst ls d j q zs) (hj : j < ls.length) :
    RRst ls d (j + 1) ((lim zs j * 10 + q) / 65536) (zs.set j ((lim zs j * 10 + q) % 65536)) := by
  obtain ⟨b0, b1⟩ := h.bd
  refine ⟨by rw [List.length_set, h.len], h.dg.set j (by omega) (by show _ < (65536 : Int); omega), by omega, by omega, ?_, fun i hi => ?_⟩
  · have hs := h.sum
    have hr := h.rest j (Nat.le_refl _)
    rw [val_set D zs j _ (by rw [h.len]; exact hj), lo_succ, Q_succ, ← hr]
    obtain ⟨x, hx⟩ : ∃ x, lim zs j * 10 + q = x := ⟨_, rfl⟩
    have e1 : x / 65536 * (Q D j * 65536) = (x / 65536 * 65536) * Q D j := by rw [Int.mul_comm (Q D j), Int.mul_assoc]
    have e2 : (x % 65536 - lim zs j) * Q D j + (x / 65536 * 65536) * Q D j = (lim zs j * 9 + q) * Q D j := by
      rw [← Int.add_mul]; congr 1; omega
    rw [hx]
    show val D zs + _ + x / 65536 * (Q D j * 65536) + _ = _
    rw [e1]
    have e3 : (lim zs j * 9 + q) * Q D j = 9 * (lim zs j * Q D j) + q * Q D j := by rw [Int.add_mul, Int.mul_comm (lim zs j) 9, Int.mul_assoc]
    omega
  · rw [lim_set _ _ _ _ (by rw [h.len]; exact hj), if_neg (by omega)]; exact h.rest i (by omega)
theorem RRst.done {ls : List Int} {d : Int} {j : Nat} {q : Int} {zs : List Int} (h : RRst ls d j q zs) (hj : ls.length ≤ j) (hj' : j ≤ ls.length) : val D (zs ++ [q]) = val D ls * 10 + d := by
  obtain rfl : j = ls.length := by omega
  have hs := h.sum
  rw [lo_all D ls _ (Nat.le_refl _)] at hs
  rw [val_append, h.len]
  show _ + _ * (q + D * 0) = _
  rw [Int.mul_zero, Int.add_zero, Int.mul_comm]
  omega
theorem dv_take (bs : List UInt8) (k : Nat) (h : k < bs.length) : (dv (bs.take (k + 1)) : Int) = (dv (bs.take k) : Int) * 10 + (((bs.getD k 0).toNat - 48 : Nat) : Int) := by
  rw [List.take_succ_eq_append_getElem h, dv_snoc, List.getD_eq_getElem?_getD, List.getElem?_eq_getElem h]
  simp
end N
def RdRel (w : World) (bs : List UInt8) (l i : Value) (wr : World) : Prop :=
  ∃ (k : Nat) (ls : List Int) (A : Option Addr) (n c : Nat), i = .int .i64 k ∧ k ≤ bs.length ∧ l = .slice A n c ∧ n ≤ k ∧ N.Own wr w.heap.size A n c ls ∧ Dg D ls ∧ val D ls = (dv (bs.take k) : Int) ∧ Below w.heap.size w wr
end Go.Proofs.Ytfdpddlefobcpaa
/- What the document's own Trim, Of and Add answer, over this translation. -/
namespace Go.Proofs.Ytfdpddlefobcpaa
open Go.RowKit
set_option linter.unusedVariables false
set_option maxRecDepth 20000
open N
theorem Out.weaken {W : World} {m m' : Nat} {r : Int} (hm : m ≤ m') {e : Ending} {w' : World} (h : Out W m r e w') : Out W m' r e w' := by
  obtain ⟨A, n, c, he, hn, ho, hb⟩ := h
  exact ⟨A, n, c, he, by omega, ho, hb⟩
namespace N
theorem radd_step {X Y zs : List Int} {c s : Int} {k : Nat} (hl : zs.length = k) (hs : s = c + lim X k + lim Y k) (h : val D zs + c * Q D k = lo D X k + lo D Y k) :
    val D (zs ++ [s % 65536]) + s / 65536 * Q D (k + 1) = lo D X (k + 1) + lo D Y (k + 1) := by
  rw [val_append, hl, lo_succ, lo_succ, Q_succ]
  show val D zs + Q D k * (s % 65536 + 65536 * 0) + s / 65536 * (Q D k * 65536) = _
  have e : s = s % 65536 + 65536 * (s / 65536) := by omega
  have e2 : s * Q D k = s % 65536 * Q D k + 65536 * (s / 65536) * Q D k := by rw [← Int.add_mul, ← e]
  have e3 : s * Q D k = c * Q D k + lim X k * Q D k + lim Y k * Q D k := by rw [hs, Int.add_mul, Int.add_mul]
  rw [Int.mul_zero, Int.add_zero, Int.mul_comm (Q D k) (s % 65536), Int.mul_comm (Q D k) 65536, ← Int.mul_assoc (s / 65536), Int.mul_comm (s / 65536) 65536]
  omega
end N
def RAddRel (w : World) (X Y : List Int) (M : Nat) (o c i : Value) (wr : World) : Prop :=
  ∃ (k : Nat) (zs : List Int) (q : Int) (A : Option Addr) (n cc : Nat), i = .int .i64 k ∧ c = .int .u64 q ∧ 0 ≤ q ∧ q ≤ 1 ∧ k ≤ M + 1 ∧ (q = 1 → k ≤ M) ∧ o = .slice A n cc ∧ n = k ∧ N.Own wr w.heap.size A n cc zs ∧ Dg D zs ∧
    val D zs + q * Q D k = lo D X k + lo D Y k ∧ Below w.heap.size w wr
/-- a round of the loop, whichever digits there are -/
theorem RAddRel.next {w w3 : World} {X Y : List Int} {M k : Nat} {zs : List Int} {q s : Int} {A3 : Option Addr} {c3 : Nat} (h1 : k ≤ M) (hs : s = q + lim X k + lim Y k) (h0 : 0 ≤ s) (h2 : s < 131072) (hM : k = M → s ≤ 1)
    (hl : zs.length = k) (hd : Dg D zs) (hv : val D zs + q * Q D k = lo D X k + lo D Y k) (ho : N.Own w3 w.heap.size A3 (k + 1) c3 (zs ++ [s % 65536])) (hb : Below w.heap.size w w3) :
    RAddRel w X Y M (.slice A3 (k + 1) c3) (.int .u64 (s / 65536)) (.int .i64 ((k : Int) + 1)) w3 :=
  ⟨k + 1, zs ++ [s % 65536], s / 65536, A3, k + 1, c3, by go_num, rfl, by omega, by omega, by omega, fun e => by by_cases hkm : k = M; have := hM hkm; omega; omega, rfl, rfl, ho, hd.append (Dg.one (by omega) (by show s % 65536 < 65536; omega)), radd_step hl hs hv, hb⟩
end Go.Proofs.Ytfdpddlefobcpaa
/- What the document's own Cmp answers, over this translation. -/
namespace Go.Proofs.Ytfdpddlefobcpaa
open Go.RowKit
set_option linter.unusedVariables false
set_option maxRecDepth 20000
open N
namespace N
theorem lt_of_len {X Y : List Int} (hX : Dg D X) (hY : Dg D Y) (hn : nn Y = Y.length) (h : X.length < Y.length) : val D X < val D Y := by
  have h1 := val_lt (b := D) (by decide) hX
  have h2 := val_ge (b := D) (by decide) hY (by omega)
  have h3 := Q_mono (b := D) (by decide) (show X.length ≤ nn Y - 1 by omega)
  omega
end N
end Go.Proofs.Ytfdpddlefobcpaa
/- What the document's own Sub answers, over this translation. -/
namespace Go.Proofs.Ytfdpddlefobcpaa
open Go.RowKit
set_option linter.unusedVariables false
set_option maxRecDepth 20000
open N
namespace N
theorem rsub_step {X Y zs : List Int} {q g p : Int} {k : Nat} (hl : zs.length = k) (hg : g - p * 65536 = lim X k - lim Y k - q) (h : val D zs - q * Q D k = lo D X k - lo D Y k) :
    val D (zs ++ [g]) - p * Q D (k + 1) = lo D X (k + 1) - lo D Y (k + 1) := by
  rw [val_append, hl, lo_succ, lo_succ, Q_succ]
  show val D zs + Q D k * (g + 65536 * 0) - p * (Q D k * 65536) = _
  have e : g = lim X k - lim Y k - q + p * 65536 := by omega
  have e2 : g * Q D k = lim X k * Q D k - lim Y k * Q D k - q * Q D k + p * 65536 * Q D k := by rw [e, Int.add_mul, Int.sub_mul, Int.sub_mul]
  rw [Int.mul_zero, Int.add_zero, Int.mul_comm (Q D k) g, Int.mul_comm (Q D k) 65536, ← Int.mul_assoc p]
  omega
theorem rsub_last {X Y zs : List Int} {q : Int} {n : Nat} (hX : Dg D X) (hY : Dg D Y) (hz : Dg D zs) (hl : zs.length = n) (hXl : X.length = n) (hle : val D Y ≤ val D X) (hq : 0 ≤ q) (h : val D zs - q * Q D n = lo D X n - lo D Y n) :
    val D zs = val D X - val D Y := by
  have e1 := val_lt (b := D) (by decide) hX
  rw [hXl] at e1
  rw [lo_all D X n (by omega)] at h
  have e2 : lo D Y n = val D Y := by
    rw [← (val_div (by decide) hY n).2]
    exact Int.emod_eq_of_lt (val_nonneg (by decide) hY) (by omega)
  rw [e2] at h
  have e3 := val_lt (b := D) (by decide) hz
  rw [hl] at e3
  have e4 := Q_pos (b := D) (by decide) n
  have : q = 0 := by
    apply Classical.byContradiction; intro hne
    have e6 : 1 * Q D n ≤ q * Q D n := Int.mul_le_mul_of_nonneg_right (by omega) (by omega)
    omega
  subst this
  omega
end N
def RSubRel (w : World) (X Y : List Int) (M : Nat) (o c i : Value) (wr : World) : Prop :=
  ∃ (k : Nat) (zs : List Int) (q : Int) (A : Option Addr) (n cc : Nat), i = .int .i64 k ∧ c = .int .u64 q ∧ 0 ≤ q ∧ q ≤ 1 ∧ k ≤ M ∧ o = .slice A n cc ∧ n = k ∧ N.Own wr w.heap.size A n cc zs ∧ Dg D zs ∧
    val D zs - q * Q D k = lo D X k - lo D Y k ∧ Below w.heap.size w wr
theorem RSubRel.next {w w3 : World} {X Y : List Int} {M k : Nat} {zs : List Int} {q g p : Int} {A3 : Option Addr} {c3 : Nat} (h1 : k < M) (hg : g - p * 65536 = lim X k - lim Y k - q) (h0 : 0 ≤ g) (h2 : g < 65536) (hp0 : 0 ≤ p) (hp1 : p ≤ 1)
    (hl : zs.length = k) (hd : Dg D zs) (hv : val D zs - q * Q D k = lo D X k - lo D Y k) (ho : N.Own w3 w.heap.size A3 (k + 1) c3 (zs ++ [g])) (hb : Below w.heap.size w w3) :
    RSubRel w X Y M (.slice A3 (k + 1) c3) (.int .u64 p) (.int .i64 ((k : Int) + 1)) w3 :=
  ⟨k + 1, zs ++ [g], p, A3, k + 1, c3, by go_num, rfl, by omega, by omega, by omega, rfl, rfl, ho, hd.append (Dg.one (by omega) (by show g < 65536; omega)), rsub_step hl hg hv, hb⟩
end Go.Proofs.Ytfdpddlefobcpaa
/- What the document's own Small, Len and Bit answer, over this translation. -/
namespace Go.Proofs.Ytfdpddlefobcpaa
open Go.RowKit
set_option linter.unusedVariables false
set_option maxRecDepth 20000
open N
namespace N
theorem Q_twoD (k : Nat) : Q D k = 2 ^ (16 * k) := by
  unfold Q
  rw [Int.pow_mul]; rfl
theorem nn_zeroD {n : Int} (h0 : 0 ≤ n) : (digs n).length = 0 ↔ n = 0 := by
  have := digs_len_le h0 0
  rw [Q_zero] at this
  omega
/-- the length of a value by its digits -/
theorem len_topD {v : Int} (h0 : 0 ≤ v) (h : 0 < (digs v).length) : W.len v = (((digs v).length - 1 : Nat) : Int) * 16 + W.len (lim (digs v) ((digs v).length - 1)) := by
  have hd := digs_dg v
  have hv := val_top D (digs v) (by rw [digs_nn]; exact h)
  have hl := lo_lt (by decide) hd ((digs v).length - 1)
  have ht := nn_top (digs v) (by rw [digs_nn]; exact h)
  rw [digs_nn] at hv ht
  rw [digs_val h0] at hv
  have hg := hd.lim (by decide) ((digs v).length - 1)
  generalize lim (digs v) ((digs v).length - 1) = x at *
  generalize (digs v).length - 1 = t at *
  obtain ⟨k, hk, h1, h2⟩ := len_spec x hg.1
  have hk0 : k ≠ 0 := by
    rintro rfl
    simp at h1; omega
  have h2' : 2 ^ (k - 1) ≤ x := by rcases h2 with h2 | h2; exact absurd h2 hk0; exact h2
  have hq := Q_pos (b := D) (by decide) t
  rw [hk, len_of' v (16 * t + k) h0]
  · omega
  · rw [hv, Int.pow_add, ← Q_twoD]
    have : (x + 1) * Q D t ≤ 2 ^ k * Q D t := Int.mul_le_mul_of_nonneg_right (by omega) (by omega)
    rw [Int.add_mul, Int.one_mul] at this
    rw [Int.mul_comm (Q D t)]; omega
  · right
    rw [hv, show 16 * t + k - 1 = 16 * t + (k - 1) by omega, Int.pow_add, ← Q_twoD, Int.mul_comm (Q D t)]
    have : 2 ^ (k - 1) * Q D t ≤ x * Q D t := Int.mul_le_mul_of_nonneg_right h2' (by omega)
    omega
/-- a place of a value, by its digit -/
theorem bit_limD {v : Int} (h0 : 0 ≤ v) (n : Nat) : lim (digs v) (n / 16) / 2 ^ (n % 16) % 2 = v / 2 ^ n % 2 := by
  rw [lim_div (by decide) (digs_dg v), Q_twoD, digs_val h0]
  have e : (2 : Int) ^ n = 2 ^ (16 * (n / 16)) * 2 ^ (n % 16) := by rw [← Int.pow_add]; congr 1; omega
  rw [e, ← Int.ediv_ediv_of_nonneg (Int.le_of_lt (W.pow_pos _))]
  generalize v / 2 ^ (16 * (n / 16)) = v
  have hr : n % 16 < 16 := Nat.mod_lt _ (by omega)
  generalize n % 16 = r at *
  have e2 : (D : Int) = 2 ^ r * (2 * 2 ^ (15 - r)) := by
    rw [← W.pow_succ, ← Int.pow_add, show r + (15 - r + 1) = 16 by omega]; rfl
  rw [e2]
  have hp := W.pow_pos r
  generalize (2 : Int) ^ (15 - r) = s
  generalize (2 : Int) ^ r = p at *
  have e3 := Int.mul_ediv_add_emod v (p * (2 * s))
  generalize v % (p * (2 * s)) = m at *
  generalize v / (p * (2 * s)) = q at *
  rw [← e3, show p * (2 * s) * q + m = m + p * (2 * (s * q)) by rw [Int.mul_assoc, Int.mul_assoc]; omega, Int.add_mul_ediv_left _ _ (by omega)]
  omega
end N
end Go.Proofs.Ytfdpddlefobcpaa
