/- What the program's Len, Sum, Cut, Other, Pick of layer 11 answer over this translation (and what they answer of nil, and of what nobody made). -/
import Derived.Test.YtfdpddlefobcpaaAliMem
namespace Go.Proofs.Ytfdpddlefobcpaa
open Go.RowKit Go.Shelf
set_option linter.unusedVariables false
set_option linter.unusedSimpArgs false
set_option maxRecDepth 20000
open N
section
variable {w : World} {t g1 g2 n m i : Nat} {W x r : Int} {c : Nat → Int} {o : Nat → Nat} {A : Option Addr} {cp : Nat} {v v' : Value} {ty : TypeId} {p : Option Addr}
theorem alen_blk (h : BlkOk w ⟨t, [v, .slice A n cp, v'], ty⟩) :
    Calls Try.prog 10 #[.pointer (some ⟨t, 0, none⟩)] w fun e w' => e = .returned (.int .i64 (n : Int)) ∧ w' = w := by
  have h0 : w.cell? ⟨t, 1, none⟩ = some (.slice A n cp) := BlkOk.cell (k := 1) h rfl
  clear h
  go_enter Try.func10, Try.ntmps10
  go_wp2
  go_ret
  exact ⟨rfl, rfl⟩
theorem alen_nil (w : World) :
    Calls Try.prog 10 #[.pointer none] w fun e w' => e = .returned (.int .i64 ((0 : Nat) : Int)) ∧ w' = w := by
  go_enter Try.func10, Try.ntmps10
  go_wp2
  go_ret
  exact ⟨rfl, rfl⟩
theorem alen_any (h : AlOk w t g1 g2 n W c o) :
    Calls Try.prog 10 #[.pointer (some ⟨t, 0, none⟩)] w fun e w' => e = .returned (.int .i64 (n : Int)) ∧ w' = w := alen_blk h.tb
theorem asum_blk (h : BlkOk w ⟨t, [.int .i64 W, v, v'], ty⟩) :
    Calls Try.prog 9 #[.pointer (some ⟨t, 0, none⟩)] w fun e w' => e = .returned (.int .i64 W) ∧ w' = w := by
  have h0 : w.cell? ⟨t, 0, none⟩ = some (.int .i64 W) := BlkOk.cell (k := 0) h rfl
  clear h
  go_enter Try.func9, Try.ntmps9
  go_wp2
  go_ret
  exact ⟨rfl, rfl⟩
theorem asum_nil (w : World) :
    Calls Try.prog 9 #[.pointer none] w fun e w' => e = .returned (.int .i64 0) ∧ w' = w := by
  go_enter Try.func9, Try.ntmps9
  go_wp2
  go_ret
  exact ⟨rfl, rfl⟩
theorem asum_any (h : AlOk w t g1 g2 n W c o) :
    Calls Try.prog 9 #[.pointer (some ⟨t, 0, none⟩)] w fun e w' => e = .returned (.int .i64 W) ∧ w' = w := asum_blk h.tb
/-- what an index is refused with -/
theorem refused_any (hL : Calls Try.prog 10 #[.pointer p] w fun e w' => e = .returned (.int .i64 (n : Int)) ∧ w' = w) {z : Int} {e0 : Int} (he : e0 = if n = 0 then 2 else if 0 ≤ z ∧ z < (n : Int) then 0 else 1) :
    Calls Try.prog 23 #[.pointer p, .int .i64 z] w fun e w' => e = .returned (.int .i64 e0) ∧ w' = w := by
  have HL := Lib.hid hL
  clear hL
  by_cases h0 : n = 0
  · subst h0
    rw [if_pos rfl] at he
    subst he
    go_enter Try.func23, Try.ntmps23
    go_wp2_with (go_at_call 10; refine HL.out.mono ?_; rintro e w1 ⟨rfl, rfl⟩)
    go_ret
    exact ⟨rfl, rfl⟩
  rw [if_neg h0] at he
  have hn : ¬ (n : Int) = 0 := by omega
  by_cases h1 : z < 0
  · rw [if_neg (by omega)] at he
    subst he
    go_enter Try.func23, Try.ntmps23
    go_wp2_with (go_at_call 10; refine HL.out.mono ?_; rintro e w1 ⟨rfl, rfl⟩)
    go_ret
    exact ⟨rfl, rfl⟩
  by_cases h2 : (n : Int) ≤ z
  · rw [if_neg (by omega)] at he
    subst he
    go_enter Try.func23, Try.ntmps23
    go_wp2_with (go_at_call 10; refine HL.out.mono ?_; rintro e w1 ⟨rfl, rfl⟩)
    go_ret
    exact ⟨rfl, rfl⟩
  · rw [if_pos (by omega)] at he
    subst he
    go_enter Try.func23, Try.ntmps23
    go_wp2_with (go_at_call 10; refine HL.out.mono ?_; rintro e w1 ⟨rfl, rfl⟩)
    go_ret
    exact ⟨rfl, rfl⟩
theorem refused_ok (h : AlOk w t g1 g2 n W c o) (hi : i < n) :
    Calls Try.prog 23 #[.pointer (some ⟨t, 0, none⟩), .int .i64 (i : Int)] w fun e w' => e = .returned (.int .i64 0) ∧ w' = w := refused_any (alen_any h) (by rw [if_neg (by omega), if_pos (by omega)])
theorem refused_no (h : AlOk w t g1 g2 n W c o) (hn : 0 < n) {z : Int} (hz : ¬ (0 ≤ z ∧ z < (n : Int))) :
    Calls Try.prog 23 #[.pointer (some ⟨t, 0, none⟩), .int .i64 z] w fun e w' => e = .returned (.int .i64 1) ∧ w' = w := refused_any (alen_any h) (by rw [if_neg (by omega), if_neg hz])
/-- an index that is refused -/
theorem cut_no {z e0 : Int} (hR : Calls Try.prog 23 #[.pointer p, .int .i64 z] w fun e w' => e = .returned (.int .i64 e0) ∧ w' = w) (he : ¬ e0 = 0) :
    Calls Try.prog 11 #[.pointer p, .int .i64 z] w fun e w' => e = .returned (.tuple #[.int .i64 0, .int .i64 e0]) ∧ w' = w := by
  have HR := Lib.hid hR
  clear hR
  go_enter Try.func11, Try.ntmps11
  go_wp2_with (go_at_call 23; refine HR.out.mono ?_; rintro e w1 ⟨rfl, rfl⟩)
  go_ret2
  exact ⟨rfl, rfl⟩
theorem other_no {z e0 : Int} (hR : Calls Try.prog 23 #[.pointer p, .int .i64 z] w fun e w' => e = .returned (.int .i64 e0) ∧ w' = w) (he : ¬ e0 = 0) :
    Calls Try.prog 12 #[.pointer p, .int .i64 z] w fun e w' => e = .returned (.tuple #[.int .i64 0, .int .i64 e0]) ∧ w' = w := by
  have HR := Lib.hid hR
  clear hR
  go_enter Try.func12, Try.ntmps12
  go_wp2_with (go_at_call 23; refine HR.out.mono ?_; rintro e w1 ⟨rfl, rfl⟩)
  go_ret2
  exact ⟨rfl, rfl⟩
theorem apick_no {z e0 : Int} (hR : Calls Try.prog 23 #[.pointer p, .int .i64 z] w fun e w' => e = .returned (.int .i64 e0) ∧ w' = w) (he : ¬ e0 = 0) (r : Int) :
    Calls Try.prog 16 #[.pointer p, .int .i64 z, .int .i64 r] w fun e w' => e = .returned (.tuple #[.int .i64 0, .int .i64 e0]) ∧ w' = w := by
  have HR := Lib.hid hR
  clear hR
  go_enter Try.func16, Try.ntmps16
  go_wp2_with (go_at_call 23; refine HR.out.mono ?_; rintro e w1 ⟨rfl, rfl⟩)
  go_ret2
  exact ⟨rfl, rfl⟩
theorem cut_ok (h : AlOk w t g1 g2 n W c o) (hi : i < n) (hx : c i = x) :
    Calls Try.prog 11 #[.pointer (some ⟨t, 0, none⟩), .int .i64 (i : Int)] w fun e w' => e = .returned (.tuple #[.int .i64 x, .int .i64 0]) ∧ w' = w := by
  have HR := Lib.hid (refused_ok h hi)
  obtain ⟨_, c1, _⟩ := h.cs
  have c2 := h.cut hi hx
  clear h hx
  go_enter Try.func11, Try.ntmps11
  go_wp2_with (go_at_call 23; refine HR.out.mono ?_; rintro e w1 ⟨rfl, rfl⟩)
  go_ret2
  exact ⟨rfl, rfl⟩
theorem other_ok (h : AlOk w t g1 g2 n W c o) (hi : i < n) {y : Nat} (hy : o i = y) :
    Calls Try.prog 12 #[.pointer (some ⟨t, 0, none⟩), .int .i64 (i : Int)] w fun e w' => e = .returned (.tuple #[.int .i64 (y : Int), .int .i64 0]) ∧ w' = w := by
  have HR := Lib.hid (refused_ok h hi)
  obtain ⟨_, _, c1⟩ := h.cs
  have c2 := h.oth hi hy
  clear h hy
  go_enter Try.func12, Try.ntmps12
  go_wp2_with (go_at_call 23; refine HR.out.mono ?_; rintro e w1 ⟨rfl, rfl⟩)
  go_ret2
  exact ⟨rfl, rfl⟩
theorem choice_any (h : AlOk w t g1 g2 n W c o) (hi : i < n) {y : Nat} (hy : pkA c o i r = y) :
    Calls Try.prog 29 #[.pointer (some ⟨t, 0, none⟩), .int .i64 (i : Int), .int .i64 r] w fun e w' => e = .returned (.int .i64 (y : Int)) ∧ w' = w := by
  obtain ⟨_, c1, c2⟩ := h.cs
  obtain ⟨x, hx⟩ : ∃ x, c i = x := ⟨_, rfl⟩
  have c3 := h.cut hi hx
  have c4 := h.oth hi rfl
  unfold pkA at hy
  rw [hx] at hy
  clear h hx
  by_cases hr : r < x
  · rw [if_pos hr] at hy
    subst hy
    clear c4
    go_enter Try.func29, Try.ntmps29
    go_wp2
    go_ret
    exact ⟨rfl, rfl⟩
  · rw [if_neg hr] at hy
    rw [hy] at c4
    clear hy
    go_enter Try.func29, Try.ntmps29
    go_wp2
    go_ret
    exact ⟨rfl, rfl⟩
theorem apick_ok (h : AlOk w t g1 g2 n W c o) (hi : i < n) (hr : 0 ≤ r ∧ r < W) {y : Nat} (hy : pkA c o i r = y) :
    Calls Try.prog 16 #[.pointer (some ⟨t, 0, none⟩), .int .i64 (i : Int), .int .i64 r] w fun e w' => e = .returned (.tuple #[.int .i64 (y : Int), .int .i64 0]) ∧ w' = w := by
  have HR := Lib.hid (refused_ok h hi)
  have HC := Lib.hid (choice_any h hi hy)
  obtain ⟨c1, _, _⟩ := h.cs
  have h1 : ¬ r < 0 := by omega
  have h2 : ¬ W ≤ r := by omega
  clear h hy hr
  go_enter Try.func16, Try.ntmps16
  go_wp2_with (first
    | (go_at_call 23; refine HR.out.mono ?_; rintro e w1 ⟨rfl, rfl⟩)
    | (go_at_call 29; refine HC.out.mono ?_; rintro e w1 ⟨rfl, rfl⟩))
  go_ret2
  exact ⟨rfl, rfl⟩
theorem apick_r (h : AlOk w t g1 g2 n W c o) (hi : i < n) (hr : ¬ (0 ≤ r ∧ r < W)) :
    Calls Try.prog 16 #[.pointer (some ⟨t, 0, none⟩), .int .i64 (i : Int), .int .i64 r] w fun e w' => e = .returned (.tuple #[.int .i64 0, .int .i64 1]) ∧ w' = w := by
  have HR := Lib.hid (refused_ok h hi)
  obtain ⟨c1, _, _⟩ := h.cs
  clear h
  rcases Int.lt_or_le r 0 with h1 | h1
  · clear hr
    go_enter Try.func16, Try.ntmps16
    go_wp2_with (first
      | (go_at_call 23; refine HR.out.mono ?_; rintro e w1 ⟨rfl, rfl⟩))
    go_ret2
    exact ⟨rfl, rfl⟩
  · have h2 : W ≤ r := by omega
    have h3 : ¬ r < 0 := by omega
    clear hr h1
    go_enter Try.func16, Try.ntmps16
    go_wp2_with (first
      | (go_at_call 23; refine HR.out.mono ?_; rintro e w1 ⟨rfl, rfl⟩))
    go_ret2
    exact ⟨rfl, rfl⟩
/-- the numbers with other places that pick i -/
def othN (c : Nat → Int) (o : Nat → Nat) (W : Int) (i : Nat) : Nat → Int := sumZ fun k => if o k = i then W - c k else 0
theorem prs_eq (hi : i < n) : prs c o W n i = c i + othN c o W i n := by
  unfold prs othN
  rw [sumZ_plus, sumZ_but (l := i) hi (g := fun _ => 0) (fun j _ hne => if_neg hne), sumZ_zero]
  simp
theorem othN_le (hc : ∀ j, j < n → 0 ≤ c j ∧ c j ≤ W) (hW : W ≤ 67108864) {k : Nat} (hk : k ≤ n) : 0 ≤ othN c o W i k ∧ othN c o W i k ≤ 67108864 * (k : Int) := by
  unfold othN
  induction k with
  | zero => exact ⟨Int.le_refl _, by simp [sumZ]⟩
  | succ k ih =>
    have h1 := ih (by omega)
    have h2 := hc k (by omega)
    rw [sumZ]
    split <;> omega
theorem pairs_any (h : AlOk w t g1 g2 n W c o) (hi : i < n) (hn : n ≤ 64) (hW : W ≤ 67108864) (hc : ∀ j, j < n → 0 ≤ c j ∧ c j ≤ W) {y : Int} (hy : prs c o W n i = y) :
    Calls Try.prog 24 #[.pointer (some ⟨t, 0, none⟩), .int .i64 (i : Int)] w fun e w' => e = .returned (.int .i64 y) ∧ Below w.heap.size w w' := by
  rw [prs_eq hi] at hy
  obtain ⟨c0, c1, c2⟩ := h.cs
  obtain ⟨x, hx⟩ : ∃ x, c i = x := ⟨_, rfl⟩
  have c3 := h.cut hi hx
  have hx9 := hc i hi
  rw [hx] at hy hx9
  have HT := Lib.hid h
  have HC := Lib.hid hc
  have HY := Lib.hid hy
  clear h hc hx hy
  go_enter Try.func24, Try.ntmps24
  go_wp2_with fail
  go_loopw [5, 20] (fun s k wr => ∃ k' : Nat, k' ≤ n ∧ s = .int .i64 (x + othN c o W i k') ∧ k = .int .i64 k' ∧ Below w.heap.size w wr) (fun _ k _ => n - (intOf k).toNat)
  case atStart => exact ⟨0, Nat.zero_le _, by unfold othN; simp [sumZ], rfl, Below.refl _ _⟩
  case round =>
    obtain ⟨k, hk, rfl, rfl, hb⟩ := hrel
    have HB := Lib.hid hb
    have HTr := Lib.hid (HT.out.on hb)
    clear hb c0 c1 c2 c3
    by_cases hlt : k < n
    · obtain ⟨c0, c1, c2⟩ := HTr.out.cs
      obtain ⟨y', hy'⟩ : ∃ y', o k = y' := ⟨_, rfl⟩
      obtain ⟨z, hz⟩ : ∃ z, c k = z := ⟨_, rfl⟩
      have c3 := HTr.out.oth hlt hy'
      have c4 := HTr.out.cut hlt hz
      have h9 := othN_le (o := o) (i := i) HC.out hW hk
      have h8 := HC.out k hlt
      have hs : othN c o W i (k + 1) = othN c o W i k + (if o k = i then W - c k else 0) := rfl
      rw [hy', hz] at hs
      rw [hz] at h8
      obtain ⟨q, hq⟩ : ∃ q, othN c o W i k = q := ⟨_, rfl⟩
      rw [hq] at hs h9
      rw [hq]
      clear hq hy' hz
      have j1 : (0 : Int) ≤ (k : Int) := by omega
      have j2 : (k : Int) < (n : Int) := by omega
      by_cases he : y' = i
      · rw [if_pos he] at hs
        have hei : (y' : Int) = (i : Int) := by omega
        have hw1 : IntKind.i64.wrap (W - z) = W - z := by rw [IntKind.wrap_i64]; omega
        have hw2 : IntKind.i64.wrap (x + q + (W - z)) = x + (q + (W - z)) := by rw [IntKind.wrap_i64]; omega
        have HS := Lib.hid hs
        clear hs h9 h8 he
        go_wp2_with fail
        go_region
        go_wp2
        go_roundw
        case rel => exact ⟨k + 1, hlt, by rw [HS.out], by go_num, HB.out.trans ⟨rfl, rfl, rfl, Nat.le_refl _, fun _ _ => rfl⟩⟩
        case measure => simp [intOf]; omega
      · rw [if_neg he, Int.add_zero] at hs
        have hei : ¬ (y' : Int) = (i : Int) := by omega
        have HS := Lib.hid hs
        clear hs h9 h8 he
        go_wp2
        go_roundw
        case rel => exact ⟨k + 1, hlt, by rw [HS.out], by go_num, HB.out⟩
        case measure => simp [intOf]; omega
    · obtain rfl : k = n := by omega
      rw [HY.out]
      go_wp2
      go_ret
      exact ⟨rfl, HB.out⟩
end
end Go.Proofs.Ytfdpddlefobcpaa
