/- What the document's own Sub answers, over this translation. -/
import Derived.Test.YtbjhfnkdflnnoaaRefAdd
import Derived.Test.YtbjhfnkdflnnoaaRefCmp
namespace Go.Proofs.Ytbjhfnkdflnnoaa
open Go.RowKit
set_option linter.unusedVariables false
open N
theorem rsub_no (w : World) (A A' : Option Addr) (n c m d : Nat) (xs ys : List Int) (hx : Sl w A n c xs) (hy : Sl w A' m d ys) (hn : n ≤ 1000000) (hm : m ≤ 1000000) (hlt : val B xs < val B ys) :
    Calls Try.prog 41 #[.slice A n c, .slice A' m d] w fun e w' => e = .returned (.tuple #[.slice none 0 0, .int .i64 8]) ∧ Below w.heap.size w w' := by
  have HC := Lib.hid (cmpI_lt hlt)
  go_enter Try.func41, Try.ntmps41
  go_wp2_with (go_at_call 40; refine (rcmp_any _ _ _ _ _ _ _ xs ys hx hy hn hm).mono ?_; rintro e w1 ⟨rfl, hb1⟩; rw [HC.out])
  go_ret2
  exact ⟨rfl, hb1⟩
namespace N
theorem rsub_step {X Y zs : List Int} {q g p : Int} {k : Nat} (hl : zs.length = k) (hg : g - p * 65536 = lim X k - lim Y k - q) (h : val D zs - q * Q D k = lo D X k - lo D Y k) :
    val D (zs ++ [g]) - p * Q D (k + 1) = lo D X (k + 1) - lo D Y (k + 1) := by
  rw [val_append, hl, lo_succ, lo_succ, Q_succ]
  show val D zs + Q D k * (g + 65536 * 0) - p * (Q D k * 65536) = _
  have e : g = lim X k - lim Y k - q + p * 65536 := by omega
  have e2 : g * Q D k = lim X k * Q D k - lim Y k * Q D k - q * Q D k + p * 65536 * Q D k := by rw [e, Int.add_mul, Int.sub_mul, Int.sub_mul]
  rw [Int.mul_zero, Int.add_zero, Int.mul_comm (Q D k) g, Int.mul_comm (Q D k) 65536, ← Int.mul_assoc p]
  omega
theorem rsub_last {X Y zs : List Int} {q : Int} {n : Nat} (hX : Dg D X) (hY : Dg D Y) (hz : Dg D zs) (hl : zs.length = n) (hXl : X.length = n) (hle : val D Y ≤ val D X) (hq : 0 ≤ q) (h : val D zs - q * Q D n = lo D X n - lo D Y n) :
    val D zs = val D X - val D Y := by
  have e1 := val_lt (b := D) (by decide) hX
  rw [hXl] at e1
  rw [lo_all D X n (by omega)] at h
  have e2 : lo D Y n = val D Y := by
    rw [← (val_div (by decide) hY n).2]
    exact Int.emod_eq_of_lt (val_nonneg (by decide) hY) (by omega)
  rw [e2] at h
  have e3 := val_lt (b := D) (by decide) hz
  rw [hl] at e3
  have e4 := Q_pos (b := D) (by decide) n
  have : q = 0 := by
    apply Classical.byContradiction; intro hne
    have e6 : 1 * Q D n ≤ q * Q D n := Int.mul_le_mul_of_nonneg_right (by omega) (by omega)
    omega
  subst this
  omega
end N
def RSubRel (w : World) (X Y : List Int) (M : Nat) (o c i : Value) (wr : World) : Prop :=
  ∃ (k : Nat) (zs : List Int) (q : Int) (A : Option Addr) (n cc : Nat), i = .int .i64 k ∧ c = .int .u64 q ∧ 0 ≤ q ∧ q ≤ 1 ∧ k ≤ M ∧ o = .slice A n cc ∧ n = k ∧ N.Own wr w.heap.size A n cc zs ∧ Dg D zs ∧
    val D zs - q * Q D k = lo D X k - lo D Y k ∧ Below w.heap.size w wr
theorem RSubRel.next {w w3 : World} {X Y : List Int} {M k : Nat} {zs : List Int} {q g p : Int} {A3 : Option Addr} {c3 : Nat} (h1 : k < M) (hg : g - p * 65536 = lim X k - lim Y k - q) (h0 : 0 ≤ g) (h2 : g < 65536) (hp0 : 0 ≤ p) (hp1 : p ≤ 1)
    (hl : zs.length = k) (hd : Dg D zs) (hv : val D zs - q * Q D k = lo D X k - lo D Y k) (ho : N.Own w3 w.heap.size A3 (k + 1) c3 (zs ++ [g])) (hb : Below w.heap.size w w3) :
    RSubRel w X Y M (.slice A3 (k + 1) c3) (.int .u64 p) (.int .i64 ((k : Int) + 1)) w3 :=
  ⟨k + 1, zs ++ [g], p, A3, k + 1, c3, by go_num, rfl, by omega, by omega, by omega, rfl, rfl, ho, hd.append (Dg.one (by omega) (by show g < 65536; omega)), rsub_step hl hg hv, hb⟩
set_option maxHeartbeats 2000000 in
theorem rsub_yes (w : World) (A A' : Option Addr) (n c m d : Nat) (xs ys : List Int) (hx : Sl w A n c xs) (hy : Sl w A' m d ys) (hn : n ≤ 1000000) (hm : m ≤ 1000000) (hle : val B ys ≤ val B xs) :
    Calls Try.prog 41 #[.slice A n c, .slice A' m d] w (Out2 w (4 * n + 1) (val B xs - val B ys) 0) := by
  have hvx := Lib.hid (digs_val (val_nonneg (b := B) (by decide) hx.dg))
  have hvy := Lib.hid (digs_val (val_nonneg (b := B) (by decide) hy.dg))
  obtain ⟨cc, hcc, hc0⟩ : ∃ cc : Int, cmpI (val B xs) (val B ys) = cc ∧ 0 ≤ cc := by
    rcases Int.lt_or_eq_of_le hle with h | h
    · exact ⟨1, cmpI_gt h, by omega⟩
    · exact ⟨0, cmpI_eq h.symm, by omega⟩
  have HC := Lib.hid hcc
  have HLE := Lib.hid hle
  clear hcc hle
  go_enter Try.func41, Try.ntmps41
  go_wp2_with (first
    | (go_at_call 40; refine (rcmp_any _ _ _ _ _ _ _ xs ys hx hy hn hm).mono ?_; rintro e w0 ⟨rfl, hb0⟩; rw [HC.out]; have hx0 := hx.below hb0; have hy0 := hy.below hb0)
    | (go_at_call_of 46 (Value.slice A n c); refine (digits_any _ _ _ _ xs hx0 (by omega)).mono ?_; rintro e w1 ⟨A1, n1, c1, rfl, hn1, ho1, hb1⟩; have hy1 := hy0.below hb1)
    | (go_at_call_of 46 (Value.slice A' m d); refine (digits_any _ _ _ _ ys hy1 (by omega)).mono ?_; rintro e w2 ⟨A2, n2, c2, rfl, hn2, ho2, hb2⟩))
  have HX := Lib.hid (ho1.sl.below hb2)
  have HY := Lib.hid ho2.sl
  obtain ⟨X, hX⟩ : ∃ X, digs (val B xs) = X := ⟨_, rfl⟩
  obtain ⟨Y, hY⟩ : ∃ Y, digs (val B ys) = Y := ⟨_, rfl⟩
  have HDX := Lib.hid (digs_dg (val B xs))
  have HDY := Lib.hid (digs_dg (val B ys))
  rw [hX] at HX HDX hvx
  rw [hY] at HY HDY hvy
  have HB := Lib.hid ((hb0.trans (hb1.mono hb0.size)).trans (hb2.mono (Nat.le_trans hb0.size hb1.size)))
  clear hX hY hx hy hy1 ho1 ho2 hb1 hb2 hx0 hy0 hb0
  have hc1 := HX.out.cap
  have hc2 := HY.out.cap
  go_loopw [8, 9, 10] (fun o c i wr => RSubRel w2 X Y n1 o c i wr) (fun _ _ i _ => n1 - (intOf i).toNat)
  case atStart => exact ⟨0, [], 0, none, 0, 0, rfl, rfl, by omega, by omega, by omega, rfl, rfl, Own.nil_ _ _, Dg.nil, by rw [lo_zero, lo_zero]; simp [val], Below.refl _ _⟩
  case round =>
    obtain ⟨k, zs, q, A3, n3, c3, rfl, rfl, hq0, hq1, hkM, rfl, hnk, ho, hd, hv, hb⟩ := hrel
    obtain rfl : k = n3 := hnk.symm
    clear hnk
    obtain ⟨wi, rfl⟩ : ∃ wi : World, wi = wr := ⟨_, rfl⟩
    have hx0 := HDX.out.lim (by decide) k
    have hy0 := HDY.out.lim (by decide) k
    have hx1 : lim X k < 65536 := hx0.2
    have hy1 : lim Y k < 65536 := hy0.2
    have hxx := hx0.1
    have hyy := hy0.1
    have HO := Lib.hid ho
    have HV := Lib.hid hv
    clear hx0 hy0 ho hv
    have HOA := Lib.hid (fun (u : Int) => HO.out.below ((Below.refl wi.heap.size wi).alloc (Nat.le_refl _) (.cells #[.int .u64 u] 40)))
    have HSL := Lib.hid (fun (u : Int) (h0 : 0 ≤ u) (h1 : u < 65536) => (Arr.lit wi [u] #[.int .u64 u] rfl).sl (n := 1) rfl (by unfold maxLen; omega) (Dg.one h0 (by show u < 18446744073709551616; omega)))
    have hba := Lib.hid (fun (u : Int) => hb.alloc hb.size (.cells #[.int .u64 u] 40))
    by_cases hk1 : k < n1
    · obtain ⟨ad1, rfl, _, hcx⟩ := (HX.out.below hb).cell hk1
      by_cases hk2 : k < n2
      · obtain ⟨ad2, rfl, _, hcy⟩ := (HY.out.below hb).cell hk2
        by_cases hc : lim X k < q + lim Y k
        · have ho5 := HOA.out (lim X k + 65536 - (q + lim Y k))
          have hs5 := HSL.out (lim X k + 65536 - (q + lim Y k)) (by omega) (by omega)
          have hb5 := hba.out (lim X k + 65536 - (q + lim Y k))
          go_wp2_with (first
            | (at_builtin; refine wp_app rfl _ _ _ rfl slU w2.heap.size rfl ho5 rfl hs5 (by omega) (by omega) hb5.size ?_; intro A6 c6 w6 hown6 _ _ hb6))
          go_roundw
          case rel =>
            have := RSubRel.next (M := n1) (X := X) (Y := Y) (g := lim X k + 65536 - (q + lim Y k)) (p := 1) (q := q) hk1 (by omega) (by omega) (by omega) (by omega) (by omega) HO.out.len hd HV.out hown6 (hb5.trans hb6)
            exact this
          case measure => simp [intOf]; omega
        · have ho5 := HOA.out (lim X k - (q + lim Y k))
          have hs5 := HSL.out (lim X k - (q + lim Y k)) (by omega) (by omega)
          have hb5 := hba.out (lim X k - (q + lim Y k))
          go_wp2_with (first
            | (at_builtin; refine wp_app rfl _ _ _ rfl slU w2.heap.size rfl ho5 rfl hs5 (by omega) (by omega) hb5.size ?_; intro A6 c6 w6 hown6 _ _ hb6))
          go_roundw
          case rel =>
            have := RSubRel.next (M := n1) (X := X) (Y := Y) (g := lim X k - (q + lim Y k)) (p := 0) (q := q) hk1 (by omega) (by omega) (by omega) (by omega) (by omega) HO.out.len hd HV.out hown6 (hb5.trans hb6)
            exact this
          case measure => simp [intOf]; omega
      · have z2 := Lib.hid (lim_over Y k (by rw [HY.out.len]; omega))
        by_cases hc : lim X k < q
        · have ho5 := HOA.out (lim X k + 65536 - q)
          have hs5 := HSL.out (lim X k + 65536 - q) (by omega) (by omega)
          have hb5 := hba.out (lim X k + 65536 - q)
          go_wp2_with (first
            | (at_builtin; refine wp_app rfl _ _ _ rfl slU w2.heap.size rfl ho5 rfl hs5 (by omega) (by omega) hb5.size ?_; intro A6 c6 w6 hown6 _ _ hb6))
          go_roundw
          case rel =>
            have := RSubRel.next (M := n1) (X := X) (Y := Y) (g := lim X k + 65536 - q) (p := 1) (q := q) hk1 (by rw [z2.out]; omega) (by omega) (by omega) (by omega) (by omega) HO.out.len hd HV.out hown6 (hb5.trans hb6)
            exact this
          case measure => simp [intOf]; omega
        · have ho5 := HOA.out (lim X k - q)
          have hs5 := HSL.out (lim X k - q) (by omega) (by omega)
          have hb5 := hba.out (lim X k - q)
          go_wp2_with (first
            | (at_builtin; refine wp_app rfl _ _ _ rfl slU w2.heap.size rfl ho5 rfl hs5 (by omega) (by omega) hb5.size ?_; intro A6 c6 w6 hown6 _ _ hb6))
          go_roundw
          case rel =>
            have := RSubRel.next (M := n1) (X := X) (Y := Y) (g := lim X k - q) (p := 0) (q := q) hk1 (by rw [z2.out]; omega) (by omega) (by omega) (by omega) (by omega) HO.out.len hd HV.out hown6 (hb5.trans hb6)
            exact this
          case measure => simp [intOf]; omega
    · obtain rfl : k = n1 := by omega
      have hsl2 := HO.out.sl
      go_wp2_with (go_at_call 62; refine (join_any _ _ _ _ zs hsl2 hd (by omega)).mono ?_; rintro e w4 ⟨A4, n4, c4, rfl, hn4, ho4, hb4⟩)
      go_ret2
      have e : val D zs = val B xs - val B ys := by
        rw [← hvx.out, ← hvy.out]
        exact rsub_last HDX.out HDY.out hd HO.out.len HX.out.len (by rw [hvx.out, hvy.out]; exact HLE.out) hq0 HV.out
      rw [e] at ho4
      exact Out2.lift (HB.out.trans (hb.mono HB.out.size)) ⟨A4, n4, c4, rfl, by omega, ho4, hb4⟩
end Go.Proofs.Ytbjhfnkdflnnoaa
