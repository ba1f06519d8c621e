/- What the document's own Trim, Of and Add answer, over this translation. -/
import Derived.Test.YtbjhfnkdflnnoaaNatJoin
namespace Go.Proofs.Ytbjhfnkdflnnoaa
open Go.RowKit
set_option linter.unusedVariables false
open N
theorem Out.weaken {W : World} {m m' : Nat} {r : Int} (hm : m ≤ m') {e : Ending} {w' : World} (h : Out W m r e w') : Out W m' r e w' := by
  obtain ⟨A, n, c, he, hn, ho, hb⟩ := h
  exact ⟨A, n, c, he, by omega, ho, hb⟩
theorem rtrim_any (w : World) (A : Option Addr) (n c : Nat) (xs : List Int) (h : Sl w A n c xs) (hn : n ≤ 1099511627776) :
    Calls Try.prog 45 #[.slice A n c] w (Out w (4 * n + 1) (val B xs)) := by
  have hv := Lib.hid (digs_val (val_nonneg (b := B) (by decide) h.dg))
  go_enter Try.func45, Try.ntmps45
  go_wp2_with (first
    | (go_at_call 46; refine (digits_any _ _ _ _ xs h hn).mono ?_; rintro e w1 ⟨A1, n1, c1, rfl, hn1, ho1, hb1⟩)
    | (go_at_call 62; refine (join_any _ _ _ _ _ ho1.sl (digs_dg _) (by omega)).mono ?_; rintro e w2 ⟨A2, n2, c2, rfl, hn2, ho2, hb2⟩))
  go_ret
  rw [hv.out] at ho2
  exact Out.weaken (by omega) (Out.lift hb1 ⟨A2, n2, c2, rfl, hn2, ho2, hb2⟩)
namespace N
theorem radd_step {X Y zs : List Int} {c s : Int} {k : Nat} (hl : zs.length = k) (hs : s = c + lim X k + lim Y k) (h : val D zs + c * Q D k = lo D X k + lo D Y k) :
    val D (zs ++ [s % 65536]) + s / 65536 * Q D (k + 1) = lo D X (k + 1) + lo D Y (k + 1) := by
  rw [val_append, hl, lo_succ, lo_succ, Q_succ]
  show val D zs + Q D k * (s % 65536 + 65536 * 0) + s / 65536 * (Q D k * 65536) = _
  have e : s = s % 65536 + 65536 * (s / 65536) := by omega
  have e2 : s * Q D k = s % 65536 * Q D k + 65536 * (s / 65536) * Q D k := by rw [← Int.add_mul, ← e]
  have e3 : s * Q D k = c * Q D k + lim X k * Q D k + lim Y k * Q D k := by rw [hs, Int.add_mul, Int.add_mul]
  rw [Int.mul_zero, Int.add_zero, Int.mul_comm (Q D k) (s % 65536), Int.mul_comm (Q D k) 65536, ← Int.mul_assoc (s / 65536), Int.mul_comm (s / 65536) 65536]
  omega
end N
def RAddRel (w : World) (X Y : List Int) (M : Nat) (o c i : Value) (wr : World) : Prop :=
  ∃ (k : Nat) (zs : List Int) (q : Int) (A : Option Addr) (n cc : Nat), i = .int .i64 k ∧ c = .int .u64 q ∧ 0 ≤ q ∧ q ≤ 1 ∧ k ≤ M + 1 ∧ (q = 1 → k ≤ M) ∧ o = .slice A n cc ∧ n = k ∧ N.Own wr w.heap.size A n cc zs ∧ Dg D zs ∧
    val D zs + q * Q D k = lo D X k + lo D Y k ∧ Below w.heap.size w wr
/-- a round of the loop, whichever digits there are -/
theorem RAddRel.next {w w3 : World} {X Y : List Int} {M k : Nat} {zs : List Int} {q s : Int} {A3 : Option Addr} {c3 : Nat} (h1 : k ≤ M) (hs : s = q + lim X k + lim Y k) (h0 : 0 ≤ s) (h2 : s < 131072) (hM : k = M → s ≤ 1)
    (hl : zs.length = k) (hd : Dg D zs) (hv : val D zs + q * Q D k = lo D X k + lo D Y k) (ho : N.Own w3 w.heap.size A3 (k + 1) c3 (zs ++ [s % 65536])) (hb : Below w.heap.size w w3) :
    RAddRel w X Y M (.slice A3 (k + 1) c3) (.int .u64 (s / 65536)) (.int .i64 ((k : Int) + 1)) w3 :=
  ⟨k + 1, zs ++ [s % 65536], s / 65536, A3, k + 1, c3, by go_num, rfl, by omega, by omega, by omega, fun e => by by_cases hkm : k = M; have := hM hkm; omega; omega, rfl, rfl, ho, hd.append (Dg.one (by omega) (by show s % 65536 < 65536; omega)), radd_step hl hs hv, hb⟩
set_option maxHeartbeats 2000000 in
theorem radd_any (w : World) (A A' : Option Addr) (n c m d : Nat) (xs ys : List Int) (hx : Sl w A n c xs) (hy : Sl w A' m d ys) (hn : n ≤ 1000000) (hm : m ≤ 1000000) :
    Calls Try.prog 37 #[.slice A n c, .slice A' m d] w (Out w (4 * n + 4 * m + 2) (val B xs + val B ys)) := by
  have hvx := Lib.hid (digs_val (val_nonneg (b := B) (by decide) hx.dg))
  have hvy := Lib.hid (digs_val (val_nonneg (b := B) (by decide) hy.dg))
  go_enter Try.func37, Try.ntmps37
  go_wp2_with (first
    | (go_at_call_of 46 (Value.slice A n c); refine (digits_any _ _ _ _ xs hx (by omega)).mono ?_; rintro e w1 ⟨A1, n1, c1, rfl, hn1, ho1, hb1⟩; have hy1 := hy.below hb1)
    | (go_at_call_of 46 (Value.slice A' m d); refine (digits_any _ _ _ _ ys hy1 (by omega)).mono ?_; rintro e w2 ⟨A2, n2, c2, rfl, hn2, ho2, hb2⟩))
  have HX := Lib.hid (ho1.sl.below hb2)
  have HY := Lib.hid ho2.sl
  obtain ⟨X, hX⟩ : ∃ X, digs (val B xs) = X := ⟨_, rfl⟩
  obtain ⟨Y, hY⟩ : ∃ Y, digs (val B ys) = Y := ⟨_, rfl⟩
  have HDX := Lib.hid (digs_dg (val B xs))
  have HDY := Lib.hid (digs_dg (val B ys))
  rw [hX] at HX HDX hvx
  rw [hY] at HY HDY hvy
  have HB := Lib.hid (hb1.trans (hb2.mono hb1.size))
  clear hX hY hx hy hy1 ho1 ho2 hb1 hb2
  have hc1 := HX.out.cap
  have hc2 := HY.out.cap
  go_loopw [7, 8, 9] (fun o c i wr => RAddRel w2 X Y (n1 + n2) o c i wr) (fun _ _ i _ => n1 + n2 + 2 - (intOf i).toNat)
  case atStart => exact ⟨0, [], 0, none, 0, 0, rfl, rfl, by omega, by omega, by omega, fun _ => by omega, rfl, rfl, Own.nil_ _ _, Dg.nil, by rw [lo_zero, lo_zero]; simp [val], Below.refl _ _⟩
  case round =>
    obtain ⟨k, zs, q, A3, n3, c3, rfl, rfl, hq0, hq1, hkM, hkq, rfl, hnk, ho, hd, hv, hb⟩ := hrel
    obtain rfl : k = n3 := hnk.symm
    clear hnk
    obtain ⟨wi, rfl⟩ : ∃ wi : World, wi = wr := ⟨_, rfl⟩
    have hx0 := HDX.out.lim (by decide) k
    have hy0 := HDY.out.lim (by decide) k
    have hx1 : lim X k < 65536 := hx0.2
    have hy1 : lim Y k < 65536 := hy0.2
    have hxx := hx0.1
    have hyy := hy0.1
    have HO := Lib.hid ho
    have HV := Lib.hid hv
    have HKQ := Lib.hid hkq
    clear hx0 hy0 ho hv hkq
    have hoa := fun (u : Int) => HO.out.below ((Below.refl wi.heap.size wi).alloc (Nat.le_refl _) (.cells #[.int .u64 u] 40))
    have hsl := fun (u : Int) (h0 : 0 ≤ u) (h1 : u < 65536) => (Arr.lit wi [u] #[.int .u64 u] rfl).sl (n := 1) rfl (by unfold maxLen; omega) (Dg.one h0 (by show u < 18446744073709551616; omega))
    have HOA := Lib.hid hoa
    have HSL := Lib.hid hsl
    have hba := Lib.hid (fun (u : Int) => hb.alloc hb.size (.cells #[.int .u64 u] 40))
    clear hoa hsl
    by_cases hk1 : k < n1
    · by_cases hk2 : k < n2
      · obtain ⟨ad1, rfl, _, hcx⟩ := (HX.out.below hb).cell hk1
        obtain ⟨ad2, rfl, _, hcy⟩ := (HY.out.below hb).cell hk2
        have hs0 : 0 ≤ q + lim X k + lim Y k := by omega
        have hs1 : q + lim X k + lim Y k < 131072 := by omega
        have ho5 := HOA.out ((q + lim X k + lim Y k) % 65536)
        have hs5 := HSL.out ((q + lim X k + lim Y k) % 65536) (by omega) (by omega)
        have hb5 := hba.out ((q + lim X k + lim Y k) % 65536)
        go_wp2_with (first
          | (at_builtin; refine wp_app rfl _ _ _ rfl slU w2.heap.size rfl ho5 rfl hs5 (by omega) (by omega) hb5.size ?_; intro A6 c6 w6 hown6 _ _ hb6))
        go_roundw
        case rel =>
          have := RAddRel.next (M := n1 + n2) (X := X) (Y := Y) (s := q + lim X k + lim Y k) (q := q) (by omega) (by omega) (by omega) (by omega) (by omega) HO.out.len hd HV.out hown6 (hb5.trans hb6)
          exact this
        case measure => simp [intOf]; omega
      · obtain ⟨ad1, rfl, _, hcx⟩ := (HX.out.below hb).cell hk1
        have z2 := Lib.hid (lim_over Y k (by rw [HY.out.len]; omega))
        have hs0 : 0 ≤ q + lim X k := by omega
        have hs1 : q + lim X k < 131072 := by omega
        have ho5 := HOA.out ((q + lim X k) % 65536)
        have hs5 := HSL.out ((q + lim X k) % 65536) (by omega) (by omega)
        have hb5 := hba.out ((q + lim X k) % 65536)
        go_wp2_with (first
          | (at_builtin; refine wp_app rfl _ _ _ rfl slU w2.heap.size rfl ho5 rfl hs5 (by omega) (by omega) hb5.size ?_; intro A6 c6 w6 hown6 _ _ hb6))
        go_roundw
        case rel =>
          have := RAddRel.next (M := n1 + n2) (X := X) (Y := Y) (s := q + lim X k) (q := q) (by omega) (by rw [z2.out]; omega) (by omega) (by omega) (by omega) HO.out.len hd HV.out hown6 (hb5.trans hb6)
          exact this
        case measure => simp [intOf]; omega
    · by_cases hk2 : k < n2
      · have z1 := Lib.hid (lim_over X k (by rw [HX.out.len]; omega))
        obtain ⟨ad2, rfl, _, hcy⟩ := (HY.out.below hb).cell hk2
        have hs0 : 0 ≤ q + lim Y k := by omega
        have hs1 : q + lim Y k < 131072 := by omega
        have ho5 := HOA.out ((q + lim Y k) % 65536)
        have hs5 := HSL.out ((q + lim Y k) % 65536) (by omega) (by omega)
        have hb5 := hba.out ((q + lim Y k) % 65536)
        go_wp2_with (first
          | (at_builtin; refine wp_app rfl _ _ _ rfl slU w2.heap.size rfl ho5 rfl hs5 (by omega) (by omega) hb5.size ?_; intro A6 c6 w6 hown6 _ _ hb6))
        go_roundw
        case rel =>
          have := RAddRel.next (M := n1 + n2) (X := X) (Y := Y) (s := q + lim Y k) (q := q) (by omega) (by rw [z1.out]; omega) (by omega) (by omega) (by omega) HO.out.len hd HV.out hown6 (hb5.trans hb6)
          exact this
        case measure => simp [intOf]; omega
      · have z1 := Lib.hid (lim_over X k (by rw [HX.out.len]; omega))
        have z2 := Lib.hid (lim_over Y k (by rw [HY.out.len]; omega))
        rcases Int.lt_or_eq_of_le hq0 with hqp | hqp
        · obtain rfl : q = 1 := by omega
          have hkM2 : k ≤ n1 + n2 := HKQ.out rfl
          have ho5 := HOA.out 1
          have hs5 := HSL.out 1 (by omega) (by omega)
          have hb5 := hba.out 1
          go_wp2_with (first
            | (at_builtin; refine wp_app rfl _ _ _ rfl slU w2.heap.size rfl ho5 rfl hs5 (by omega) (by omega) hb5.size ?_; intro A6 c6 w6 hown6 _ _ hb6))
          go_roundw
          case rel =>
            have := RAddRel.next (M := n1 + n2) (X := X) (Y := Y) (s := (1 : Int)) (q := 1) (by omega) (by rw [z1.out, z2.out]; omega) (by omega) (by omega) (by omega) HO.out.len hd HV.out hown6 (hb5.trans hb6)
            exact this
          case measure => simp [intOf]; omega
        · obtain rfl : q = 0 := hqp.symm
          have hsl2 := HO.out.sl
          go_wp2_with (go_at_call 62; refine (join_any _ _ _ _ zs hsl2 hd (by omega)).mono ?_; rintro e w4 ⟨A4, n4, c4, rfl, hn4, ho4, hb4⟩)
          go_ret
          have e : val D zs = val B xs + val B ys := by
            have h := HV.out
            rw [lo_all D X k (by rw [HX.out.len]; omega), lo_all D Y k (by rw [HY.out.len]; omega), hvx.out, hvy.out] at h
            rw [← h]; simp
          rw [e] at ho4
          exact Out.weaken (by omega) (Out.lift (HB.out.trans (hb.mono HB.out.size)) ⟨A4, n4, c4, rfl, hn4, ho4, hb4⟩)
end Go.Proofs.Ytbjhfnkdflnnoaa
