/- The document of layer 6: Gcd, both above 0. -/
import Derived.Test.YtfdpddlefobcpaaGreatDoorRefRatH
namespace Go.Proofs.YtfdpddlefobcpaaGreatDoor
open Go.RowKit
set_option linter.unusedVariables false
set_option linter.unusedSimpArgs false
set_option maxRecDepth 20000
open N
open Go.Lib (decDigits nDigits decDigits_length nDigits_pos)
namespace N
theorem QB_two (K : Nat) : Q B K = 2 ^ (64 * K) := by
  unfold Q
  rw [show (B : Int) = 2 ^ 64 by decide, ← Int.pow_mul]
theorem pow_lt_k {x : Int} {k K : Nat} (hx : 0 < x) (h : x * 2 ^ k < Q B K) : k < 64 * K := by
  apply Classical.byContradiction
  intro hc
  obtain ⟨j, rfl⟩ := Nat.exists_eq_add_of_le (show 64 * K ≤ k by omega)
  rw [QB_two, Int.pow_add] at h
  have h1 : (0 : Int) < 2 ^ (64 * K) := Int.pow_pos (by decide)
  have h2 : (0 : Int) < 2 ^ j := Int.pow_pos (by decide)
  generalize (2 : Int) ^ (64 * K) = p at *
  generalize (2 : Int) ^ j = q at *
  have h3 : p ≤ x * (p * q) := by
    have h4 : 1 ≤ x * q := Int.mul_pos hx h2
    have h5 := Int.mul_le_mul_of_nonneg_left h4 (Int.le_of_lt h1)
    rw [Int.mul_one] at h5
    calc p ≤ p * (x * q) := h5
      _ = x * (p * q) := by grind
  omega
theorem gI_le_l {a b : Int} (ha : 0 < a) : gI a b ≤ a := Int.le_of_dvd ha (gI_dvd_l (Int.le_of_lt ha))
theorem gI_pos' {a b : Int} (ha : 0 < a) : 0 < gI a b := by rw [gI_comm']; exact gI_pos ha
end N
section
variable {w : World} {A A' : Option Addr} {n c m d K : Nat} {xs ys : List Int}
end
namespace N
theorem gI_odd_r {a b : Int} (ha : 0 ≤ a) (hb : 0 ≤ b) (h : a % 2 = 0) (hg : gI a b % 2 = 1) : b % 2 = 1 := by
  apply Classical.byContradiction
  intro hc
  have := gI_even ha hb h (by omega)
  omega
end N
theorem SC.re0 {w0 v0 w : World} {S O : List Ent} {T : List Blk} {k : Nat} (h : SC w0 v0 w (⟨none, 0, 0, 0, [], 0⟩ :: S) T O) : SC w0 v0 w (⟨none, 0, 0, k, [], 0⟩ :: S) T O := by
  refine ⟨⟨h.st.1, fun t ht => ?_⟩, h.bl, h.box, h.from_, h.nd, fun t ht q hq hn => ?_, h.own, h.apo⟩
  · rcases List.mem_cons.1 ht with e | e
    · subst e; exact ⟨Sl.none, Nat.zero_le _, rfl⟩
    · exact h.st.2 t (List.mem_cons_of_mem _ e)
  · rcases List.mem_cons.1 ht with e | e
    · subst e; exact absurd hn (by simp)
    · exact h.apart t (List.mem_cons_of_mem _ e) q hq hn
section
variable {w : World} {A A' : Option Addr} {n c m d K : Nat} {xs ys : List Int}
set_option maxHeartbeats 4000000 in
theorem rgcd_pos (w : World) (h : Sl w A n c xs) (h' : Sl w A' m d ys) (hn : n ≤ K) (hm : m ≤ K) (hK : K ≤ 1000) (hv : 0 < val B xs) (hu : 0 < val B ys) : Calls Tryz.prog 62 #[.slice A n c, .slice A' m d] w (Out w K (gI (val B xs) (val B ys))) := by
  have hv0 := h.nn0
  have hu0 := h'.nn0
  have hvK : val B xs < Q B K := Int.lt_of_lt_of_le h.lt (QB_le hn)
  have huK : val B ys < Q B K := Int.lt_of_lt_of_le h'.lt (QB_le hm)
  have hS := Lib.hid (((SC.start w).old (k := K) h' hm rfl).old (k := K) h hn rfl)
  clear h h'
  go_enter Tryz.func62, Tryz.ntmps62
  go_wp2_with fail
  go_at_call 61
  with_reducible refine (rtrim_k (K := K) hS.out (by repeat (first | exact ms | apply mo)) (by omega) rfl hvK).mono ?_
  rintro e v1 ⟨A1, n1, c1, rfl, h1⟩
  clear hS; have hS := Lib.hid h1; clear h1
  go_wp2_with fail
  go_at_call 61
  with_reducible refine (rtrim_k (K := K) hS.out (by repeat (first | exact ms | apply mo)) (by omega) rfl huK).mono ?_
  rintro e v2 ⟨A2, n2, c2, rfl, h1⟩
  clear hS; have hS := Lib.hid h1; clear h1
  have e1 := len_z (hS.out.get (A := A1) (n := n1) (c := c1) (by repeat (first | exact ms | apply mo))).1 hv0
  have e2 := len_z (hS.out.get (A := A2) (n := n2) (c := c2) (by repeat (first | exact ms | apply mo))).1 hu0
  have hn1 : 0 < n1 := by omega
  have hn2 : 0 < n2 := by omega
  have hb1 : (((n1 : Nat) : Int) == 0) = false := by simp; omega
  have hb2 : (((n2 : Nat) : Int) == 0) = false := by simp; omega
  clear e1 e2
  obtain ⟨v, hvv⟩ : ∃ v, val B xs = v := ⟨_, rfl⟩
  obtain ⟨u, huu⟩ : ∃ u, val B ys = u := ⟨_, rfl⟩
  obtain ⟨G, hGG⟩ : ∃ G, gI v u = G := ⟨_, rfl⟩
  rw [hvv] at hv hv0 hvK hS
  rw [huu] at hu hu0 huK hS
  rw [hvv, huu, hGG]
  have hGK : G < Q B K := by have := gI_le_l (a := v) (b := u) (by omega); omega
  have hG0 : 0 < G := by rw [← hGG]; exact gI_pos' (by omega)
  go_wp2_with fail
  go_loopw [0, 1, 5] (fun a b t wr => ∃ (k : Nat) (x y : Int) (A1 : Option Addr) (n1 c1 : Nat) (A2 : Option Addr) (n2 c2 : Nat), a = .slice A1 n1 c1 ∧ b = .slice A2 n2 c2 ∧ t = .int .i64 k ∧ 0 < x ∧ 0 < y ∧ x < Q B K ∧ y < Q B K ∧ x * 2 ^ k = v ∧ gI x y * 2 ^ k = G ∧
    SC w w wr [⟨A1, n1, c1, K, limbs x, x⟩, ⟨A2, n2, c2, K, limbs y, y⟩] [] []) (fun _ _ t _ => 64 * K + 1 - (intOf t).toNat)
  case atStart =>
    exact ⟨0, v, u, _, _, _, _, _, _, rfl, rfl, rfl, by omega, by omega, hvK, huK, by simp, by rw [hGG]; simp, hS.out.sub (by
      intro t ht
      simp only [List.mem_cons, List.not_mem_nil, or_false] at ht ⊢
      rcases ht with rfl | rfl <;> simp) (List.Sublist.refl _) (fun t ht => by cases ht)⟩
  case round =>
    clear hb1 hb2 hn1 hn2
    obtain ⟨k, x, y, A1, n1, c1, A2, n2, c2, rfl, rfl, rfl, hx0, hy0, hxK, hyK, hxk, hG, h1⟩ := hrel
    obtain ⟨wo, rfl⟩ : ∃ wo : World, wo = wr := ⟨_, rfl⟩
    clear hS; have hS := Lib.hid h1; clear h1
    have hk : k < 64 * K := pow_lt_k hx0 (by rw [hxk]; exact hvK)
    by_cases hx : x % 2 = 1
    · go_wp2_with fail
      go_at_call 85
      with_reducible refine (rbit_k (b := true) hS.out (by repeat (first | exact ms | apply mo)) (by omega) (by rw [hx]; decide)).mono ?_
      rintro e v11 ⟨rfl, h1⟩
      clear hS; have hS := Lib.hid h1; clear h1
      go_wp2_with fail
      have hg1 : gI x y % 2 = 1 := gI_odd (by omega) (by omega) (by omega) (by omega)
      obtain ⟨g, hg⟩ : ∃ g, gI x y = g := ⟨_, rfl⟩
      rw [hg] at hg1 hG
      have hgp : 0 < g := by rw [← hg]; exact gI_pos' (by omega)
      go_loopw [0, 1] (fun a b wr => ∃ (p q : Int) (B1 : Option Addr) (i1 j1 : Nat) (B2 : Option Addr) (i2 j2 : Nat), a = .slice B1 i1 j1 ∧ b = .slice B2 i2 j2 ∧ 0 ≤ p ∧ 0 ≤ q ∧ p < Q B K ∧ q < Q B K ∧ (0 < p ∨ 0 < q) ∧ gI p q = g ∧
        SC w w wr [⟨B1, i1, j1, K, limbs p, p⟩, ⟨B2, i2, j2, K, limbs q, q⟩] [] []) (fun a b wr => vOf a wr + vOf b wr)
      case atStart =>
        exact ⟨x, y, _, _, _, _, _, _, rfl, rfl, by omega, by omega, by omega, by omega, by omega, hg, hS.out.sub (by
          intro t ht
          simp only [List.mem_cons, List.not_mem_nil, or_false] at ht ⊢
          rcases ht with rfl | rfl <;> simp) (List.Sublist.refl _) (fun t ht => by cases ht)⟩
      case round =>
        obtain ⟨p, q, B1, i1, j1, B2, i2, j2, rfl, rfl, hp0, hq0, hpK, hqK, hpq, hgg, h1⟩ := hrel
        obtain ⟨wp, rfl⟩ : ∃ wp : World, wp = wr := ⟨_, rfl⟩
        clear hS; have hS := Lib.hid h1; clear h1
        have s1 := hS.out.get (A := B1) (n := i1) (c := j1) List.mem_cons_self
        have s2 := hS.out.get (A := B2) (n := i2) (c := j2) (List.mem_cons_of_mem _ List.mem_cons_self)
        have e1 := len_z s1.1 hp0
        have e2 := len_z s2.1 hq0
        have HM : vOf (.slice B1 i1 j1) wp + vOf (.slice B2 i2 j2) wp = p.toNat + q.toNat := by rw [vOf_eq s1.1, vOf_eq s2.1, s1.2.2, s2.2.2]
        have HM := Lib.hid HM
        clear s1 s2
        by_cases hp : p = 0
        · obtain rfl : i1 = 0 := e1.2 hp
          clear e1 e2
          have hsum : p + q = g := by rw [← hgg, hp, gI_comm', gI_zero hq0]; omega
          have hgK : g < Q B K := by omega
          go_wp2_with fail
          go_at_call 92
          with_reducible refine (radd_k (K := K) hS.out (by repeat (first | exact ms | apply mo)) (by omega) (by repeat (first | exact ms | apply mo)) (by omega) hsum hgK).mono ?_
          rintro e v51 ⟨A8, n8, c8, rfl, h1⟩
          clear hS; have hS := Lib.hid h1; clear h1
          go_wp2_with fail
          go_at_call 91
          with_reducible refine (rshl_k (K := K) hS.out (by repeat (first | exact ms | apply mo)) (by omega) (q := k) (by omega) rfl hG hGK).mono ?_
          rintro e v52 ⟨A9, n9, c9, rfl, h1⟩
          clear hS; have hS := Lib.hid h1; clear h1
          go_wp2
          go_ret
          have ho : N.Own _ _ A9 n9 c9 (limbs G) := hS.out.own _ (show (⟨A9, n9, c9, K, limbs G, G⟩ : Ent) ∈ _ from (by repeat (first | exact ms | apply mo)))
          try rw [hvv, huu, hGG]
          exact ⟨A9, n9, c9, rfl, own_len ho rfl (by omega) hGK, ho, hS.out.bl⟩
        · by_cases hq : q = 0
          · obtain rfl : i2 = 0 := e2.2 hq
            have hi1 : 0 < i1 := by omega
            clear e1 e2
            have hsum : p + q = g := by rw [← hgg, hq, gI_zero hp0]; omega
            have hgK : g < Q B K := by omega
            go_wp2_with fail
            go_at_call 92
            with_reducible refine (radd_k (K := K) hS.out (by repeat (first | exact ms | apply mo)) (by omega) (by repeat (first | exact ms | apply mo)) (by omega) hsum hgK).mono ?_
            rintro e v51 ⟨A8, n8, c8, rfl, h1⟩
            clear hS; have hS := Lib.hid h1; clear h1
            go_wp2_with fail
            go_at_call 91
            with_reducible refine (rshl_k (K := K) hS.out (by repeat (first | exact ms | apply mo)) (by omega) (q := k) (by omega) rfl hG hGK).mono ?_
            rintro e v52 ⟨A9, n9, c9, rfl, h1⟩
            clear hS; have hS := Lib.hid h1; clear h1
            go_wp2
            go_ret
            have ho : N.Own _ _ A9 n9 c9 (limbs G) := hS.out.own _ (show (⟨A9, n9, c9, K, limbs G, G⟩ : Ent) ∈ _ from (by repeat (first | exact ms | apply mo)))
            try rw [hvv, huu, hGG]
            exact ⟨A9, n9, c9, rfl, own_len ho rfl (by omega) hGK, ho, hS.out.bl⟩
          · have hi1 : 0 < i1 := by omega
            have hi2 : 0 < i2 := by omega
            clear e1 e2
            by_cases hs1 : p < 18446744073709551616
            · by_cases hs2 : q < 18446744073709551616
              · go_wp2_with fail
                go_at_call 87
                with_reducible refine (rsmall_y hS.out (by repeat (first | exact ms | apply mo)) (by omega) rfl hs1).mono ?_
                rintro e v61 ⟨rfl, h1⟩
                clear hS; have hS := Lib.hid h1; clear h1
                go_wp2_with fail
                go_at_call 87
                with_reducible refine (rsmall_y hS.out (by repeat (first | exact ms | apply mo)) (by omega) rfl hs2).mono ?_
                rintro e v62 ⟨rfl, h1⟩
                clear hS; have hS := Lib.hid h1; clear h1
                go_wp2_with fail
                go_loopw [6, 8] (fun xv yv wr => ∃ r s : Int, xv = .int .u64 r ∧ yv = .int .u64 s ∧ 0 ≤ r ∧ r < 18446744073709551616 ∧ 0 ≤ s ∧ s < 18446744073709551616 ∧ (0 < r ∨ 0 < s) ∧ gI r s = g ∧ SC w w wr [⟨B1, i1, j1, K, limbs p, p⟩, ⟨B2, i2, j2, K, limbs q, q⟩] [] []) (fun _ yv _ => (intOf yv).toNat)
                case atStart => exact ⟨p, q, rfl, rfl, hp0, hs1, hq0, hs2, hpq, hgg, hS.out⟩
                case round =>
                  obtain ⟨r, s, rfl, rfl, hr0, hr1, hs0, hs3, hrs, hgr, h1⟩ := hrel
                  obtain ⟨wq, rfl⟩ : ∃ wq : World, wq = wr := ⟨_, rfl⟩
                  clear hS; have hS := Lib.hid h1; clear h1
                  by_cases hs : s = 0
                  · subst hs
                    have hrg : r = g := by rw [← hgr, gI_zero hr0]
                    have hgle : g ≤ p := by rw [← hgg]; exact gI_le_l (by omega)
                    have hwd : W.Wd r := ⟨hr0, hr1⟩
                    have hrp : 0 < r := by omega
                    have hrle : r ≤ p := by omega
                    have hrK : r < Q B K := by omega
                    have HRG := Lib.hid hrg
                    clear hrg hgle
                    go_wp2_with fail
                    go_at_call 88
                    with_reducible refine (rof_k (r := r) (K := K) hS.out hwd hrK).mono ?_
                    rintro e v71 ⟨A9, n9, c9, rfl, h1⟩
                    clear hS; have hS := Lib.hid h1; clear h1
                    have h1 : SC w w v71 [⟨A9, n9, c9, K, limbs r, r⟩, ⟨none, 0, 0, K, limbs 0, 0⟩] [] [] := by
                      have h2 := (hS.out.none_)
                      rw [limbs_zero]
                      exact ((h2.re0 (k := K)).sub (by
                        intro t ht
                        simp only [List.mem_cons, List.not_mem_nil, or_false] at ht ⊢
                        rcases ht with rfl | rfl <;> simp) (List.Sublist.refl _) (fun t ht => by cases ht))
                    clear hS; have hS := Lib.hid h1; clear h1
                    go_wp2_with fail
                    go_roundw
                    case rel =>
                      refine ⟨r, 0, A9, n9, c9, none, 0, 0, rfl, rfl, by omega, by omega, by omega, by omega, by omega, ?_, hS.out.sub (by
                        intro t ht
                        simp only [List.mem_cons, List.not_mem_nil, or_false] at ht ⊢
                        rcases ht with rfl | rfl <;> simp) (List.Sublist.refl _) (fun t ht => by cases ht)⟩
                      rw [gI_zero hr0]; exact HRG.out
                    case measure =>
                      have s1 := hS.out.get (A := A9) (n := n9) (c := c9) (by repeat (first | exact ms | apply mo))
                      have s2 := hS.out.get (A := none) (n := 0) (c := 0) (by repeat (first | exact ms | apply mo))
                      rw [HM.out, vOf_eq s1.1, vOf_eq s2.1, s1.2.2, s2.2.2]
                      omega
                  · have hspos : 0 < s := by omega
                    have hm0 := Int.emod_nonneg r (show s ≠ 0 by omega)
                    have hm1 := Int.emod_lt_of_pos r hspos
                    have hs5 : (s == 0) = false := by simpa using hs
                    go_wp2_with fail
                    go_quiet (fail)
                    go_wp2_with fail
                    go_roundw
                    case rel => exact ⟨s, r % s, rfl, by go_num, hs0, hs3, hm0, by omega, .inl hspos, by rw [gI_step hr0 hspos]; exact hgr, hS.out.drewN _⟩
                    case measure => simp [intOf]; omega
              · go_wp2_with fail
                go_at_call 87
                with_reducible refine (rsmall_y hS.out (by repeat (first | exact ms | apply mo)) (by omega) rfl hs1).mono ?_
                rintro e v61 ⟨rfl, h1⟩
                clear hS; have hS := Lib.hid h1; clear h1
                go_wp2_with fail
                go_at_call 87
                with_reducible refine (rsmall_n hS.out (by repeat (first | exact ms | apply mo)) (by omega) (by omega)).mono ?_
                rintro e v62 ⟨rfl, h1⟩
                clear hS; have hS := Lib.hid h1; clear h1
                by_cases ha : p % 2 = 0
                · go_wp2_with fail
                  go_at_call 85
                  with_reducible refine (rbit_k (b := false) hS.out (by repeat (first | exact ms | apply mo)) (by omega) (by rw [ha]; decide)).mono ?_
                  rintro e v63 ⟨rfl, h1⟩
                  clear hS; have hS := Lib.hid h1; clear h1
                  go_wp2_with fail
                  go_at_call 86
                  with_reducible refine (rshr_k (K := K) hS.out (by repeat (first | exact ms | apply mo)) (by omega) rfl (by omega)).mono ?_
                  rintro e v64 ⟨A9, n9, c9, rfl, h1⟩
                  clear hS; have hS := Lib.hid h1; clear h1
                  go_wp2_with fail
                  go_roundw
                  case rel =>
                    refine ⟨p / 2, q, A9, n9, c9, B2, i2, j2, rfl, rfl, by omega, by omega, by omega, by omega, by omega, ?_, hS.out.sub (by
                      intro t ht
                      simp only [List.mem_cons, List.not_mem_nil, or_false] at ht ⊢
                      rcases ht with rfl | rfl <;> simp) (List.Sublist.refl _) (fun t ht => by cases ht)⟩
                    rw [gI_half hp0 hq0 ha (by have h9 := hg1; rw [← hgg] at h9; exact gI_odd_r hp0 hq0 ha h9)]; exact hgg
                  case measure =>
                    have s1 := hS.out.get (A := A9) (n := n9) (c := c9) (by repeat (first | exact ms | apply mo))
                    have s2 := hS.out.get (A := B2) (n := i2) (c := j2) (by repeat (first | exact ms | apply mo))
                    rw [HM.out, vOf_eq s1.1, vOf_eq s2.1, s1.2.2, s2.2.2]
                    omega
                · have ha : p % 2 = 1 := by omega
                  by_cases hb : q % 2 = 0
                  · go_wp2_with fail
                    go_at_call 85
                    with_reducible refine (rbit_k (b := true) hS.out (by repeat (first | exact ms | apply mo)) (by omega) (by rw [ha]; decide)).mono ?_
                    rintro e v63 ⟨rfl, h1⟩
                    clear hS; have hS := Lib.hid h1; clear h1
                    go_wp2_with fail
                    go_at_call 85
                    with_reducible refine (rbit_k (b := false) hS.out (by repeat (first | exact ms | apply mo)) (by omega) (by rw [hb]; decide)).mono ?_
                    rintro e v64 ⟨rfl, h1⟩
                    clear hS; have hS := Lib.hid h1; clear h1
                    go_wp2_with fail
                    go_at_call 86
                    with_reducible refine (rshr_k (K := K) hS.out (by repeat (first | exact ms | apply mo)) (by omega) rfl (by omega)).mono ?_
                    rintro e v65 ⟨A9, n9, c9, rfl, h1⟩
                    clear hS; have hS := Lib.hid h1; clear h1
                    go_wp2_with fail
                    go_roundw
                    case rel =>
                      refine ⟨p, q / 2, B1, i1, j1, A9, n9, c9, rfl, rfl, by omega, by omega, by omega, by omega, by omega, ?_, hS.out.sub (by
                        intro t ht
                        simp only [List.mem_cons, List.not_mem_nil, or_false] at ht ⊢
                        rcases ht with rfl | rfl <;> simp) (List.Sublist.refl _) (fun t ht => by cases ht)⟩
                      rw [gI_comm', gI_half hq0 hp0 hb ha, gI_comm']; exact hgg
                    case measure =>
                      have s1 := hS.out.get (A := B1) (n := i1) (c := j1) (by repeat (first | exact ms | apply mo))
                      have s2 := hS.out.get (A := A9) (n := n9) (c := c9) (by repeat (first | exact ms | apply mo))
                      rw [HM.out, vOf_eq s1.1, vOf_eq s2.1, s1.2.2, s2.2.2]
                      omega
                  · have hb : q % 2 = 1 := by omega
                    by_cases hge : q ≤ p
                    · go_wp2_with fail
                      go_at_call 85
                      with_reducible refine (rbit_k (b := true) hS.out (by repeat (first | exact ms | apply mo)) (by omega) (by rw [ha]; decide)).mono ?_
                      rintro e v63 ⟨rfl, h1⟩
                      clear hS; have hS := Lib.hid h1; clear h1
                      go_wp2_with fail
                      go_at_call 85
                      with_reducible refine (rbit_k (b := true) hS.out (by repeat (first | exact ms | apply mo)) (by omega) (by rw [hb]; decide)).mono ?_
                      rintro e v64 ⟨rfl, h1⟩
                      clear hS; have hS := Lib.hid h1; clear h1
                      obtain ⟨cq, hcq, hcs⟩ : ∃ cq, cmpI p q = cq ∧ 0 ≤ cq := ⟨_, rfl, by unfold cmpI; rw [if_neg (by omega)]; split <;> decide⟩
                      go_wp2_with fail
                      go_at_call 89
                      with_reducible refine (rcmp_k hS.out (by repeat (first | exact ms | apply mo)) (by omega) (by repeat (first | exact ms | apply mo)) (by omega) hcq).mono ?_
                      rintro e v65 ⟨rfl, h1⟩
                      clear hS; have hS := Lib.hid h1; clear h1
                      go_wp2_with fail
                      go_at_call 90
                      with_reducible refine (rsub_k (K := K) hS.out (by repeat (first | exact ms | apply mo)) (by omega) (by repeat (first | exact ms | apply mo)) (by omega) (by omega) rfl (by omega)).mono ?_
                      rintro e v66 ⟨A9, n9, c9, rfl, h1⟩
                      clear hS; have hS := Lib.hid h1; clear h1
                      go_wp2_with fail
                      go_roundw
                      case rel =>
                        refine ⟨p - q, q, A9, n9, c9, B2, i2, j2, rfl, rfl, by omega, by omega, by omega, by omega, by omega, ?_, hS.out.sub (by
                          intro t ht
                          simp only [List.mem_cons, List.not_mem_nil, or_false] at ht ⊢
                          rcases ht with rfl | rfl <;> simp) (List.Sublist.refl _) (fun t ht => by cases ht)⟩
                        rw [gI_sub hq0 (by omega)]; exact hgg
                      case measure =>
                        have s1 := hS.out.get (A := A9) (n := n9) (c := c9) (by repeat (first | exact ms | apply mo))
                        have s2 := hS.out.get (A := B2) (n := i2) (c := j2) (by repeat (first | exact ms | apply mo))
                        rw [HM.out, vOf_eq s1.1, vOf_eq s2.1, s1.2.2, s2.2.2]
                        omega
                    · go_wp2_with fail
                      go_at_call 85
                      with_reducible refine (rbit_k (b := true) hS.out (by repeat (first | exact ms | apply mo)) (by omega) (by rw [ha]; decide)).mono ?_
                      rintro e v63 ⟨rfl, h1⟩
                      clear hS; have hS := Lib.hid h1; clear h1
                      go_wp2_with fail
                      go_at_call 85
                      with_reducible refine (rbit_k (b := true) hS.out (by repeat (first | exact ms | apply mo)) (by omega) (by rw [hb]; decide)).mono ?_
                      rintro e v64 ⟨rfl, h1⟩
                      clear hS; have hS := Lib.hid h1; clear h1
                      go_wp2_with fail
                      go_at_call 89
                      with_reducible refine (rcmp_k (q := -1) hS.out (by repeat (first | exact ms | apply mo)) (by omega) (by repeat (first | exact ms | apply mo)) (by omega) (cmpI_lt (by omega))).mono ?_
                      rintro e v65 ⟨rfl, h1⟩
                      clear hS; have hS := Lib.hid h1; clear h1
                      go_wp2_with fail
                      go_at_call 90
                      with_reducible refine (rsub_k (K := K) hS.out (by repeat (first | exact ms | apply mo)) (by omega) (by repeat (first | exact ms | apply mo)) (by omega) (by omega) rfl (by omega)).mono ?_
                      rintro e v66 ⟨A9, n9, c9, rfl, h1⟩
                      clear hS; have hS := Lib.hid h1; clear h1
                      go_wp2_with fail
                      go_roundw
                      case rel =>
                        refine ⟨p, q - p, B1, i1, j1, A9, n9, c9, rfl, rfl, by omega, by omega, by omega, by omega, by omega, ?_, hS.out.sub (by
                          intro t ht
                          simp only [List.mem_cons, List.not_mem_nil, or_false] at ht ⊢
                          rcases ht with rfl | rfl <;> simp) (List.Sublist.refl _) (fun t ht => by cases ht)⟩
                        rw [gI_comm', gI_sub hp0 (by omega), gI_comm']; exact hgg
                      case measure =>
                        have s1 := hS.out.get (A := B1) (n := i1) (c := j1) (by repeat (first | exact ms | apply mo))
                        have s2 := hS.out.get (A := A9) (n := n9) (c := c9) (by repeat (first | exact ms | apply mo))
                        rw [HM.out, vOf_eq s1.1, vOf_eq s2.1, s1.2.2, s2.2.2]
                        omega
            · by_cases hs2 : q < 18446744073709551616
              · go_wp2_with fail
                go_at_call 87
                with_reducible refine (rsmall_n hS.out (by repeat (first | exact ms | apply mo)) (by omega) (by omega)).mono ?_
                rintro e v61 ⟨rfl, h1⟩
                clear hS; have hS := Lib.hid h1; clear h1
                go_wp2_with fail
                go_at_call 87
                with_reducible refine (rsmall_y hS.out (by repeat (first | exact ms | apply mo)) (by omega) rfl hs2).mono ?_
                rintro e v62 ⟨rfl, h1⟩
                clear hS; have hS := Lib.hid h1; clear h1
                by_cases ha : p % 2 = 0
                · go_wp2_with fail
                  go_at_call 85
                  with_reducible refine (rbit_k (b := false) hS.out (by repeat (first | exact ms | apply mo)) (by omega) (by rw [ha]; decide)).mono ?_
                  rintro e v63 ⟨rfl, h1⟩
                  clear hS; have hS := Lib.hid h1; clear h1
                  go_wp2_with fail
                  go_at_call 86
                  with_reducible refine (rshr_k (K := K) hS.out (by repeat (first | exact ms | apply mo)) (by omega) rfl (by omega)).mono ?_
                  rintro e v64 ⟨A9, n9, c9, rfl, h1⟩
                  clear hS; have hS := Lib.hid h1; clear h1
                  go_wp2_with fail
                  go_roundw
                  case rel =>
                    refine ⟨p / 2, q, A9, n9, c9, B2, i2, j2, rfl, rfl, by omega, by omega, by omega, by omega, by omega, ?_, hS.out.sub (by
                      intro t ht
                      simp only [List.mem_cons, List.not_mem_nil, or_false] at ht ⊢
                      rcases ht with rfl | rfl <;> simp) (List.Sublist.refl _) (fun t ht => by cases ht)⟩
                    rw [gI_half hp0 hq0 ha (by have h9 := hg1; rw [← hgg] at h9; exact gI_odd_r hp0 hq0 ha h9)]; exact hgg
                  case measure =>
                    have s1 := hS.out.get (A := A9) (n := n9) (c := c9) (by repeat (first | exact ms | apply mo))
                    have s2 := hS.out.get (A := B2) (n := i2) (c := j2) (by repeat (first | exact ms | apply mo))
                    rw [HM.out, vOf_eq s1.1, vOf_eq s2.1, s1.2.2, s2.2.2]
                    omega
                · have ha : p % 2 = 1 := by omega
                  by_cases hb : q % 2 = 0
                  · go_wp2_with fail
                    go_at_call 85
                    with_reducible refine (rbit_k (b := true) hS.out (by repeat (first | exact ms | apply mo)) (by omega) (by rw [ha]; decide)).mono ?_
                    rintro e v63 ⟨rfl, h1⟩
                    clear hS; have hS := Lib.hid h1; clear h1
                    go_wp2_with fail
                    go_at_call 85
                    with_reducible refine (rbit_k (b := false) hS.out (by repeat (first | exact ms | apply mo)) (by omega) (by rw [hb]; decide)).mono ?_
                    rintro e v64 ⟨rfl, h1⟩
                    clear hS; have hS := Lib.hid h1; clear h1
                    go_wp2_with fail
                    go_at_call 86
                    with_reducible refine (rshr_k (K := K) hS.out (by repeat (first | exact ms | apply mo)) (by omega) rfl (by omega)).mono ?_
                    rintro e v65 ⟨A9, n9, c9, rfl, h1⟩
                    clear hS; have hS := Lib.hid h1; clear h1
                    go_wp2_with fail
                    go_roundw
                    case rel =>
                      refine ⟨p, q / 2, B1, i1, j1, A9, n9, c9, rfl, rfl, by omega, by omega, by omega, by omega, by omega, ?_, hS.out.sub (by
                        intro t ht
                        simp only [List.mem_cons, List.not_mem_nil, or_false] at ht ⊢
                        rcases ht with rfl | rfl <;> simp) (List.Sublist.refl _) (fun t ht => by cases ht)⟩
                      rw [gI_comm', gI_half hq0 hp0 hb ha, gI_comm']; exact hgg
                    case measure =>
                      have s1 := hS.out.get (A := B1) (n := i1) (c := j1) (by repeat (first | exact ms | apply mo))
                      have s2 := hS.out.get (A := A9) (n := n9) (c := c9) (by repeat (first | exact ms | apply mo))
                      rw [HM.out, vOf_eq s1.1, vOf_eq s2.1, s1.2.2, s2.2.2]
                      omega
                  · have hb : q % 2 = 1 := by omega
                    by_cases hge : q ≤ p
                    · go_wp2_with fail
                      go_at_call 85
                      with_reducible refine (rbit_k (b := true) hS.out (by repeat (first | exact ms | apply mo)) (by omega) (by rw [ha]; decide)).mono ?_
                      rintro e v63 ⟨rfl, h1⟩
                      clear hS; have hS := Lib.hid h1; clear h1
                      go_wp2_with fail
                      go_at_call 85
                      with_reducible refine (rbit_k (b := true) hS.out (by repeat (first | exact ms | apply mo)) (by omega) (by rw [hb]; decide)).mono ?_
                      rintro e v64 ⟨rfl, h1⟩
                      clear hS; have hS := Lib.hid h1; clear h1
                      obtain ⟨cq, hcq, hcs⟩ : ∃ cq, cmpI p q = cq ∧ 0 ≤ cq := ⟨_, rfl, by unfold cmpI; rw [if_neg (by omega)]; split <;> decide⟩
                      go_wp2_with fail
                      go_at_call 89
                      with_reducible refine (rcmp_k hS.out (by repeat (first | exact ms | apply mo)) (by omega) (by repeat (first | exact ms | apply mo)) (by omega) hcq).mono ?_
                      rintro e v65 ⟨rfl, h1⟩
                      clear hS; have hS := Lib.hid h1; clear h1
                      go_wp2_with fail
                      go_at_call 90
                      with_reducible refine (rsub_k (K := K) hS.out (by repeat (first | exact ms | apply mo)) (by omega) (by repeat (first | exact ms | apply mo)) (by omega) (by omega) rfl (by omega)).mono ?_
                      rintro e v66 ⟨A9, n9, c9, rfl, h1⟩
                      clear hS; have hS := Lib.hid h1; clear h1
                      go_wp2_with fail
                      go_roundw
                      case rel =>
                        refine ⟨p - q, q, A9, n9, c9, B2, i2, j2, rfl, rfl, by omega, by omega, by omega, by omega, by omega, ?_, hS.out.sub (by
                          intro t ht
                          simp only [List.mem_cons, List.not_mem_nil, or_false] at ht ⊢
                          rcases ht with rfl | rfl <;> simp) (List.Sublist.refl _) (fun t ht => by cases ht)⟩
                        rw [gI_sub hq0 (by omega)]; exact hgg
                      case measure =>
                        have s1 := hS.out.get (A := A9) (n := n9) (c := c9) (by repeat (first | exact ms | apply mo))
                        have s2 := hS.out.get (A := B2) (n := i2) (c := j2) (by repeat (first | exact ms | apply mo))
                        rw [HM.out, vOf_eq s1.1, vOf_eq s2.1, s1.2.2, s2.2.2]
                        omega
                    · go_wp2_with fail
                      go_at_call 85
                      with_reducible refine (rbit_k (b := true) hS.out (by repeat (first | exact ms | apply mo)) (by omega) (by rw [ha]; decide)).mono ?_
                      rintro e v63 ⟨rfl, h1⟩
                      clear hS; have hS := Lib.hid h1; clear h1
                      go_wp2_with fail
                      go_at_call 85
                      with_reducible refine (rbit_k (b := true) hS.out (by repeat (first | exact ms | apply mo)) (by omega) (by rw [hb]; decide)).mono ?_
                      rintro e v64 ⟨rfl, h1⟩
                      clear hS; have hS := Lib.hid h1; clear h1
                      go_wp2_with fail
                      go_at_call 89
                      with_reducible refine (rcmp_k (q := -1) hS.out (by repeat (first | exact ms | apply mo)) (by omega) (by repeat (first | exact ms | apply mo)) (by omega) (cmpI_lt (by omega))).mono ?_
                      rintro e v65 ⟨rfl, h1⟩
                      clear hS; have hS := Lib.hid h1; clear h1
                      go_wp2_with fail
                      go_at_call 90
                      with_reducible refine (rsub_k (K := K) hS.out (by repeat (first | exact ms | apply mo)) (by omega) (by repeat (first | exact ms | apply mo)) (by omega) (by omega) rfl (by omega)).mono ?_
                      rintro e v66 ⟨A9, n9, c9, rfl, h1⟩
                      clear hS; have hS := Lib.hid h1; clear h1
                      go_wp2_with fail
                      go_roundw
                      case rel =>
                        refine ⟨p, q - p, B1, i1, j1, A9, n9, c9, rfl, rfl, by omega, by omega, by omega, by omega, by omega, ?_, hS.out.sub (by
                          intro t ht
                          simp only [List.mem_cons, List.not_mem_nil, or_false] at ht ⊢
                          rcases ht with rfl | rfl <;> simp) (List.Sublist.refl _) (fun t ht => by cases ht)⟩
                        rw [gI_comm', gI_sub hp0 (by omega), gI_comm']; exact hgg
                      case measure =>
                        have s1 := hS.out.get (A := B1) (n := i1) (c := j1) (by repeat (first | exact ms | apply mo))
                        have s2 := hS.out.get (A := A9) (n := n9) (c := c9) (by repeat (first | exact ms | apply mo))
                        rw [HM.out, vOf_eq s1.1, vOf_eq s2.1, s1.2.2, s2.2.2]
                        omega
              · go_wp2_with fail
                go_at_call 87
                with_reducible refine (rsmall_n hS.out (by repeat (first | exact ms | apply mo)) (by omega) (by omega)).mono ?_
                rintro e v61 ⟨rfl, h1⟩
                clear hS; have hS := Lib.hid h1; clear h1
                go_wp2_with fail
                go_at_call 87
                with_reducible refine (rsmall_n hS.out (by repeat (first | exact ms | apply mo)) (by omega) (by omega)).mono ?_
                rintro e v62 ⟨rfl, h1⟩
                clear hS; have hS := Lib.hid h1; clear h1
                by_cases ha : p % 2 = 0
                · go_wp2_with fail
                  go_at_call 85
                  with_reducible refine (rbit_k (b := false) hS.out (by repeat (first | exact ms | apply mo)) (by omega) (by rw [ha]; decide)).mono ?_
                  rintro e v63 ⟨rfl, h1⟩
                  clear hS; have hS := Lib.hid h1; clear h1
                  go_wp2_with fail
                  go_at_call 86
                  with_reducible refine (rshr_k (K := K) hS.out (by repeat (first | exact ms | apply mo)) (by omega) rfl (by omega)).mono ?_
                  rintro e v64 ⟨A9, n9, c9, rfl, h1⟩
                  clear hS; have hS := Lib.hid h1; clear h1
                  go_wp2_with fail
                  go_roundw
                  case rel =>
                    refine ⟨p / 2, q, A9, n9, c9, B2, i2, j2, rfl, rfl, by omega, by omega, by omega, by omega, by omega, ?_, hS.out.sub (by
                      intro t ht
                      simp only [List.mem_cons, List.not_mem_nil, or_false] at ht ⊢
                      rcases ht with rfl | rfl <;> simp) (List.Sublist.refl _) (fun t ht => by cases ht)⟩
                    rw [gI_half hp0 hq0 ha (by have h9 := hg1; rw [← hgg] at h9; exact gI_odd_r hp0 hq0 ha h9)]; exact hgg
                  case measure =>
                    have s1 := hS.out.get (A := A9) (n := n9) (c := c9) (by repeat (first | exact ms | apply mo))
                    have s2 := hS.out.get (A := B2) (n := i2) (c := j2) (by repeat (first | exact ms | apply mo))
                    rw [HM.out, vOf_eq s1.1, vOf_eq s2.1, s1.2.2, s2.2.2]
                    omega
                · have ha : p % 2 = 1 := by omega
                  by_cases hb : q % 2 = 0
                  · go_wp2_with fail
                    go_at_call 85
                    with_reducible refine (rbit_k (b := true) hS.out (by repeat (first | exact ms | apply mo)) (by omega) (by rw [ha]; decide)).mono ?_
                    rintro e v63 ⟨rfl, h1⟩
                    clear hS; have hS := Lib.hid h1; clear h1
                    go_wp2_with fail
                    go_at_call 85
                    with_reducible refine (rbit_k (b := false) hS.out (by repeat (first | exact ms | apply mo)) (by omega) (by rw [hb]; decide)).mono ?_
                    rintro e v64 ⟨rfl, h1⟩
                    clear hS; have hS := Lib.hid h1; clear h1
                    go_wp2_with fail
                    go_at_call 86
                    with_reducible refine (rshr_k (K := K) hS.out (by repeat (first | exact ms | apply mo)) (by omega) rfl (by omega)).mono ?_
                    rintro e v65 ⟨A9, n9, c9, rfl, h1⟩
                    clear hS; have hS := Lib.hid h1; clear h1
                    go_wp2_with fail
                    go_roundw
                    case rel =>
                      refine ⟨p, q / 2, B1, i1, j1, A9, n9, c9, rfl, rfl, by omega, by omega, by omega, by omega, by omega, ?_, hS.out.sub (by
                        intro t ht
                        simp only [List.mem_cons, List.not_mem_nil, or_false] at ht ⊢
                        rcases ht with rfl | rfl <;> simp) (List.Sublist.refl _) (fun t ht => by cases ht)⟩
                      rw [gI_comm', gI_half hq0 hp0 hb ha, gI_comm']; exact hgg
                    case measure =>
                      have s1 := hS.out.get (A := B1) (n := i1) (c := j1) (by repeat (first | exact ms | apply mo))
                      have s2 := hS.out.get (A := A9) (n := n9) (c := c9) (by repeat (first | exact ms | apply mo))
                      rw [HM.out, vOf_eq s1.1, vOf_eq s2.1, s1.2.2, s2.2.2]
                      omega
                  · have hb : q % 2 = 1 := by omega
                    by_cases hge : q ≤ p
                    · go_wp2_with fail
                      go_at_call 85
                      with_reducible refine (rbit_k (b := true) hS.out (by repeat (first | exact ms | apply mo)) (by omega) (by rw [ha]; decide)).mono ?_
                      rintro e v63 ⟨rfl, h1⟩
                      clear hS; have hS := Lib.hid h1; clear h1
                      go_wp2_with fail
                      go_at_call 85
                      with_reducible refine (rbit_k (b := true) hS.out (by repeat (first | exact ms | apply mo)) (by omega) (by rw [hb]; decide)).mono ?_
                      rintro e v64 ⟨rfl, h1⟩
                      clear hS; have hS := Lib.hid h1; clear h1
                      obtain ⟨cq, hcq, hcs⟩ : ∃ cq, cmpI p q = cq ∧ 0 ≤ cq := ⟨_, rfl, by unfold cmpI; rw [if_neg (by omega)]; split <;> decide⟩
                      go_wp2_with fail
                      go_at_call 89
                      with_reducible refine (rcmp_k hS.out (by repeat (first | exact ms | apply mo)) (by omega) (by repeat (first | exact ms | apply mo)) (by omega) hcq).mono ?_
                      rintro e v65 ⟨rfl, h1⟩
                      clear hS; have hS := Lib.hid h1; clear h1
                      go_wp2_with fail
                      go_at_call 90
                      with_reducible refine (rsub_k (K := K) hS.out (by repeat (first | exact ms | apply mo)) (by omega) (by repeat (first | exact ms | apply mo)) (by omega) (by omega) rfl (by omega)).mono ?_
                      rintro e v66 ⟨A9, n9, c9, rfl, h1⟩
                      clear hS; have hS := Lib.hid h1; clear h1
                      go_wp2_with fail
                      go_roundw
                      case rel =>
                        refine ⟨p - q, q, A9, n9, c9, B2, i2, j2, rfl, rfl, by omega, by omega, by omega, by omega, by omega, ?_, hS.out.sub (by
                          intro t ht
                          simp only [List.mem_cons, List.not_mem_nil, or_false] at ht ⊢
                          rcases ht with rfl | rfl <;> simp) (List.Sublist.refl _) (fun t ht => by cases ht)⟩
                        rw [gI_sub hq0 (by omega)]; exact hgg
                      case measure =>
                        have s1 := hS.out.get (A := A9) (n := n9) (c := c9) (by repeat (first | exact ms | apply mo))
                        have s2 := hS.out.get (A := B2) (n := i2) (c := j2) (by repeat (first | exact ms | apply mo))
                        rw [HM.out, vOf_eq s1.1, vOf_eq s2.1, s1.2.2, s2.2.2]
                        omega
                    · go_wp2_with fail
                      go_at_call 85
                      with_reducible refine (rbit_k (b := true) hS.out (by repeat (first | exact ms | apply mo)) (by omega) (by rw [ha]; decide)).mono ?_
                      rintro e v63 ⟨rfl, h1⟩
                      clear hS; have hS := Lib.hid h1; clear h1
                      go_wp2_with fail
                      go_at_call 85
                      with_reducible refine (rbit_k (b := true) hS.out (by repeat (first | exact ms | apply mo)) (by omega) (by rw [hb]; decide)).mono ?_
                      rintro e v64 ⟨rfl, h1⟩
                      clear hS; have hS := Lib.hid h1; clear h1
                      go_wp2_with fail
                      go_at_call 89
                      with_reducible refine (rcmp_k (q := -1) hS.out (by repeat (first | exact ms | apply mo)) (by omega) (by repeat (first | exact ms | apply mo)) (by omega) (cmpI_lt (by omega))).mono ?_
                      rintro e v65 ⟨rfl, h1⟩
                      clear hS; have hS := Lib.hid h1; clear h1
                      go_wp2_with fail
                      go_at_call 90
                      with_reducible refine (rsub_k (K := K) hS.out (by repeat (first | exact ms | apply mo)) (by omega) (by repeat (first | exact ms | apply mo)) (by omega) (by omega) rfl (by omega)).mono ?_
                      rintro e v66 ⟨A9, n9, c9, rfl, h1⟩
                      clear hS; have hS := Lib.hid h1; clear h1
                      go_wp2_with fail
                      go_roundw
                      case rel =>
                        refine ⟨p, q - p, B1, i1, j1, A9, n9, c9, rfl, rfl, by omega, by omega, by omega, by omega, by omega, ?_, hS.out.sub (by
                          intro t ht
                          simp only [List.mem_cons, List.not_mem_nil, or_false] at ht ⊢
                          rcases ht with rfl | rfl <;> simp) (List.Sublist.refl _) (fun t ht => by cases ht)⟩
                        rw [gI_comm', gI_sub hp0 (by omega), gI_comm']; exact hgg
                      case measure =>
                        have s1 := hS.out.get (A := B1) (n := i1) (c := j1) (by repeat (first | exact ms | apply mo))
                        have s2 := hS.out.get (A := A9) (n := n9) (c := c9) (by repeat (first | exact ms | apply mo))
                        rw [HM.out, vOf_eq s1.1, vOf_eq s2.1, s1.2.2, s2.2.2]
                        omega
    · have hx : x % 2 = 0 := by omega
      by_cases hy : y % 2 = 1
      · go_wp2_with fail
        go_at_call 85
        with_reducible refine (rbit_k (b := false) hS.out (by repeat (first | exact ms | apply mo)) (by omega) (by rw [hx]; decide)).mono ?_
        rintro e v11 ⟨rfl, h1⟩
        clear hS; have hS := Lib.hid h1; clear h1
        go_wp2_with fail
        go_at_call 85
        with_reducible refine (rbit_k (b := true) hS.out (by repeat (first | exact ms | apply mo)) (by omega) (by rw [hy]; decide)).mono ?_
        rintro e v12 ⟨rfl, h1⟩
        clear hS; have hS := Lib.hid h1; clear h1
        go_wp2_with fail
        have hg1 : gI x y % 2 = 1 := gI_odd (by omega) (by omega) (by omega) (by omega)
        obtain ⟨g, hg⟩ : ∃ g, gI x y = g := ⟨_, rfl⟩
        rw [hg] at hg1 hG
        have hgp : 0 < g := by rw [← hg]; exact gI_pos' (by omega)
        go_loopw [0, 1] (fun a b wr => ∃ (p q : Int) (B1 : Option Addr) (i1 j1 : Nat) (B2 : Option Addr) (i2 j2 : Nat), a = .slice B1 i1 j1 ∧ b = .slice B2 i2 j2 ∧ 0 ≤ p ∧ 0 ≤ q ∧ p < Q B K ∧ q < Q B K ∧ (0 < p ∨ 0 < q) ∧ gI p q = g ∧
          SC w w wr [⟨B1, i1, j1, K, limbs p, p⟩, ⟨B2, i2, j2, K, limbs q, q⟩] [] []) (fun a b wr => vOf a wr + vOf b wr)
        case atStart =>
          exact ⟨x, y, _, _, _, _, _, _, rfl, rfl, by omega, by omega, by omega, by omega, by omega, hg, hS.out.sub (by
            intro t ht
            simp only [List.mem_cons, List.not_mem_nil, or_false] at ht ⊢
            rcases ht with rfl | rfl <;> simp) (List.Sublist.refl _) (fun t ht => by cases ht)⟩
        case round =>
          obtain ⟨p, q, B1, i1, j1, B2, i2, j2, rfl, rfl, hp0, hq0, hpK, hqK, hpq, hgg, h1⟩ := hrel
          obtain ⟨wp, rfl⟩ : ∃ wp : World, wp = wr := ⟨_, rfl⟩
          clear hS; have hS := Lib.hid h1; clear h1
          have s1 := hS.out.get (A := B1) (n := i1) (c := j1) List.mem_cons_self
          have s2 := hS.out.get (A := B2) (n := i2) (c := j2) (List.mem_cons_of_mem _ List.mem_cons_self)
          have e1 := len_z s1.1 hp0
          have e2 := len_z s2.1 hq0
          have HM : vOf (.slice B1 i1 j1) wp + vOf (.slice B2 i2 j2) wp = p.toNat + q.toNat := by rw [vOf_eq s1.1, vOf_eq s2.1, s1.2.2, s2.2.2]
          have HM := Lib.hid HM
          clear s1 s2
          by_cases hp : p = 0
          · obtain rfl : i1 = 0 := e1.2 hp
            clear e1 e2
            have hsum : p + q = g := by rw [← hgg, hp, gI_comm', gI_zero hq0]; omega
            have hgK : g < Q B K := by omega
            go_wp2_with fail
            go_at_call 92
            with_reducible refine (radd_k (K := K) hS.out (by repeat (first | exact ms | apply mo)) (by omega) (by repeat (first | exact ms | apply mo)) (by omega) hsum hgK).mono ?_
            rintro e v51 ⟨A8, n8, c8, rfl, h1⟩
            clear hS; have hS := Lib.hid h1; clear h1
            go_wp2_with fail
            go_at_call 91
            with_reducible refine (rshl_k (K := K) hS.out (by repeat (first | exact ms | apply mo)) (by omega) (q := k) (by omega) rfl hG hGK).mono ?_
            rintro e v52 ⟨A9, n9, c9, rfl, h1⟩
            clear hS; have hS := Lib.hid h1; clear h1
            go_wp2
            go_ret
            have ho : N.Own _ _ A9 n9 c9 (limbs G) := hS.out.own _ (show (⟨A9, n9, c9, K, limbs G, G⟩ : Ent) ∈ _ from (by repeat (first | exact ms | apply mo)))
            try rw [hvv, huu, hGG]
            exact ⟨A9, n9, c9, rfl, own_len ho rfl (by omega) hGK, ho, hS.out.bl⟩
          · by_cases hq : q = 0
            · obtain rfl : i2 = 0 := e2.2 hq
              have hi1 : 0 < i1 := by omega
              clear e1 e2
              have hsum : p + q = g := by rw [← hgg, hq, gI_zero hp0]; omega
              have hgK : g < Q B K := by omega
              go_wp2_with fail
              go_at_call 92
              with_reducible refine (radd_k (K := K) hS.out (by repeat (first | exact ms | apply mo)) (by omega) (by repeat (first | exact ms | apply mo)) (by omega) hsum hgK).mono ?_
              rintro e v51 ⟨A8, n8, c8, rfl, h1⟩
              clear hS; have hS := Lib.hid h1; clear h1
              go_wp2_with fail
              go_at_call 91
              with_reducible refine (rshl_k (K := K) hS.out (by repeat (first | exact ms | apply mo)) (by omega) (q := k) (by omega) rfl hG hGK).mono ?_
              rintro e v52 ⟨A9, n9, c9, rfl, h1⟩
              clear hS; have hS := Lib.hid h1; clear h1
              go_wp2
              go_ret
              have ho : N.Own _ _ A9 n9 c9 (limbs G) := hS.out.own _ (show (⟨A9, n9, c9, K, limbs G, G⟩ : Ent) ∈ _ from (by repeat (first | exact ms | apply mo)))
              try rw [hvv, huu, hGG]
              exact ⟨A9, n9, c9, rfl, own_len ho rfl (by omega) hGK, ho, hS.out.bl⟩
            · have hi1 : 0 < i1 := by omega
              have hi2 : 0 < i2 := by omega
              clear e1 e2
              by_cases hs1 : p < 18446744073709551616
              · by_cases hs2 : q < 18446744073709551616
                · go_wp2_with fail
                  go_at_call 87
                  with_reducible refine (rsmall_y hS.out (by repeat (first | exact ms | apply mo)) (by omega) rfl hs1).mono ?_
                  rintro e v61 ⟨rfl, h1⟩
                  clear hS; have hS := Lib.hid h1; clear h1
                  go_wp2_with fail
                  go_at_call 87
                  with_reducible refine (rsmall_y hS.out (by repeat (first | exact ms | apply mo)) (by omega) rfl hs2).mono ?_
                  rintro e v62 ⟨rfl, h1⟩
                  clear hS; have hS := Lib.hid h1; clear h1
                  go_wp2_with fail
                  go_loopw [6, 8] (fun xv yv wr => ∃ r s : Int, xv = .int .u64 r ∧ yv = .int .u64 s ∧ 0 ≤ r ∧ r < 18446744073709551616 ∧ 0 ≤ s ∧ s < 18446744073709551616 ∧ (0 < r ∨ 0 < s) ∧ gI r s = g ∧ SC w w wr [⟨B1, i1, j1, K, limbs p, p⟩, ⟨B2, i2, j2, K, limbs q, q⟩] [] []) (fun _ yv _ => (intOf yv).toNat)
                  case atStart => exact ⟨p, q, rfl, rfl, hp0, hs1, hq0, hs2, hpq, hgg, hS.out⟩
                  case round =>
                    obtain ⟨r, s, rfl, rfl, hr0, hr1, hs0, hs3, hrs, hgr, h1⟩ := hrel
                    obtain ⟨wq, rfl⟩ : ∃ wq : World, wq = wr := ⟨_, rfl⟩
                    clear hS; have hS := Lib.hid h1; clear h1
                    by_cases hs : s = 0
                    · subst hs
                      have hrg : r = g := by rw [← hgr, gI_zero hr0]
                      have hgle : g ≤ p := by rw [← hgg]; exact gI_le_l (by omega)
                      have hwd : W.Wd r := ⟨hr0, hr1⟩
                      have hrp : 0 < r := by omega
                      have hrle : r ≤ p := by omega
                      have hrK : r < Q B K := by omega
                      have HRG := Lib.hid hrg
                      clear hrg hgle
                      go_wp2_with fail
                      go_at_call 88
                      with_reducible refine (rof_k (r := r) (K := K) hS.out hwd hrK).mono ?_
                      rintro e v71 ⟨A9, n9, c9, rfl, h1⟩
                      clear hS; have hS := Lib.hid h1; clear h1
                      have h1 : SC w w v71 [⟨A9, n9, c9, K, limbs r, r⟩, ⟨none, 0, 0, K, limbs 0, 0⟩] [] [] := by
                        have h2 := (hS.out.none_)
                        rw [limbs_zero]
                        exact ((h2.re0 (k := K)).sub (by
                          intro t ht
                          simp only [List.mem_cons, List.not_mem_nil, or_false] at ht ⊢
                          rcases ht with rfl | rfl <;> simp) (List.Sublist.refl _) (fun t ht => by cases ht))
                      clear hS; have hS := Lib.hid h1; clear h1
                      go_wp2_with fail
                      go_roundw
                      case rel =>
                        refine ⟨r, 0, A9, n9, c9, none, 0, 0, rfl, rfl, by omega, by omega, by omega, by omega, by omega, ?_, hS.out.sub (by
                          intro t ht
                          simp only [List.mem_cons, List.not_mem_nil, or_false] at ht ⊢
                          rcases ht with rfl | rfl <;> simp) (List.Sublist.refl _) (fun t ht => by cases ht)⟩
                        rw [gI_zero hr0]; exact HRG.out
                      case measure =>
                        have s1 := hS.out.get (A := A9) (n := n9) (c := c9) (by repeat (first | exact ms | apply mo))
                        have s2 := hS.out.get (A := none) (n := 0) (c := 0) (by repeat (first | exact ms | apply mo))
                        rw [HM.out, vOf_eq s1.1, vOf_eq s2.1, s1.2.2, s2.2.2]
                        omega
                    · have hspos : 0 < s := by omega
                      have hm0 := Int.emod_nonneg r (show s ≠ 0 by omega)
                      have hm1 := Int.emod_lt_of_pos r hspos
                      have hs5 : (s == 0) = false := by simpa using hs
                      go_wp2_with fail
                      go_quiet (fail)
                      go_wp2_with fail
                      go_roundw
                      case rel => exact ⟨s, r % s, rfl, by go_num, hs0, hs3, hm0, by omega, .inl hspos, by rw [gI_step hr0 hspos]; exact hgr, hS.out.drewN _⟩
                      case measure => simp [intOf]; omega
                · go_wp2_with fail
                  go_at_call 87
                  with_reducible refine (rsmall_y hS.out (by repeat (first | exact ms | apply mo)) (by omega) rfl hs1).mono ?_
                  rintro e v61 ⟨rfl, h1⟩
                  clear hS; have hS := Lib.hid h1; clear h1
                  go_wp2_with fail
                  go_at_call 87
                  with_reducible refine (rsmall_n hS.out (by repeat (first | exact ms | apply mo)) (by omega) (by omega)).mono ?_
                  rintro e v62 ⟨rfl, h1⟩
                  clear hS; have hS := Lib.hid h1; clear h1
                  by_cases ha : p % 2 = 0
                  · go_wp2_with fail
                    go_at_call 85
                    with_reducible refine (rbit_k (b := false) hS.out (by repeat (first | exact ms | apply mo)) (by omega) (by rw [ha]; decide)).mono ?_
                    rintro e v63 ⟨rfl, h1⟩
                    clear hS; have hS := Lib.hid h1; clear h1
                    go_wp2_with fail
                    go_at_call 86
                    with_reducible refine (rshr_k (K := K) hS.out (by repeat (first | exact ms | apply mo)) (by omega) rfl (by omega)).mono ?_
                    rintro e v64 ⟨A9, n9, c9, rfl, h1⟩
                    clear hS; have hS := Lib.hid h1; clear h1
                    go_wp2_with fail
                    go_roundw
                    case rel =>
                      refine ⟨p / 2, q, A9, n9, c9, B2, i2, j2, rfl, rfl, by omega, by omega, by omega, by omega, by omega, ?_, hS.out.sub (by
                        intro t ht
                        simp only [List.mem_cons, List.not_mem_nil, or_false] at ht ⊢
                        rcases ht with rfl | rfl <;> simp) (List.Sublist.refl _) (fun t ht => by cases ht)⟩
                      rw [gI_half hp0 hq0 ha (by have h9 := hg1; rw [← hgg] at h9; exact gI_odd_r hp0 hq0 ha h9)]; exact hgg
                    case measure =>
                      have s1 := hS.out.get (A := A9) (n := n9) (c := c9) (by repeat (first | exact ms | apply mo))
                      have s2 := hS.out.get (A := B2) (n := i2) (c := j2) (by repeat (first | exact ms | apply mo))
                      rw [HM.out, vOf_eq s1.1, vOf_eq s2.1, s1.2.2, s2.2.2]
                      omega
                  · have ha : p % 2 = 1 := by omega
                    by_cases hb : q % 2 = 0
                    · go_wp2_with fail
                      go_at_call 85
                      with_reducible refine (rbit_k (b := true) hS.out (by repeat (first | exact ms | apply mo)) (by omega) (by rw [ha]; decide)).mono ?_
                      rintro e v63 ⟨rfl, h1⟩
                      clear hS; have hS := Lib.hid h1; clear h1
                      go_wp2_with fail
                      go_at_call 85
                      with_reducible refine (rbit_k (b := false) hS.out (by repeat (first | exact ms | apply mo)) (by omega) (by rw [hb]; decide)).mono ?_
                      rintro e v64 ⟨rfl, h1⟩
                      clear hS; have hS := Lib.hid h1; clear h1
                      go_wp2_with fail
                      go_at_call 86
                      with_reducible refine (rshr_k (K := K) hS.out (by repeat (first | exact ms | apply mo)) (by omega) rfl (by omega)).mono ?_
                      rintro e v65 ⟨A9, n9, c9, rfl, h1⟩
                      clear hS; have hS := Lib.hid h1; clear h1
                      go_wp2_with fail
                      go_roundw
                      case rel =>
                        refine ⟨p, q / 2, B1, i1, j1, A9, n9, c9, rfl, rfl, by omega, by omega, by omega, by omega, by omega, ?_, hS.out.sub (by
                          intro t ht
                          simp only [List.mem_cons, List.not_mem_nil, or_false] at ht ⊢
                          rcases ht with rfl | rfl <;> simp) (List.Sublist.refl _) (fun t ht => by cases ht)⟩
                        rw [gI_comm', gI_half hq0 hp0 hb ha, gI_comm']; exact hgg
                      case measure =>
                        have s1 := hS.out.get (A := B1) (n := i1) (c := j1) (by repeat (first | exact ms | apply mo))
                        have s2 := hS.out.get (A := A9) (n := n9) (c := c9) (by repeat (first | exact ms | apply mo))
                        rw [HM.out, vOf_eq s1.1, vOf_eq s2.1, s1.2.2, s2.2.2]
                        omega
                    · have hb : q % 2 = 1 := by omega
                      by_cases hge : q ≤ p
                      · go_wp2_with fail
                        go_at_call 85
                        with_reducible refine (rbit_k (b := true) hS.out (by repeat (first | exact ms | apply mo)) (by omega) (by rw [ha]; decide)).mono ?_
                        rintro e v63 ⟨rfl, h1⟩
                        clear hS; have hS := Lib.hid h1; clear h1
                        go_wp2_with fail
                        go_at_call 85
                        with_reducible refine (rbit_k (b := true) hS.out (by repeat (first | exact ms | apply mo)) (by omega) (by rw [hb]; decide)).mono ?_
                        rintro e v64 ⟨rfl, h1⟩
                        clear hS; have hS := Lib.hid h1; clear h1
                        obtain ⟨cq, hcq, hcs⟩ : ∃ cq, cmpI p q = cq ∧ 0 ≤ cq := ⟨_, rfl, by unfold cmpI; rw [if_neg (by omega)]; split <;> decide⟩
                        go_wp2_with fail
                        go_at_call 89
                        with_reducible refine (rcmp_k hS.out (by repeat (first | exact ms | apply mo)) (by omega) (by repeat (first | exact ms | apply mo)) (by omega) hcq).mono ?_
                        rintro e v65 ⟨rfl, h1⟩
                        clear hS; have hS := Lib.hid h1; clear h1
                        go_wp2_with fail
                        go_at_call 90
                        with_reducible refine (rsub_k (K := K) hS.out (by repeat (first | exact ms | apply mo)) (by omega) (by repeat (first | exact ms | apply mo)) (by omega) (by omega) rfl (by omega)).mono ?_
                        rintro e v66 ⟨A9, n9, c9, rfl, h1⟩
                        clear hS; have hS := Lib.hid h1; clear h1
                        go_wp2_with fail
                        go_roundw
                        case rel =>
                          refine ⟨p - q, q, A9, n9, c9, B2, i2, j2, rfl, rfl, by omega, by omega, by omega, by omega, by omega, ?_, hS.out.sub (by
                            intro t ht
                            simp only [List.mem_cons, List.not_mem_nil, or_false] at ht ⊢
                            rcases ht with rfl | rfl <;> simp) (List.Sublist.refl _) (fun t ht => by cases ht)⟩
                          rw [gI_sub hq0 (by omega)]; exact hgg
                        case measure =>
                          have s1 := hS.out.get (A := A9) (n := n9) (c := c9) (by repeat (first | exact ms | apply mo))
                          have s2 := hS.out.get (A := B2) (n := i2) (c := j2) (by repeat (first | exact ms | apply mo))
                          rw [HM.out, vOf_eq s1.1, vOf_eq s2.1, s1.2.2, s2.2.2]
                          omega
                      · go_wp2_with fail
                        go_at_call 85
                        with_reducible refine (rbit_k (b := true) hS.out (by repeat (first | exact ms | apply mo)) (by omega) (by rw [ha]; decide)).mono ?_
                        rintro e v63 ⟨rfl, h1⟩
                        clear hS; have hS := Lib.hid h1; clear h1
                        go_wp2_with fail
                        go_at_call 85
                        with_reducible refine (rbit_k (b := true) hS.out (by repeat (first | exact ms | apply mo)) (by omega) (by rw [hb]; decide)).mono ?_
                        rintro e v64 ⟨rfl, h1⟩
                        clear hS; have hS := Lib.hid h1; clear h1
                        go_wp2_with fail
                        go_at_call 89
                        with_reducible refine (rcmp_k (q := -1) hS.out (by repeat (first | exact ms | apply mo)) (by omega) (by repeat (first | exact ms | apply mo)) (by omega) (cmpI_lt (by omega))).mono ?_
                        rintro e v65 ⟨rfl, h1⟩
                        clear hS; have hS := Lib.hid h1; clear h1
                        go_wp2_with fail
                        go_at_call 90
                        with_reducible refine (rsub_k (K := K) hS.out (by repeat (first | exact ms | apply mo)) (by omega) (by repeat (first | exact ms | apply mo)) (by omega) (by omega) rfl (by omega)).mono ?_
                        rintro e v66 ⟨A9, n9, c9, rfl, h1⟩
                        clear hS; have hS := Lib.hid h1; clear h1
                        go_wp2_with fail
                        go_roundw
                        case rel =>
                          refine ⟨p, q - p, B1, i1, j1, A9, n9, c9, rfl, rfl, by omega, by omega, by omega, by omega, by omega, ?_, hS.out.sub (by
                            intro t ht
                            simp only [List.mem_cons, List.not_mem_nil, or_false] at ht ⊢
                            rcases ht with rfl | rfl <;> simp) (List.Sublist.refl _) (fun t ht => by cases ht)⟩
                          rw [gI_comm', gI_sub hp0 (by omega), gI_comm']; exact hgg
                        case measure =>
                          have s1 := hS.out.get (A := B1) (n := i1) (c := j1) (by repeat (first | exact ms | apply mo))
                          have s2 := hS.out.get (A := A9) (n := n9) (c := c9) (by repeat (first | exact ms | apply mo))
                          rw [HM.out, vOf_eq s1.1, vOf_eq s2.1, s1.2.2, s2.2.2]
                          omega
              · by_cases hs2 : q < 18446744073709551616
                · go_wp2_with fail
                  go_at_call 87
                  with_reducible refine (rsmall_n hS.out (by repeat (first | exact ms | apply mo)) (by omega) (by omega)).mono ?_
                  rintro e v61 ⟨rfl, h1⟩
                  clear hS; have hS := Lib.hid h1; clear h1
                  go_wp2_with fail
                  go_at_call 87
                  with_reducible refine (rsmall_y hS.out (by repeat (first | exact ms | apply mo)) (by omega) rfl hs2).mono ?_
                  rintro e v62 ⟨rfl, h1⟩
                  clear hS; have hS := Lib.hid h1; clear h1
                  by_cases ha : p % 2 = 0
                  · go_wp2_with fail
                    go_at_call 85
                    with_reducible refine (rbit_k (b := false) hS.out (by repeat (first | exact ms | apply mo)) (by omega) (by rw [ha]; decide)).mono ?_
                    rintro e v63 ⟨rfl, h1⟩
                    clear hS; have hS := Lib.hid h1; clear h1
                    go_wp2_with fail
                    go_at_call 86
                    with_reducible refine (rshr_k (K := K) hS.out (by repeat (first | exact ms | apply mo)) (by omega) rfl (by omega)).mono ?_
                    rintro e v64 ⟨A9, n9, c9, rfl, h1⟩
                    clear hS; have hS := Lib.hid h1; clear h1
                    go_wp2_with fail
                    go_roundw
                    case rel =>
                      refine ⟨p / 2, q, A9, n9, c9, B2, i2, j2, rfl, rfl, by omega, by omega, by omega, by omega, by omega, ?_, hS.out.sub (by
                        intro t ht
                        simp only [List.mem_cons, List.not_mem_nil, or_false] at ht ⊢
                        rcases ht with rfl | rfl <;> simp) (List.Sublist.refl _) (fun t ht => by cases ht)⟩
                      rw [gI_half hp0 hq0 ha (by have h9 := hg1; rw [← hgg] at h9; exact gI_odd_r hp0 hq0 ha h9)]; exact hgg
                    case measure =>
                      have s1 := hS.out.get (A := A9) (n := n9) (c := c9) (by repeat (first | exact ms | apply mo))
                      have s2 := hS.out.get (A := B2) (n := i2) (c := j2) (by repeat (first | exact ms | apply mo))
                      rw [HM.out, vOf_eq s1.1, vOf_eq s2.1, s1.2.2, s2.2.2]
                      omega
                  · have ha : p % 2 = 1 := by omega
                    by_cases hb : q % 2 = 0
                    · go_wp2_with fail
                      go_at_call 85
                      with_reducible refine (rbit_k (b := true) hS.out (by repeat (first | exact ms | apply mo)) (by omega) (by rw [ha]; decide)).mono ?_
                      rintro e v63 ⟨rfl, h1⟩
                      clear hS; have hS := Lib.hid h1; clear h1
                      go_wp2_with fail
                      go_at_call 85
                      with_reducible refine (rbit_k (b := false) hS.out (by repeat (first | exact ms | apply mo)) (by omega) (by rw [hb]; decide)).mono ?_
                      rintro e v64 ⟨rfl, h1⟩
                      clear hS; have hS := Lib.hid h1; clear h1
                      go_wp2_with fail
                      go_at_call 86
                      with_reducible refine (rshr_k (K := K) hS.out (by repeat (first | exact ms | apply mo)) (by omega) rfl (by omega)).mono ?_
                      rintro e v65 ⟨A9, n9, c9, rfl, h1⟩
                      clear hS; have hS := Lib.hid h1; clear h1
                      go_wp2_with fail
                      go_roundw
                      case rel =>
                        refine ⟨p, q / 2, B1, i1, j1, A9, n9, c9, rfl, rfl, by omega, by omega, by omega, by omega, by omega, ?_, hS.out.sub (by
                          intro t ht
                          simp only [List.mem_cons, List.not_mem_nil, or_false] at ht ⊢
                          rcases ht with rfl | rfl <;> simp) (List.Sublist.refl _) (fun t ht => by cases ht)⟩
                        rw [gI_comm', gI_half hq0 hp0 hb ha, gI_comm']; exact hgg
                      case measure =>
                        have s1 := hS.out.get (A := B1) (n := i1) (c := j1) (by repeat (first | exact ms | apply mo))
                        have s2 := hS.out.get (A := A9) (n := n9) (c := c9) (by repeat (first | exact ms | apply mo))
                        rw [HM.out, vOf_eq s1.1, vOf_eq s2.1, s1.2.2, s2.2.2]
                        omega
                    · have hb : q % 2 = 1 := by omega
                      by_cases hge : q ≤ p
                      · go_wp2_with fail
                        go_at_call 85
                        with_reducible refine (rbit_k (b := true) hS.out (by repeat (first | exact ms | apply mo)) (by omega) (by rw [ha]; decide)).mono ?_
                        rintro e v63 ⟨rfl, h1⟩
                        clear hS; have hS := Lib.hid h1; clear h1
                        go_wp2_with fail
                        go_at_call 85
                        with_reducible refine (rbit_k (b := true) hS.out (by repeat (first | exact ms | apply mo)) (by omega) (by rw [hb]; decide)).mono ?_
                        rintro e v64 ⟨rfl, h1⟩
                        clear hS; have hS := Lib.hid h1; clear h1
                        obtain ⟨cq, hcq, hcs⟩ : ∃ cq, cmpI p q = cq ∧ 0 ≤ cq := ⟨_, rfl, by unfold cmpI; rw [if_neg (by omega)]; split <;> decide⟩
                        go_wp2_with fail
                        go_at_call 89
                        with_reducible refine (rcmp_k hS.out (by repeat (first | exact ms | apply mo)) (by omega) (by repeat (first | exact ms | apply mo)) (by omega) hcq).mono ?_
                        rintro e v65 ⟨rfl, h1⟩
                        clear hS; have hS := Lib.hid h1; clear h1
                        go_wp2_with fail
                        go_at_call 90
                        with_reducible refine (rsub_k (K := K) hS.out (by repeat (first | exact ms | apply mo)) (by omega) (by repeat (first | exact ms | apply mo)) (by omega) (by omega) rfl (by omega)).mono ?_
                        rintro e v66 ⟨A9, n9, c9, rfl, h1⟩
                        clear hS; have hS := Lib.hid h1; clear h1
                        go_wp2_with fail
                        go_roundw
                        case rel =>
                          refine ⟨p - q, q, A9, n9, c9, B2, i2, j2, rfl, rfl, by omega, by omega, by omega, by omega, by omega, ?_, hS.out.sub (by
                            intro t ht
                            simp only [List.mem_cons, List.not_mem_nil, or_false] at ht ⊢
                            rcases ht with rfl | rfl <;> simp) (List.Sublist.refl _) (fun t ht => by cases ht)⟩
                          rw [gI_sub hq0 (by omega)]; exact hgg
                        case measure =>
                          have s1 := hS.out.get (A := A9) (n := n9) (c := c9) (by repeat (first | exact ms | apply mo))
                          have s2 := hS.out.get (A := B2) (n := i2) (c := j2) (by repeat (first | exact ms | apply mo))
                          rw [HM.out, vOf_eq s1.1, vOf_eq s2.1, s1.2.2, s2.2.2]
                          omega
                      · go_wp2_with fail
                        go_at_call 85
                        with_reducible refine (rbit_k (b := true) hS.out (by repeat (first | exact ms | apply mo)) (by omega) (by rw [ha]; decide)).mono ?_
                        rintro e v63 ⟨rfl, h1⟩
                        clear hS; have hS := Lib.hid h1; clear h1
                        go_wp2_with fail
                        go_at_call 85
                        with_reducible refine (rbit_k (b := true) hS.out (by repeat (first | exact ms | apply mo)) (by omega) (by rw [hb]; decide)).mono ?_
                        rintro e v64 ⟨rfl, h1⟩
                        clear hS; have hS := Lib.hid h1; clear h1
                        go_wp2_with fail
                        go_at_call 89
                        with_reducible refine (rcmp_k (q := -1) hS.out (by repeat (first | exact ms | apply mo)) (by omega) (by repeat (first | exact ms | apply mo)) (by omega) (cmpI_lt (by omega))).mono ?_
                        rintro e v65 ⟨rfl, h1⟩
                        clear hS; have hS := Lib.hid h1; clear h1
                        go_wp2_with fail
                        go_at_call 90
                        with_reducible refine (rsub_k (K := K) hS.out (by repeat (first | exact ms | apply mo)) (by omega) (by repeat (first | exact ms | apply mo)) (by omega) (by omega) rfl (by omega)).mono ?_
                        rintro e v66 ⟨A9, n9, c9, rfl, h1⟩
                        clear hS; have hS := Lib.hid h1; clear h1
                        go_wp2_with fail
                        go_roundw
                        case rel =>
                          refine ⟨p, q - p, B1, i1, j1, A9, n9, c9, rfl, rfl, by omega, by omega, by omega, by omega, by omega, ?_, hS.out.sub (by
                            intro t ht
                            simp only [List.mem_cons, List.not_mem_nil, or_false] at ht ⊢
                            rcases ht with rfl | rfl <;> simp) (List.Sublist.refl _) (fun t ht => by cases ht)⟩
                          rw [gI_comm', gI_sub hp0 (by omega), gI_comm']; exact hgg
                        case measure =>
                          have s1 := hS.out.get (A := B1) (n := i1) (c := j1) (by repeat (first | exact ms | apply mo))
                          have s2 := hS.out.get (A := A9) (n := n9) (c := c9) (by repeat (first | exact ms | apply mo))
                          rw [HM.out, vOf_eq s1.1, vOf_eq s2.1, s1.2.2, s2.2.2]
                          omega
                · go_wp2_with fail
                  go_at_call 87
                  with_reducible refine (rsmall_n hS.out (by repeat (first | exact ms | apply mo)) (by omega) (by omega)).mono ?_
                  rintro e v61 ⟨rfl, h1⟩
                  clear hS; have hS := Lib.hid h1; clear h1
                  go_wp2_with fail
                  go_at_call 87
                  with_reducible refine (rsmall_n hS.out (by repeat (first | exact ms | apply mo)) (by omega) (by omega)).mono ?_
                  rintro e v62 ⟨rfl, h1⟩
                  clear hS; have hS := Lib.hid h1; clear h1
                  by_cases ha : p % 2 = 0
                  · go_wp2_with fail
                    go_at_call 85
                    with_reducible refine (rbit_k (b := false) hS.out (by repeat (first | exact ms | apply mo)) (by omega) (by rw [ha]; decide)).mono ?_
                    rintro e v63 ⟨rfl, h1⟩
                    clear hS; have hS := Lib.hid h1; clear h1
                    go_wp2_with fail
                    go_at_call 86
                    with_reducible refine (rshr_k (K := K) hS.out (by repeat (first | exact ms | apply mo)) (by omega) rfl (by omega)).mono ?_
                    rintro e v64 ⟨A9, n9, c9, rfl, h1⟩
                    clear hS; have hS := Lib.hid h1; clear h1
                    go_wp2_with fail
                    go_roundw
                    case rel =>
                      refine ⟨p / 2, q, A9, n9, c9, B2, i2, j2, rfl, rfl, by omega, by omega, by omega, by omega, by omega, ?_, hS.out.sub (by
                        intro t ht
                        simp only [List.mem_cons, List.not_mem_nil, or_false] at ht ⊢
                        rcases ht with rfl | rfl <;> simp) (List.Sublist.refl _) (fun t ht => by cases ht)⟩
                      rw [gI_half hp0 hq0 ha (by have h9 := hg1; rw [← hgg] at h9; exact gI_odd_r hp0 hq0 ha h9)]; exact hgg
                    case measure =>
                      have s1 := hS.out.get (A := A9) (n := n9) (c := c9) (by repeat (first | exact ms | apply mo))
                      have s2 := hS.out.get (A := B2) (n := i2) (c := j2) (by repeat (first | exact ms | apply mo))
                      rw [HM.out, vOf_eq s1.1, vOf_eq s2.1, s1.2.2, s2.2.2]
                      omega
                  · have ha : p % 2 = 1 := by omega
                    by_cases hb : q % 2 = 0
                    · go_wp2_with fail
                      go_at_call 85
                      with_reducible refine (rbit_k (b := true) hS.out (by repeat (first | exact ms | apply mo)) (by omega) (by rw [ha]; decide)).mono ?_
                      rintro e v63 ⟨rfl, h1⟩
                      clear hS; have hS := Lib.hid h1; clear h1
                      go_wp2_with fail
                      go_at_call 85
                      with_reducible refine (rbit_k (b := false) hS.out (by repeat (first | exact ms | apply mo)) (by omega) (by rw [hb]; decide)).mono ?_
                      rintro e v64 ⟨rfl, h1⟩
                      clear hS; have hS := Lib.hid h1; clear h1
                      go_wp2_with fail
                      go_at_call 86
                      with_reducible refine (rshr_k (K := K) hS.out (by repeat (first | exact ms | apply mo)) (by omega) rfl (by omega)).mono ?_
                      rintro e v65 ⟨A9, n9, c9, rfl, h1⟩
                      clear hS; have hS := Lib.hid h1; clear h1
                      go_wp2_with fail
                      go_roundw
                      case rel =>
                        refine ⟨p, q / 2, B1, i1, j1, A9, n9, c9, rfl, rfl, by omega, by omega, by omega, by omega, by omega, ?_, hS.out.sub (by
                          intro t ht
                          simp only [List.mem_cons, List.not_mem_nil, or_false] at ht ⊢
                          rcases ht with rfl | rfl <;> simp) (List.Sublist.refl _) (fun t ht => by cases ht)⟩
                        rw [gI_comm', gI_half hq0 hp0 hb ha, gI_comm']; exact hgg
                      case measure =>
                        have s1 := hS.out.get (A := B1) (n := i1) (c := j1) (by repeat (first | exact ms | apply mo))
                        have s2 := hS.out.get (A := A9) (n := n9) (c := c9) (by repeat (first | exact ms | apply mo))
                        rw [HM.out, vOf_eq s1.1, vOf_eq s2.1, s1.2.2, s2.2.2]
                        omega
                    · have hb : q % 2 = 1 := by omega
                      by_cases hge : q ≤ p
                      · go_wp2_with fail
                        go_at_call 85
                        with_reducible refine (rbit_k (b := true) hS.out (by repeat (first | exact ms | apply mo)) (by omega) (by rw [ha]; decide)).mono ?_
                        rintro e v63 ⟨rfl, h1⟩
                        clear hS; have hS := Lib.hid h1; clear h1
                        go_wp2_with fail
                        go_at_call 85
                        with_reducible refine (rbit_k (b := true) hS.out (by repeat (first | exact ms | apply mo)) (by omega) (by rw [hb]; decide)).mono ?_
                        rintro e v64 ⟨rfl, h1⟩
                        clear hS; have hS := Lib.hid h1; clear h1
                        obtain ⟨cq, hcq, hcs⟩ : ∃ cq, cmpI p q = cq ∧ 0 ≤ cq := ⟨_, rfl, by unfold cmpI; rw [if_neg (by omega)]; split <;> decide⟩
                        go_wp2_with fail
                        go_at_call 89
                        with_reducible refine (rcmp_k hS.out (by repeat (first | exact ms | apply mo)) (by omega) (by repeat (first | exact ms | apply mo)) (by omega) hcq).mono ?_
                        rintro e v65 ⟨rfl, h1⟩
                        clear hS; have hS := Lib.hid h1; clear h1
                        go_wp2_with fail
                        go_at_call 90
                        with_reducible refine (rsub_k (K := K) hS.out (by repeat (first | exact ms | apply mo)) (by omega) (by repeat (first | exact ms | apply mo)) (by omega) (by omega) rfl (by omega)).mono ?_
                        rintro e v66 ⟨A9, n9, c9, rfl, h1⟩
                        clear hS; have hS := Lib.hid h1; clear h1
                        go_wp2_with fail
                        go_roundw
                        case rel =>
                          refine ⟨p - q, q, A9, n9, c9, B2, i2, j2, rfl, rfl, by omega, by omega, by omega, by omega, by omega, ?_, hS.out.sub (by
                            intro t ht
                            simp only [List.mem_cons, List.not_mem_nil, or_false] at ht ⊢
                            rcases ht with rfl | rfl <;> simp) (List.Sublist.refl _) (fun t ht => by cases ht)⟩
                          rw [gI_sub hq0 (by omega)]; exact hgg
                        case measure =>
                          have s1 := hS.out.get (A := A9) (n := n9) (c := c9) (by repeat (first | exact ms | apply mo))
                          have s2 := hS.out.get (A := B2) (n := i2) (c := j2) (by repeat (first | exact ms | apply mo))
                          rw [HM.out, vOf_eq s1.1, vOf_eq s2.1, s1.2.2, s2.2.2]
                          omega
                      · go_wp2_with fail
                        go_at_call 85
                        with_reducible refine (rbit_k (b := true) hS.out (by repeat (first | exact ms | apply mo)) (by omega) (by rw [ha]; decide)).mono ?_
                        rintro e v63 ⟨rfl, h1⟩
                        clear hS; have hS := Lib.hid h1; clear h1
                        go_wp2_with fail
                        go_at_call 85
                        with_reducible refine (rbit_k (b := true) hS.out (by repeat (first | exact ms | apply mo)) (by omega) (by rw [hb]; decide)).mono ?_
                        rintro e v64 ⟨rfl, h1⟩
                        clear hS; have hS := Lib.hid h1; clear h1
                        go_wp2_with fail
                        go_at_call 89
                        with_reducible refine (rcmp_k (q := -1) hS.out (by repeat (first | exact ms | apply mo)) (by omega) (by repeat (first | exact ms | apply mo)) (by omega) (cmpI_lt (by omega))).mono ?_
                        rintro e v65 ⟨rfl, h1⟩
                        clear hS; have hS := Lib.hid h1; clear h1
                        go_wp2_with fail
                        go_at_call 90
                        with_reducible refine (rsub_k (K := K) hS.out (by repeat (first | exact ms | apply mo)) (by omega) (by repeat (first | exact ms | apply mo)) (by omega) (by omega) rfl (by omega)).mono ?_
                        rintro e v66 ⟨A9, n9, c9, rfl, h1⟩
                        clear hS; have hS := Lib.hid h1; clear h1
                        go_wp2_with fail
                        go_roundw
                        case rel =>
                          refine ⟨p, q - p, B1, i1, j1, A9, n9, c9, rfl, rfl, by omega, by omega, by omega, by omega, by omega, ?_, hS.out.sub (by
                            intro t ht
                            simp only [List.mem_cons, List.not_mem_nil, or_false] at ht ⊢
                            rcases ht with rfl | rfl <;> simp) (List.Sublist.refl _) (fun t ht => by cases ht)⟩
                          rw [gI_comm', gI_sub hp0 (by omega), gI_comm']; exact hgg
                        case measure =>
                          have s1 := hS.out.get (A := B1) (n := i1) (c := j1) (by repeat (first | exact ms | apply mo))
                          have s2 := hS.out.get (A := A9) (n := n9) (c := c9) (by repeat (first | exact ms | apply mo))
                          rw [HM.out, vOf_eq s1.1, vOf_eq s2.1, s1.2.2, s2.2.2]
                          omega
      · have hy : y % 2 = 0 := by omega
        go_wp2_with fail
        go_at_call 85
        with_reducible refine (rbit_k (b := false) hS.out (by repeat (first | exact ms | apply mo)) (by omega) (by rw [hx]; decide)).mono ?_
        rintro e v11 ⟨rfl, h1⟩
        clear hS; have hS := Lib.hid h1; clear h1
        go_wp2_with fail
        go_at_call 85
        with_reducible refine (rbit_k (b := false) hS.out (by repeat (first | exact ms | apply mo)) (by omega) (by rw [hy]; decide)).mono ?_
        rintro e v12 ⟨rfl, h1⟩
        clear hS; have hS := Lib.hid h1; clear h1
        go_wp2_with fail
        go_at_call 86
        with_reducible refine (rshr_k (K := K) hS.out (by repeat (first | exact ms | apply mo)) (by omega) rfl (by omega)).mono ?_
        rintro e v13 ⟨A5, n5, c5, rfl, h1⟩
        clear hS; have hS := Lib.hid h1; clear h1
        go_wp2_with fail
        go_at_call 86
        with_reducible refine (rshr_k (K := K) hS.out (by repeat (first | exact ms | apply mo)) (by omega) rfl (by omega)).mono ?_
        rintro e v14 ⟨A6, n6, c6, rfl, h1⟩
        clear hS; have hS := Lib.hid h1; clear h1
        go_wp2_with fail
        go_roundw
        case rel =>
          refine ⟨k + 1, x / 2, y / 2, A5, n5, c5, A6, n6, c6, rfl, rfl, by go_num, by omega, by omega, by omega, by omega, ?_, ?_, hS.out.sub (by
            intro t ht
            simp only [List.mem_cons, List.not_mem_nil, or_false] at ht ⊢
            rcases ht with rfl | rfl <;> simp) (List.Sublist.refl _) (fun t ht => by cases ht)⟩
          · rw [Int.pow_succ, ← hxk, show x / 2 * (2 ^ k * 2) = (2 * (x / 2)) * 2 ^ k by grind, show 2 * (x / 2) = x by omega]
          · rw [← hG, gI_even (Int.le_of_lt hx0) (Int.le_of_lt hy0) hx hy, Int.pow_succ]; grind
        case measure => simp [intOf]; omega
end
end Go.Proofs.YtfdpddlefobcpaaGreatDoor
