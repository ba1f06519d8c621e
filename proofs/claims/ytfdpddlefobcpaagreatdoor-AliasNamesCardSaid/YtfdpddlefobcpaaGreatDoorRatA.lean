/- Package rat: quotient, one, Of, Make. -/
import Derived.Test.YtfdpddlefobcpaaGreatDoorRatCalls
namespace Go.Proofs.YtfdpddlefobcpaaGreatDoor
open Go.RowKit
set_option linter.unusedVariables false
set_option linter.unusedSimpArgs false
set_option maxRecDepth 20000
open N
theorem wd1 : W.Wd 1 := ⟨by decide, by decide⟩
section
variable {w : World} {A A' : Option Addr} {n c m d M : Nat} {xs ys : List Int} {b : Bool}
theorem quotient_c {w0 v0 w : World} {S O : List Ent} {T : List Blk} {A A' : Option Addr} {n c m d k k' : Nat} {xs ys : List Int} {v u : Int} (h : SC w0 v0 w S T O) (h1 : (⟨A, n, c, k, xs, v⟩ : Ent) ∈ S) (hk : k ≤ 1000000) (h2 : (⟨A', m, d, k', ys, u⟩ : Ent) ∈ S) (hk' : k' ≤ 1000000) (hu : 0 < u) {r : Int} (hr : v / u = r) :
    Calls Tryz.prog 81 #[.slice A n c, .slice A' m d] w fun e w' => ∃ A n c, e = .returned (.slice A n c) ∧ SC w0 v0 w' (⟨A, n, c, k, limbs r, r⟩ :: S) T (⟨A, n, c, k, limbs r, r⟩ :: O) := by
  have HC := Lib.hid (div_c h h1 hk h2 hk' hu hr)
  clear h h1 h2
  go_enter Tryz.func81, Tryz.ntmps81
  go_wp2_with (go_at_call 108; refine HC.out.mono ?_; rintro e w1 ⟨A1, n1, c1, A2, n2, c2, rfl, h3⟩)
  go_ret
  exact ⟨A1, n1, c1, rfl, h3⟩
theorem rof_num (z : Int) : (mkRat z 1).num = z ∧ (mkRat z 1).den = 1 := by
  have h1 : mkRat z 1 = ((z : Int) : Rat) := by rw [Rat.mkRat_eq_div]; grind
  rw [h1]; exact ⟨Rat.num_intCast _, Rat.den_intCast _⟩
theorem fof_any (w : World) (x : Int) (h1 : -9223372036854775808 ≤ x) (h2 : x ≤ 9223372036854775807) : Calls Tryz.prog 31 #[.int .i64 x] w (OutR w 1 (mkRat x 1)) := by
  obtain ⟨hnum, hden⟩ := rof_num x
  have hM : RB 1 (mkRat x 1) := by
    unfold RB
    rw [hnum, hden, QB_one]
    unfold mg
    exact ⟨by omega, by omega⟩
  obtain ⟨z, hz⟩ : ∃ z, z = x := ⟨_, rfl⟩
  subst hz
  have hS := Lib.hid (SC.start w)
  go_enter Tryz.func31, Tryz.ntmps31
  have h1 := (hS.out.boxed (vs := [.bool false, .slice none 0 0, .slice none 0 0]) (ty := 62) rfl rfl)
  try simp only [World.size_alloc] at h1
  obtain ⟨p0_0, p1_0, p2_0⟩ := h1.cs3 0 rfl
  clear h1
  go_wp2_with fail
  clear p0_0 p1_0 p2_0
  generalize hwa : World.alloc w _ = v1
  have h1 := (hS.out.boxed (vs := [.bool false, .slice none 0 0, .slice none 0 0]) (ty := 62) rfl hwa)
  clear hwa
  clear hS; have hS := Lib.hid h1; clear h1
  obtain ⟨x0_0, x1_0, x2_0⟩ := hS.out.cs3 0 rfl
  go_wp2_with fail
  go_at_call 53
  with_reducible refine (wof_c (r := z) hS.out h1 h2).mono ?_
  rintro e v2 ⟨A1, n1, c1, rfl, h1⟩
  clear x0_0 x1_0 x2_0
  clear hS; have hS := Lib.hid h1; clear h1
  obtain ⟨x0_0, x1_0, x2_0⟩ := hS.out.cs3 0 rfl
  go_wp2_with fail
  go_at_call 56
  with_reducible refine (nof_c (x := 1) hS.out wd1).mono ?_
  rintro e v3 ⟨A2, n2, c2, rfl, h1⟩
  clear x0_0 x1_0 x2_0
  clear hS; have hS := Lib.hid h1; clear h1
  obtain ⟨x0_0, x1_0, x2_0⟩ := hS.out.cs3 0 rfl
  have hp0 := hS.out.put3 0 rfl (hS.out.ge_ 0 rfl) (.bool (sg z)) (.slice A1 n1 c1) (.slice A2 n2 c2)
  simp only [List.set_cons_zero, List.set_cons_succ] at hp0
  have fz0_0 := hS.out.frs 0 rfl 0
  have fz0_1 := hS.out.frs 0 rfl 1
  have fz0_2 := hS.out.frs 0 rfl 2
  have HPUT := Lib.hid hp0
  clear hp0
  go_wp2_with fail
  refine bodyPost_ret (results_B rfl rfl (loadR (HPUT.out.box _ (List.mem_of_getElem? (i := 0) rfl)))) rfl ?_
  exact HPUT.out.toR (r := mkRat z 1) (List.mem_cons_of_mem _ List.mem_cons_self) List.mem_cons_self (by rw [hnum]) (by rw [hnum]) (by rw [hden]; rfl) hM
end
end Go.Proofs.YtfdpddlefobcpaaGreatDoor
