/- The document of layer 6: Gcd. -/
import Derived.Test.YtfdpddlefobcpaaGreatDoorRefRatG
namespace Go.Proofs.YtfdpddlefobcpaaGreatDoor
open Go.RowKit
set_option linter.unusedVariables false
set_option linter.unusedSimpArgs false
set_option maxRecDepth 20000
open N
open Go.Lib (decDigits nDigits decDigits_length nDigits_pos)
section
variable {w : World} {A A' : Option Addr} {n c m d K : Nat} {xs ys : List Int}
theorem len_z {W : World} {A : Option Addr} {n c : Nat} {x : Int} (h : Sl W A n c (limbs x)) (hx : 0 ≤ x) : n = 0 ↔ x = 0 := by
  have h1 := limbs_len_le hx 0
  rw [h.len] at h1
  have h2 : Q B 0 = 1 := by unfold Q; rfl
  rw [h2] at h1
  omega
theorem rgcd_z1 (w : World) (h : Sl w A n c xs) (h' : Sl w A' m d ys) (hn : n ≤ K) (hm : m ≤ K) (hK : K ≤ 1000) (hv : val B xs = 0) : Calls Tryz.prog 62 #[.slice A n c, .slice A' m d] w (Out w K (gI (val B xs) (val B ys))) := by
  have hv0 := h.nn0
  have hu0 := h'.nn0
  have hvK : val B xs < Q B K := Int.lt_of_lt_of_le h.lt (QB_le hn)
  have huK : val B ys < Q B K := Int.lt_of_lt_of_le h'.lt (QB_le hm)
  have hS := Lib.hid (((SC.start w).old (k := K) h' hm rfl).old (k := K) h hn rfl)
  clear h h'
  go_enter Tryz.func62, Tryz.ntmps62
  go_wp2_with fail
  go_at_call 61
  with_reducible refine (rtrim_k (K := K) hS.out (by repeat (first | exact ms | apply mo)) (by omega) rfl hvK).mono ?_
  rintro e v1 ⟨A1, n1, c1, rfl, h1⟩
  clear hS; have hS := Lib.hid h1; clear h1
  go_wp2_with fail
  go_at_call 61
  with_reducible refine (rtrim_k (K := K) hS.out (by repeat (first | exact ms | apply mo)) (by omega) rfl huK).mono ?_
  rintro e v2 ⟨A2, n2, c2, rfl, h1⟩
  clear hS; have hS := Lib.hid h1; clear h1
  have e1 := len_z (hS.out.get (A := A1) (n := n1) (c := c1) (by repeat (first | exact ms | apply mo))).1 hv0
  have e2 := len_z (hS.out.get (A := A2) (n := n2) (c := c2) (by repeat (first | exact ms | apply mo))).1 hu0
  obtain rfl : n1 = 0 := e1.2 hv
  clear e1 e2
  go_wp2
  go_ret
  rw [hv, show gI 0 (val B ys) = val B ys by rw [gI_comm', gI_zero hu0]]
  have ho := hS.out.own _ (show (⟨A2, n2, c2, K, limbs (val B ys), val B ys⟩ : Ent) ∈ _ from (by repeat (first | exact ms | apply mo)))
  exact ⟨A2, n2, c2, rfl, own_len ho rfl hu0 huK, ho, hS.out.bl⟩
theorem rgcd_z2 (w : World) (h : Sl w A n c xs) (h' : Sl w A' m d ys) (hn : n ≤ K) (hm : m ≤ K) (hK : K ≤ 1000) (hv : ¬ val B xs = 0) (hu : val B ys = 0) : Calls Tryz.prog 62 #[.slice A n c, .slice A' m d] w (Out w K (gI (val B xs) (val B ys))) := by
  have hv0 := h.nn0
  have hu0 := h'.nn0
  have hvK : val B xs < Q B K := Int.lt_of_lt_of_le h.lt (QB_le hn)
  have huK : val B ys < Q B K := Int.lt_of_lt_of_le h'.lt (QB_le hm)
  have hS := Lib.hid (((SC.start w).old (k := K) h' hm rfl).old (k := K) h hn rfl)
  clear h h'
  go_enter Tryz.func62, Tryz.ntmps62
  go_wp2_with fail
  go_at_call 61
  with_reducible refine (rtrim_k (K := K) hS.out (by repeat (first | exact ms | apply mo)) (by omega) rfl hvK).mono ?_
  rintro e v1 ⟨A1, n1, c1, rfl, h1⟩
  clear hS; have hS := Lib.hid h1; clear h1
  go_wp2_with fail
  go_at_call 61
  with_reducible refine (rtrim_k (K := K) hS.out (by repeat (first | exact ms | apply mo)) (by omega) rfl huK).mono ?_
  rintro e v2 ⟨A2, n2, c2, rfl, h1⟩
  clear hS; have hS := Lib.hid h1; clear h1
  have e1 := len_z (hS.out.get (A := A1) (n := n1) (c := c1) (by repeat (first | exact ms | apply mo))).1 hv0
  have e2 := len_z (hS.out.get (A := A2) (n := n2) (c := c2) (by repeat (first | exact ms | apply mo))).1 hu0
  have hn1 : ¬ n1 = 0 := fun e => hv (e1.1 e)
  obtain rfl : n2 = 0 := e2.2 hu
  clear e1 e2
  have hb1 : (((n1 : Nat) : Int) == 0) = false := by simp; omega
  go_wp2
  go_ret
  rw [hu, gI_zero hv0]
  have ho := hS.out.own _ (show (⟨A1, n1, c1, K, limbs (val B xs), val B xs⟩ : Ent) ∈ _ from (by repeat (first | exact ms | apply mo)))
  exact ⟨A1, n1, c1, rfl, own_len ho rfl hv0 hvK, ho, hS.out.bl⟩
end
end Go.Proofs.YtfdpddlefobcpaaGreatDoor
