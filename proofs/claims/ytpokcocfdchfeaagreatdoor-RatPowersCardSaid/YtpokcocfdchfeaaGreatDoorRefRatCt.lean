/- The document of layer 6: Count of any fraction. -/
import Derived.Test.YtpokcocfdchfeaaGreatDoorRefRatL
namespace Go.Proofs.YtpokcocfdchfeaaGreatDoor
open Go.RowKit
set_option linter.unusedVariables false
set_option linter.unusedSimpArgs false
set_option maxRecDepth 20000
open N
namespace N
theorem limbs_1 : limbs 1 = [1] := limbs_is _ (by decide +kernel) (by unfold Dg B; decide +kernel) (by decide +kernel)
end N
theorem SC.noneO {w0 v0 w : World} {S O : List Ent} {T : List Blk} (h : SC w0 v0 w S T O) : SC w0 v0 w (⟨none, 0, 0, 0, [], 0⟩ :: S) T (⟨none, 0, 0, 0, [], 0⟩ :: O) := by
  have h1 := h.none_
  refine ⟨h1.st, h1.bl, h1.box, h1.from_, h1.nd, h1.apart, fun t ht => ?_, fun t ht q hq => ?_⟩
  · rcases List.mem_cons.1 ht with e | e
    · subst e; exact Own.nil_ _ _
    · exact h1.own t e
  · rcases List.mem_cons.1 ht with e | e
    · subst e; intro e; cases e
    · exact h1.apo t e q hq
section
variable {w0 v0 w : World} {S O : List Ent} {T : List Blk} {A A' : Option Addr} {n c m d k k' K M : Nat} {xs ys : List Int} {v u : Int} {b : Bool}
theorem r6count_z (w : World) (b : Bool) (h : Sl w A n c xs) (h' : Sl w A' m d ys) (hn : n ≤ M) (hm : m ≤ M) (hM1 : 1 ≤ M) (hM : M ≤ 1000) (hv : val B ys = 0) {r : Rat} (hr : rv b (val B xs) (val B ys) = r) :
    Calls Tryz.prog 18 #[.agg #[.bool b, .slice A n c, .slice A' m d]] w (OutR w M r) := by
  have HNUM := Lib.hid (show r.num = 0 by rw [← hr, hv]; rfl)
  have HDEN := Lib.hid (show (r.den : Int) = 1 by rw [← hr, hv]; rfl)
  clear hr
  have hS := Lib.hid (((SC.start w).old (k := M) h' hm rfl).old (k := M) h hn rfl)
  clear h h'
  go_enter Tryz.func18, Tryz.ntmps18
  have h1 := ((hS.out.boxed (vs := [.bool b, .slice A n c, .slice A' m d]) (ty := 27) rfl rfl).boxed (vs := [.bool false, .slice none 0 0, .slice none 0 0]) (ty := 27) rfl rfl)
  try simp only [World.size_alloc] at h1
  obtain ⟨p0_0, p1_0, p2_0⟩ := h1.cs3 0 rfl
  obtain ⟨p0_1, p1_1, p2_1⟩ := h1.cs3 1 rfl
  clear h1
  go_wp2_with fail
  clear p0_0 p1_0 p2_0 p0_1 p1_1 p2_1
  generalize hwa : World.alloc (World.alloc w _) _ = v1
  have h1 := ((hS.out.boxed (vs := [.bool b, .slice A n c, .slice A' m d]) (ty := 27) rfl rfl).boxed (vs := [.bool false, .slice none 0 0, .slice none 0 0]) (ty := 27) rfl hwa)
  simp only [World.size_alloc] at h1
  have hsz : v1.heap.size = w.heap.size + 1 + 1 := by rw [← hwa]; simp only [World.size_alloc]
  try rw [← hsz]
  clear hwa hsz
  clear hS; have hS := Lib.hid h1; clear h1
  obtain ⟨x0_0, x1_0, x2_0⟩ := hS.out.cs3 0 rfl
  obtain ⟨x0_1, x1_1, x2_1⟩ := hS.out.cs3 1 rfl
  go_wp2_with fail
  go_at_call 44
  with_reducible refine (r6mk_z hS.out (by repeat (first | exact ms | apply mo)) (by repeat (first | exact ms | apply mo)) (by omega) (by omega) hv).mono ?_
  rintro e v2 ⟨rfl, h1⟩
  clear x0_0 x1_0 x2_0 x0_1 x1_1 x2_1
  clear hS; have hS := Lib.hid h1; clear h1
  obtain ⟨x0_0, x1_0, x2_0⟩ := hS.out.cs3 0 rfl
  obtain ⟨x0_1, x1_1, x2_1⟩ := hS.out.cs3 1 rfl
  have hm0 := hS.out.boxed (vs := [.bool false, .slice none 0 0, .slice none 0 0]) (ty := 27) rfl rfl
  try simp only [World.size_alloc] at hm0
  obtain ⟨m0_0, m1_0, m2_0⟩ := hm0.cs3 0 rfl
  obtain ⟨m0_1, m1_1, m2_1⟩ := hm0.cs3 1 rfl
  obtain ⟨m0_2, m1_2, m2_2⟩ := hm0.cs3 2 rfl
  have hl0 := hm0.noneO.lit1O 1 (by decide)
  try simp only [World.size_alloc] at hl0
  obtain ⟨l0_0, l1_0, l2_0⟩ := hl0.cs3 0 rfl
  obtain ⟨l0_1, l1_1, l2_1⟩ := hl0.cs3 1 rfl
  obtain ⟨l0_2, l1_2, l2_2⟩ := hl0.cs3 2 rfl
  have hp0 := hl0.put3 1 rfl (hl0.ge_ 1 rfl) (.bool false) (.slice none 0 0) (.slice (some ⟨v2.heap.size + 1, 0, none⟩) 1 1)
  simp only [List.set_cons_zero, List.set_cons_succ] at hp0
  have fz0 := hl0.frs 1 rfl 0
  have fz1 := hl0.frs 1 rfl 1
  have fz2 := hl0.frs 1 rfl 2
  have HPUT := Lib.hid hp0
  clear hp0 hl0
  go_wp2_with fail
  refine bodyPost_ret (results_B rfl rfl (loadR (HPUT.out.box _ (List.mem_of_getElem? (i := 1) rfl)))) rfl ?_
  exact HPUT.out.toR2 (k := 0) (k' := 1) (r := r) (by repeat (first | exact ms | apply mo)) (by repeat (first | exact ms | apply mo)) (by repeat (first | exact ms | apply mo)) (by repeat (first | exact ms | apply mo)) (Nat.zero_le _) hM1 (by rw [HNUM.out]; rfl) (by rw [HNUM.out, mg_0, limbs_zero]) (by rw [HDEN.out]; exact limbs_1.symm)
theorem r6count_any (w : World) (b : Bool) (h : Sl w A n c xs) (h' : Sl w A' m d ys) (hn : n ≤ M) (hm : m ≤ M) (hM1 : 1 ≤ M) (hM : M ≤ 1000) {r : Rat} (hr : rv b (val B xs) (val B ys) = r) :
    Calls Tryz.prog 18 #[.agg #[.bool b, .slice A n c, .slice A' m d]] w (OutR w M r) := by
  have h0 := h'.nn0
  by_cases hv : val B ys = 0
  · exact r6count_z w b h h' hn hm hM1 hM hv hr
  · exact r6count_p w b h h' hn hm hM1 hM (by omega) hr
end
end Go.Proofs.YtpokcocfdchfeaaGreatDoor
