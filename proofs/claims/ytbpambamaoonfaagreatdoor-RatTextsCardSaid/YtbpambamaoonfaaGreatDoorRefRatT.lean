/- The document of layer 6: Count where the denominator is 0, Show, Read. -/
import Derived.Test.YtbpambamaoonfaaGreatDoorRefRatL
import Derived.Test.YtbpambamaoonfaaGreatDoorRefWhole
import Derived.Test.YtbpambamaoonfaaGreatDoorRatF
namespace Go.Proofs.YtbpambamaoonfaaGreatDoor
open Go.RowKit
set_option linter.unusedVariables false
set_option linter.unusedSimpArgs false
set_option maxRecDepth 20000
open N
open Go.Lib (decDigits nDigits decDigits_length nDigits_pos)
namespace N
theorem limbs_1 : limbs 1 = [1] := limbs_is _ (by decide +kernel) (by unfold Dg B; decide +kernel) (by decide +kernel)
theorem limbs_is1 {v : Int} (h : 0 ≤ v) : decide (limbs v = [1]) = decide (v = 1) := by
  by_cases e : v = 1
  · rw [decide_eq_true e, e, limbs_1]; rfl
  · rw [decide_eq_false e]
    exact decide_eq_false fun e2 => e ((limbs_inj h (by decide)).1 (e2.trans limbs_1.symm))
theorem fP_ne : ∀ (bs : List UInt8) (k : Nat), k < (fP bs).length → bs.getD k 0 ≠ 47
  | [], k, h => by simp [fP] at h
  | b :: l, k, h => by
    by_cases hb : b = 47
    · subst hb; exact absurd h (by simp [fP])
    · have h1 : fP (b :: l) = b :: fP l := by unfold fP; rw [List.takeWhile_cons]; simp [hb]
      rw [h1, List.length_cons] at h
      cases k with
      | zero => simpa using hb
      | succ k => have := fP_ne l k (by omega); simpa using this
theorem bat_ne {bs : List UInt8} {k : Nat} (h : k < (fP bs).length) : bat bs k ≠ 47 := fun e => by
  refine fP_ne bs k h (UInt8.toNat_inj.1 ?_)
  unfold bat at e
  show (bs.getD k 0).toNat = 47
  omega
theorem bat_fP {bs : List UInt8} (h : noS bs = false) : bat bs (fP bs).length = 47 := by
  have h1 := congrArg (fun l => l.getD (fP bs).length 0) (f_split h)
  have h2 : bs.getD (fP bs).length 0 = 47 := by
    refine h1.trans ?_
    simp [List.getD_eq_getElem?_getD]
  unfold bat
  rw [h2]; rfl
theorem fP_le (bs : List UInt8) : (fP bs).length ≤ bs.length := by unfold fP; exact (List.takeWhile_sublist _).length_le
theorem rdV_300 {bs : List UInt8} (h : bs.length ≤ 300) : rdV bs < Q B 20 := by
  have hq : (0 : Int) < Q B 20 := by rw [QB_two]; exact Int.pow_pos (by decide)
  unfold rdV
  split
  · rename_i he
    have ha : bs.all isDb = true := by
      cases e : bs.all isDb with
      | true => rfl
      | false =>
        unfold rdE at he
        rw [e] at he
        split at he
        · cases he
        · rw [if_pos rfl] at he; cases he
    have h1 := dv_lt bs fun b hb => (isDb_iff b).1 (List.all_eq_true.1 ha b hb)
    obtain ⟨E, hE⟩ : ∃ E : Nat, E = 300 := ⟨_, rfl⟩
    have h2 : (10 : Nat) ^ bs.length ≤ 10 ^ E := Nat.pow_le_pow_right (by decide) (by omega)
    have h3 : (10 : Nat) ^ E ≤ (2 ^ 4) ^ E := Nat.pow_le_pow_left (by decide) E
    obtain ⟨F, hF⟩ : ∃ F : Nat, F = 64 * 20 := ⟨_, rfl⟩
    have h4 : ((2 : Nat) ^ 4) ^ E ≤ 2 ^ F := by rw [← Nat.pow_mul]; exact Nat.pow_le_pow_right (by decide) (by omega)
    rw [QB_two, ← hF]
    have h5 : dv bs < 2 ^ F := Nat.lt_of_lt_of_le h1 (Nat.le_trans h2 (Nat.le_trans h3 h4))
    exact_mod_cast h5
  · exact hq
theorem rdW_300 {bs : List UInt8} (h : bs.length ≤ 300) : mg (rdW bs) < Q B 20 := by
  unfold rdW
  split
  · have h1 := rdV_300 (bs := bs.tail) (by rw [List.length_tail]; omega)
    have h2 := rdV_nonneg bs.tail
    rw [mg_t (by omega), Int.neg_neg]; exact h1
  · rw [mg_f (rdV_nonneg bs)]; exact rdV_300 h
end N
theorem SC.noneO {w0 v0 w : World} {S O : List Ent} {T : List Blk} (h : SC w0 v0 w S T O) : SC w0 v0 w (⟨none, 0, 0, 0, [], 0⟩ :: S) T (⟨none, 0, 0, 0, [], 0⟩ :: O) := by
  have h1 := h.none_
  refine ⟨h1.st, h1.bl, h1.box, h1.from_, h1.nd, h1.apart, fun t ht => ?_, fun t ht q hq => ?_⟩
  · rcases List.mem_cons.1 ht with e | e
    · subst e; exact Own.nil_ _ _
    · exact h1.own t e
  · rcases List.mem_cons.1 ht with e | e
    · subst e; intro e; cases e
    · exact h1.apo t e q hq
section
variable {w0 v0 w : World} {S O : List Ent} {T : List Blk} {A A' : Option Addr} {n c m d k k' K M : Nat} {xs ys : List Int} {v u : Int} {b : Bool}
theorem rshow4_c (h : SC w0 v0 w S T O) (h1 : (⟨A, n, c, k, xs, v⟩ : Ent) ∈ S) (hk : k ≤ 1000000) {q : Nat} (hq : v = (q : Int)) {X : List UInt8} (hX : decDigits q = X) :
    Calls Tryz.prog 53 #[.slice A n c] w fun e w' => e = .returned (.string ⟨X.toArray⟩) ∧ SC w0 v0 w' S T O := by
  obtain ⟨a1, a2, rfl⟩ := h.get h1
  subst hX
  exact (rshow_any w A n c xs a1 (by omega) q hq).mono fun e w' ⟨he, hb⟩ => ⟨he, h.below hb⟩
theorem rread4_c (h : SC w0 v0 w S T O) (bs : List UInt8) (hl : bs.length ≤ 300) {j z : Int} (hj : rdE bs = j) (hz : rdV bs = z) :
    Calls Tryz.prog 46 #[.string ⟨bs.toArray⟩] w fun e w' => ∃ A n c, e = .returned (.tuple #[.slice A n c, .int .i64 j]) ∧ SC w0 v0 w' (⟨A, n, c, 20, limbs z, z⟩ :: S) T (⟨A, n, c, 20, limbs z, z⟩ :: O) := by
  have hK := rdV_300 hl
  have h0 := rdV_nonneg bs
  subst hj hz
  exact (rread_any w bs (by unfold maxLen; omega)).mono fun e w' ⟨A, n, c, he, hn, ho, hb⟩ => h.rN2 (m := 20) h0 (Nat.le_refl _) ⟨A, n, c, he, own_len ho rfl h0 hK, ho, hb⟩
theorem rread5_c (h : SC w0 v0 w S T O) (bs : List UInt8) (hl : bs.length ≤ 300) {j z : Int} (hj : rdJ bs = j) (hz : rdW bs = z) :
    Calls Tryz.prog 45 #[.string ⟨bs.toArray⟩] w fun e w' => ∃ A n c, e = .returned (.tuple #[.agg #[.bool (sg z), .slice A n c], .int .i64 j]) ∧ SC w0 v0 w' (⟨A, n, c, 20, limbs (mg z), mg z⟩ :: S) T (⟨A, n, c, 20, limbs (mg z), mg z⟩ :: O) := by
  have hK := rdW_300 hl
  subst hj hz
  exact (rreadi_any w bs (by unfold maxLen; omega)).mono fun e w' ⟨A, n, c, he, hn, ho, hb⟩ => h.rIE (m := 20) (Nat.le_refl _) ⟨A, n, c, he, own_len ho rfl (mg_nn _) hK, ho, hb⟩
theorem r6count_z (w : World) (b : Bool) (h : Sl w A n c xs) (h' : Sl w A' m d ys) (hn : n ≤ M) (hm : m ≤ M) (hM1 : 1 ≤ M) (hM : M ≤ 1000) (hv : val B ys = 0) {r : Rat} (hr : rv b (val B xs) (val B ys) = r) :
    Calls Tryz.prog 44 #[.agg #[.bool b, .slice A n c, .slice A' m d]] w (OutR w M r) := by
  have HNUM := Lib.hid (show r.num = 0 by rw [← hr, hv]; rfl)
  have HDEN := Lib.hid (show (r.den : Int) = 1 by rw [← hr, hv]; rfl)
  clear hr
  have hS := Lib.hid (((SC.start w).old (k := M) h' hm rfl).old (k := M) h hn rfl)
  clear h h'
  go_enter Tryz.func44, Tryz.ntmps44
  have h1 := ((hS.out.boxed (vs := [.bool b, .slice A n c, .slice A' m d]) (ty := 27) rfl rfl).boxed (vs := [.bool false, .slice none 0 0, .slice none 0 0]) (ty := 27) rfl rfl)
  try simp only [World.size_alloc] at h1
  obtain ⟨p0_0, p1_0, p2_0⟩ := h1.cs3 0 rfl
  obtain ⟨p0_1, p1_1, p2_1⟩ := h1.cs3 1 rfl
  clear h1
  go_wp2_with fail
  clear p0_0 p1_0 p2_0 p0_1 p1_1 p2_1
  generalize hwa : World.alloc (World.alloc w _) _ = v1
  have h1 := ((hS.out.boxed (vs := [.bool b, .slice A n c, .slice A' m d]) (ty := 27) rfl rfl).boxed (vs := [.bool false, .slice none 0 0, .slice none 0 0]) (ty := 27) rfl hwa)
  simp only [World.size_alloc] at h1
  have hsz : v1.heap.size = w.heap.size + 1 + 1 := by rw [← hwa]; simp only [World.size_alloc]
  try rw [← hsz]
  clear hwa hsz
  clear hS; have hS := Lib.hid h1; clear h1
  obtain ⟨x0_0, x1_0, x2_0⟩ := hS.out.cs3 0 rfl
  obtain ⟨x0_1, x1_1, x2_1⟩ := hS.out.cs3 1 rfl
  go_wp2_with fail
  go_at_call 7
  with_reducible refine (r6mk_z hS.out (by repeat (first | exact ms | apply mo)) (by repeat (first | exact ms | apply mo)) (by omega) (by omega) hv).mono ?_
  rintro e v2 ⟨rfl, h1⟩
  clear x0_0 x1_0 x2_0 x0_1 x1_1 x2_1
  clear hS; have hS := Lib.hid h1; clear h1
  obtain ⟨x0_0, x1_0, x2_0⟩ := hS.out.cs3 0 rfl
  obtain ⟨x0_1, x1_1, x2_1⟩ := hS.out.cs3 1 rfl
  have hm0 := hS.out.boxed (vs := [.bool false, .slice none 0 0, .slice none 0 0]) (ty := 27) rfl rfl
  try simp only [World.size_alloc] at hm0
  obtain ⟨m0_0, m1_0, m2_0⟩ := hm0.cs3 0 rfl
  obtain ⟨m0_1, m1_1, m2_1⟩ := hm0.cs3 1 rfl
  obtain ⟨m0_2, m1_2, m2_2⟩ := hm0.cs3 2 rfl
  have hl0 := hm0.noneO.lit1O 1 (by decide)
  try simp only [World.size_alloc] at hl0
  obtain ⟨l0_0, l1_0, l2_0⟩ := hl0.cs3 0 rfl
  obtain ⟨l0_1, l1_1, l2_1⟩ := hl0.cs3 1 rfl
  obtain ⟨l0_2, l1_2, l2_2⟩ := hl0.cs3 2 rfl
  have hp0 := hl0.put3 1 rfl (hl0.ge_ 1 rfl) (.bool false) (.slice none 0 0) (.slice (some ⟨v2.heap.size + 1, 0, none⟩) 1 1)
  simp only [List.set_cons_zero, List.set_cons_succ] at hp0
  have fz0 := hl0.frs 1 rfl 0
  have fz1 := hl0.frs 1 rfl 1
  have fz2 := hl0.frs 1 rfl 2
  have HPUT := Lib.hid hp0
  clear hp0 hl0
  go_wp2_with fail
  refine bodyPost_ret (results_B rfl rfl (loadR (HPUT.out.box _ (List.mem_of_getElem? (i := 1) rfl)))) rfl ?_
  exact HPUT.out.toR2 (k := 0) (k' := 1) (r := r) (by repeat (first | exact ms | apply mo)) (by repeat (first | exact ms | apply mo)) (by repeat (first | exact ms | apply mo)) (by repeat (first | exact ms | apply mo)) (Nat.zero_le _) hM1 (by rw [HNUM.out]; rfl) (by rw [HNUM.out, mg_0, limbs_zero]) (by rw [HDEN.out]; exact limbs_1.symm)
theorem r6count_any (w : World) (b : Bool) (h : Sl w A n c xs) (h' : Sl w A' m d ys) (hn : n ≤ M) (hm : m ≤ M) (hM1 : 1 ≤ M) (hM : M ≤ 1000) {r : Rat} (hr : rv b (val B xs) (val B ys) = r) :
    Calls Tryz.prog 44 #[.agg #[.bool b, .slice A n c, .slice A' m d]] w (OutR w M r) := by
  have h0 := h'.nn0
  by_cases hv : val B ys = 0
  · exact r6count_z w b h h' hn hm hM1 hM hv hr
  · exact r6count_p w b h h' hn hm hM1 hM (by omega) hr
theorem r6show_n1 (w : World) (b : Bool) (h : Sl w A n c xs) (h' : Sl w A' m d ys) (hn : n ≤ M) (hm : m ≤ M) (hM1 : 1 ≤ M) (hM : M ≤ 1000) {r : Rat} (hr : rv b (val B xs) (val B ys) = r) (hsg : sg r.num = true) {X Y P : List UInt8} (hX : decDigits r.num.natAbs = X) (hY : decDigits r.den = Y) (hP : 45 :: X = P) (h1 : decide (limbs (r.den : Int) = [1]) = true) :
    Calls Tryz.prog 22 #[.agg #[.bool b, .slice A n c, .slice A' m d]] w fun e w' => e = .returned (.string ⟨(P).toArray⟩) ∧ Below w.heap.size w w' := by
  have HC := Lib.hid (fun (W : World) (a1 : Sl W A n c xs) (a2 : Sl W A' m d ys) => r6count_any (M := M) W b a1 a2 hn hm hM1 hM hr)
  have HSG := Lib.hid hsg
  have HX := Lib.hid hX
  have HY := Lib.hid hY
  have HONE := Lib.hid h1
  have HP := Lib.hid hP
  clear hr hsg hX hY h1 hP
  have hS := Lib.hid (((SC.start w).old (k := M) h' hm rfl).old (k := M) h hn rfl)
  clear h h'
  go_enter Tryz.func22, Tryz.ntmps22
  have h1 := (hS.out.boxed (vs := [.bool b, .slice A n c, .slice A' m d]) (ty := 27) rfl rfl)
  try simp only [World.size_alloc] at h1
  obtain ⟨p0_0, p1_0, p2_0⟩ := h1.cs3 0 rfl
  clear h1
  go_wp2_with fail
  clear p0_0 p1_0 p2_0
  generalize hwa : World.alloc w _ = v1
  have h1 := (hS.out.boxed (vs := [.bool b, .slice A n c, .slice A' m d]) (ty := 27) rfl hwa)
  have hsz : v1.heap.size = w.heap.size + 1 := by rw [← hwa]; simp only [World.size_alloc]
  try rw [← hsz]
  clear hwa hsz
  clear hS; have hS := Lib.hid h1; clear h1
  obtain ⟨x0_0, x1_0, x2_0⟩ := hS.out.cs3 0 rfl
  go_wp2_with fail
  go_at_call 44
  with_reducible refine (HC.out _ (by first | exact (hS.out.get (A := A) (n := n) (c := c) (k := M) (xs := xs) (v := val B xs) (by repeat (first | exact ms | apply mo))).1) (hS.out.get (A := A') (n := m) (c := d) (k := M) (xs := ys) (v := val B ys) (by repeat (first | exact ms | apply mo))).1).mono ?_
  rintro e v2 ho
  clear x0_0 x1_0 x2_0
  obtain ⟨A5, n5, c5, A6, n6, c6, rfl, h1⟩ := hS.out.rR (Nat.le_refl _) ho
  clear ho
  rw [HSG.out]
  clear hS; have hS := Lib.hid h1; clear h1
  obtain ⟨x0_0, x1_0, x2_0⟩ := hS.out.cs3 0 rfl
  have hp0 := hS.out.put3 0 rfl (hS.out.ge_ 0 rfl) (.bool (true)) (.slice A5 n5 c5) (.slice A6 n6 c6)
  simp only [List.set_cons_zero, List.set_cons_succ] at hp0
  have fz0_0 := hS.out.frs 0 rfl 0
  have fz0_1 := hS.out.frs 0 rfl 1
  have fz0_2 := hS.out.frs 0 rfl 2
  obtain ⟨p00_0, p01_0, p02_0⟩ := hp0.cs3 0 rfl
  have HPUT := Lib.hid hp0
  clear hp0
  go_wp2_with fail
  clear fz0_0 fz0_1 fz0_2
  clear p00_0 p01_0 p02_0
  clear x0_0 x1_0 x2_0
  have h1 := HPUT.out
  clear HPUT
  generalize hwa : World.setCell (World.setCell (World.setCell v2 _ _) _ _) _ _ = v3 at *
  clear hwa
  clear hS; have hS := Lib.hid h1; clear h1
  obtain ⟨x0_0, x1_0, x2_0⟩ := hS.out.cs3 0 rfl
  have g1 := hS.out.get (A := A5) (n := n5) (c := c5) (k := M) (xs := limbs (mg r.num)) (v := mg r.num) (by repeat (first | exact ms | apply mo))
  have g2 := hS.out.get (A := A6) (n := n6) (c := c6) (k := M) (xs := limbs r.den) (v := (r.den : Int)) (by repeat (first | exact ms | apply mo))
  have hX1 : X.length ≤ 20 * M + 2 := by
    have h1 := nDigits_val g1.1.dg g1.1.len (v := r.num.natAbs) (by rw [g1.2.2]; rfl)
    rw [← HX.out, decDigits_length]
    have := g1.2.1
    omega
  have hY1 : Y.length ≤ 20 * M + 2 := by
    have h1 := nDigits_val g2.1.dg g2.1.len (v := r.den) (by rw [g2.2.2])
    rw [← HY.out, decDigits_length]
    have := g2.2.1
    omega
  clear g1 g2
  go_wp2_with fail
  go_at_call 53
  with_reducible refine (rshow4_c (v := mg r.num) (q := r.num.natAbs) hS.out (by repeat (first | exact ms | apply mo)) (by omega) rfl HX.out).mono ?_
  rintro e v4 ⟨rfl, h1⟩
  clear x0_0 x1_0 x2_0
  clear hS; have hS := Lib.hid h1; clear h1
  obtain ⟨x0_0, x1_0, x2_0⟩ := hS.out.cs3 0 rfl
  have hap0 : (⟨#[45]⟩ : ByteArray) ++ ⟨X.toArray⟩ = ⟨P.toArray⟩ := by rw [← HP.out]; exact sh_sum X
  have hP1 : P.length = X.length + 1 := by rw [← HP.out]; rfl
  have hsz0 : (⟨#[45]⟩ : ByteArray).size + (⟨X.toArray⟩ : ByteArray).size ≤ 9223372036854775807 := by show 1 + X.length ≤ _; omega
  go_wp2_with fail
  go_at_call 41
  with_reducible refine (rsame9_c (q := true) (hS.out.lit1 1 (by decide)) (by repeat (first | exact ms | apply mo)) (by repeat (first | exact ms | apply mo)) HONE.out).mono ?_
  rintro e v5 ⟨rfl, h1⟩
  clear x0_0 x1_0 x2_0
  clear hS; have hS := Lib.hid h1; clear h1
  obtain ⟨x0_0, x1_0, x2_0⟩ := hS.out.cs3 0 rfl
  go_wp2_with fail
  go_ret
  exact ⟨rfl, hS.out.bl⟩
theorem r6show_nd (w : World) (b : Bool) (h : Sl w A n c xs) (h' : Sl w A' m d ys) (hn : n ≤ M) (hm : m ≤ M) (hM1 : 1 ≤ M) (hM : M ≤ 1000) {r : Rat} (hr : rv b (val B xs) (val B ys) = r) (hsg : sg r.num = true) {X Y P : List UInt8} (hX : decDigits r.num.natAbs = X) (hY : decDigits r.den = Y) (hP : 45 :: X = P) (h1 : decide (limbs (r.den : Int) = [1]) = false) :
    Calls Tryz.prog 22 #[.agg #[.bool b, .slice A n c, .slice A' m d]] w fun e w' => e = .returned (.string ⟨(P ++ [(47 : UInt8)] ++ Y).toArray⟩) ∧ Below w.heap.size w w' := by
  have HC := Lib.hid (fun (W : World) (a1 : Sl W A n c xs) (a2 : Sl W A' m d ys) => r6count_any (M := M) W b a1 a2 hn hm hM1 hM hr)
  have HSG := Lib.hid hsg
  have HX := Lib.hid hX
  have HY := Lib.hid hY
  have HONE := Lib.hid h1
  have HP := Lib.hid hP
  clear hr hsg hX hY h1 hP
  have hS := Lib.hid (((SC.start w).old (k := M) h' hm rfl).old (k := M) h hn rfl)
  clear h h'
  go_enter Tryz.func22, Tryz.ntmps22
  have h1 := (hS.out.boxed (vs := [.bool b, .slice A n c, .slice A' m d]) (ty := 27) rfl rfl)
  try simp only [World.size_alloc] at h1
  obtain ⟨p0_0, p1_0, p2_0⟩ := h1.cs3 0 rfl
  clear h1
  go_wp2_with fail
  clear p0_0 p1_0 p2_0
  generalize hwa : World.alloc w _ = v1
  have h1 := (hS.out.boxed (vs := [.bool b, .slice A n c, .slice A' m d]) (ty := 27) rfl hwa)
  have hsz : v1.heap.size = w.heap.size + 1 := by rw [← hwa]; simp only [World.size_alloc]
  try rw [← hsz]
  clear hwa hsz
  clear hS; have hS := Lib.hid h1; clear h1
  obtain ⟨x0_0, x1_0, x2_0⟩ := hS.out.cs3 0 rfl
  go_wp2_with fail
  go_at_call 44
  with_reducible refine (HC.out _ (by first | exact (hS.out.get (A := A) (n := n) (c := c) (k := M) (xs := xs) (v := val B xs) (by repeat (first | exact ms | apply mo))).1) (hS.out.get (A := A') (n := m) (c := d) (k := M) (xs := ys) (v := val B ys) (by repeat (first | exact ms | apply mo))).1).mono ?_
  rintro e v2 ho
  clear x0_0 x1_0 x2_0
  obtain ⟨A5, n5, c5, A6, n6, c6, rfl, h1⟩ := hS.out.rR (Nat.le_refl _) ho
  clear ho
  rw [HSG.out]
  clear hS; have hS := Lib.hid h1; clear h1
  obtain ⟨x0_0, x1_0, x2_0⟩ := hS.out.cs3 0 rfl
  have hp0 := hS.out.put3 0 rfl (hS.out.ge_ 0 rfl) (.bool (true)) (.slice A5 n5 c5) (.slice A6 n6 c6)
  simp only [List.set_cons_zero, List.set_cons_succ] at hp0
  have fz0_0 := hS.out.frs 0 rfl 0
  have fz0_1 := hS.out.frs 0 rfl 1
  have fz0_2 := hS.out.frs 0 rfl 2
  obtain ⟨p00_0, p01_0, p02_0⟩ := hp0.cs3 0 rfl
  have HPUT := Lib.hid hp0
  clear hp0
  go_wp2_with fail
  clear fz0_0 fz0_1 fz0_2
  clear p00_0 p01_0 p02_0
  clear x0_0 x1_0 x2_0
  have h1 := HPUT.out
  clear HPUT
  generalize hwa : World.setCell (World.setCell (World.setCell v2 _ _) _ _) _ _ = v3 at *
  clear hwa
  clear hS; have hS := Lib.hid h1; clear h1
  obtain ⟨x0_0, x1_0, x2_0⟩ := hS.out.cs3 0 rfl
  have g1 := hS.out.get (A := A5) (n := n5) (c := c5) (k := M) (xs := limbs (mg r.num)) (v := mg r.num) (by repeat (first | exact ms | apply mo))
  have g2 := hS.out.get (A := A6) (n := n6) (c := c6) (k := M) (xs := limbs r.den) (v := (r.den : Int)) (by repeat (first | exact ms | apply mo))
  have hX1 : X.length ≤ 20 * M + 2 := by
    have h1 := nDigits_val g1.1.dg g1.1.len (v := r.num.natAbs) (by rw [g1.2.2]; rfl)
    rw [← HX.out, decDigits_length]
    have := g1.2.1
    omega
  have hY1 : Y.length ≤ 20 * M + 2 := by
    have h1 := nDigits_val g2.1.dg g2.1.len (v := r.den) (by rw [g2.2.2])
    rw [← HY.out, decDigits_length]
    have := g2.2.1
    omega
  clear g1 g2
  go_wp2_with fail
  go_at_call 53
  with_reducible refine (rshow4_c (v := mg r.num) (q := r.num.natAbs) hS.out (by repeat (first | exact ms | apply mo)) (by omega) rfl HX.out).mono ?_
  rintro e v4 ⟨rfl, h1⟩
  clear x0_0 x1_0 x2_0
  clear hS; have hS := Lib.hid h1; clear h1
  obtain ⟨x0_0, x1_0, x2_0⟩ := hS.out.cs3 0 rfl
  have hap0 : (⟨#[45]⟩ : ByteArray) ++ ⟨X.toArray⟩ = ⟨P.toArray⟩ := by rw [← HP.out]; exact sh_sum X
  have hP1 : P.length = X.length + 1 := by rw [← HP.out]; rfl
  have hsz0 : (⟨#[45]⟩ : ByteArray).size + (⟨X.toArray⟩ : ByteArray).size ≤ 9223372036854775807 := by show 1 + X.length ≤ _; omega
  go_wp2_with fail
  go_at_call 41
  with_reducible refine (rsame9_c (q := false) (hS.out.lit1 1 (by decide)) (by repeat (first | exact ms | apply mo)) (by repeat (first | exact ms | apply mo)) HONE.out).mono ?_
  rintro e v5 ⟨rfl, h1⟩
  clear x0_0 x1_0 x2_0
  clear hS; have hS := Lib.hid h1; clear h1
  obtain ⟨x0_0, x1_0, x2_0⟩ := hS.out.cs3 0 rfl
  have hap1 : (⟨P.toArray⟩ : ByteArray) ++ ⟨#[47]⟩ = ⟨(P ++ [(47 : UInt8)]).toArray⟩ := ByteArray.mk_append_mk P [47]
  have hsz1 : (⟨P.toArray⟩ : ByteArray).size + (⟨#[47]⟩ : ByteArray).size ≤ 9223372036854775807 := by show P.length + 1 ≤ _; omega
  have hap2 : (⟨(P ++ [(47 : UInt8)]).toArray⟩ : ByteArray) ++ ⟨Y.toArray⟩ = ⟨(P ++ [(47 : UInt8)] ++ Y).toArray⟩ := ByteArray.mk_append_mk (P ++ [47]) Y
  have hsz2 : (⟨(P ++ [(47 : UInt8)]).toArray⟩ : ByteArray).size + (⟨Y.toArray⟩ : ByteArray).size ≤ 9223372036854775807 := by show (P ++ [(47 : UInt8)]).length + Y.length ≤ _; rw [List.length_append]; show P.length + 1 + Y.length ≤ _; omega
  go_wp2_with fail
  go_at_call 53
  with_reducible refine (rshow4_c (v := (r.den : Int)) (q := r.den) hS.out (by repeat (first | exact ms | apply mo)) (by omega) rfl HY.out).mono ?_
  rintro e v6 ⟨rfl, h1⟩
  clear x0_0 x1_0 x2_0
  clear hS; have hS := Lib.hid h1; clear h1
  obtain ⟨x0_0, x1_0, x2_0⟩ := hS.out.cs3 0 rfl
  go_wp2_with fail
  go_ret
  refine ⟨?_, hS.out.bl⟩
  show Ending.returned (.string ⟨(P ++ 47 :: Y).toArray⟩) = _
  rw [List.append_assoc]; rfl
theorem r6show_p1 (w : World) (b : Bool) (h : Sl w A n c xs) (h' : Sl w A' m d ys) (hn : n ≤ M) (hm : m ≤ M) (hM1 : 1 ≤ M) (hM : M ≤ 1000) {r : Rat} (hr : rv b (val B xs) (val B ys) = r) (hsg : sg r.num = false) {X Y : List UInt8} (hX : decDigits r.num.natAbs = X) (hY : decDigits r.den = Y) (h1 : decide (limbs (r.den : Int) = [1]) = true) :
    Calls Tryz.prog 22 #[.agg #[.bool b, .slice A n c, .slice A' m d]] w fun e w' => e = .returned (.string ⟨(X).toArray⟩) ∧ Below w.heap.size w w' := by
  have HC := Lib.hid (fun (W : World) (a1 : Sl W A n c xs) (a2 : Sl W A' m d ys) => r6count_any (M := M) W b a1 a2 hn hm hM1 hM hr)
  have HSG := Lib.hid hsg
  have HX := Lib.hid hX
  have HY := Lib.hid hY
  have HONE := Lib.hid h1
  clear hr hsg hX hY h1
  have hS := Lib.hid (((SC.start w).old (k := M) h' hm rfl).old (k := M) h hn rfl)
  clear h h'
  go_enter Tryz.func22, Tryz.ntmps22
  have h1 := (hS.out.boxed (vs := [.bool b, .slice A n c, .slice A' m d]) (ty := 27) rfl rfl)
  try simp only [World.size_alloc] at h1
  obtain ⟨p0_0, p1_0, p2_0⟩ := h1.cs3 0 rfl
  clear h1
  go_wp2_with fail
  clear p0_0 p1_0 p2_0
  generalize hwa : World.alloc w _ = v1
  have h1 := (hS.out.boxed (vs := [.bool b, .slice A n c, .slice A' m d]) (ty := 27) rfl hwa)
  have hsz : v1.heap.size = w.heap.size + 1 := by rw [← hwa]; simp only [World.size_alloc]
  try rw [← hsz]
  clear hwa hsz
  clear hS; have hS := Lib.hid h1; clear h1
  obtain ⟨x0_0, x1_0, x2_0⟩ := hS.out.cs3 0 rfl
  go_wp2_with fail
  go_at_call 44
  with_reducible refine (HC.out _ (by first | exact (hS.out.get (A := A) (n := n) (c := c) (k := M) (xs := xs) (v := val B xs) (by repeat (first | exact ms | apply mo))).1) (hS.out.get (A := A') (n := m) (c := d) (k := M) (xs := ys) (v := val B ys) (by repeat (first | exact ms | apply mo))).1).mono ?_
  rintro e v2 ho
  clear x0_0 x1_0 x2_0
  obtain ⟨A5, n5, c5, A6, n6, c6, rfl, h1⟩ := hS.out.rR (Nat.le_refl _) ho
  clear ho
  rw [HSG.out]
  clear hS; have hS := Lib.hid h1; clear h1
  obtain ⟨x0_0, x1_0, x2_0⟩ := hS.out.cs3 0 rfl
  have hp0 := hS.out.put3 0 rfl (hS.out.ge_ 0 rfl) (.bool (false)) (.slice A5 n5 c5) (.slice A6 n6 c6)
  simp only [List.set_cons_zero, List.set_cons_succ] at hp0
  have fz0_0 := hS.out.frs 0 rfl 0
  have fz0_1 := hS.out.frs 0 rfl 1
  have fz0_2 := hS.out.frs 0 rfl 2
  obtain ⟨p00_0, p01_0, p02_0⟩ := hp0.cs3 0 rfl
  have HPUT := Lib.hid hp0
  clear hp0
  go_wp2_with fail
  clear fz0_0 fz0_1 fz0_2
  clear p00_0 p01_0 p02_0
  clear x0_0 x1_0 x2_0
  have h1 := HPUT.out
  clear HPUT
  generalize hwa : World.setCell (World.setCell (World.setCell v2 _ _) _ _) _ _ = v3 at *
  clear hwa
  clear hS; have hS := Lib.hid h1; clear h1
  obtain ⟨x0_0, x1_0, x2_0⟩ := hS.out.cs3 0 rfl
  have g1 := hS.out.get (A := A5) (n := n5) (c := c5) (k := M) (xs := limbs (mg r.num)) (v := mg r.num) (by repeat (first | exact ms | apply mo))
  have g2 := hS.out.get (A := A6) (n := n6) (c := c6) (k := M) (xs := limbs r.den) (v := (r.den : Int)) (by repeat (first | exact ms | apply mo))
  have hX1 : X.length ≤ 20 * M + 2 := by
    have h1 := nDigits_val g1.1.dg g1.1.len (v := r.num.natAbs) (by rw [g1.2.2]; rfl)
    rw [← HX.out, decDigits_length]
    have := g1.2.1
    omega
  have hY1 : Y.length ≤ 20 * M + 2 := by
    have h1 := nDigits_val g2.1.dg g2.1.len (v := r.den) (by rw [g2.2.2])
    rw [← HY.out, decDigits_length]
    have := g2.2.1
    omega
  clear g1 g2
  go_wp2_with fail
  go_at_call 53
  with_reducible refine (rshow4_c (v := mg r.num) (q := r.num.natAbs) hS.out (by repeat (first | exact ms | apply mo)) (by omega) rfl HX.out).mono ?_
  rintro e v4 ⟨rfl, h1⟩
  clear x0_0 x1_0 x2_0
  clear hS; have hS := Lib.hid h1; clear h1
  obtain ⟨x0_0, x1_0, x2_0⟩ := hS.out.cs3 0 rfl
  go_wp2_with fail
  go_at_call 41
  with_reducible refine (rsame9_c (q := true) (hS.out.lit1 1 (by decide)) (by repeat (first | exact ms | apply mo)) (by repeat (first | exact ms | apply mo)) HONE.out).mono ?_
  rintro e v5 ⟨rfl, h1⟩
  clear x0_0 x1_0 x2_0
  clear hS; have hS := Lib.hid h1; clear h1
  obtain ⟨x0_0, x1_0, x2_0⟩ := hS.out.cs3 0 rfl
  go_wp2_with fail
  go_ret
  exact ⟨rfl, hS.out.bl⟩
theorem r6show_pd (w : World) (b : Bool) (h : Sl w A n c xs) (h' : Sl w A' m d ys) (hn : n ≤ M) (hm : m ≤ M) (hM1 : 1 ≤ M) (hM : M ≤ 1000) {r : Rat} (hr : rv b (val B xs) (val B ys) = r) (hsg : sg r.num = false) {X Y : List UInt8} (hX : decDigits r.num.natAbs = X) (hY : decDigits r.den = Y) (h1 : decide (limbs (r.den : Int) = [1]) = false) :
    Calls Tryz.prog 22 #[.agg #[.bool b, .slice A n c, .slice A' m d]] w fun e w' => e = .returned (.string ⟨(X ++ [(47 : UInt8)] ++ Y).toArray⟩) ∧ Below w.heap.size w w' := by
  have HC := Lib.hid (fun (W : World) (a1 : Sl W A n c xs) (a2 : Sl W A' m d ys) => r6count_any (M := M) W b a1 a2 hn hm hM1 hM hr)
  have HSG := Lib.hid hsg
  have HX := Lib.hid hX
  have HY := Lib.hid hY
  have HONE := Lib.hid h1
  clear hr hsg hX hY h1
  have hS := Lib.hid (((SC.start w).old (k := M) h' hm rfl).old (k := M) h hn rfl)
  clear h h'
  go_enter Tryz.func22, Tryz.ntmps22
  have h1 := (hS.out.boxed (vs := [.bool b, .slice A n c, .slice A' m d]) (ty := 27) rfl rfl)
  try simp only [World.size_alloc] at h1
  obtain ⟨p0_0, p1_0, p2_0⟩ := h1.cs3 0 rfl
  clear h1
  go_wp2_with fail
  clear p0_0 p1_0 p2_0
  generalize hwa : World.alloc w _ = v1
  have h1 := (hS.out.boxed (vs := [.bool b, .slice A n c, .slice A' m d]) (ty := 27) rfl hwa)
  have hsz : v1.heap.size = w.heap.size + 1 := by rw [← hwa]; simp only [World.size_alloc]
  try rw [← hsz]
  clear hwa hsz
  clear hS; have hS := Lib.hid h1; clear h1
  obtain ⟨x0_0, x1_0, x2_0⟩ := hS.out.cs3 0 rfl
  go_wp2_with fail
  go_at_call 44
  with_reducible refine (HC.out _ (by first | exact (hS.out.get (A := A) (n := n) (c := c) (k := M) (xs := xs) (v := val B xs) (by repeat (first | exact ms | apply mo))).1) (hS.out.get (A := A') (n := m) (c := d) (k := M) (xs := ys) (v := val B ys) (by repeat (first | exact ms | apply mo))).1).mono ?_
  rintro e v2 ho
  clear x0_0 x1_0 x2_0
  obtain ⟨A5, n5, c5, A6, n6, c6, rfl, h1⟩ := hS.out.rR (Nat.le_refl _) ho
  clear ho
  rw [HSG.out]
  clear hS; have hS := Lib.hid h1; clear h1
  obtain ⟨x0_0, x1_0, x2_0⟩ := hS.out.cs3 0 rfl
  have hp0 := hS.out.put3 0 rfl (hS.out.ge_ 0 rfl) (.bool (false)) (.slice A5 n5 c5) (.slice A6 n6 c6)
  simp only [List.set_cons_zero, List.set_cons_succ] at hp0
  have fz0_0 := hS.out.frs 0 rfl 0
  have fz0_1 := hS.out.frs 0 rfl 1
  have fz0_2 := hS.out.frs 0 rfl 2
  obtain ⟨p00_0, p01_0, p02_0⟩ := hp0.cs3 0 rfl
  have HPUT := Lib.hid hp0
  clear hp0
  go_wp2_with fail
  clear fz0_0 fz0_1 fz0_2
  clear p00_0 p01_0 p02_0
  clear x0_0 x1_0 x2_0
  have h1 := HPUT.out
  clear HPUT
  generalize hwa : World.setCell (World.setCell (World.setCell v2 _ _) _ _) _ _ = v3 at *
  clear hwa
  clear hS; have hS := Lib.hid h1; clear h1
  obtain ⟨x0_0, x1_0, x2_0⟩ := hS.out.cs3 0 rfl
  have g1 := hS.out.get (A := A5) (n := n5) (c := c5) (k := M) (xs := limbs (mg r.num)) (v := mg r.num) (by repeat (first | exact ms | apply mo))
  have g2 := hS.out.get (A := A6) (n := n6) (c := c6) (k := M) (xs := limbs r.den) (v := (r.den : Int)) (by repeat (first | exact ms | apply mo))
  have hX1 : X.length ≤ 20 * M + 2 := by
    have h1 := nDigits_val g1.1.dg g1.1.len (v := r.num.natAbs) (by rw [g1.2.2]; rfl)
    rw [← HX.out, decDigits_length]
    have := g1.2.1
    omega
  have hY1 : Y.length ≤ 20 * M + 2 := by
    have h1 := nDigits_val g2.1.dg g2.1.len (v := r.den) (by rw [g2.2.2])
    rw [← HY.out, decDigits_length]
    have := g2.2.1
    omega
  clear g1 g2
  go_wp2_with fail
  go_at_call 53
  with_reducible refine (rshow4_c (v := mg r.num) (q := r.num.natAbs) hS.out (by repeat (first | exact ms | apply mo)) (by omega) rfl HX.out).mono ?_
  rintro e v4 ⟨rfl, h1⟩
  clear x0_0 x1_0 x2_0
  clear hS; have hS := Lib.hid h1; clear h1
  obtain ⟨x0_0, x1_0, x2_0⟩ := hS.out.cs3 0 rfl
  go_wp2_with fail
  go_at_call 41
  with_reducible refine (rsame9_c (q := false) (hS.out.lit1 1 (by decide)) (by repeat (first | exact ms | apply mo)) (by repeat (first | exact ms | apply mo)) HONE.out).mono ?_
  rintro e v5 ⟨rfl, h1⟩
  clear x0_0 x1_0 x2_0
  clear hS; have hS := Lib.hid h1; clear h1
  obtain ⟨x0_0, x1_0, x2_0⟩ := hS.out.cs3 0 rfl
  have hap1 : (⟨X.toArray⟩ : ByteArray) ++ ⟨#[47]⟩ = ⟨(X ++ [(47 : UInt8)]).toArray⟩ := ByteArray.mk_append_mk X [47]
  have hsz1 : (⟨X.toArray⟩ : ByteArray).size + (⟨#[47]⟩ : ByteArray).size ≤ 9223372036854775807 := by show X.length + 1 ≤ _; omega
  have hap2 : (⟨(X ++ [(47 : UInt8)]).toArray⟩ : ByteArray) ++ ⟨Y.toArray⟩ = ⟨(X ++ [(47 : UInt8)] ++ Y).toArray⟩ := ByteArray.mk_append_mk (X ++ [47]) Y
  have hsz2 : (⟨(X ++ [(47 : UInt8)]).toArray⟩ : ByteArray).size + (⟨Y.toArray⟩ : ByteArray).size ≤ 9223372036854775807 := by show (X ++ [(47 : UInt8)]).length + Y.length ≤ _; rw [List.length_append]; show X.length + 1 + Y.length ≤ _; omega
  go_wp2_with fail
  go_at_call 53
  with_reducible refine (rshow4_c (v := (r.den : Int)) (q := r.den) hS.out (by repeat (first | exact ms | apply mo)) (by omega) rfl HY.out).mono ?_
  rintro e v6 ⟨rfl, h1⟩
  clear x0_0 x1_0 x2_0
  clear hS; have hS := Lib.hid h1; clear h1
  obtain ⟨x0_0, x1_0, x2_0⟩ := hS.out.cs3 0 rfl
  go_wp2_with fail
  go_ret
  refine ⟨?_, hS.out.bl⟩
  show Ending.returned (.string ⟨(X ++ 47 :: Y).toArray⟩) = _
  rw [List.append_assoc]; rfl
theorem r6show_any (w : World) (b : Bool) (h : Sl w A n c xs) (h' : Sl w A' m d ys) (hn : n ≤ M) (hm : m ≤ M) (hM1 : 1 ≤ M) (hM : M ≤ 1000) {r : Rat} (hr : rv b (val B xs) (val B ys) = r) {Z : List UInt8} (hZ : shR r = Z) :
    Calls Tryz.prog 22 #[.agg #[.bool b, .slice A n c, .slice A' m d]] w fun e w' => e = .returned (.string ⟨Z.toArray⟩) ∧ Below w.heap.size w w' := by
  subst hZ
  have h1 := limbs_is1 (v := (r.den : Int)) (Int.le_of_lt (rden_pos r))
  unfold shR
  by_cases hd : r.den = 1
  · rw [if_pos hd]
    rw [decide_eq_true (show (r.den : Int) = 1 by omega)] at h1
    by_cases hg : r.num < 0
    · rw [shI_neg hg]; exact r6show_n1 w b h h' hn hm hM1 hM hr (sg_t hg) rfl rfl rfl h1
    · rw [shI_pos (by omega)]; exact r6show_p1 w b h h' hn hm hM1 hM hr (sg_f (by omega)) rfl rfl h1
  · rw [if_neg hd]
    rw [decide_eq_false (show ¬ (r.den : Int) = 1 by omega)] at h1
    by_cases hg : r.num < 0
    · rw [shI_neg hg, show 45 :: decDigits r.num.natAbs ++ 47 :: decDigits r.den = (45 :: decDigits r.num.natAbs) ++ [(47 : UInt8)] ++ decDigits r.den by simp]
      exact r6show_nd w b h h' hn hm hM1 hM hr (sg_t hg) rfl rfl rfl h1
    · rw [shI_pos (by omega), show decDigits r.num.natAbs ++ 47 :: decDigits r.den = decDigits r.num.natAbs ++ [(47 : UInt8)] ++ decDigits r.den by simp]
      exact r6show_pd w b h h' hn hm hM1 hM hr (sg_f (by omega)) rfl rfl h1
theorem r6read_no (w : World) (bs : List UInt8) (hl : bs.length ≤ 300) (hn : noS bs = true) {j z : Int} (hj1 : rdJ bs = j) (hz : rdW bs = z) (hj : j ≠ 0) : Calls Tryz.prog 19 #[.string ⟨bs.toArray⟩] w (OutRZ w j) := by
  have HIDX := Lib.hid (fun (k : Nat) (hk : k < bs.length) (W : World) => show (Instr.index 9 (.string ⟨bs.toArray⟩) (.int .i64 (k : Int))).run Tryz.prog W = .ok (.int .u8 (bat bs k)) W from str_at bs 9 strU .i64 k hk W)
  have HNE := Lib.hid (fun (k : Nat) (hk : k < (fP bs).length) => bat_ne hk)
  have hle := fP_le bs
  have hLB : bs.length = (fP bs).length := by unfold noS at hn; exact (of_decide_eq_true hn).symm
  obtain ⟨L, hL⟩ : ∃ L, (fP bs).length = L := ⟨_, rfl⟩
  have hTK : (⟨bs.toArray⟩ : ByteArray).extract 0 L = ⟨bs.toArray⟩ := by rw [ext_take, ← hL, ← hLB, List.take_length]
  rw [hL] at HNE hle hLB
  have HLB := Lib.hid hLB
  have HTK := Lib.hid hTK
  clear hL hn hLB hTK
  have hjb : (j == 0) = false := by simpa using hj
  have hjc : (j != 0) = true := by simpa using hj
  have hS := Lib.hid (SC.start w)
  go_enter Tryz.func19, Tryz.ntmps19
  have h1 := (hS.out.boxed (vs := [.bool false, .slice none 0 0, .slice none 0 0]) (ty := 27) rfl rfl)
  try simp only [World.size_alloc] at h1
  obtain ⟨p0_0, p1_0, p2_0⟩ := h1.cs3 0 rfl
  clear h1
  go_wp2_with fail
  clear p0_0 p1_0 p2_0
  generalize hwa : World.alloc w _ = v1
  have h1 := (hS.out.boxed (vs := [.bool false, .slice none 0 0, .slice none 0 0]) (ty := 27) rfl hwa)
  have hsz : v1.heap.size = w.heap.size + 1 := by rw [← hwa]; simp only [World.size_alloc]
  try rw [← hsz]
  clear hwa hsz
  clear hS; have hS := Lib.hid h1; clear h1
  obtain ⟨x0_0, x1_0, x2_0⟩ := hS.out.cs3 0 rfl
  go_wp2_with fail
  go_loop [4] (fun i => ∃ k : Nat, i = .int .i64 k ∧ k ≤ L) (fun i => L - (intOf i).toNat)
  case atStart => exact ⟨0, rfl, Nat.zero_le _⟩
  case round =>
    obtain ⟨k, rfl, hk⟩ := hrel
    by_cases hlt : k < L
    · have hkb : k < bs.length := by omega
      have hx := HIDX.out k hkb
      have hne := HNE.out k hlt
      obtain ⟨x, hxe⟩ : ∃ x, bat bs k = x := ⟨_, rfl⟩
      rw [hxe] at hx hne
      have hq1 : (x == 47) = false := by simpa using hne
      have hq2 : (x != 47) = true := by simpa using hne
      clear hxe hne
      go_wp2
      go_round
      case rel => exact ⟨k + 1, by go_num, by omega⟩
      case measure => simp [intOf]; omega
    · obtain rfl : k = L := by omega
      have hlb : bs.length = k := HLB.out
      have hnlt : ¬ ((k : Int) < (bs.length : Int)) := by omega
      have hsz : (⟨bs.toArray⟩ : ByteArray).size = bs.length := rfl
      go_wp2_with fail
      go_at_call 45
      rw [HTK.out]
      with_reducible refine (rread5_c hS.out bs hl hj1 hz).mono ?_
      rintro e v2 ⟨A1, n1, c1, rfl, h1⟩
      clear x0_0 x1_0 x2_0
      clear hS; have hS := Lib.hid h1; clear h1
      obtain ⟨x0_0, x1_0, x2_0⟩ := hS.out.cs3 0 rfl
      have hm0 := hS.out.boxed (vs := [.bool (sg z), .slice A1 n1 c1]) (ty := 25) rfl rfl
      try simp only [World.size_alloc] at hm0
      obtain ⟨m00_0, m01_0⟩ := hm0.cs2 0 rfl
      obtain ⟨m00_1, m01_1, m02_1⟩ := hm0.cs3 1 rfl
      have hp0 := hm0.put3 1 rfl (hm0.ge_ 1 rfl) (.bool false) (.slice none 0 0) (.slice none 0 0)
      simp only [List.set_cons_zero, List.set_cons_succ] at hp0
      have fz0_0 := hm0.frs 1 rfl 0
      have fz0_1 := hm0.frs 1 rfl 1
      have fz0_2 := hm0.frs 1 rfl 2
      have HPUT := Lib.hid hp0
      clear hp0
      clear hm0
      go_wp2_with fail
      refine bodyPost_ret (results_B2 rfl rfl rfl (loadR (HPUT.out.box _ (List.mem_of_getElem? (i := 1) rfl)))) rfl ?_
      exact ⟨rfl, HPUT.out.bl⟩
theorem r6read_yes (w : World) (bs : List UInt8) (hl : bs.length ≤ 300) (hn : noS bs = true) {z : Int} (hj1 : rdJ bs = 0) (hz : rdW bs = z) {r : Rat} (hr1 : mkRat z 1 = r) : Calls Tryz.prog 19 #[.string ⟨bs.toArray⟩] w (OutRE w 20001 r 0) := by
  have HIDX := Lib.hid (fun (k : Nat) (hk : k < bs.length) (W : World) => show (Instr.index 9 (.string ⟨bs.toArray⟩) (.int .i64 (k : Int))).run Tryz.prog W = .ok (.int .u8 (bat bs k)) W from str_at bs 9 strU .i64 k hk W)
  have HNE := Lib.hid (fun (k : Nat) (hk : k < (fP bs).length) => bat_ne hk)
  have hle := fP_le bs
  have hLB : bs.length = (fP bs).length := by unfold noS at hn; exact (of_decide_eq_true hn).symm
  obtain ⟨L, hL⟩ : ∃ L, (fP bs).length = L := ⟨_, rfl⟩
  have hTK : (⟨bs.toArray⟩ : ByteArray).extract 0 L = ⟨bs.toArray⟩ := by rw [ext_take, ← hL, ← hLB, List.take_length]
  rw [hL] at HNE hle hLB
  have HLB := Lib.hid hLB
  have HTK := Lib.hid hTK
  clear hL hn hLB hTK
  obtain ⟨hnum, hden⟩ := rof_num z
  have hS := Lib.hid (SC.start w)
  go_enter Tryz.func19, Tryz.ntmps19
  have h1 := (hS.out.boxed (vs := [.bool false, .slice none 0 0, .slice none 0 0]) (ty := 27) rfl rfl)
  try simp only [World.size_alloc] at h1
  obtain ⟨p0_0, p1_0, p2_0⟩ := h1.cs3 0 rfl
  clear h1
  go_wp2_with fail
  clear p0_0 p1_0 p2_0
  generalize hwa : World.alloc w _ = v1
  have h1 := (hS.out.boxed (vs := [.bool false, .slice none 0 0, .slice none 0 0]) (ty := 27) rfl hwa)
  have hsz : v1.heap.size = w.heap.size + 1 := by rw [← hwa]; simp only [World.size_alloc]
  try rw [← hsz]
  clear hwa hsz
  clear hS; have hS := Lib.hid h1; clear h1
  obtain ⟨x0_0, x1_0, x2_0⟩ := hS.out.cs3 0 rfl
  go_wp2_with fail
  go_loop [4] (fun i => ∃ k : Nat, i = .int .i64 k ∧ k ≤ L) (fun i => L - (intOf i).toNat)
  case atStart => exact ⟨0, rfl, Nat.zero_le _⟩
  case round =>
    obtain ⟨k, rfl, hk⟩ := hrel
    by_cases hlt : k < L
    · have hkb : k < bs.length := by omega
      have hx := HIDX.out k hkb
      have hne := HNE.out k hlt
      obtain ⟨x, hxe⟩ : ∃ x, bat bs k = x := ⟨_, rfl⟩
      rw [hxe] at hx hne
      have hq1 : (x == 47) = false := by simpa using hne
      have hq2 : (x != 47) = true := by simpa using hne
      clear hxe hne
      go_wp2
      go_round
      case rel => exact ⟨k + 1, by go_num, by omega⟩
      case measure => simp [intOf]; omega
    · obtain rfl : k = L := by omega
      have hlb : bs.length = k := HLB.out
      have hnlt : ¬ ((k : Int) < (bs.length : Int)) := by omega
      have hsz : (⟨bs.toArray⟩ : ByteArray).size = bs.length := rfl
      go_wp2_with fail
      go_at_call 45
      rw [HTK.out]
      with_reducible refine (rread5_c hS.out bs hl hj1 hz).mono ?_
      rintro e v2 ⟨A1, n1, c1, rfl, h1⟩
      clear x0_0 x1_0 x2_0
      clear hS; have hS := Lib.hid h1; clear h1
      obtain ⟨x0_0, x1_0, x2_0⟩ := hS.out.cs3 0 rfl
      have hlq : ((k : Int) == (bs.length : Int)) = true := by rw [HLB.out]; exact beq_self_eq_true _
      have hm0 := hS.out.boxed (vs := [.bool (sg z), .slice A1 n1 c1]) (ty := 25) rfl rfl
      try simp only [World.size_alloc] at hm0
      obtain ⟨m0_0, m1_0⟩ := hm0.cs2 0 rfl
      obtain ⟨m0_1, m1_1, m2_1⟩ := hm0.cs3 1 rfl
      have hl0 := hm0.lit1O 1 (by decide)
      try simp only [World.size_alloc] at hl0
      obtain ⟨l0_0, l1_0⟩ := hl0.cs2 0 rfl
      obtain ⟨l0_1, l1_1, l2_1⟩ := hl0.cs3 1 rfl
      have hp0 := hl0.put3 1 rfl (hl0.ge_ 1 rfl) (.bool (sg z)) (.slice A1 n1 c1) (.slice (some ⟨v2.heap.size + 1, 0, none⟩) 1 1)
      simp only [List.set_cons_zero, List.set_cons_succ] at hp0
      have fz0 := hl0.frs 1 rfl 0
      have fz1 := hl0.frs 1 rfl 1
      have fz2 := hl0.frs 1 rfl 2
      have HPUT := Lib.hid hp0
      clear hp0 hl0
      go_wp2_with fail
      refine bodyPost_ret (results_B2 rfl rfl rfl (loadR (HPUT.out.box _ (List.mem_of_getElem? (i := 1) rfl)))) rfl ?_
      rw [← hr1]
      exact HPUT.out.toRE2 (k := 20) (k' := 1) (r := mkRat z 1) (by repeat (first | exact ms | apply mo)) (by repeat (first | exact ms | apply mo)) (by repeat (first | exact ms | apply mo)) (by repeat (first | exact ms | apply mo)) (by omega) (by omega) (by rw [hnum]) (by rw [hnum]) (by rw [hden]; exact limbs_1.symm)
theorem r6read_px (w : World) (bs : List UInt8) (hl : bs.length ≤ 300) (hn : noS bs = false) {j z : Int} (hj1 : rdJ (fP bs) = j) (hz : rdW (fP bs) = z) (hj : j ≠ 0) : Calls Tryz.prog 19 #[.string ⟨bs.toArray⟩] w (OutRZ w j) := by
  have HIDX := Lib.hid (fun (k : Nat) (hk : k < bs.length) (W : World) => show (Instr.index 9 (.string ⟨bs.toArray⟩) (.int .i64 (k : Int))).run Tryz.prog W = .ok (.int .u8 (bat bs k)) W from str_at bs 9 strU .i64 k hk W)
  have HNE := Lib.hid (fun (k : Nat) (hk : k < (fP bs).length) => bat_ne hk)
  have hle := fP_le bs
  obtain ⟨h1, h2, h3⟩ := fP_len hn
  have h4 := bat_fP hn
  have hlp : (fP bs).length ≤ 300 := by omega
  have hlq : (fQ bs).length ≤ 300 := by rw [← h3, List.length_drop]; omega
  obtain ⟨L, hL⟩ : ∃ L, (fP bs).length = L := ⟨_, rfl⟩
  have hTK : (⟨bs.toArray⟩ : ByteArray).extract 0 L = ⟨(fP bs).toArray⟩ := by rw [ext_take, ← hL, h2]
  have hDR : (⟨bs.toArray⟩ : ByteArray).extract (L + 1) bs.length = ⟨(fQ bs).toArray⟩ := by rw [ext_drop, ← hL, h3]
  rw [hL] at HNE hle h1 h4
  have HKB := Lib.hid h1
  have H47 := Lib.hid h4
  have HTK := Lib.hid hTK
  have HDR := Lib.hid hDR
  clear hL hn h1 h2 h3 h4 hTK hDR
  have hjb : (j == 0) = false := by simpa using hj
  have hjc : (j != 0) = true := by simpa using hj
  have hS := Lib.hid (SC.start w)
  go_enter Tryz.func19, Tryz.ntmps19
  have h1 := (hS.out.boxed (vs := [.bool false, .slice none 0 0, .slice none 0 0]) (ty := 27) rfl rfl)
  try simp only [World.size_alloc] at h1
  obtain ⟨p0_0, p1_0, p2_0⟩ := h1.cs3 0 rfl
  clear h1
  go_wp2_with fail
  clear p0_0 p1_0 p2_0
  generalize hwa : World.alloc w _ = v1
  have h1 := (hS.out.boxed (vs := [.bool false, .slice none 0 0, .slice none 0 0]) (ty := 27) rfl hwa)
  have hsz : v1.heap.size = w.heap.size + 1 := by rw [← hwa]; simp only [World.size_alloc]
  try rw [← hsz]
  clear hwa hsz
  clear hS; have hS := Lib.hid h1; clear h1
  obtain ⟨x0_0, x1_0, x2_0⟩ := hS.out.cs3 0 rfl
  go_wp2_with fail
  go_loop [4] (fun i => ∃ k : Nat, i = .int .i64 k ∧ k ≤ L) (fun i => L - (intOf i).toNat)
  case atStart => exact ⟨0, rfl, Nat.zero_le _⟩
  case round =>
    obtain ⟨k, rfl, hk⟩ := hrel
    by_cases hlt : k < L
    · have hkb : k < bs.length := by omega
      have hx := HIDX.out k hkb
      have hne := HNE.out k hlt
      obtain ⟨x, hxe⟩ : ∃ x, bat bs k = x := ⟨_, rfl⟩
      rw [hxe] at hx hne
      have hq1 : (x == 47) = false := by simpa using hne
      have hq2 : (x != 47) = true := by simpa using hne
      clear hxe hne
      go_wp2
      go_round
      case rel => exact ⟨k + 1, by go_num, by omega⟩
      case measure => simp [intOf]; omega
    · obtain rfl : k = L := by omega
      have hkb : k < bs.length := HKB.out
      have hx := HIDX.out k hkb
      rw [H47.out] at hx
      have hkq : ((k : Int) == (bs.length : Int)) = false := beq_eq_false_iff_ne.2 (by omega)
      have hsz : (⟨bs.toArray⟩ : ByteArray).size = bs.length := rfl
      go_wp2_with fail
      go_at_call 45
      rw [HTK.out]
      with_reducible refine (rread5_c hS.out (fP bs) hlp hj1 hz).mono ?_
      rintro e v2 ⟨A1, n1, c1, rfl, h1⟩
      clear x0_0 x1_0 x2_0
      clear hS; have hS := Lib.hid h1; clear h1
      obtain ⟨x0_0, x1_0, x2_0⟩ := hS.out.cs3 0 rfl
      have hm0 := hS.out.boxed (vs := [.bool (sg z), .slice A1 n1 c1]) (ty := 25) rfl rfl
      try simp only [World.size_alloc] at hm0
      obtain ⟨m00_0, m01_0⟩ := hm0.cs2 0 rfl
      obtain ⟨m00_1, m01_1, m02_1⟩ := hm0.cs3 1 rfl
      have hp0 := hm0.put3 1 rfl (hm0.ge_ 1 rfl) (.bool false) (.slice none 0 0) (.slice none 0 0)
      simp only [List.set_cons_zero, List.set_cons_succ] at hp0
      have fz0_0 := hm0.frs 1 rfl 0
      have fz0_1 := hm0.frs 1 rfl 1
      have fz0_2 := hm0.frs 1 rfl 2
      have HPUT := Lib.hid hp0
      clear hp0
      clear hm0
      go_wp2_with fail
      refine bodyPost_ret (results_B2 rfl rfl rfl (loadR (HPUT.out.box _ (List.mem_of_getElem? (i := 1) rfl)))) rfl ?_
      exact ⟨rfl, HPUT.out.bl⟩
theorem r6read_pq (w : World) (bs : List UInt8) (hl : bs.length ≤ 300) (hn : noS bs = false) {j z d : Int} (hj1 : rdJ (fP bs) = 0) (hz : rdW (fP bs) = z) (hj2 : rdE (fQ bs) = j) (hd : rdV (fQ bs) = d) (hj : j ≠ 0) : Calls Tryz.prog 19 #[.string ⟨bs.toArray⟩] w (OutRZ w j) := by
  have HIDX := Lib.hid (fun (k : Nat) (hk : k < bs.length) (W : World) => show (Instr.index 9 (.string ⟨bs.toArray⟩) (.int .i64 (k : Int))).run Tryz.prog W = .ok (.int .u8 (bat bs k)) W from str_at bs 9 strU .i64 k hk W)
  have HNE := Lib.hid (fun (k : Nat) (hk : k < (fP bs).length) => bat_ne hk)
  have hle := fP_le bs
  obtain ⟨h1, h2, h3⟩ := fP_len hn
  have h4 := bat_fP hn
  have hlp : (fP bs).length ≤ 300 := by omega
  have hlq : (fQ bs).length ≤ 300 := by rw [← h3, List.length_drop]; omega
  obtain ⟨L, hL⟩ : ∃ L, (fP bs).length = L := ⟨_, rfl⟩
  have hTK : (⟨bs.toArray⟩ : ByteArray).extract 0 L = ⟨(fP bs).toArray⟩ := by rw [ext_take, ← hL, h2]
  have hDR : (⟨bs.toArray⟩ : ByteArray).extract (L + 1) bs.length = ⟨(fQ bs).toArray⟩ := by rw [ext_drop, ← hL, h3]
  rw [hL] at HNE hle h1 h4
  have HKB := Lib.hid h1
  have H47 := Lib.hid h4
  have HTK := Lib.hid hTK
  have HDR := Lib.hid hDR
  clear hL hn h1 h2 h3 h4 hTK hDR
  have hjb : (j == 0) = false := by simpa using hj
  have hjc : (j != 0) = true := by simpa using hj
  have hS := Lib.hid (SC.start w)
  go_enter Tryz.func19, Tryz.ntmps19
  have h1 := (hS.out.boxed (vs := [.bool false, .slice none 0 0, .slice none 0 0]) (ty := 27) rfl rfl)
  try simp only [World.size_alloc] at h1
  obtain ⟨p0_0, p1_0, p2_0⟩ := h1.cs3 0 rfl
  clear h1
  go_wp2_with fail
  clear p0_0 p1_0 p2_0
  generalize hwa : World.alloc w _ = v1
  have h1 := (hS.out.boxed (vs := [.bool false, .slice none 0 0, .slice none 0 0]) (ty := 27) rfl hwa)
  have hsz : v1.heap.size = w.heap.size + 1 := by rw [← hwa]; simp only [World.size_alloc]
  try rw [← hsz]
  clear hwa hsz
  clear hS; have hS := Lib.hid h1; clear h1
  obtain ⟨x0_0, x1_0, x2_0⟩ := hS.out.cs3 0 rfl
  go_wp2_with fail
  go_loop [4] (fun i => ∃ k : Nat, i = .int .i64 k ∧ k ≤ L) (fun i => L - (intOf i).toNat)
  case atStart => exact ⟨0, rfl, Nat.zero_le _⟩
  case round =>
    obtain ⟨k, rfl, hk⟩ := hrel
    by_cases hlt : k < L
    · have hkb : k < bs.length := by omega
      have hx := HIDX.out k hkb
      have hne := HNE.out k hlt
      obtain ⟨x, hxe⟩ : ∃ x, bat bs k = x := ⟨_, rfl⟩
      rw [hxe] at hx hne
      have hq1 : (x == 47) = false := by simpa using hne
      have hq2 : (x != 47) = true := by simpa using hne
      clear hxe hne
      go_wp2
      go_round
      case rel => exact ⟨k + 1, by go_num, by omega⟩
      case measure => simp [intOf]; omega
    · obtain rfl : k = L := by omega
      have hkb : k < bs.length := HKB.out
      have hx := HIDX.out k hkb
      rw [H47.out] at hx
      have hkq : ((k : Int) == (bs.length : Int)) = false := beq_eq_false_iff_ne.2 (by omega)
      have hsz : (⟨bs.toArray⟩ : ByteArray).size = bs.length := rfl
      go_wp2_with fail
      go_at_call 45
      rw [HTK.out]
      with_reducible refine (rread5_c hS.out (fP bs) hlp hj1 hz).mono ?_
      rintro e v2 ⟨A1, n1, c1, rfl, h1⟩
      clear x0_0 x1_0 x2_0
      clear hS; have hS := Lib.hid h1; clear h1
      obtain ⟨x0_0, x1_0, x2_0⟩ := hS.out.cs3 0 rfl
      have h1 := (hS.out.boxed (vs := [.bool (sg z), .slice A1 n1 c1]) (ty := 25) rfl rfl)
      try simp only [World.size_alloc] at h1
      obtain ⟨p0_0, p1_0⟩ := h1.cs2 0 rfl
      obtain ⟨p0_1, p1_1, p2_1⟩ := h1.cs3 1 rfl
      clear h1
      go_wp2_with fail
      clear x0_0 x1_0 x2_0
      clear p0_0 p1_0 p0_1 p1_1 p2_1
      generalize hwa : World.alloc v2 _ = v3
      have h1 := (hS.out.boxed (vs := [.bool (sg z), .slice A1 n1 c1]) (ty := 25) rfl hwa)
      have hsz : v3.heap.size = v2.heap.size + 1 := by rw [← hwa]; simp only [World.size_alloc]
      try rw [← hsz]
      clear hwa hsz
      clear hS; have hS := Lib.hid h1; clear h1
      obtain ⟨x0_0, x1_0⟩ := hS.out.cs2 0 rfl
      obtain ⟨x0_1, x1_1, x2_1⟩ := hS.out.cs3 1 rfl
      go_wp2_with fail
      go_at_call 46
      rw [HDR.out]
      with_reducible refine (rread4_c hS.out (fQ bs) hlq hj2 hd).mono ?_
      rintro e v4 ⟨A2, n2, c2, rfl, h1⟩
      clear x0_0 x1_0 x0_1 x1_1 x2_1
      clear hS; have hS := Lib.hid h1; clear h1
      obtain ⟨x0_0, x1_0⟩ := hS.out.cs2 0 rfl
      obtain ⟨x0_1, x1_1, x2_1⟩ := hS.out.cs3 1 rfl
      have hp0 := hS.out.put3 1 rfl (hS.out.ge_ 1 rfl) (.bool false) (.slice none 0 0) (.slice none 0 0)
      simp only [List.set_cons_zero, List.set_cons_succ] at hp0
      have fz0_0 := hS.out.frs 1 rfl 0
      have fz0_1 := hS.out.frs 1 rfl 1
      have fz0_2 := hS.out.frs 1 rfl 2
      have HPUT := Lib.hid hp0
      clear hp0
      go_wp2_with fail
      refine bodyPost_ret (results_B2 rfl rfl rfl (loadR (HPUT.out.box _ (List.mem_of_getElem? (i := 1) rfl)))) rfl ?_
      exact ⟨rfl, HPUT.out.bl⟩
theorem r6read_nil (w : World) (bs : List UInt8) (hl : bs.length ≤ 300) (hn : noS bs = false) {z d : Int} (hj1 : rdJ (fP bs) = 0) (hz : rdW (fP bs) = z) (hj2 : rdE (fQ bs) = 0) (hd : rdV (fQ bs) = d) (h0d : d = 0) : Calls Tryz.prog 19 #[.string ⟨bs.toArray⟩] w (OutRZ w 3) := by
  have HIDX := Lib.hid (fun (k : Nat) (hk : k < bs.length) (W : World) => show (Instr.index 9 (.string ⟨bs.toArray⟩) (.int .i64 (k : Int))).run Tryz.prog W = .ok (.int .u8 (bat bs k)) W from str_at bs 9 strU .i64 k hk W)
  have HNE := Lib.hid (fun (k : Nat) (hk : k < (fP bs).length) => bat_ne hk)
  have hle := fP_le bs
  obtain ⟨h1, h2, h3⟩ := fP_len hn
  have h4 := bat_fP hn
  have hlp : (fP bs).length ≤ 300 := by omega
  have hlq : (fQ bs).length ≤ 300 := by rw [← h3, List.length_drop]; omega
  obtain ⟨L, hL⟩ : ∃ L, (fP bs).length = L := ⟨_, rfl⟩
  have hTK : (⟨bs.toArray⟩ : ByteArray).extract 0 L = ⟨(fP bs).toArray⟩ := by rw [ext_take, ← hL, h2]
  have hDR : (⟨bs.toArray⟩ : ByteArray).extract (L + 1) bs.length = ⟨(fQ bs).toArray⟩ := by rw [ext_drop, ← hL, h3]
  rw [hL] at HNE hle h1 h4
  have HKB := Lib.hid h1
  have H47 := Lib.hid h4
  have HTK := Lib.hid hTK
  have HDR := Lib.hid hDR
  clear hL hn h1 h2 h3 h4 hTK hDR
  have hS := Lib.hid (SC.start w)
  go_enter Tryz.func19, Tryz.ntmps19
  have h1 := (hS.out.boxed (vs := [.bool false, .slice none 0 0, .slice none 0 0]) (ty := 27) rfl rfl)
  try simp only [World.size_alloc] at h1
  obtain ⟨p0_0, p1_0, p2_0⟩ := h1.cs3 0 rfl
  clear h1
  go_wp2_with fail
  clear p0_0 p1_0 p2_0
  generalize hwa : World.alloc w _ = v1
  have h1 := (hS.out.boxed (vs := [.bool false, .slice none 0 0, .slice none 0 0]) (ty := 27) rfl hwa)
  have hsz : v1.heap.size = w.heap.size + 1 := by rw [← hwa]; simp only [World.size_alloc]
  try rw [← hsz]
  clear hwa hsz
  clear hS; have hS := Lib.hid h1; clear h1
  obtain ⟨x0_0, x1_0, x2_0⟩ := hS.out.cs3 0 rfl
  go_wp2_with fail
  go_loop [4] (fun i => ∃ k : Nat, i = .int .i64 k ∧ k ≤ L) (fun i => L - (intOf i).toNat)
  case atStart => exact ⟨0, rfl, Nat.zero_le _⟩
  case round =>
    obtain ⟨k, rfl, hk⟩ := hrel
    by_cases hlt : k < L
    · have hkb : k < bs.length := by omega
      have hx := HIDX.out k hkb
      have hne := HNE.out k hlt
      obtain ⟨x, hxe⟩ : ∃ x, bat bs k = x := ⟨_, rfl⟩
      rw [hxe] at hx hne
      have hq1 : (x == 47) = false := by simpa using hne
      have hq2 : (x != 47) = true := by simpa using hne
      clear hxe hne
      go_wp2
      go_round
      case rel => exact ⟨k + 1, by go_num, by omega⟩
      case measure => simp [intOf]; omega
    · obtain rfl : k = L := by omega
      have hkb : k < bs.length := HKB.out
      have hx := HIDX.out k hkb
      rw [H47.out] at hx
      have hkq : ((k : Int) == (bs.length : Int)) = false := beq_eq_false_iff_ne.2 (by omega)
      have hsz : (⟨bs.toArray⟩ : ByteArray).size = bs.length := rfl
      go_wp2_with fail
      go_at_call 45
      rw [HTK.out]
      with_reducible refine (rread5_c hS.out (fP bs) hlp hj1 hz).mono ?_
      rintro e v2 ⟨A1, n1, c1, rfl, h1⟩
      clear x0_0 x1_0 x2_0
      clear hS; have hS := Lib.hid h1; clear h1
      obtain ⟨x0_0, x1_0, x2_0⟩ := hS.out.cs3 0 rfl
      have h1 := (hS.out.boxed (vs := [.bool (sg z), .slice A1 n1 c1]) (ty := 25) rfl rfl)
      try simp only [World.size_alloc] at h1
      obtain ⟨p0_0, p1_0⟩ := h1.cs2 0 rfl
      obtain ⟨p0_1, p1_1, p2_1⟩ := h1.cs3 1 rfl
      clear h1
      go_wp2_with fail
      clear x0_0 x1_0 x2_0
      clear p0_0 p1_0 p0_1 p1_1 p2_1
      generalize hwa : World.alloc v2 _ = v3
      have h1 := (hS.out.boxed (vs := [.bool (sg z), .slice A1 n1 c1]) (ty := 25) rfl hwa)
      have hsz : v3.heap.size = v2.heap.size + 1 := by rw [← hwa]; simp only [World.size_alloc]
      try rw [← hsz]
      clear hwa hsz
      clear hS; have hS := Lib.hid h1; clear h1
      obtain ⟨x0_0, x1_0⟩ := hS.out.cs2 0 rfl
      obtain ⟨x0_1, x1_1, x2_1⟩ := hS.out.cs3 1 rfl
      go_wp2_with fail
      go_at_call 46
      rw [HDR.out]
      with_reducible refine (rread4_c hS.out (fQ bs) hlq hj2 hd).mono ?_
      rintro e v4 ⟨A2, n2, c2, rfl, h1⟩
      clear x0_0 x1_0 x0_1 x1_1 x2_1
      clear hS; have hS := Lib.hid h1; clear h1
      obtain ⟨x0_0, x1_0⟩ := hS.out.cs2 0 rfl
      obtain ⟨x0_1, x1_1, x2_1⟩ := hS.out.cs3 1 rfl
      have hn2 : (limbs d).length = n2 := (hS.out.get (A := A2) (n := n2) (c := c2) (k := 20) (xs := limbs d) (v := d) (by repeat (first | exact ms | apply mo))).1.len
      obtain rfl : n2 = 0 := by rw [← hn2, h0d, limbs_zero]; rfl
      clear hn2
      have hm0 := hS.out.boxed (vs := [.bool (sg z), .slice A1 n1 c1, .slice A2 0 c2]) (ty := 27) rfl rfl
      try simp only [World.size_alloc] at hm0
      obtain ⟨m00_0, m01_0, m02_0⟩ := hm0.cs3 0 rfl
      obtain ⟨m00_1, m01_1⟩ := hm0.cs2 1 rfl
      obtain ⟨m00_2, m01_2, m02_2⟩ := hm0.cs3 2 rfl
      have hp0 := hm0.put3 2 rfl (hm0.ge_ 2 rfl) (.bool false) (.slice none 0 0) (.slice none 0 0)
      simp only [List.set_cons_zero, List.set_cons_succ] at hp0
      have fz0_0 := hm0.frs 2 rfl 0
      have fz0_1 := hm0.frs 2 rfl 1
      have fz0_2 := hm0.frs 2 rfl 2
      have HPUT := Lib.hid hp0
      clear hp0
      clear hm0
      go_wp2_with fail
      refine bodyPost_ret (results_B2 rfl rfl rfl (loadR (HPUT.out.box _ (List.mem_of_getElem? (i := 2) rfl)))) rfl ?_
      exact ⟨rfl, HPUT.out.bl⟩
theorem r6read_one (w : World) (bs : List UInt8) (hl : bs.length ≤ 300) (hn : noS bs = false) {z d : Int} (hj1 : rdJ (fP bs) = 0) (hz : rdW (fP bs) = z) (hj2 : rdE (fQ bs) = 0) (hd : rdV (fQ bs) = d) (h0d : ¬ d = 0) (h1d : d = 1) : Calls Tryz.prog 19 #[.string ⟨bs.toArray⟩] w (OutRZ w 3) := by
  have HIDX := Lib.hid (fun (k : Nat) (hk : k < bs.length) (W : World) => show (Instr.index 9 (.string ⟨bs.toArray⟩) (.int .i64 (k : Int))).run Tryz.prog W = .ok (.int .u8 (bat bs k)) W from str_at bs 9 strU .i64 k hk W)
  have HNE := Lib.hid (fun (k : Nat) (hk : k < (fP bs).length) => bat_ne hk)
  have hle := fP_le bs
  obtain ⟨h1, h2, h3⟩ := fP_len hn
  have h4 := bat_fP hn
  have hlp : (fP bs).length ≤ 300 := by omega
  have hlq : (fQ bs).length ≤ 300 := by rw [← h3, List.length_drop]; omega
  obtain ⟨L, hL⟩ : ∃ L, (fP bs).length = L := ⟨_, rfl⟩
  have hTK : (⟨bs.toArray⟩ : ByteArray).extract 0 L = ⟨(fP bs).toArray⟩ := by rw [ext_take, ← hL, h2]
  have hDR : (⟨bs.toArray⟩ : ByteArray).extract (L + 1) bs.length = ⟨(fQ bs).toArray⟩ := by rw [ext_drop, ← hL, h3]
  rw [hL] at HNE hle h1 h4
  have HKB := Lib.hid h1
  have H47 := Lib.hid h4
  have HTK := Lib.hid hTK
  have HDR := Lib.hid hDR
  clear hL hn h1 h2 h3 h4 hTK hDR
  have HD := Lib.hid hd
  have H0D := Lib.hid h0d
  have HONE := Lib.hid ((limbs_is1 (v := d) (by rw [← hd]; exact rdV_nonneg _)).trans (decide_eq_true h1d))
  have hS := Lib.hid (SC.start w)
  go_enter Tryz.func19, Tryz.ntmps19
  have h1 := (hS.out.boxed (vs := [.bool false, .slice none 0 0, .slice none 0 0]) (ty := 27) rfl rfl)
  try simp only [World.size_alloc] at h1
  obtain ⟨p0_0, p1_0, p2_0⟩ := h1.cs3 0 rfl
  clear h1
  go_wp2_with fail
  clear p0_0 p1_0 p2_0
  generalize hwa : World.alloc w _ = v1
  have h1 := (hS.out.boxed (vs := [.bool false, .slice none 0 0, .slice none 0 0]) (ty := 27) rfl hwa)
  have hsz : v1.heap.size = w.heap.size + 1 := by rw [← hwa]; simp only [World.size_alloc]
  try rw [← hsz]
  clear hwa hsz
  clear hS; have hS := Lib.hid h1; clear h1
  obtain ⟨x0_0, x1_0, x2_0⟩ := hS.out.cs3 0 rfl
  go_wp2_with fail
  go_loop [4] (fun i => ∃ k : Nat, i = .int .i64 k ∧ k ≤ L) (fun i => L - (intOf i).toNat)
  case atStart => exact ⟨0, rfl, Nat.zero_le _⟩
  case round =>
    obtain ⟨k, rfl, hk⟩ := hrel
    by_cases hlt : k < L
    · have hkb : k < bs.length := by omega
      have hx := HIDX.out k hkb
      have hne := HNE.out k hlt
      obtain ⟨x, hxe⟩ : ∃ x, bat bs k = x := ⟨_, rfl⟩
      rw [hxe] at hx hne
      have hq1 : (x == 47) = false := by simpa using hne
      have hq2 : (x != 47) = true := by simpa using hne
      clear hxe hne
      go_wp2
      go_round
      case rel => exact ⟨k + 1, by go_num, by omega⟩
      case measure => simp [intOf]; omega
    · obtain rfl : k = L := by omega
      have hkb : k < bs.length := HKB.out
      have hx := HIDX.out k hkb
      rw [H47.out] at hx
      have hkq : ((k : Int) == (bs.length : Int)) = false := beq_eq_false_iff_ne.2 (by omega)
      have hsz : (⟨bs.toArray⟩ : ByteArray).size = bs.length := rfl
      go_wp2_with fail
      go_at_call 45
      rw [HTK.out]
      with_reducible refine (rread5_c hS.out (fP bs) hlp hj1 hz).mono ?_
      rintro e v2 ⟨A1, n1, c1, rfl, h1⟩
      clear x0_0 x1_0 x2_0
      clear hS; have hS := Lib.hid h1; clear h1
      obtain ⟨x0_0, x1_0, x2_0⟩ := hS.out.cs3 0 rfl
      have h1 := (hS.out.boxed (vs := [.bool (sg z), .slice A1 n1 c1]) (ty := 25) rfl rfl)
      try simp only [World.size_alloc] at h1
      obtain ⟨p0_0, p1_0⟩ := h1.cs2 0 rfl
      obtain ⟨p0_1, p1_1, p2_1⟩ := h1.cs3 1 rfl
      clear h1
      go_wp2_with fail
      clear x0_0 x1_0 x2_0
      clear p0_0 p1_0 p0_1 p1_1 p2_1
      generalize hwa : World.alloc v2 _ = v3
      have h1 := (hS.out.boxed (vs := [.bool (sg z), .slice A1 n1 c1]) (ty := 25) rfl hwa)
      have hsz : v3.heap.size = v2.heap.size + 1 := by rw [← hwa]; simp only [World.size_alloc]
      try rw [← hsz]
      clear hwa hsz
      clear hS; have hS := Lib.hid h1; clear h1
      obtain ⟨x0_0, x1_0⟩ := hS.out.cs2 0 rfl
      obtain ⟨x0_1, x1_1, x2_1⟩ := hS.out.cs3 1 rfl
      go_wp2_with fail
      go_at_call 46
      rw [HDR.out]
      with_reducible refine (rread4_c hS.out (fQ bs) hlq hj2 hd).mono ?_
      rintro e v4 ⟨A2, n2, c2, rfl, h1⟩
      clear x0_0 x1_0 x0_1 x1_1 x2_1
      clear hS; have hS := Lib.hid h1; clear h1
      obtain ⟨x0_0, x1_0⟩ := hS.out.cs2 0 rfl
      obtain ⟨x0_1, x1_1, x2_1⟩ := hS.out.cs3 1 rfl
      have hn2 : (limbs d).length = n2 := (hS.out.get (A := A2) (n := n2) (c := c2) (k := 20) (xs := limbs d) (v := d) (by repeat (first | exact ms | apply mo))).1.len
      have hn2b : ((n2 : Int) == 0) = false := by
        have : n2 ≠ 0 := fun e => by
          have h3 := limbs_val (n := d) (by rw [← HD.out]; exact rdV_nonneg _)
          rw [List.eq_nil_of_length_eq_zero (hn2.trans e)] at h3
          exact H0D.out h3.symm
        simpa using this
      clear hn2
      have h1 := (hS.out.boxed (vs := [.bool (sg z), .slice A1 n1 c1, .slice A2 n2 c2]) (ty := 27) rfl rfl)
      try simp only [World.size_alloc] at h1
      obtain ⟨p0_0, p1_0, p2_0⟩ := h1.cs3 0 rfl
      obtain ⟨p0_1, p1_1⟩ := h1.cs2 1 rfl
      obtain ⟨p0_2, p1_2, p2_2⟩ := h1.cs3 2 rfl
      clear h1
      go_wp2_with fail
      clear x0_0 x1_0 x0_1 x1_1 x2_1
      clear p0_0 p1_0 p2_0 p0_1 p1_1 p0_2 p1_2 p2_2
      generalize hwa : World.alloc v4 _ = v5
      have h1 := (hS.out.boxed (vs := [.bool (sg z), .slice A1 n1 c1, .slice A2 n2 c2]) (ty := 27) rfl hwa)
      have hsz : v5.heap.size = v4.heap.size + 1 := by rw [← hwa]; simp only [World.size_alloc]
      try rw [← hsz]
      clear hwa hsz
      clear hS; have hS := Lib.hid h1; clear h1
      obtain ⟨x0_0, x1_0, x2_0⟩ := hS.out.cs3 0 rfl
      obtain ⟨x0_1, x1_1⟩ := hS.out.cs2 1 rfl
      obtain ⟨x0_2, x1_2, x2_2⟩ := hS.out.cs3 2 rfl
      go_wp2_with fail
      go_at_call 41
      with_reducible refine (rsame9_c (q := true) (hS.out.lit1 1 (by decide)) (by repeat (first | exact ms | apply mo)) (by repeat (first | exact ms | apply mo)) HONE.out).mono ?_
      rintro e v6 ⟨rfl, h1⟩
      clear x0_0 x1_0 x2_0 x0_1 x1_1 x0_2 x1_2 x2_2
      clear hS; have hS := Lib.hid h1; clear h1
      obtain ⟨x0_0, x1_0, x2_0⟩ := hS.out.cs3 0 rfl
      obtain ⟨x0_1, x1_1⟩ := hS.out.cs2 1 rfl
      obtain ⟨x0_2, x1_2, x2_2⟩ := hS.out.cs3 2 rfl
      have hp0 := hS.out.put3 2 rfl (hS.out.ge_ 2 rfl) (.bool false) (.slice none 0 0) (.slice none 0 0)
      simp only [List.set_cons_zero, List.set_cons_succ] at hp0
      have fz0_0 := hS.out.frs 2 rfl 0
      have fz0_1 := hS.out.frs 2 rfl 1
      have fz0_2 := hS.out.frs 2 rfl 2
      have HPUT := Lib.hid hp0
      clear hp0
      go_wp2_with fail
      refine bodyPost_ret (results_B2 rfl rfl rfl (loadR (HPUT.out.box _ (List.mem_of_getElem? (i := 2) rfl)))) rfl ?_
      exact ⟨rfl, HPUT.out.bl⟩
theorem r6read_bad (w : World) (bs : List UInt8) (hl : bs.length ≤ 300) (hn : noS bs = false) {z d : Int} (hj1 : rdJ (fP bs) = 0) (hz : rdW (fP bs) = z) (hj2 : rdE (fQ bs) = 0) (hd : rdV (fQ bs) = d) (h0d : ¬ d = 0) (h1d : ¬ d = 1) (hmay : mayR (sg z) (limbs (mg z)) (limbs d) = false) : Calls Tryz.prog 19 #[.string ⟨bs.toArray⟩] w (OutRZ w 3) := by
  have HIDX := Lib.hid (fun (k : Nat) (hk : k < bs.length) (W : World) => show (Instr.index 9 (.string ⟨bs.toArray⟩) (.int .i64 (k : Int))).run Tryz.prog W = .ok (.int .u8 (bat bs k)) W from str_at bs 9 strU .i64 k hk W)
  have HNE := Lib.hid (fun (k : Nat) (hk : k < (fP bs).length) => bat_ne hk)
  have hle := fP_le bs
  obtain ⟨h1, h2, h3⟩ := fP_len hn
  have h4 := bat_fP hn
  have hlp : (fP bs).length ≤ 300 := by omega
  have hlq : (fQ bs).length ≤ 300 := by rw [← h3, List.length_drop]; omega
  obtain ⟨L, hL⟩ : ∃ L, (fP bs).length = L := ⟨_, rfl⟩
  have hTK : (⟨bs.toArray⟩ : ByteArray).extract 0 L = ⟨(fP bs).toArray⟩ := by rw [ext_take, ← hL, h2]
  have hDR : (⟨bs.toArray⟩ : ByteArray).extract (L + 1) bs.length = ⟨(fQ bs).toArray⟩ := by rw [ext_drop, ← hL, h3]
  rw [hL] at HNE hle h1 h4
  have HKB := Lib.hid h1
  have H47 := Lib.hid h4
  have HTK := Lib.hid hTK
  have HDR := Lib.hid hDR
  clear hL hn h1 h2 h3 h4 hTK hDR
  have HD := Lib.hid hd
  have H0D := Lib.hid h0d
  have HONE := Lib.hid ((limbs_is1 (v := d) (by rw [← hd]; exact rdV_nonneg _)).trans (decide_eq_false h1d))
  have HMAY := Lib.hid hmay
  clear hmay
  have hS := Lib.hid (SC.start w)
  go_enter Tryz.func19, Tryz.ntmps19
  have h1 := (hS.out.boxed (vs := [.bool false, .slice none 0 0, .slice none 0 0]) (ty := 27) rfl rfl)
  try simp only [World.size_alloc] at h1
  obtain ⟨p0_0, p1_0, p2_0⟩ := h1.cs3 0 rfl
  clear h1
  go_wp2_with fail
  clear p0_0 p1_0 p2_0
  generalize hwa : World.alloc w _ = v1
  have h1 := (hS.out.boxed (vs := [.bool false, .slice none 0 0, .slice none 0 0]) (ty := 27) rfl hwa)
  have hsz : v1.heap.size = w.heap.size + 1 := by rw [← hwa]; simp only [World.size_alloc]
  try rw [← hsz]
  clear hwa hsz
  clear hS; have hS := Lib.hid h1; clear h1
  obtain ⟨x0_0, x1_0, x2_0⟩ := hS.out.cs3 0 rfl
  go_wp2_with fail
  go_loop [4] (fun i => ∃ k : Nat, i = .int .i64 k ∧ k ≤ L) (fun i => L - (intOf i).toNat)
  case atStart => exact ⟨0, rfl, Nat.zero_le _⟩
  case round =>
    obtain ⟨k, rfl, hk⟩ := hrel
    by_cases hlt : k < L
    · have hkb : k < bs.length := by omega
      have hx := HIDX.out k hkb
      have hne := HNE.out k hlt
      obtain ⟨x, hxe⟩ : ∃ x, bat bs k = x := ⟨_, rfl⟩
      rw [hxe] at hx hne
      have hq1 : (x == 47) = false := by simpa using hne
      have hq2 : (x != 47) = true := by simpa using hne
      clear hxe hne
      go_wp2
      go_round
      case rel => exact ⟨k + 1, by go_num, by omega⟩
      case measure => simp [intOf]; omega
    · obtain rfl : k = L := by omega
      have hkb : k < bs.length := HKB.out
      have hx := HIDX.out k hkb
      rw [H47.out] at hx
      have hkq : ((k : Int) == (bs.length : Int)) = false := beq_eq_false_iff_ne.2 (by omega)
      have hsz : (⟨bs.toArray⟩ : ByteArray).size = bs.length := rfl
      go_wp2_with fail
      go_at_call 45
      rw [HTK.out]
      with_reducible refine (rread5_c hS.out (fP bs) hlp hj1 hz).mono ?_
      rintro e v2 ⟨A1, n1, c1, rfl, h1⟩
      clear x0_0 x1_0 x2_0
      clear hS; have hS := Lib.hid h1; clear h1
      obtain ⟨x0_0, x1_0, x2_0⟩ := hS.out.cs3 0 rfl
      have h1 := (hS.out.boxed (vs := [.bool (sg z), .slice A1 n1 c1]) (ty := 25) rfl rfl)
      try simp only [World.size_alloc] at h1
      obtain ⟨p0_0, p1_0⟩ := h1.cs2 0 rfl
      obtain ⟨p0_1, p1_1, p2_1⟩ := h1.cs3 1 rfl
      clear h1
      go_wp2_with fail
      clear x0_0 x1_0 x2_0
      clear p0_0 p1_0 p0_1 p1_1 p2_1
      generalize hwa : World.alloc v2 _ = v3
      have h1 := (hS.out.boxed (vs := [.bool (sg z), .slice A1 n1 c1]) (ty := 25) rfl hwa)
      have hsz : v3.heap.size = v2.heap.size + 1 := by rw [← hwa]; simp only [World.size_alloc]
      try rw [← hsz]
      clear hwa hsz
      clear hS; have hS := Lib.hid h1; clear h1
      obtain ⟨x0_0, x1_0⟩ := hS.out.cs2 0 rfl
      obtain ⟨x0_1, x1_1, x2_1⟩ := hS.out.cs3 1 rfl
      go_wp2_with fail
      go_at_call 46
      rw [HDR.out]
      with_reducible refine (rread4_c hS.out (fQ bs) hlq hj2 hd).mono ?_
      rintro e v4 ⟨A2, n2, c2, rfl, h1⟩
      clear x0_0 x1_0 x0_1 x1_1 x2_1
      clear hS; have hS := Lib.hid h1; clear h1
      obtain ⟨x0_0, x1_0⟩ := hS.out.cs2 0 rfl
      obtain ⟨x0_1, x1_1, x2_1⟩ := hS.out.cs3 1 rfl
      have hn2 : (limbs d).length = n2 := (hS.out.get (A := A2) (n := n2) (c := c2) (k := 20) (xs := limbs d) (v := d) (by repeat (first | exact ms | apply mo))).1.len
      have hn2b : ((n2 : Int) == 0) = false := by
        have : n2 ≠ 0 := fun e => by
          have h3 := limbs_val (n := d) (by rw [← HD.out]; exact rdV_nonneg _)
          rw [List.eq_nil_of_length_eq_zero (hn2.trans e)] at h3
          exact H0D.out h3.symm
        simpa using this
      clear hn2
      have h1 := (hS.out.boxed (vs := [.bool (sg z), .slice A1 n1 c1, .slice A2 n2 c2]) (ty := 27) rfl rfl)
      try simp only [World.size_alloc] at h1
      obtain ⟨p0_0, p1_0, p2_0⟩ := h1.cs3 0 rfl
      obtain ⟨p0_1, p1_1⟩ := h1.cs2 1 rfl
      obtain ⟨p0_2, p1_2, p2_2⟩ := h1.cs3 2 rfl
      clear h1
      go_wp2_with fail
      clear x0_0 x1_0 x0_1 x1_1 x2_1
      clear p0_0 p1_0 p2_0 p0_1 p1_1 p0_2 p1_2 p2_2
      generalize hwa : World.alloc v4 _ = v5
      have h1 := (hS.out.boxed (vs := [.bool (sg z), .slice A1 n1 c1, .slice A2 n2 c2]) (ty := 27) rfl hwa)
      have hsz : v5.heap.size = v4.heap.size + 1 := by rw [← hwa]; simp only [World.size_alloc]
      try rw [← hsz]
      clear hwa hsz
      clear hS; have hS := Lib.hid h1; clear h1
      obtain ⟨x0_0, x1_0, x2_0⟩ := hS.out.cs3 0 rfl
      obtain ⟨x0_1, x1_1⟩ := hS.out.cs2 1 rfl
      obtain ⟨x0_2, x1_2, x2_2⟩ := hS.out.cs3 2 rfl
      go_wp2_with fail
      go_at_call 41
      with_reducible refine (rsame9_c (q := false) (hS.out.lit1 1 (by decide)) (by repeat (first | exact ms | apply mo)) (by repeat (first | exact ms | apply mo)) HONE.out).mono ?_
      rintro e v6 ⟨rfl, h1⟩
      clear x0_0 x1_0 x2_0 x0_1 x1_1 x0_2 x1_2 x2_2
      clear hS; have hS := Lib.hid h1; clear h1
      obtain ⟨x0_0, x1_0, x2_0⟩ := hS.out.cs3 0 rfl
      obtain ⟨x0_1, x1_1⟩ := hS.out.cs2 1 rfl
      obtain ⟨x0_2, x1_2, x2_2⟩ := hS.out.cs3 2 rfl
      go_wp2_with fail
      go_at_call 18
      with_reducible refine (r6may_c (k := 20) (k' := 20) (q := false) hS.out (by repeat (first | exact ms | apply mo)) (by repeat (first | exact ms | apply mo)) (by decide) (by decide) HMAY.out).mono ?_
      rintro e v7 ⟨rfl, h1⟩
      clear x0_0 x1_0 x2_0 x0_1 x1_1 x0_2 x1_2 x2_2
      clear hS; have hS := Lib.hid h1; clear h1
      obtain ⟨x0_0, x1_0, x2_0⟩ := hS.out.cs3 0 rfl
      obtain ⟨x0_1, x1_1⟩ := hS.out.cs2 1 rfl
      obtain ⟨x0_2, x1_2, x2_2⟩ := hS.out.cs3 2 rfl
      have hp0 := hS.out.put3 2 rfl (hS.out.ge_ 2 rfl) (.bool false) (.slice none 0 0) (.slice none 0 0)
      simp only [List.set_cons_zero, List.set_cons_succ] at hp0
      have fz0_0 := hS.out.frs 2 rfl 0
      have fz0_1 := hS.out.frs 2 rfl 1
      have fz0_2 := hS.out.frs 2 rfl 2
      have HPUT := Lib.hid hp0
      clear hp0
      go_wp2_with fail
      refine bodyPost_ret (results_B2 rfl rfl rfl (loadR (HPUT.out.box _ (List.mem_of_getElem? (i := 2) rfl)))) rfl ?_
      exact ⟨rfl, HPUT.out.bl⟩
theorem r6read_good (w : World) (bs : List UInt8) (hl : bs.length ≤ 300) (hn : noS bs = false) {z d : Int} (hj1 : rdJ (fP bs) = 0) (hz : rdW (fP bs) = z) (hj2 : rdE (fQ bs) = 0) (hd : rdV (fQ bs) = d) (h0d : ¬ d = 0) (h1d : ¬ d = 1) (hmay : mayR (sg z) (limbs (mg z)) (limbs d) = true) {r : Rat} (hr1 : mkRat z d.toNat = r) : Calls Tryz.prog 19 #[.string ⟨bs.toArray⟩] w (OutRE w 20001 r 0) := by
  have HIDX := Lib.hid (fun (k : Nat) (hk : k < bs.length) (W : World) => show (Instr.index 9 (.string ⟨bs.toArray⟩) (.int .i64 (k : Int))).run Tryz.prog W = .ok (.int .u8 (bat bs k)) W from str_at bs 9 strU .i64 k hk W)
  have HNE := Lib.hid (fun (k : Nat) (hk : k < (fP bs).length) => bat_ne hk)
  have hle := fP_le bs
  obtain ⟨h1, h2, h3⟩ := fP_len hn
  have h4 := bat_fP hn
  have hlp : (fP bs).length ≤ 300 := by omega
  have hlq : (fQ bs).length ≤ 300 := by rw [← h3, List.length_drop]; omega
  obtain ⟨L, hL⟩ : ∃ L, (fP bs).length = L := ⟨_, rfl⟩
  have hTK : (⟨bs.toArray⟩ : ByteArray).extract 0 L = ⟨(fP bs).toArray⟩ := by rw [ext_take, ← hL, h2]
  have hDR : (⟨bs.toArray⟩ : ByteArray).extract (L + 1) bs.length = ⟨(fQ bs).toArray⟩ := by rw [ext_drop, ← hL, h3]
  rw [hL] at HNE hle h1 h4
  have HKB := Lib.hid h1
  have H47 := Lib.hid h4
  have HTK := Lib.hid hTK
  have HDR := Lib.hid hDR
  clear hL hn h1 h2 h3 h4 hTK hDR
  have HD := Lib.hid hd
  have H0D := Lib.hid h0d
  have HONE := Lib.hid ((limbs_is1 (v := d) (by rw [← hd]; exact rdV_nonneg _)).trans (decide_eq_false h1d))
  have HMAY := Lib.hid hmay
  have hd0 : 0 ≤ d := by rw [← hd]; exact rdV_nonneg _
  have hrv : rv (sg z) (val B (limbs (mg z))) (val B (limbs d)) = r := by rw [limbs_val (mg_nn z), limbs_val hd0]; unfold rv; rw [iv_sm]; exact hr1
  obtain ⟨g0, g1, g2, g3⟩ := (mayR_iff (limbs_dg _) (limbs_dg _) hrv).1 hmay
  have hnum : r.num = z := by
    refine (wn_inj g1 ?_).symm
    have := congrArg (val B) g2
    rwa [limbs_val (mg_nn _), limbs_val (mg_nn _)] at this
  have hden : (r.den : Int) = d := by
    have := congrArg (val B) g3
    rw [limbs_val hd0, limbs_val (Int.le_of_lt (rden_pos r))] at this
    exact this.symm
  clear g0 g1 g2 g3 hrv hmay
  have HNUM := Lib.hid hnum
  have HDEN := Lib.hid hden
  clear hnum hden
  have hS := Lib.hid (SC.start w)
  go_enter Tryz.func19, Tryz.ntmps19
  have h1 := (hS.out.boxed (vs := [.bool false, .slice none 0 0, .slice none 0 0]) (ty := 27) rfl rfl)
  try simp only [World.size_alloc] at h1
  obtain ⟨p0_0, p1_0, p2_0⟩ := h1.cs3 0 rfl
  clear h1
  go_wp2_with fail
  clear p0_0 p1_0 p2_0
  generalize hwa : World.alloc w _ = v1
  have h1 := (hS.out.boxed (vs := [.bool false, .slice none 0 0, .slice none 0 0]) (ty := 27) rfl hwa)
  have hsz : v1.heap.size = w.heap.size + 1 := by rw [← hwa]; simp only [World.size_alloc]
  try rw [← hsz]
  clear hwa hsz
  clear hS; have hS := Lib.hid h1; clear h1
  obtain ⟨x0_0, x1_0, x2_0⟩ := hS.out.cs3 0 rfl
  go_wp2_with fail
  go_loop [4] (fun i => ∃ k : Nat, i = .int .i64 k ∧ k ≤ L) (fun i => L - (intOf i).toNat)
  case atStart => exact ⟨0, rfl, Nat.zero_le _⟩
  case round =>
    obtain ⟨k, rfl, hk⟩ := hrel
    by_cases hlt : k < L
    · have hkb : k < bs.length := by omega
      have hx := HIDX.out k hkb
      have hne := HNE.out k hlt
      obtain ⟨x, hxe⟩ : ∃ x, bat bs k = x := ⟨_, rfl⟩
      rw [hxe] at hx hne
      have hq1 : (x == 47) = false := by simpa using hne
      have hq2 : (x != 47) = true := by simpa using hne
      clear hxe hne
      go_wp2
      go_round
      case rel => exact ⟨k + 1, by go_num, by omega⟩
      case measure => simp [intOf]; omega
    · obtain rfl : k = L := by omega
      have hkb : k < bs.length := HKB.out
      have hx := HIDX.out k hkb
      rw [H47.out] at hx
      have hkq : ((k : Int) == (bs.length : Int)) = false := beq_eq_false_iff_ne.2 (by omega)
      have hsz : (⟨bs.toArray⟩ : ByteArray).size = bs.length := rfl
      go_wp2_with fail
      go_at_call 45
      rw [HTK.out]
      with_reducible refine (rread5_c hS.out (fP bs) hlp hj1 hz).mono ?_
      rintro e v2 ⟨A1, n1, c1, rfl, h1⟩
      clear x0_0 x1_0 x2_0
      clear hS; have hS := Lib.hid h1; clear h1
      obtain ⟨x0_0, x1_0, x2_0⟩ := hS.out.cs3 0 rfl
      have h1 := (hS.out.boxed (vs := [.bool (sg z), .slice A1 n1 c1]) (ty := 25) rfl rfl)
      try simp only [World.size_alloc] at h1
      obtain ⟨p0_0, p1_0⟩ := h1.cs2 0 rfl
      obtain ⟨p0_1, p1_1, p2_1⟩ := h1.cs3 1 rfl
      clear h1
      go_wp2_with fail
      clear x0_0 x1_0 x2_0
      clear p0_0 p1_0 p0_1 p1_1 p2_1
      generalize hwa : World.alloc v2 _ = v3
      have h1 := (hS.out.boxed (vs := [.bool (sg z), .slice A1 n1 c1]) (ty := 25) rfl hwa)
      have hsz : v3.heap.size = v2.heap.size + 1 := by rw [← hwa]; simp only [World.size_alloc]
      try rw [← hsz]
      clear hwa hsz
      clear hS; have hS := Lib.hid h1; clear h1
      obtain ⟨x0_0, x1_0⟩ := hS.out.cs2 0 rfl
      obtain ⟨x0_1, x1_1, x2_1⟩ := hS.out.cs3 1 rfl
      go_wp2_with fail
      go_at_call 46
      rw [HDR.out]
      with_reducible refine (rread4_c hS.out (fQ bs) hlq hj2 hd).mono ?_
      rintro e v4 ⟨A2, n2, c2, rfl, h1⟩
      clear x0_0 x1_0 x0_1 x1_1 x2_1
      clear hS; have hS := Lib.hid h1; clear h1
      obtain ⟨x0_0, x1_0⟩ := hS.out.cs2 0 rfl
      obtain ⟨x0_1, x1_1, x2_1⟩ := hS.out.cs3 1 rfl
      have hn2 : (limbs d).length = n2 := (hS.out.get (A := A2) (n := n2) (c := c2) (k := 20) (xs := limbs d) (v := d) (by repeat (first | exact ms | apply mo))).1.len
      have hn2b : ((n2 : Int) == 0) = false := by
        have : n2 ≠ 0 := fun e => by
          have h3 := limbs_val (n := d) (by rw [← HD.out]; exact rdV_nonneg _)
          rw [List.eq_nil_of_length_eq_zero (hn2.trans e)] at h3
          exact H0D.out h3.symm
        simpa using this
      clear hn2
      have h1 := (hS.out.boxed (vs := [.bool (sg z), .slice A1 n1 c1, .slice A2 n2 c2]) (ty := 27) rfl rfl)
      try simp only [World.size_alloc] at h1
      obtain ⟨p0_0, p1_0, p2_0⟩ := h1.cs3 0 rfl
      obtain ⟨p0_1, p1_1⟩ := h1.cs2 1 rfl
      obtain ⟨p0_2, p1_2, p2_2⟩ := h1.cs3 2 rfl
      clear h1
      go_wp2_with fail
      clear x0_0 x1_0 x0_1 x1_1 x2_1
      clear p0_0 p1_0 p2_0 p0_1 p1_1 p0_2 p1_2 p2_2
      generalize hwa : World.alloc v4 _ = v5
      have h1 := (hS.out.boxed (vs := [.bool (sg z), .slice A1 n1 c1, .slice A2 n2 c2]) (ty := 27) rfl hwa)
      have hsz : v5.heap.size = v4.heap.size + 1 := by rw [← hwa]; simp only [World.size_alloc]
      try rw [← hsz]
      clear hwa hsz
      clear hS; have hS := Lib.hid h1; clear h1
      obtain ⟨x0_0, x1_0, x2_0⟩ := hS.out.cs3 0 rfl
      obtain ⟨x0_1, x1_1⟩ := hS.out.cs2 1 rfl
      obtain ⟨x0_2, x1_2, x2_2⟩ := hS.out.cs3 2 rfl
      go_wp2_with fail
      go_at_call 41
      with_reducible refine (rsame9_c (q := false) (hS.out.lit1 1 (by decide)) (by repeat (first | exact ms | apply mo)) (by repeat (first | exact ms | apply mo)) HONE.out).mono ?_
      rintro e v6 ⟨rfl, h1⟩
      clear x0_0 x1_0 x2_0 x0_1 x1_1 x0_2 x1_2 x2_2
      clear hS; have hS := Lib.hid h1; clear h1
      obtain ⟨x0_0, x1_0, x2_0⟩ := hS.out.cs3 0 rfl
      obtain ⟨x0_1, x1_1⟩ := hS.out.cs2 1 rfl
      obtain ⟨x0_2, x1_2, x2_2⟩ := hS.out.cs3 2 rfl
      go_wp2_with fail
      go_at_call 18
      with_reducible refine (r6may_c (k := 20) (k' := 20) (q := true) hS.out (by repeat (first | exact ms | apply mo)) (by repeat (first | exact ms | apply mo)) (by decide) (by decide) HMAY.out).mono ?_
      rintro e v7 ⟨rfl, h1⟩
      clear x0_0 x1_0 x2_0 x0_1 x1_1 x0_2 x1_2 x2_2
      clear hS; have hS := Lib.hid h1; clear h1
      obtain ⟨x0_0, x1_0, x2_0⟩ := hS.out.cs3 0 rfl
      obtain ⟨x0_1, x1_1⟩ := hS.out.cs2 1 rfl
      obtain ⟨x0_2, x1_2, x2_2⟩ := hS.out.cs3 2 rfl
      have hp0 := hS.out.put3 2 rfl (hS.out.ge_ 2 rfl) (.bool (sg z)) (.slice A1 n1 c1) (.slice A2 n2 c2)
      simp only [List.set_cons_zero, List.set_cons_succ] at hp0
      have fz0_0 := hS.out.frs 2 rfl 0
      have fz0_1 := hS.out.frs 2 rfl 1
      have fz0_2 := hS.out.frs 2 rfl 2
      have HPUT := Lib.hid hp0
      clear hp0
      go_wp2_with fail
      refine bodyPost_ret (results_B2 rfl rfl rfl (loadR (HPUT.out.box _ (List.mem_of_getElem? (i := 2) rfl)))) rfl ?_
      exact HPUT.out.toRE2 (k := 20) (k' := 20) (r := r) (by repeat (first | exact ms | apply mo)) (by repeat (first | exact ms | apply mo)) (by repeat (first | exact ms | apply mo)) (by repeat (first | exact ms | apply mo)) (by omega) (by omega) (by rw [HNUM.out]) (by rw [HNUM.out]) (by rw [HDEN.out])
end
theorem fread_all (w : World) (bs : List UInt8) (hl : bs.length ≤ maxLen) : (rdK bs = 0 → Calls Tryz.prog 20 #[.string ⟨bs.toArray⟩] w (OutRE w 20001 (rdR bs) 0)) ∧ (rdK bs ≠ 0 → Calls Tryz.prog 20 #[.string ⟨bs.toArray⟩] w (OutRZ w (rdK bs))) := by
  unfold rdK rdR
  cases hn : noS bs with
  | true =>
    rw [if_pos rfl, if_pos rfl]
    exact ⟨fun h => fread_yes w bs hl hn h rfl rfl, fun h => fread_no w bs hl hn rfl rfl h⟩
  | false =>
    rw [if_neg Bool.false_ne_true, if_neg Bool.false_ne_true]
    by_cases h1 : rdJ (fP bs) = 0
    · rw [if_pos h1]
      by_cases h2 : rdE (fQ bs) = 0
      · rw [if_pos h2]
        have hd0 := rdV_nonneg (fQ bs)
        have hrv : rv (sg (rdW (fP bs))) (val B (limbs (mg (rdW (fP bs))))) (val B (limbs (rdV (fQ bs)))) = mkRat (rdW (fP bs)) (rdV (fQ bs)).toNat := by rw [limbs_val (mg_nn _), limbs_val hd0]; unfold rv; rw [iv_sm]
        have hmg : mayR (sg (rdW (fP bs))) (limbs (mg (rdW (fP bs)))) (limbs (rdV (fQ bs))) = (decide (0 < rdV (fQ bs)) && decide (gI (mg (rdW (fP bs))) (rdV (fQ bs)) = 1)) := by
          unfold mayR
          rw [mayB_told, Bool.true_and, limbs_val (mg_nn _), limbs_val hd0]
          have hb : mayB false (limbs (rdV (fQ bs))) = true := by
            have := mayB_told (rdV (fQ bs))
            rwa [sg_f hd0, mg_f hd0] at this
          rw [hb, Bool.true_and]
          by_cases hz : rdV (fQ bs) = 0
          · rw [decide_eq_true hz, decide_eq_false (show ¬ 0 < rdV (fQ bs) by omega)]; rfl
          · rw [decide_eq_false hz, decide_eq_true (show 0 < rdV (fQ bs) by omega)]; rfl
        by_cases h3 : 1 < rdV (fQ bs) ∧ gI (mg (rdW (fP bs))) (rdV (fQ bs)) = 1
        · rw [if_pos h3]
          refine ⟨fun _ => fread_good w bs hl hn h1 rfl h2 rfl (by omega) ?_ rfl, fun h => absurd rfl h⟩
          rw [hmg, decide_eq_true h3.2, decide_eq_true (by omega)]; rfl
        · rw [if_neg h3]
          refine ⟨fun h => absurd h (by decide), fun _ => ?_⟩
          by_cases h4 : rdV (fQ bs) = 1
          · exact fread_one w bs hl hn h1 rfl h2 rfl h4
          · refine fread_bad w bs hl hn h1 rfl h2 rfl h4 ?_
            rw [hmg]
            by_cases h5 : 0 < rdV (fQ bs)
            · rw [decide_eq_false (fun h => h3 ⟨by omega, h⟩), Bool.and_false]
            · rw [decide_eq_false h5]; rfl
      · rw [if_neg h2]
        exact ⟨fun h => absurd h h2, fun h => fread_pq w bs hl hn h1 rfl rfl rfl h⟩
    · rw [if_neg h1]
      exact ⟨fun h => absurd h h1, fun h => fread_px w bs hl hn rfl rfl h⟩
theorem r6read_all (w : World) (bs : List UInt8) (hl : bs.length ≤ 300) : (rdK bs = 0 → Calls Tryz.prog 19 #[.string ⟨bs.toArray⟩] w (OutRE w 20001 (rdR bs) 0)) ∧ (rdK bs ≠ 0 → Calls Tryz.prog 19 #[.string ⟨bs.toArray⟩] w (OutRZ w (rdK bs))) := by
  unfold rdK rdR
  cases hn : noS bs with
  | true =>
    rw [if_pos rfl, if_pos rfl]
    exact ⟨fun h => r6read_yes w bs hl hn h rfl rfl, fun h => r6read_no w bs hl hn rfl rfl h⟩
  | false =>
    rw [if_neg Bool.false_ne_true, if_neg Bool.false_ne_true]
    by_cases h1 : rdJ (fP bs) = 0
    · rw [if_pos h1]
      by_cases h2 : rdE (fQ bs) = 0
      · rw [if_pos h2]
        have hd0 := rdV_nonneg (fQ bs)
        have hrv : rv (sg (rdW (fP bs))) (val B (limbs (mg (rdW (fP bs))))) (val B (limbs (rdV (fQ bs)))) = mkRat (rdW (fP bs)) (rdV (fQ bs)).toNat := by rw [limbs_val (mg_nn _), limbs_val hd0]; unfold rv; rw [iv_sm]
        have hmg : mayR (sg (rdW (fP bs))) (limbs (mg (rdW (fP bs)))) (limbs (rdV (fQ bs))) = (decide (0 < rdV (fQ bs)) && decide (gI (mg (rdW (fP bs))) (rdV (fQ bs)) = 1)) := by
          unfold mayR
          rw [mayB_told, Bool.true_and, limbs_val (mg_nn _), limbs_val hd0]
          have hb : mayB false (limbs (rdV (fQ bs))) = true := by
            have := mayB_told (rdV (fQ bs))
            rwa [sg_f hd0, mg_f hd0] at this
          rw [hb, Bool.true_and]
          by_cases hz : rdV (fQ bs) = 0
          · rw [decide_eq_true hz, decide_eq_false (show ¬ 0 < rdV (fQ bs) by omega)]; rfl
          · rw [decide_eq_false hz, decide_eq_true (show 0 < rdV (fQ bs) by omega)]; rfl
        by_cases h3 : 1 < rdV (fQ bs) ∧ gI (mg (rdW (fP bs))) (rdV (fQ bs)) = 1
        · rw [if_pos h3]
          refine ⟨fun _ => r6read_good w bs hl hn h1 rfl h2 rfl (by omega) (by omega) ?_ rfl, fun h => absurd rfl h⟩
          rw [hmg, decide_eq_true h3.2, decide_eq_true (by omega)]; rfl
        · rw [if_neg h3]
          refine ⟨fun h => absurd h (by decide), fun _ => ?_⟩
          by_cases h40 : rdV (fQ bs) = 0
          · exact r6read_nil w bs hl hn h1 rfl h2 rfl h40
          by_cases h4 : rdV (fQ bs) = 1
          · exact r6read_one w bs hl hn h1 rfl h2 rfl h40 h4
          · refine r6read_bad w bs hl hn h1 rfl h2 rfl h40 h4 ?_
            rw [hmg]
            by_cases h5 : 0 < rdV (fQ bs)
            · rw [decide_eq_false (fun h => h3 ⟨by omega, h⟩), Bool.and_false]
            · rw [decide_eq_false h5]; rfl
      · rw [if_neg h2]
        exact ⟨fun h => absurd h h2, fun h => r6read_pq w bs hl hn h1 rfl rfl rfl h⟩
    · rw [if_neg h1]
      exact ⟨fun h => absurd h h1, fun h => r6read_px w bs hl hn rfl rfl h⟩
end Go.Proofs.YtbpambamaoonfaaGreatDoor
