/- The calls of layer 11 at a table of weights. -/
import Derived.Test.YtfdpddlefobcpaaAliNew
import Derived.Test.YtfdpddlefobcpaaAliRat
namespace Go.Proofs.Ytfdpddlefobcpaa
open Go.RowKit Go.Shelf
set_option linter.unusedVariables false
set_option linter.unusedSimpArgs false
set_option maxRecDepth 20000
open N
section
variable {w w' : World} {t g1 g2 i n c : Nat} {ws : List Int} {x s r y z : Int} {A : Option Addr}
theorem Ta.on (h : Ta w t g1 g2 ws) (hb : Below w.heap.size w w') : Ta w' t g1 g2 ws := AlOk.on h hb
theorem anew_ok (hi : Il w A n c ws) (hm : mayW ws = 0) : Calls Try.prog 7 #[.slice A n c] w (ANewOk w ws) := by
  refine (anew_any hi).mono ?_
  rintro e w' (⟨_, h1⟩ | ⟨h1, _⟩)
  · exact h1
  · exact absurd hm h1
theorem anew_no (hi : Il w A n c ws) (hm : mayW ws = z) (hz : ¬ z = 0) :
    Calls Try.prog 7 #[.slice A n c] w fun e w' => e = .returned (.tuple #[.pointer none, .int .i64 z]) ∧ Below w.heap.size w w' := by
  subst hm
  refine (anew_any hi).mono ?_
  rintro e w' (⟨h1, _⟩ | ⟨_, h1, hb⟩)
  · exact absurd h1 hz
  · exact ⟨h1, hb⟩
theorem ta_len (h : Ta w t g1 g2 ws) (hn : ws.length = n) :
    Calls Try.prog 10 #[.pointer (some ⟨t, 0, none⟩)] w fun e w' => e = .returned (.int .i64 (n : Int)) ∧ w' = w := by
  subst hn
  exact alen_any h
theorem ta_sum (h : Ta w t g1 g2 ws) (hs : pre ws ws.length = s) :
    Calls Try.prog 9 #[.pointer (some ⟨t, 0, none⟩)] w fun e w' => e = .returned (.int .i64 s) ∧ w' = w := by
  subst hs
  exact asum_any h
theorem ta_cut (h : Ta w t g1 g2 ws) (hi : i < ws.length) (hx : cutA ws i = x) (hz : (i : Int) = z) :
    Calls Try.prog 11 #[.pointer (some ⟨t, 0, none⟩), .int .i64 z] w fun e w' => e = .returned (.tuple #[.int .i64 x, .int .i64 0]) ∧ w' = w := by
  subst hz
  exact cut_ok h hi hx
theorem ta_oth (h : Ta w t g1 g2 ws) (hi : i < ws.length) (hy : ((othA ws i : Nat) : Int) = y) (hz : (i : Int) = z) :
    Calls Try.prog 12 #[.pointer (some ⟨t, 0, none⟩), .int .i64 z] w fun e w' => e = .returned (.tuple #[.int .i64 y, .int .i64 0]) ∧ w' = w := by
  subst hz hy
  exact other_ok h hi rfl
theorem ta_pick (h : Ta w t g1 g2 ws) (hi : i < ws.length) (hr : 0 ≤ r ∧ r < pre ws ws.length) (hy : ((pkA (cutA ws) (othA ws) i r : Nat) : Int) = y) (hz : (i : Int) = z) :
    Calls Try.prog 16 #[.pointer (some ⟨t, 0, none⟩), .int .i64 z, .int .i64 r] w fun e w' => e = .returned (.tuple #[.int .i64 y, .int .i64 0]) ∧ w' = w := by
  subst hz hy
  exact apick_ok h hi hr rfl
theorem mkRat_scale11 {x s b : Int} (hb : 0 < b) (hs : 0 < s) : mkRat (b * x) (b * s).toNat = mkRat x s.toNat := by
  obtain ⟨c, rfl⟩ := Int.eq_ofNat_of_zero_le (Int.le_of_lt hb)
  obtain ⟨d, rfl⟩ := Int.eq_ofNat_of_zero_le (Int.le_of_lt hs)
  rw [Int.mul_comm (c : Int) x, Int.mul_comm (c : Int) (d : Int), show ((d : Int) * (c : Int)).toNat = d * c by rw [← Int.natCast_mul]; exact Int.toNat_natCast _, Int.toNat_natCast]
  exact Rat.mkRat_mul_right (by omega)
theorem ta_share (h : Ta w t g1 g2 ws) (hw : Wt ws) {q : Rat} (hx : ws[i]? = some x) (hs : pre ws ws.length = s) (hq : mkRat x s.toNat = q) (hz : (i : Int) = z) :
    Calls Try.prog 13 #[.pointer (some ⟨t, 0, none⟩), .int .i64 z] w (OutRE w 1 q 0) := by
  subst hz
  have hi := (List.getElem?_eq_some_iff.1 hx).1
  have hT := altab_tab hw
  have hp := hT.prs i hi
  have hb := hts_le hw hi
  have h9 := hw.le (Nat.le_refl _)
  have hh : hts ws i = (ws.length : Int) * x := by unfold hts; rw [List.getD_eq_getElem?_getD, hx]; rfl
  refine ashare_ok h hi hw.l1 ⟨hw.pos, h9.2.2⟩ (fun j hj => ⟨(hT.cut j hj).1, (hT.cut j hj).2.1⟩) hp hb ?_
  rw [hh, mkRat_scale11 (by have := hw.l0; omega) hw.pos, hs]
  exact hq
theorem ta_cost (h : Ta w t g1 g2 ws) (hw : Wt ws) {m : Nat} (hm : pre ws ws.length = (m : Int)) {r r0 r1 : Rat} (hr0 : cR ws.length = r0) (hr1 : cR m = r1) (hr : r0 + r1 = r) :
    Calls Try.prog 18 #[.pointer (some ⟨t, 0, none⟩)] w (OutR w 61800 r) := by
  have h1 := hw.pos
  have h2 := (hw.le (Nat.le_refl _)).2.2
  unfold Ta at h
  rw [hm] at h h1 h2
  exact acost_any h ⟨hw.l0, hw.l1⟩ ⟨by omega, by omega⟩ hr0 hr1 hr
/-- an index that there is not -/
theorem ta_refused (h : Ta w t g1 g2 ws) (hw : Wt ws) (hz : ¬ (0 ≤ z ∧ z < (ws.length : Int))) :
    Calls Try.prog 23 #[.pointer (some ⟨t, 0, none⟩), .int .i64 z] w fun e w' => e = .returned (.int .i64 1) ∧ w' = w := refused_no h hw.l0 hz
end
theorem SC.fresh11 {w0 w : World} (hb : Below w0.heap.size w0 w) : SC w0 w w [] [] [] :=
  ⟨⟨hb, fun t ht => by cases ht⟩, Below.refl _ _, (fun q hq => by cases hq), (fun q hq => by cases hq), List.nodup_nil, (fun t ht => by cases ht), (fun t ht => by cases ht), (fun t ht => by cases ht)⟩
theorem SC.wb11 {w0 v0 w : World} {S O : List Ent} {T : List Blk} (h : SC w0 v0 w S T O) : Below w0.heap.size w0 w := h.st.1
/-- a slice's block, read as numbers -/
theorem Il.of_blk11 {w : World} {g : Nat} {vs : List Value} {ty : TypeId} {n c : Nat} {xs : List Int} (h : BlkOk w ⟨g, vs, ty⟩) (hl : xs.length = n) (hc : n ≤ c) (hm : c ≤ maxLen) (hx : ∀ x ∈ xs, -9223372036854775808 ≤ x ∧ x ≤ 9223372036854775807) (hv : ∀ j, j < n → vs[j]? = some (.int .i64 (xs.getD j 0))) : Il w (some ⟨g, 0, none⟩) n c xs :=
  ⟨hl, hc, hm, fun x hx' => (by have h1 : IntKind.i64.min ≤ x := (hx x hx').1; have h2 : x ≤ IntKind.i64.max := (hx x hx').2; simp [Lit.wf, h1, h2, (hx x hx').1, (hx x hx').2]), (fun e => by cases e), fun k hk => ⟨⟨g, 0, none⟩, rfl, BlkOk.lt h, fun j hj => by rw [add_plain, Nat.zero_add]; exact BlkOk.cell h (hv j hj)⟩⟩
theorem il_two {w : World} {x y : Int} (hx : -9223372036854775808 ≤ x ∧ x ≤ 9223372036854775807) (hy : -9223372036854775808 ≤ y ∧ y ≤ 9223372036854775807) : Il (w.alloc (.cells #[.int .i64 x, .int .i64 y] 2)) (some ⟨w.heap.size, 0, none⟩) 2 2 [x, y] := by
  refine Il.of_blk11 (vs := [.int .i64 x, .int .i64 y]) (ty := 2) (heap_alloc_new w _) rfl (by decide) (by decide) (fun v hv => ?_) ?_
  · simp only [List.mem_cons, List.not_mem_nil, or_false] at hv
    rcases hv with rfl | rfl
    · exact hx
    · exact hy
  · intro j hj
    match j, hj with
    | 0, _ => rfl
    | 1, _ => rfl
end Go.Proofs.Ytfdpddlefobcpaa
