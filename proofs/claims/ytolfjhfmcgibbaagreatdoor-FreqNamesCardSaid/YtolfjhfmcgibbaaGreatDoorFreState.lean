/- The calls of layer 10 over a state of cursors and tables. -/
import Derived.Test.YtolfjhfmcgibbaaGreatDoorFreAwake
namespace Go.Proofs.YtolfjhfmcgibbaaGreatDoor
open Go.RowKit Go.Shelf
set_option linter.unusedVariables false
set_option linter.unusedSimpArgs false
set_option maxRecDepth 20000
open N
section
variable {w0 w w' : World} {T : List Blk} {t g gc a a2 m v n c q : Nat} {gd o o2 : Bool} {l : List UInt8} {ws : List Int} {A : Option Addr}
theorem CS.tb (h : CS w0 w T) (i : Nat) (hi : T[i]? = some (TB t g ws.length)) (j : Nat) (hj : T[j]? = some (EN g ws)) : TbOk w t g ws := ⟨h.get i hi, h.get j hj⟩
theorem CS.ne (h : CS w0 w T) {p q : Blk} (i k : Nat) (hi : T[i]? = some p) (hk : T[k]? = some q) (hne : i ≠ k) : p.g ≠ q.g := by
  obtain ⟨hi1, hi2⟩ := List.getElem?_eq_some_iff.1 hi
  obtain ⟨hk1, hk2⟩ := List.getElem?_eq_some_iff.1 hk
  intro e
  refine hne ((List.getElem_inj (i := i) (j := k) (h₀ := by rw [List.length_map]; exact hi1) (h₁ := by rw [List.length_map]; exact hk1) h.nd).1 ?_)
  rw [List.getElem_map, List.getElem_map, hi2, hk2, e]
theorem SC.wb {w0 v0 w : World} {S O : List Ent} {T : List Blk} (h : SC w0 v0 w S T O) : Below w0.heap.size w0 w := h.st.1
theorem tlen_n {w : World} (h : TbOk w t g ws) (hl : ws.length = n) : Calls Tryz.prog 18 #[.pointer (some ⟨t, 0, none⟩)] w fun e w' => e = .returned (.int .i64 (n : Int)) ∧ w' = w := by
  subst hl
  exact tlen_any h
theorem CS.sc (h : CS w0 w T) : SC w0 w w [] [] [] := SC.fresh h.bl
theorem awake10_s (h : CS w0 w T) : Calls Tryz.prog 10 #[] w fun e w' => e = .returned (.bool true) ∧ CS w0 w' T := by
  refine (awake10 w).mono ?_
  rintro e w' ⟨rfl, hb⟩
  exact ⟨rfl, h.below hb⟩
theorem new10_s (h : CS w0 w T) (hi : Il w A n c ws) (hm : mayW ws = 0) :
    Calls Tryz.prog 11 #[.slice A n c] w fun e w' => ∃ t g, e = .returned (.tuple #[.pointer (some ⟨t, 0, none⟩), .int .i64 0]) ∧ CS w0 w' (TB t g ws.length :: EN g ws :: T) := by
  refine (fnew_any hi).mono ?_
  rintro e w' (⟨_, t, g, rfl, hT, ht, hg, htg, hb⟩ | ⟨h1, _⟩)
  · refine ⟨t, g, rfl, ?_⟩
    have h1 := h.new (q := EN g ws) hb hT.en hg
    refine ⟨h1.bl, fun r hr => ?_, fun r hr => ?_, ?_⟩
    · rcases List.mem_cons.1 hr with e | e
      · rw [e]; exact hT.tb
      · exact h1.box r e
    · rcases List.mem_cons.1 hr with e | e
      · rw [e]; exact Nat.le_trans h.bl.size ht
      · exact h1.from_ r e
    · refine List.nodup_cons.2 ⟨fun hm => ?_, h1.nd⟩
      obtain ⟨r, hr, e⟩ := List.mem_map.1 hm
      have e : r.g = t := e
      rcases List.mem_cons.1 hr with e1 | e1
      · subst e1
        exact htg e.symm
      · have := BlkOk.lt (h.box r e1)
        omega
  · exact absurd hm h1
theorem new10_no (h : CS w0 w T) (hi : Il w A n c ws) {z : Int} (hm : mayW ws = z) (hz : ¬ z = 0) :
    Calls Tryz.prog 11 #[.slice A n c] w fun e w' => e = .returned (.tuple #[.pointer none, .int .i64 z]) ∧ CS w0 w' T := by
  subst hm
  refine (fnew_any hi).mono ?_
  rintro e w' (⟨h1, _⟩ | ⟨_, h1, hb⟩)
  · exact absurd h1 hz
  · exact ⟨h1, h.below hb⟩
theorem fnew_ok {w : World} (hi : Il w A n c ws) (hm : mayW ws = 0) : Calls Tryz.prog 11 #[.slice A n c] w (NewOk w ws) := by
  refine (fnew_any hi).mono ?_
  rintro e w' (⟨_, h1⟩ | ⟨h1, _⟩)
  · exact h1
  · exact absurd hm h1
theorem fnew_no {w : World} (hi : Il w A n c ws) {z : Int} (hm : mayW ws = z) (hz : ¬ z = 0) :
    Calls Tryz.prog 11 #[.slice A n c] w fun e w' => e = .returned (.tuple #[.pointer none, .int .i64 z]) ∧ Below w.heap.size w w' := by
  subst hm
  refine (fnew_any hi).mono ?_
  rintro e w' (⟨h1, _⟩ | ⟨_, h1, hb⟩)
  · exact absurd h1 hz
  · exact ⟨h1, hb⟩
theorem cnew10_no (h : CS w0 w T) (hl : l.length ≤ maxLen) (hB : isB l = false) :
    Calls Tryz.prog 21 #[.string ⟨l.toArray⟩] w fun e w' => e = .returned (.tuple #[.pointer none, .int .i64 3]) ∧ CS w0 w' T := by
  refine (new_no w l hl hB).mono ?_
  rintro e w' ⟨rfl, hb⟩
  exact ⟨rfl, h.below hb⟩
theorem sum10_s (h : CS w0 w T) (i j : Nat) (hi : T[i]? = some (TB t g ws.length)) (hj : T[j]? = some (EN g ws)) (hw : Wt ws) {s : Int} (hs : pre ws ws.length = s) :
    Calls Tryz.prog 19 #[.pointer (some ⟨t, 0, none⟩)] w fun e w' => e = .returned (.int .i64 s) ∧ CS w0 w' T := by
  refine (tsum_any (h.tb i hi j hj) hw.l1 hs).mono ?_
  rintro e w' ⟨rfl, rfl⟩
  exact ⟨rfl, h⟩
theorem draw10_s (h : CS w0 w T) (k : Nat) (hk : T[k]? = some (K gc l a o)) (hB : isB l = true) (ha : a ≤ l.length) (hm : m < 18446744073709551616) (hd : dr l a o m = (v, gd, a2, o2)) :
    Calls Tryz.prog 35 #[.pointer (some ⟨gc, 0, none⟩), .int .u64 (m : Nat)] w fun e w' => e = .returned (.tuple #[.int .u64 (v : Nat), .bool gd]) ∧ CS w0 w' (T.set k (K gc l a2 o2)) := by
  refine (draw_any (h.get k hk) hB ha hm hd).mono ?_
  rintro e w' ⟨rfl, hg, hq⟩
  exact ⟨rfl, h.turn k hk hg hq⟩
theorem tdraw_s (h : CS w0 w T) (i j k : Nat) (hi : T[i]? = some (TB t g ws.length)) (hj : T[j]? = some (EN g ws)) (hk : T[k]? = some (K gc l a o)) (h1 : i ≠ k) (h2 : j ≠ k) (hw : Wt ws) (hB : isB l = true) (ha : a ≤ l.length) (hm : pre ws ws.length = (m : Int)) (hd : dr l a o m = (v, gd, a2, o2)) (hq : (gd = true ∧ Pk ws (v : Int) q) ∨ (gd = false ∧ q = 0)) :
    Calls Tryz.prog 23 #[.pointer (some ⟨t, 0, none⟩), .pointer (some ⟨gc, 0, none⟩)] w fun e w' => e = .returned (.tuple #[.int .i64 (q : Int), .bool gd]) ∧ CS w0 w' (T.set k (K gc l a2 o2)) := by
  refine (tdraw_any (h.tb i hi j hj) hw (h.get k hk) hB ha hm hd (h.ne i k hi hk h1) (h.ne j k hj hk h2) hq).mono ?_
  rintro e w' ⟨rfl, hg, hc⟩
  exact ⟨rfl, h.turn k hk hg hc⟩
theorem pick10_ok (h : CS w0 w T) (i j : Nat) (hi : T[i]? = some (TB t g ws.length)) (hj : T[j]? = some (EN g ws)) (hw : Wt ws) {r : Int} (hp : Pk ws r q) :
    Calls Tryz.prog 13 #[.pointer (some ⟨t, 0, none⟩), .int .i64 r] w fun e w' => e = .returned (.tuple #[.int .i64 (q : Int), .int .i64 0]) ∧ CS w0 w' T := by
  refine (tpick_ok (h.tb i hi j hj) hw hp).mono ?_
  rintro e w' ⟨rfl, hb⟩
  exact ⟨rfl, h.below hb⟩
theorem pick10_no (h : CS w0 w T) (i j : Nat) (hi : T[i]? = some (TB t g ws.length)) (hj : T[j]? = some (EN g ws)) (hw : Wt ws) {r : Int} (hr : ¬ (0 ≤ r ∧ r < pre ws ws.length)) :
    Calls Tryz.prog 13 #[.pointer (some ⟨t, 0, none⟩), .int .i64 r] w fun e w' => e = .returned (.tuple #[.int .i64 ((0 : Nat) : Int), .int .i64 1]) ∧ CS w0 w' T := by
  refine (tpick_no (h.tb i hi j hj) hw hr).mono ?_
  rintro e w' ⟨rfl, hb⟩
  exact ⟨rfl, h.below hb⟩
/-- what a draw picks -/
theorem pk_of (hw : Wt ws) (hm : pre ws ws.length = (m : Int)) (hd : dr l a o m = (v, gd, a2, o2)) : ∃ q, (gd = true ∧ Pk ws (v : Int) q) ∨ (gd = false ∧ q = 0) := by
  rcases (dr_ways hd).2.2 with ⟨h1, h2, _⟩ | ⟨h1, _⟩
  · obtain ⟨q, hq⟩ := pk_some (ws := ws) (r := (v : Int)) (by omega) (by rw [hm]; omega)
    exact ⟨q, .inl ⟨h1, hq⟩⟩
  · exact ⟨0, .inr ⟨h1, rfl⟩⟩
end
end Go.Proofs.YtolfjhfmcgibbaaGreatDoor
