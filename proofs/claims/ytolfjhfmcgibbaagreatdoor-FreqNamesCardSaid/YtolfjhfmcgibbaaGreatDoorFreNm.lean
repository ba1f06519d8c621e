/- What a closed statement of layer 10 needs: rows of weights and errors, calls of nil and of what nobody made, over a state CS. -/
import Derived.Test.YtolfjhfmcgibbaaGreatDoorFreState
import Derived.Test.YtolfjhfmcgibbaaGreatDoorFreApp
namespace Go.Proofs.YtolfjhfmcgibbaaGreatDoor
open Go.RowKit Go.Shelf
set_option linter.unusedVariables false
set_option linter.unusedSimpArgs false
set_option maxRecDepth 20000
open N
namespace N
/-- rows of weights and what is wrong of them -/
def RW (g n : Nat) (w : World) : Prop := ∀ k, k < n → ∃ (A : Option Addr) (m c : Nat) (xs : List Int) (e : Int), w.cell? ⟨g, k * 2, none⟩ = some (.slice A m c) ∧ w.cell? ⟨g, k * 2 + 1, none⟩ = some (.int .i64 e) ∧ Il w A m c xs ∧ mayW xs = e
theorem RW.on {g n : Nat} {w w' : World} (h : RW g n w) (hb : Below w.heap.size w w') : RW g n w' := by
  intro k hk
  obtain ⟨A, m, c, xs, e, h0, h1, h2, h3⟩ := h k hk
  have hg : g < w.heap.size := World.block_lt_of_cell? w _ h0
  exact ⟨A, m, c, xs, e, (hb.cell hg).trans h0, (hb.cell hg).trans h1, h2.below hb, h3⟩
theorem rw_of (w : World) (C : Array Value) (t : TypeId) (n : Nat)
    (h : ∀ k, k < n → ∃ (A : Option Addr) (m c : Nat) (xs : List Int) (e : Int), C[k * 2]? = some (.slice A m c) ∧ C[k * 2 + 1]? = some (.int .i64 e) ∧ Il w A m c xs ∧ mayW xs = e) :
    RW w.heap.size n (w.alloc (.cells C t)) := by
  intro k hk
  obtain ⟨A, m, c, xs, e, h0, h1, h2, h3⟩ := h k hk
  exact ⟨A, m, c, xs, e, by rw [World.cell?_alloc_new]; exact h0, by rw [World.cell?_alloc_new]; exact h1, h2.below ((Below.refl _ w).alloc (Nat.le_refl _) _), h3⟩
theorem rw_at (w : World) (C : Array Value) (t : TypeId) (n G : Nat) (hG : w.heap.size = G)
    (h : ∀ k, k < n → ∃ (A : Option Addr) (m c : Nat) (xs : List Int) (e : Int), C[k * 2]? = some (.slice A m c) ∧ C[k * 2 + 1]? = some (.int .i64 e) ∧ Il w A m c xs ∧ mayW xs = e) :
    RW G n (w.alloc (.cells C t)) := by
  subst hG
  exact rw_of w C t n h
theorem Il.lit1 {w : World} {g : Nat} {ty : TypeId} {x : Int} (h : BlkOk w ⟨g, [.int .i64 x], ty⟩) (hx : -9223372036854775808 ≤ x ∧ x ≤ 9223372036854775807) : Il w (some ⟨g, 0, Option.none⟩) 1 1 [x] :=
  Il.of_blk h rfl (Nat.le_refl _) (by decide) (fun y hy => by rw [List.mem_singleton.1 hy]; exact hx) (fun j hj => by
    match j, hj with
    | 0, _ => rfl)
theorem Il.lit2 {w : World} {g : Nat} {ty : TypeId} {x y : Int} (h : BlkOk w ⟨g, [.int .i64 x, .int .i64 y], ty⟩) (hx : -9223372036854775808 ≤ x ∧ x ≤ 9223372036854775807) (hy : -9223372036854775808 ≤ y ∧ y ≤ 9223372036854775807) : Il w (some ⟨g, 0, Option.none⟩) 2 2 [x, y] :=
  Il.of_blk h rfl (Nat.le_refl _) (by decide) (fun z hz => by
    simp only [List.mem_cons, List.not_mem_nil, or_false] at hz
    rcases hz with rfl | rfl
    · exact hx
    · exact hy) (fun j hj => by
    match j, hj with
    | 0, _ => rfl
    | 1, _ => rfl)
theorem Il.lit3 {w : World} {g : Nat} {ty : TypeId} {x y z : Int} (h : BlkOk w ⟨g, [.int .i64 x, .int .i64 y, .int .i64 z], ty⟩) (hx : -9223372036854775808 ≤ x ∧ x ≤ 9223372036854775807) (hy : -9223372036854775808 ≤ y ∧ y ≤ 9223372036854775807) (hz : -9223372036854775808 ≤ z ∧ z ≤ 9223372036854775807) : Il w (some ⟨g, 0, Option.none⟩) 3 3 [x, y, z] :=
  Il.of_blk h rfl (Nat.le_refl _) (by decide) (fun u hu => by
    simp only [List.mem_cons, List.not_mem_nil, or_false] at hu
    rcases hu with rfl | rfl | rfl
    · exact hx
    · exact hy
    · exact hz) (fun j hj => by
    match j, hj with
    | 0, _ => rfl
    | 1, _ => rfl
    | 2, _ => rfl)
theorem Il.rep {w : World} {g n : Nat} {ty : TypeId} {x : Int} (h : BlkOk w ⟨g, row n (fun _ => x), ty⟩) (hn : n ≤ 4398046511104) (hx : -9223372036854775808 ≤ x ∧ x ≤ 9223372036854775807) : Il w (some ⟨g, 0, Option.none⟩) n n (List.replicate n x) := by
  refine Il.of_blk h (List.length_replicate ..) (Nat.le_refl _) (by unfold maxLen; omega) (fun y hy => by rw [(List.mem_replicate.1 hy).2]; exact hx) (fun j hj => ?_)
  rw [row_get hj, List.getD_eq_getElem?_getD, List.getElem?_replicate, if_pos hj]
  rfl
end N
section
variable {w0 w w' : World} {T : List Blk} {t g gc a n : Nat} {o : Bool} {l : List UInt8} {ws : List Int} {ty : TypeId} {r : Int}
theorem CS.al (h : CS w0 w T) (o : Obj) : CS w0 (w.alloc o) T := h.below ((Below.refl _ w).alloc (Nat.le_refl _) _)
theorem CS.blk (h : CS w0 w T) (vs : List Value) (ty : TypeId) : CS w0 (w.alloc (.cells vs.toArray ty)) (⟨w.heap.size, vs, ty⟩ :: T) := h.new ((Below.refl _ w).alloc (Nat.le_refl _) _) (heap_alloc_new w _) (Nat.le_refl _)
theorem CS.of_blk (hb : Below w0.heap.size w0 w) : CS w0 w [] := ⟨hb, (fun q hq => by cases hq), (fun q hq => by cases hq), List.nodup_nil⟩
theorem picked10_s {p : Nat} {z : Int} (h : CS w0 w T) (i j : Nat) (hi : T[i]? = some (TB t g ws.length)) (hj : T[j]? = some (EN g ws)) (hw : Wt ws) (hp : Pk ws r p) (hz : (p : Int) = z) :
    Calls Tryz.prog 29 #[.pointer (some ⟨t, 0, none⟩), .int .i64 r, .int .i64 z] w fun e w' => e = .returned (.bool true) ∧ CS w0 w' T := by
  refine (picked_ok (h.tb i hi j hj) hw hp hz).mono ?_
  rintro e w' ⟨rfl, hb⟩
  exact ⟨rfl, h.below hb⟩
theorem share10_no (h : CS w0 w T) (i j : Nat) (hi : T[i]? = some (TB t g ws.length)) (hj : T[j]? = some (EN g ws)) (hw : Wt ws) (hr : ¬ (0 ≤ r ∧ r < ws.length)) :
    Calls Tryz.prog 15 #[.pointer (some ⟨t, 0, none⟩), .int .i64 r] w fun e w' => e = .returned (.tuple #[.agg #[.bool false, .slice none 0 0, .slice none 0 0], .int .i64 1]) ∧ CS w0 w' T := by
  refine (tshare_no (h.tb i hi j hj) hw hr).mono ?_
  rintro e w' ⟨rfl, hb⟩
  exact ⟨rfl, h.below hb⟩
theorem pick10_nil (h : CS w0 w T) :
    Calls Tryz.prog 13 #[.pointer none, .int .i64 r] w fun e w' => e = .returned (.tuple #[.int .i64 0, .int .i64 2]) ∧ CS w0 w' T := by
  refine (tpick_nil w r).mono ?_
  rintro e w' ⟨rfl, hb⟩
  exact ⟨rfl, h.below hb⟩
theorem pick10_fresh (h : CS w0 w T) (i : Nat) (hi : T[i]? = some ⟨t, [.slice none 0 0], ty⟩) :
    Calls Tryz.prog 13 #[.pointer (some ⟨t, 0, none⟩), .int .i64 r] w fun e w' => e = .returned (.tuple #[.int .i64 0, .int .i64 2]) ∧ CS w0 w' T := by
  refine (tpick_fresh (h.get i hi) r).mono ?_
  rintro e w' ⟨rfl, hb⟩
  exact ⟨rfl, h.below hb⟩
theorem share10_nil (h : CS w0 w T) :
    Calls Tryz.prog 15 #[.pointer none, .int .i64 r] w fun e w' => e = .returned (.tuple #[.agg #[.bool false, .slice none 0 0, .slice none 0 0], .int .i64 2]) ∧ CS w0 w' T := by
  refine (tshare_zero (z := r) (fun W hb => tlen_nil W)).mono ?_
  rintro e w' ⟨rfl, hb⟩
  exact ⟨rfl, h.below hb⟩
theorem share10_fresh (h : CS w0 w T) (i : Nat) (hi : T[i]? = some ⟨t, [.slice none 0 0], ty⟩) :
    Calls Tryz.prog 15 #[.pointer (some ⟨t, 0, none⟩), .int .i64 r] w fun e w' => e = .returned (.tuple #[.agg #[.bool false, .slice none 0 0, .slice none 0 0], .int .i64 2]) ∧ CS w0 w' T := by
  refine (tshare_zero (z := r) (fun W hb => tlen_blk (n := 0) ((h.get i hi).on hb))).mono ?_
  rintro e w' ⟨rfl, hb⟩
  exact ⟨rfl, h.below hb⟩
theorem draw10_nil (h : CS w0 w T) (k : Nat) (hk : T[k]? = some (K gc l a o)) (hB : isB l = true) (ha : a ≤ l.length) :
    Calls Tryz.prog 23 #[.pointer none, .pointer (some ⟨gc, 0, none⟩)] w fun e w' => e = .returned (.tuple #[.int .i64 0, .bool false]) ∧ CS w0 w' (T.set k (K gc l a o)) := by
  refine (tdraw_zero (tsum_nil w) (h.get k hk) hB ha).mono ?_
  rintro e w' ⟨rfl, hg, hc⟩
  exact ⟨rfl, h.turn k hk hg hc⟩
theorem draw10_fresh (h : CS w0 w T) (i k : Nat) (hi : T[i]? = some ⟨t, [.slice none 0 0], ty⟩) (hk : T[k]? = some (K gc l a o)) (hB : isB l = true) (ha : a ≤ l.length) :
    Calls Tryz.prog 23 #[.pointer (some ⟨t, 0, none⟩), .pointer (some ⟨gc, 0, none⟩)] w fun e w' => e = .returned (.tuple #[.int .i64 0, .bool false]) ∧ CS w0 w' (T.set k (K gc l a o)) := by
  refine (tdraw_zero (tsum_fresh (h.get i hi)) (h.get k hk) hB ha).mono ?_
  rintro e w' ⟨rfl, hg, hc⟩
  exact ⟨rfl, h.turn k hk hg hc⟩
end
end Go.Proofs.YtolfjhfmcgibbaaGreatDoor
