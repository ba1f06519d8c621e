/- The statements' spoil of a fraction: its rows written over; a state of rows that may be written over. -/
import Derived.Test.YtpokcocfdchfeaaGreatDoorRatG
namespace Go.Proofs.YtpokcocfdchfeaaGreatDoor
open Go.RowKit
set_option linter.unusedVariables false
set_option linter.unusedSimpArgs false
set_option maxRecDepth 20000
open N
/-- a row that may be written over: its block, all its room -/
def RowK (base : Nat) (w : World) (A : Option Addr) (n c : Nat) : Prop :=
  n ≤ c ∧ c ≤ maxLen ∧ ((A = none ∧ n = 0 ∧ c = 0) ∨ ∃ g' cur, A = some ⟨g', 0, none⟩ ∧ base ≤ g' ∧ w.heap[g']? = some (.cells cur 38 (0, 0)) ∧ cur.size = c)
theorem RowK.set {base : Nat} {w : World} {A : Option Addr} {n c : Nat} (h : RowK base w A n c) (g2 k : Nat) (u : Value) : RowK base (w.setCell ⟨g2, k, none⟩ u) A n c := by
  refine ⟨h.1, h.2.1, ?_⟩
  rcases h.2.2 with h1 | ⟨g', cur, h1, h2, h4, h5⟩
  · exact .inl h1
  · refine .inr ?_
    by_cases e : g' = g2
    · subst e
      refine ⟨g', cur.setIfInBounds k u, h1, h2, ?_, by rw [Array.size_setIfInBounds]; exact h5⟩
      simp [World.setCell, Array.getElem?_modify, h4]
    · exact ⟨g', cur, h1, h2, (Below.heap_setCell w ⟨g2, k, none⟩ u g' e).trans h4, h5⟩
theorem RowK.on {base : Nat} {w w' : World} {A : Option Addr} {n c : Nat} (h : RowK base w A n c) (hb : Below w.heap.size w w') : RowK base w' A n c := by
  refine ⟨h.1, h.2.1, ?_⟩
  rcases h.2.2 with h1 | ⟨g', cur, h1, h2, h4, h5⟩
  · exact .inl h1
  · have hlt : g' < w.heap.size := by
      rcases Nat.lt_or_ge g' w.heap.size with hlt | hge
      · exact hlt
      · rw [Array.getElem?_eq_none hge] at h4; cases h4
    exact .inr ⟨g', cur, h1, h2, (hb.block g' hlt).trans h4, h5⟩
theorem RowK.lt {base : Nat} {w : World} {A : Option Addr} {n c g : Nat} (h : RowK base w A n c) (e : (Value.slice A n c).ownBlock = some g) : g < w.heap.size := by
  rcases h.2.2 with ⟨h1, _⟩ | ⟨g', cur, h1, h2, h4, h5⟩
  · rw [h1] at e; cases e
  · rw [h1] at e
    have e : some g' = some g := e
    injection e with e
    subst e
    rcases Nat.lt_or_ge g' w.heap.size with hlt | hge
    · exact hlt
    · rw [Array.getElem?_eq_none hge] at h4; cases h4
theorem rowK_own {w : World} {base : Nat} {A : Option Addr} {n c : Nat} {xs : List Int} (h : N.Own w base A n c xs) : RowK base w A n c := by
  refine ⟨h.sl.cap, h.sl.max, ?_⟩
  rcases h.row.2 with ⟨e, e0⟩ | ⟨g', cap, cur, e, hb, hh, hnc, hm, hsz, ht⟩
  · cases e
    exact .inl ⟨rfl, e0, rfl⟩
  · cases e
    exact .inr ⟨g', cur, rfl, hb, hh, by omega⟩
/-- blocks that hold what they hold, rows that may be written over, apart from the blocks -/
structure RS (v0 w : World) (T : List Blk) (L : List (Option Addr × Nat × Nat)) : Prop where
  bl : Below v0.heap.size v0 w
  box : ∀ q ∈ T, BlkOk w q
  row : ∀ t ∈ L, RowK v0.heap.size w t.1 t.2.1 t.2.2
  apo : ∀ t ∈ L, ∀ q ∈ T, (Value.slice t.1 t.2.1 t.2.2).ownBlock ≠ some q.g
section
variable {w0 v0 w w' : World} {S O : List Ent} {T : List Blk} {L : List (Option Addr × Nat × Nat)} {A A' : Option Addr} {n c m d : Nat} {b : Bool}
theorem SC.rs (h : SC w0 v0 w S T O) : RS v0 w T (O.map fun t => (t.A, t.n, t.c)) := by
  refine ⟨h.bl, h.box, fun t ht => ?_, fun t ht q hq => ?_⟩
  · obtain ⟨e, he, rfl⟩ := List.mem_map.1 ht
    exact rowK_own (h.own e he)
  · obtain ⟨e, he, rfl⟩ := List.mem_map.1 ht
    exact h.apo e he q hq
theorem SC.rebase (h : SC w0 v0 w S T O) : SC w0 w w S T [] := ⟨h.st, Below.refl _ _, h.box, h.from_, h.nd, h.apart, (fun t ht => by cases ht), (fun t ht => by cases ht)⟩
theorem SC.back {u0 : World} (h : SC w0 u0 v0 S T O) {T' : List Blk} (h2 : RS v0 w T' L) : SC w0 u0 w S T O := h.below h2.bl
theorem RS.below (h : RS v0 w T L) (hb : Below w.heap.size w w') : RS v0 w' T L :=
  ⟨h.bl.trans (hb.mono h.bl.size), fun q hq => (h.box q hq).on hb, fun t ht => (h.row t ht).on hb, h.apo⟩
theorem RS.boxed (h : RS v0 w T L) {vs : List Value} {ty : TypeId} : RS v0 (w.alloc (.cells vs.toArray ty)) (⟨w.heap.size, vs, ty⟩ :: T) L := by
  have h1 := h.below ((Below.refl w.heap.size w).alloc (Nat.le_refl _) (.cells vs.toArray ty))
  refine ⟨h1.bl, fun q hq => ?_, h1.row, fun t ht q hq => ?_⟩
  · rcases List.mem_cons.1 hq with e | e
    · subst e
      exact heap_alloc_new w _
    · exact h1.box q e
  · rcases List.mem_cons.1 hq with e | e
    · subst e
      intro e
      exact Nat.lt_irrefl _ ((h.row t ht).lt e)
    · exact h.apo t ht q e
theorem RS.set (h : RS v0 w T L) {g2 : Nat} (h1 : (some ⟨g2, 0, none⟩, n, c) ∈ L) (hg : v0.heap.size ≤ g2) (k : Nat) (u : Value) : RS v0 (w.setCell ⟨g2, k, none⟩ u) T L := by
  refine ⟨h.bl.setCell (p := ⟨g2, k, none⟩) hg _, fun q hq => (h.box q hq).far (fun e => ?_) u, fun t ht => (h.row t ht).set g2 k u, h.apo⟩
  exact h.apo _ h1 q hq (by show some g2 = some q.g; rw [e])
theorem RS.cs3 (h : RS v0 w T L) (i : Nat) {g : Nat} {x0 x1 x2 : Value} {ty : TypeId} (hi : T[i]? = some ⟨g, [x0, x1, x2], ty⟩) : w.cell? ⟨g, 0, none⟩ = some x0 ∧ w.cell? ⟨g, 1, none⟩ = some x1 ∧ w.cell? ⟨g, 2, none⟩ = some x2 :=
  ⟨(h.box _ (List.mem_of_getElem? hi)).cell rfl, (h.box _ (List.mem_of_getElem? hi)).cell rfl, (h.box _ (List.mem_of_getElem? hi)).cell rfl⟩
theorem RS.at_ (h : RS v0 w T L) (h1 : (A, n, c) ∈ L) {j : Nat} (hj : j < n) : ∃ g' x, A = some ⟨g', 0, none⟩ ∧ v0.heap.size ≤ g' ∧ w.cell? ⟨g', j, none⟩ = some x ∧ w.frozen? ⟨g', j, none⟩ = false := by
  obtain ⟨r1, r2, r3⟩ := h.row _ h1
  simp only at r1 r2 r3
  rcases r3 with ⟨_, e, _⟩ | ⟨g', cur, e, e2, e4, e5⟩
  · omega
  · refine ⟨g', cur[j], e, e2, ?_, ?_⟩
    · rw [cell_of_row _ _ _ _ _ _ e4, Array.getElem?_eq_getElem (by omega)]
    · simp [World.frozen?, e4]
set_option maxHeartbeats 1000000 in
theorem spoil_r (h : RS v0 w T L) (h1 : (A, n, c) ∈ L) (h2 : (A', m, d) ∈ L) :
    Calls Tryz.prog 9 #[.agg #[.bool b, .slice A n c, .slice A' m d]] w fun e w' => (∃ v, e = .returned v) ∧ RS v0 w' T L := by
  have r1 := (h.row _ h1).1
  have r2 := (h.row _ h1).2.1
  have r3 := (h.row _ h2).1
  have r4 := (h.row _ h2).2.1
  simp only at r1 r2 r3 r4
  unfold maxLen at r2 r4
  have HL1 := Lib.hid h1
  have HL2 := Lib.hid h2
  have hR := h.boxed (vs := [.bool b, .slice A n c, .slice A' m d]) (ty := 27)
  have HR := Lib.hid hR
  clear h1 h2 h hR
  go_enter Tryz.func9, Tryz.ntmps9
  go_wp2_with fail
  go_loopw [2] (fun i wr => ∃ k : Nat, k ≤ n ∧ i = .int .i64 k ∧ RS v0 wr (⟨w.heap.size, [.bool b, .slice A n c, .slice A' m d], 27⟩ :: T) L) (fun i _ => n - (intOf i).toNat)
  case atStart => exact ⟨0, Nat.zero_le _, rfl, HR.out⟩
  case round =>
    obtain ⟨k, hk, rfl, hI⟩ := hrel
    obtain ⟨wo, rfl⟩ : ∃ wo : World, wo = wr := ⟨_, rfl⟩
    have HI := Lib.hid hI
    clear hI
    obtain ⟨x0, x1, x2⟩ := HI.out.cs3 0 rfl
    by_cases hlt : k < n
    · obtain ⟨g', x, rfl, e2, c1, f1⟩ := HI.out.at_ HL1.out hlt
      have HE := Lib.hid e2
      clear e2
      go_wp2
      go_roundw
      case rel => exact ⟨k + 1, by omega, by go_num, HI.out.set HL1.out HE.out _ _⟩
      case measure => simp [intOf]; omega
    · obtain rfl : n = k := by omega
      go_wp2_with fail
      clear x0 x1 x2
      go_loopw [3] (fun i wr => ∃ k : Nat, k ≤ m ∧ i = .int .i64 k ∧ RS v0 wr (⟨w.heap.size, [.bool b, .slice A n c, .slice A' m d], 27⟩ :: T) L) (fun i _ => m - (intOf i).toNat)
      case atStart => exact ⟨0, Nat.zero_le _, rfl, HI.out⟩
      case round =>
        obtain ⟨k, hk, rfl, hI⟩ := hrel
        obtain ⟨wo, rfl⟩ : ∃ wo : World, wo = wr := ⟨_, rfl⟩
        have HI2 := Lib.hid hI
        clear hI
        obtain ⟨x0, x1, x2⟩ := HI2.out.cs3 0 rfl
        by_cases hlt : k < m
        · obtain ⟨g', x, rfl, e2, c1, f1⟩ := HI2.out.at_ HL2.out hlt
          have HE := Lib.hid e2
          clear e2
          go_wp2
          go_roundw
          case rel => exact ⟨k + 1, by omega, by go_num, HI2.out.set HL2.out HE.out _ _⟩
          case measure => simp [intOf]; omega
        · obtain rfl : m = k := by omega
          go_wp2_with fail
          go_end0
          exact ⟨⟨_, rfl⟩, HI2.out.bl, fun q hq => HI2.out.box q (List.mem_cons_of_mem _ hq), HI2.out.row, fun t ht q hq => HI2.out.apo t ht q (List.mem_cons_of_mem _ hq)⟩
end
end Go.Proofs.YtpokcocfdchfeaaGreatDoor
