/- Row of 1s; takes by what a Take is known to tell, and of nil. -/
import Derived.Test.YtifobfbeddlglaaDoorCurAwake
namespace Go.Proofs.YtifobfbeddlglaaDoor
open Go.RowKit Go.Shelf
set_option linter.unusedVariables false
set_option linter.unusedSimpArgs false
set_option maxRecDepth 20000
open N
section
variable {w0 w : World} {T : List Blk} {g x a : Nat} {l : List UInt8} {o : Bool}
theorem takes_n (h : CS w0 w T) (i : Nat) (hi : T[i]? = some (K g l a o)) (hB : isB l = true) (ha : a ≤ l.length) {n : Int} {v a2 : Nat} {gd o2 : Bool} (hk : Tk l a o n v gd a2 o2) :
    Calls Tryd.prog 16 #[.pointer (some ⟨g, 0, none⟩), .int .i64 n, .int .u64 (v : Nat), .bool gd] w fun e w' => e = .returned (.bool true) ∧ CS w0 w' (T.set i (K g l a2 o2)) := by
  obtain ⟨e1, e2, rfl, rfl⟩ := hk
  exact takes_s h i hi hB ha n (by rw [e1]) e2
theorem takes_nil (h : CS w0 w T) (n : Int) :
    Calls Tryd.prog 16 #[.pointer none, .int .i64 n, .int .u64 0, .bool false] w fun e w' => e = .returned (.bool true) ∧ CS w0 w' T := by
  have hS := Lib.hid h
  clear h
  go_enter Tryd.func16, Tryd.ntmps16
  go_wp2_with (go_at_call 12; refine (take_nil _ n).mono ?_; rintro e w1 ⟨rfl, hb⟩; have H1 := Lib.hid (hS.out.below hb); clear hb)
  go_ret
  exact ⟨rfl, H1.out⟩
end
theorem ones_set (n k : Nat) (h : k < n) : (List.replicate k (49 : UInt8) ++ List.replicate (n - k) 0).set k 49 = List.replicate (k + 1) 49 ++ List.replicate (n - (k + 1)) 0 := by
  rw [show n - k = (n - (k + 1)) + 1 by omega, List.replicate_succ (n := n - (k + 1)), List.set_append_right _ _ (by simp), List.length_replicate, Nat.sub_self, List.set_cons_zero, List.replicate_succ' (n := k), List.append_assoc]
  rfl
theorem ones_any (w : World) (n : Nat) (hn : n ≤ 4096) :
    Calls Tryd.prog 15 #[.int .i64 n] w fun e w' => e = .returned (.string ⟨(List.replicate n 49).toArray⟩) ∧ Below w.heap.size w w' := by
  have hmk := makeB_run n (by omega)
  go_enter Tryd.func15, Tryd.ntmps15
  go_wp2
  clear hmk
  go_loopw [4] (fun i wr => ∃ k : Nat, i = .int .i64 k ∧ k ≤ n ∧ ArrB wr w.heap.size (List.replicate k 49 ++ List.replicate (n - k) 0) ∧ Below w.heap.size w wr) (fun i _ => n - (intOf i).toNat)
  case atStart =>
    refine ⟨0, rfl, Nat.zero_le _, ?_, (Below.refl _ w).alloc (Nat.le_refl _) _⟩
    have := ArrB.made w n
    simpa using this
  case round =>
    obtain ⟨k, rfl, hk, hA, hb⟩ := hrel
    obtain ⟨wj, rfl⟩ : ∃ wj : World, wj = wr := ⟨_, rfl⟩
    have hlen : (List.replicate k (49 : UInt8) ++ List.replicate (n - k) 0).length = n := by simp; omega
    by_cases hlt : k < n
    · have hcz := hA.cell (k := k) (by omega)
      have hfz := hA.frozen k
      have HBj := Lib.hid hb
      have HS := Lib.hid (hA.set k 49)
      clear hA hb hlen
      go_wp2
      go_round
      case rel =>
        refine ⟨k + 1, by go_num, by omega, ?_, HBj.out.setCell (Nat.le_refl _) _⟩
        have := HS.out
        rw [ones_set n k hlt] at this
        exact this
      case measure => simp [intOf]; omega
    · obtain rfl : k = n := by omega
      have hsb := str_back _ _ _ _ wj (hA.sl hlen (by unfold maxLen; omega))
      rw [Nat.sub_self, List.replicate_zero, List.append_nil] at hsb
      unfold str at hsb
      have HBj := Lib.hid hb
      clear hA hb hlen
      go_wp2
      go_ret
      exact ⟨rfl, HBj.out⟩
theorem ones_s {w0 w : World} {T : List Blk} (h : CS w0 w T) (n : Nat) (hn : n ≤ 4096) {l : List UInt8} (hl : List.replicate n 49 = l) :
    Calls Tryd.prog 15 #[.int .i64 n] w fun e w' => e = .returned (.string ⟨l.toArray⟩) ∧ CS w0 w' T := by
  subst hl
  refine (ones_any w n hn).mono ?_
  rintro e w' ⟨rfl, hb⟩
  exact ⟨rfl, h.below hb⟩
end Go.Proofs.YtifobfbeddlglaaDoor
