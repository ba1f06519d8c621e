/- The calls of layer 8 over a state of cursors. -/
import Derived.Test.YtfdpddlefobcpaaGreatDoorCurRef
namespace Go.Proofs.YtfdpddlefobcpaaGreatDoor
open Go.RowKit Go.Shelf
set_option linter.unusedVariables false
set_option linter.unusedSimpArgs false
set_option maxRecDepth 20000
open N
/-- a cursor, and one of the document's -/
def K (g : Nat) (l : List UInt8) (a : Nat) (o : Bool) : Blk := ⟨g, cu l a o, 89⟩
def R (g : Nat) (l : List UInt8) (a : Nat) (o : Bool) : Blk := ⟨g, cu l a o, 42⟩
theorem ctake_any {w : World} {g a : Nat} {l : List UInt8} {o : Bool} (h : CuOk w g l a o) (hB : isB l = true) (ha : a ≤ l.length) (n : Int) :
    Calls Tryz.prog 51 #[.pointer (some ⟨g, 0, none⟩), .int .i64 n] w fun e w' => e = .returned (.tuple #[.int .u64 (tkV l a o n : Nat), .bool (tkG l a o n)]) ∧ w.grownBy w' (some g) ∧ CuOk w' g l (tkA l a o n) (tkO l a o n) := by
  obtain ⟨hl, hb⟩ := isB_iff.1 hB
  rcases tk_ways l a o n with h1 | ⟨rfl, h2, h3, h4⟩ | ⟨rfl, k, rfl, h3, h4⟩
  · obtain ⟨e1, e2, e3, e4⟩ := tk_bad h1
    rw [e1, e2, e3, e4]
    refine (take_bad h h1).mono ?_
    rintro e w' ⟨rfl, hb⟩
    exact ⟨rfl, grownBy_below hb _, h.on hb⟩
  · obtain ⟨e1, e2, e3, e4⟩ := tk_over h2 h3 h4
    rw [e1, e2, e3, e4]
    exact take_over h hl ha h2 h3 h4
  · obtain ⟨e1, e2, e3, e4⟩ := tk_good (l := l) (a := a) h3 h4
    rw [e1, e2, e3, e4]
    exact take_good h hl hb h3 h4
theorem rtake_any {w : World} {g a : Nat} {l : List UInt8} {o : Bool} (h : RuOk w g l a o) (hB : isB l = true) (ha : a ≤ l.length) (n : Int) :
    Calls Tryz.prog 59 #[.pointer (some ⟨g, 0, none⟩), .int .i64 n] w fun e w' => e = .returned (.tuple #[.int .u64 (tkV l a o n : Nat), .bool (tkG l a o n)]) ∧ w.grownBy w' (some g) ∧ RuOk w' g l (tkA l a o n) (tkO l a o n) := by
  obtain ⟨hl, hb⟩ := isB_iff.1 hB
  rcases tk_ways l a o n with h1 | ⟨rfl, h2, h3, h4⟩ | ⟨rfl, k, rfl, h3, h4⟩
  · obtain ⟨e1, e2, e3, e4⟩ := tk_bad h1
    rw [e1, e2, e3, e4]
    refine (rtake_bad h h1).mono ?_
    rintro e w' ⟨rfl, hb⟩
    exact ⟨rfl, grownBy_below hb _, h.on hb⟩
  · obtain ⟨e1, e2, e3, e4⟩ := tk_over h2 h3 h4
    rw [e1, e2, e3, e4]
    exact rtake_over h hl ha h2 h3 h4
  · obtain ⟨e1, e2, e3, e4⟩ := tk_good (l := l) (a := a) h3 h4
    rw [e1, e2, e3, e4]
    exact rtake_good h hl hb h3 h4
/-- what a Take of n tells, and leaves, by name -/
def Tk (l : List UInt8) (a : Nat) (o : Bool) (n : Int) (v : Nat) (gd : Bool) (a2 : Nat) (o2 : Bool) : Prop := tkV l a o n = v ∧ tkG l a o n = gd ∧ tkA l a o n = a2 ∧ tkO l a o n = o2
theorem tk_some {l : List UInt8} {a : Nat} (ha : a ≤ l.length) (o : Bool) (n : Int) : ∃ v gd a2 o2, Tk l a o n v gd a2 o2 ∧ a2 ≤ l.length := ⟨_, _, _, _, ⟨rfl, rfl, rfl, rfl⟩, tkA_le ha⟩
theorem Tk.ways {l : List UInt8} {a a2 v : Nat} {o o2 gd : Bool} {n : Int} (h : Tk l a o n v gd a2 o2) :
    (gd = false ∧ v = 0 ∧ a2 = a ∧ o2 = o ∧ (o = true ∨ n < 0 ∨ 64 < n)) ∨ (o = false ∧ gd = false ∧ v = 0 ∧ a2 = a ∧ o2 = true ∧ 0 ≤ n ∧ n ≤ 64 ∧ (l.length : Int) < a + n) ∨
      (o = false ∧ gd = true ∧ o2 = false ∧ ∃ k : Nat, n = k ∧ k ≤ 64 ∧ a2 = a + k ∧ a + k ≤ l.length ∧ v = numB ((l.drop a).take k)) := by
  obtain ⟨rfl, rfl, rfl, rfl⟩ := h
  rcases tk_ways l a o n with h1 | ⟨rfl, h2, h3, h4⟩ | ⟨rfl, k, rfl, h3, h4⟩
  · obtain ⟨e1, e2, e3, e4⟩ := tk_bad h1
    exact .inl ⟨e1, e2, e3, e4, h1⟩
  · obtain ⟨e1, e2, e3, e4⟩ := tk_over h2 h3 h4
    exact .inr (.inl ⟨rfl, e1, e2, e3, e4, h2, h3, h4⟩)
  · obtain ⟨e1, e2, e3, e4⟩ := tk_good (l := l) (a := a) h3 h4
    exact .inr (.inr ⟨rfl, e1, e4, k, rfl, h3, e3, h4, e2⟩)
theorem Tk.bad {l : List UInt8} {a : Nat} {o : Bool} {n : Int} (h : o = true ∨ n < 0 ∨ 64 < n) : Tk l a o n 0 false a o := by
  obtain ⟨e1, e2, e3, e4⟩ := tk_bad (l := l) (a := a) h
  exact ⟨e2, e1, e3, e4⟩
theorem Tk.over {l : List UInt8} {a : Nat} {n : Int} (h0 : 0 ≤ n) (h1 : n ≤ 64) (h2 : (l.length : Int) < a + n) : Tk l a false n 0 false a true := by
  obtain ⟨e1, e2, e3, e4⟩ := tk_over (l := l) (a := a) (o := false) h0 h1 h2
  exact ⟨e2, e1, e3, e4⟩
theorem Tk.good {l : List UInt8} {a k : Nat} {v : Nat} (h1 : k ≤ 64) (h2 : a + k ≤ l.length) (hv : numB ((l.drop a).take k) = v) : Tk l a false k v true (a + k) false := by
  obtain ⟨e1, e2, e3, e4⟩ := tk_good (l := l) (a := a) h1 h2
  exact ⟨e2.trans hv, e1, e3, e4⟩
/-- bits behind change nothing of what is read, where it is not over then -/
theorem Tk.more {l m : List UInt8} {a a2 v : Nat} {gd : Bool} {n : Int} (h : Tk l a false n v gd a2 false) : Tk (l ++ m) a false n v gd a2 false := by
  rcases h.ways with ⟨rfl, rfl, rfl, _, h1⟩ | ⟨_, _, _, _, h1, _⟩ | ⟨_, rfl, _, k, rfl, h3, rfl, h4, rfl⟩
  · exact Tk.bad h1
  · cases h1
  · refine Tk.good h3 (by rw [List.length_append]; omega) ?_
    rw [List.drop_append_of_le_length (by omega), List.take_append_of_le_length (by rw [List.length_drop]; omega)]
/-- what is left of a cursor by a row of Takes -/
def runC (l : List UInt8) (s : Nat × Bool) (zs : List Int) : Nat × Bool := zs.foldl (fun s n => (tkA l s.1 s.2 n, tkO l s.1 s.2 n)) s
theorem runC_succ {l : List UInt8} {s : Nat × Bool} {zs : List Int} {k : Nat} {z : Int} {a a2 v : Nat} {o o2 gd : Bool} (hz : zs[k]? = some z) (h : runC l s (zs.take k) = (a, o)) (ht : Tk l a o z v gd a2 o2) : runC l s (zs.take (k + 1)) = (a2, o2) := by
  obtain ⟨hk, e⟩ := List.getElem?_eq_some_iff.1 hz
  rw [List.take_succ_eq_append_getElem hk, e]
  unfold runC at h ⊢
  rw [List.foldl_append, h]
  obtain ⟨_, _, e1, e2⟩ := ht
  simp [e1, e2]
section
variable {w0 w : World} {T : List Blk} {g x a : Nat} {l : List UInt8} {o : Bool}
theorem new_s_no (h : CS w0 w T) (hl : l.length ≤ 2000) (hB : isB l = false) :
    Calls Tryz.prog 10 #[.string ⟨l.toArray⟩] w fun e w' => e = .returned (.tuple #[.pointer none, .int .i64 3]) ∧ CS w0 w' T := by
  refine (new_no w l (by unfold maxLen; omega) hB).mono ?_
  rintro e w' ⟨rfl, hb⟩
  exact ⟨rfl, h.below hb⟩
theorem new_s (h : CS w0 w T) (hB : isB l = true) :
    Calls Tryz.prog 10 #[.string ⟨l.toArray⟩] w fun e w' => ∃ g, e = .returned (.tuple #[.pointer (some ⟨g, 0, none⟩), .int .i64 0]) ∧ CS w0 w' (K g l 0 false :: T) := by
  refine (new_yes w l hB).mono ?_
  rintro e w' ⟨g, rfl, hg, hq, hb⟩
  exact ⟨g, rfl, h.new (q := K g l 0 false) hb hq hg⟩
theorem rnew_s_no (h : CS w0 w T) (hl : l.length ≤ 2000) (hB : isB l = false) :
    Calls Tryz.prog 11 #[.string ⟨l.toArray⟩] w fun e w' => e = .returned (.tuple #[.pointer none, .int .i64 3]) ∧ CS w0 w' T := by
  refine (rnew_no w l (by unfold maxLen; omega) hB).mono ?_
  rintro e w' ⟨rfl, rfl⟩
  exact ⟨rfl, h⟩
theorem rnew_s (h : CS w0 w T) (hB : isB l = true) :
    Calls Tryz.prog 11 #[.string ⟨l.toArray⟩] w fun e w' => ∃ g, e = .returned (.tuple #[.pointer (some ⟨g, 0, none⟩), .int .i64 0]) ∧ CS w0 w' (R g l 0 false :: T) := by
  refine (rnew_yes w l hB).mono ?_
  rintro e w' ⟨g, rfl, hg, hq, hb⟩
  exact ⟨g, rfl, h.new (q := R g l 0 false) hb hq hg⟩
theorem take_s (h : CS w0 w T) (i : Nat) (hi : T[i]? = some (K g l a o)) (hB : isB l = true) (ha : a ≤ l.length) (n : Int) :
    Calls Tryz.prog 51 #[.pointer (some ⟨g, 0, none⟩), .int .i64 n] w fun e w' => e = .returned (.tuple #[.int .u64 (tkV l a o n : Nat), .bool (tkG l a o n)]) ∧ CS w0 w' (T.set i (K g l (tkA l a o n) (tkO l a o n))) := by
  refine (ctake_any (h.get i hi) hB ha n).mono ?_
  rintro e w' ⟨rfl, hg, hq⟩
  exact ⟨rfl, h.turn i hi hg hq⟩
theorem rtake_s (h : CS w0 w T) (i : Nat) (hi : T[i]? = some (R g l a o)) (hB : isB l = true) (ha : a ≤ l.length) (n : Int) :
    Calls Tryz.prog 59 #[.pointer (some ⟨g, 0, none⟩), .int .i64 n] w fun e w' => e = .returned (.tuple #[.int .u64 (tkV l a o n : Nat), .bool (tkG l a o n)]) ∧ CS w0 w' (T.set i (R g l (tkA l a o n) (tkO l a o n))) := by
  refine (rtake_any (h.get i hi) hB ha n).mono ?_
  rintro e w' ⟨rfl, hg, hq⟩
  exact ⟨rfl, h.turn i hi hg hq⟩
theorem take_n (h : CS w0 w T) (i : Nat) (hi : T[i]? = some (K g l a o)) (hB : isB l = true) (ha : a ≤ l.length) {n : Int} {v a2 : Nat} {gd o2 : Bool} (hk : Tk l a o n v gd a2 o2) :
    Calls Tryz.prog 51 #[.pointer (some ⟨g, 0, none⟩), .int .i64 n] w fun e w' => e = .returned (.tuple #[.int .u64 (v : Nat), .bool gd]) ∧ CS w0 w' (T.set i (K g l a2 o2)) := by
  obtain ⟨rfl, rfl, rfl, rfl⟩ := hk
  exact take_s h i hi hB ha n
theorem rtake_n (h : CS w0 w T) (i : Nat) (hi : T[i]? = some (R g l a o)) (hB : isB l = true) (ha : a ≤ l.length) {n : Int} {v a2 : Nat} {gd o2 : Bool} (hk : Tk l a o n v gd a2 o2) :
    Calls Tryz.prog 59 #[.pointer (some ⟨g, 0, none⟩), .int .i64 n] w fun e w' => e = .returned (.tuple #[.int .u64 (v : Nat), .bool gd]) ∧ CS w0 w' (T.set i (R g l a2 o2)) := by
  obtain ⟨rfl, rfl, rfl, rfl⟩ := hk
  exact rtake_s h i hi hB ha n
theorem at_s (h : CS w0 w T) (i : Nat) (hi : T[i]? = some (K g l a o)) :
    Calls Tryz.prog 14 #[.pointer (some ⟨g, 0, none⟩)] w fun e w' => e = .returned (.int .i64 (a : Int)) ∧ CS w0 w' T := by
  refine (at_any (h.get i hi)).mono ?_
  rintro e w' ⟨rfl, hb⟩
  exact ⟨rfl, h.below hb⟩
theorem cover_s (h : CS w0 w T) (i : Nat) (hi : T[i]? = some (K g l a o)) :
    Calls Tryz.prog 15 #[.pointer (some ⟨g, 0, none⟩)] w fun e w' => e = .returned (.bool o) ∧ CS w0 w' T := by
  refine (over_any (h.get i hi)).mono ?_
  rintro e w' ⟨rfl, hb⟩
  exact ⟨rfl, h.below hb⟩
theorem left_s (h : CS w0 w T) (i : Nat) (hi : T[i]? = some (K g l a o)) (hB : isB l = true) (ha : a ≤ l.length) :
    Calls Tryz.prog 76 #[.pointer (some ⟨g, 0, none⟩)] w fun e w' => e = .returned (.int .i64 ((l.length : Int) - (a : Int))) ∧ CS w0 w' T := by
  have hl := (isB_iff.1 hB).1
  refine (left_any (h.get i hi) (by unfold maxLen; omega) ha).mono ?_
  rintro e w' ⟨rfl, hb⟩
  exact ⟨rfl, h.below hb⟩
theorem copy_s (h : CS w0 w T) (i : Nat) (hi : T[i]? = some (K g l a o)) (hB : isB l = true) :
    Calls Tryz.prog 27 #[.pointer (some ⟨g, 0, none⟩)] w fun e w' => ∃ g', e = .returned (.pointer (some ⟨g', 0, none⟩)) ∧ CS w0 w' (K g' l a o :: T) := by
  have hl := (isB_iff.1 hB).1
  refine (copy_any (h.get i hi) (by omega)).mono ?_
  rintro e w' ⟨g', rfl, hg, hq, hb⟩
  exact ⟨g', rfl, h.new (q := K g' l a o) hb hq hg⟩
end
end Go.Proofs.YtfdpddlefobcpaaGreatDoor
