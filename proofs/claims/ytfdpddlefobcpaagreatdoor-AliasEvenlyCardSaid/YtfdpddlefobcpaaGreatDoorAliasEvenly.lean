/-
  PROVED: the statement AliasEvenly (tombolalaw11.AliasEvenly) about the landed commit: for every input the law returns true and leaves its arguments as they were. Conditions: none beyond those that the given row itself prints.
-/
import Derived.Test.YtfdpddlefobcpaaGreatDoorCards
import Derived.Test.YtfdpddlefobcpaaGreatDoorTie
import Derived.LaidMore
import Derived.Lay
import Derived.SevenTiedAt
import Derived.Stop.Joined
import Derived.Test.YtfdpddlefobcpaaGreatDoorRows
import Derived.WalkKit
import Derived.ProofKit
import Derived.OpenShut
import Derived.RowKit3
import Derived.Test.YtfdpddlefobcpaaGreatDoorGFrame
import Derived.Test.YtfdpddlefobcpaaGreatDoorGAlj
import Derived.Test.YtfdpddlefobcpaaGreatDoorBitAll
namespace Go.Proofs.YtfdpddlefobcpaaGreatDoor.aliasEvenly
open Go.ChangeShapes Go.WideShapes Go.ChangeAt Go.RowKit
set_option linter.unusedVariables false
set_option linter.unusedSimpArgs false
set_option maxRecDepth 20000
open N
theorem own : ownKnob Tryz.prog.godebug = none := by kernel_rfl
/-- cursors, and a table, at hand -/
structure ES (w0 w : World) (T : List Blk) (t g1 g2 : Nat) (ws : List Int) : Prop where
  cs : CS w0 w T
  ta : Ta w t g1 g2 ws
section
variable {w0 w w' : World} {T : List Blk} {t g1 g2 gc a a2 q m v n : Nat} {gd o o2 : Bool} {l : List UInt8} {ws : List Int}
theorem ES.below (h : ES w0 w T t g1 g2 ws) (hb : Below w.heap.size w w') : ES w0 w' T t g1 g2 ws := ⟨h.cs.below hb, h.ta.on hb⟩
theorem cnew_e (h : ES w0 w T t g1 g2 ws) (hB : isB l = true) :
    Calls Tryz.prog 10 #[.string ⟨l.toArray⟩] w fun e w' => ∃ g, e = .returned (.tuple #[.pointer (some ⟨g, 0, none⟩), .int .i64 0]) ∧ ES w0 w' (K g l 0 false :: T) t g1 g2 ws := by
  refine (new_yes w l hB).mono ?_
  rintro e w' ⟨g, rfl, hg, hq, hb⟩
  exact ⟨g, rfl, h.cs.new (q := K g l 0 false) hb hq hg, h.ta.on hb⟩
theorem copy_e (h : ES w0 w T t g1 g2 ws) (i : Nat) (hi : T[i]? = some (K gc l a o)) (hB : isB l = true) :
    Calls Tryz.prog 27 #[.pointer (some ⟨gc, 0, none⟩)] w fun e w' => ∃ g', e = .returned (.pointer (some ⟨g', 0, none⟩)) ∧ ES w0 w' (K g' l a o :: T) t g1 g2 ws := by
  have hl := (isB_iff.1 hB).1
  refine (copy_any (h.cs.get i hi) (by omega)).mono ?_
  rintro e w' ⟨g', rfl, hg, hq, hb⟩
  exact ⟨g', rfl, h.cs.new (q := K g' l a o) hb hq hg, h.ta.on hb⟩
theorem draw_e (h : ES w0 w T t g1 g2 ws) (k : Nat) (hk : T[k]? = some (K gc l a o)) (hB : isB l = true) (ha : a ≤ l.length) (hm : m < 18446744073709551616) (hd : dr l a o m = (v, gd, a2, o2)) :
    Calls Tryz.prog 28 #[.pointer (some ⟨gc, 0, none⟩), .int .u64 (m : Nat)] w fun e w' => e = .returned (.tuple #[.int .u64 (v : Nat), .bool gd]) ∧ ES w0 w' (T.set k (K gc l a2 o2)) t g1 g2 ws := by
  have hc := h.cs.get k hk
  refine (draw_any hc hB ha hm hd).mono ?_
  rintro e w' ⟨rfl, hg, hq⟩
  exact ⟨rfl, h.cs.turn k hk hg hq, h.ta.grown hc hg⟩
theorem adraw_e (h : ES w0 w T t g1 g2 ws) (k : Nat) (hk : T[k]? = some (K gc l a o)) (hw : Wt ws) (hB : isB l = true) (ha : a ≤ l.length) (hm : pre ws ws.length = (m : Int)) (hd : drA (cutA ws) (othA ws) ws.length m l a o = (q, gd, a2, o2)) :
    Calls Tryz.prog 12 #[.pointer (some ⟨t, 0, none⟩), .pointer (some ⟨gc, 0, none⟩)] w fun e w' => e = .returned (.tuple #[.int .i64 (q : Int), .bool gd]) ∧ ES w0 w' (T.set k (K gc l a2 o2)) t g1 g2 ws := by
  have hc := h.cs.get k hk
  refine (adraw_any h.ta hw hc hB ha hm hd).mono ?_
  rintro e w' ⟨rfl, hg, hc2, hT⟩
  exact ⟨rfl, h.cs.turn k hk hg hc2, hT⟩
theorem at_e (h : ES w0 w T t g1 g2 ws) (i : Nat) (hi : T[i]? = some (K gc l a o)) :
    Calls Tryz.prog 14 #[.pointer (some ⟨gc, 0, none⟩)] w fun e w' => e = .returned (.int .i64 (a : Int)) ∧ ES w0 w' T t g1 g2 ws := by
  refine (at_any (h.cs.get i hi)).mono ?_
  rintro e w' ⟨rfl, hb⟩
  exact ⟨rfl, h.below hb⟩
theorem cover_e (h : ES w0 w T t g1 g2 ws) (i : Nat) (hi : T[i]? = some (K gc l a o)) :
    Calls Tryz.prog 15 #[.pointer (some ⟨gc, 0, none⟩)] w fun e w' => e = .returned (.bool o) ∧ ES w0 w' T t g1 g2 ws := by
  refine (over_any (h.cs.get i hi)).mono ?_
  rintro e w' ⟨rfl, hb⟩
  exact ⟨rfl, h.below hb⟩
theorem sum_e (h : ES w0 w T t g1 g2 ws) {s : Int} (hs : pre ws ws.length = s) :
    Calls Tryz.prog 21 #[.pointer (some ⟨t, 0, none⟩)] w fun e w' => e = .returned (.int .i64 s) ∧ ES w0 w' T t g1 g2 ws := by
  refine (ta_sum h.ta hs).mono ?_
  rintro e w' ⟨rfl, rfl⟩
  exact ⟨rfl, h⟩
theorem pick_e (h : ES w0 w T t g1 g2 ws) {i : Nat} {r : Int} (hi : i < ws.length) (hr : 0 ≤ r ∧ r < pre ws ws.length) {y : Nat} (hy : pkA (cutA ws) (othA ws) i r = y) :
    Calls Tryz.prog 18 #[.pointer (some ⟨t, 0, none⟩), .int .i64 (i : Int), .int .i64 r] w fun e w' => e = .returned (.tuple #[.int .i64 (y : Int), .int .i64 0]) ∧ ES w0 w' T t g1 g2 ws := by
  refine (ta_pick h.ta hi hr (by rw [hy]) rfl).mono ?_
  rintro e w' ⟨rfl, rfl⟩
  exact ⟨rfl, h⟩
/-- other bits behind change nothing of what is drawn -/
theorem dr_front11 {l l' : List UInt8} {a a2 c v n : Nat} {o2 : Bool} (h : dr l a false n = (v, true, a2, o2)) (hc : a2 ≤ c) (hl : c ≤ l.length) (hl' : c ≤ l'.length) (ht : l.take c = l'.take c) (ha : a ≤ l.length) (ha' : a ≤ l'.length) : dr l' a false n = (v, true, a2, o2) := by
  have hn : n ≠ 0 := by
    rcases (dr_ways h).2.2 with ⟨_, _, _, e⟩ | ⟨e, _⟩
    · exact e
    · cases e
  rw [dr_in hn] at h ⊢
  have ht2 : l.take a2 = l'.take a2 := by
    have h1 := congrArg (List.take a2) ht
    rwa [List.take_take, List.take_take, Nat.min_eq_left hc] at h1
  have e1 := drF_front h (by omega) (by omega) ht2 (Nat.le_max_left (l.length + 1) (l'.length + 1))
  rw [← e1]
  exact drF_fuel (.inr (by omega)) (by omega) (by omega) ha'
end
theorem gen_calls {P : Program} {f : FuncId} {args : Array Value} {W : World} {R : Ending → World → Prop} (h : ∀ L, L = W → Calls P f args L R) : Calls P f args W R := h W rfl
theorem grown_below11 {w w1 w2 : World} {g : Nat} (hb : Below w.heap.size w w1) (hg : w.heap.size ≤ g) (h : w1.grownBy w2 (some g)) : Below w.heap.size w w2 :=
  hb.grown h hb.size (fun k e => by injection e with e; rw [← e]; exact hg)
section
variable {w0 w w' : World} {T : List Blk} {t g1 g2 : Nat} {ws : List Int}
theorem ES.set (h : ES w0 w T t g1 g2 ws) (i : Nat) {g : Nat} {vs : List Value} {ty : TypeId} (hi : T[i]? = some ⟨g, vs, ty⟩) (hne : t ≠ g ∧ g1 ≠ g ∧ g2 ≠ g) (k : Nat) (v : Value) : ES w0 (w.setCell ⟨g, k, none⟩ v) (T.set i ⟨g, vs.set k v, ty⟩) t g1 g2 ws :=
  ⟨h.cs.turn i hi (grownBy_set (World.grownBy.refl w _) k v) (BlkOk.set (h.cs.get i hi) k v), ⟨h.ta.tb.far (p := ⟨g, k, none⟩) hne.1 v, h.ta.cu.far (p := ⟨g, k, none⟩) hne.2.1 v, h.ta.ot.far (p := ⟨g, k, none⟩) hne.2.2 v⟩⟩
theorem ES.far {B : Nat} (h : ES w0 w T t g1 g2 ws) (hb : Below B w w') (hT : ∀ q ∈ T, q.g < B) (ht : t < B ∧ g1 < B ∧ g2 < B) (hB : w0.heap.size ≤ B) : ES w0 w' T t g1 g2 ws :=
  ⟨⟨h.cs.bl.trans (hb.mono hB), fun q hq => (hb.block q.g (hT q hq)).trans (h.cs.box q hq), h.cs.from_, h.cs.nd⟩, ⟨(hb.block t ht.1).trans h.ta.tb, (hb.block g1 ht.2.1).trans h.ta.cu, (hb.block g2 ht.2.2).trans h.ta.ot⟩⟩
/-- the six cells of the law -/
def EvT (pw s pt u7 u8 gb t n : Nat) (A0 : Option Addr) (c0 : Nat) (cf : Nat → Nat) (al : Nat) (bv : Bool) : List Blk :=
  [⟨u8, [.int .i64 (al : Int)], 2⟩, ⟨u7, [.slice (some ⟨gb, 0, none⟩) n n], 22⟩, ⟨gb, row n (fun k => (cf k : Int)), 2⟩, ⟨pt, [.pointer (some ⟨t, 0, none⟩)], 24⟩, ⟨s, [.bool bv], 4⟩, ⟨pw, [.slice A0 n c0], 22⟩]
end
section
variable {w0 w : World} {t g1 g2 pw s pt u7 u8 gb n c0 al v : Nat} {A0 : Option Addr} {cf cf' : Nat → Nat} {bv : Bool} {ws : List Int}
theorem ES.inc (h : ES w0 w (EvT pw s pt u7 u8 gb t n A0 c0 cf al bv) t g1 g2 ws) (hne : t ≠ gb ∧ g1 ≠ gb ∧ g2 ≠ gb) (hc : ∀ y, cf' y = cf y + (if true = true ∧ v = y then 1 else 0)) :
    ES w0 (w.setCell ⟨gb, v, none⟩ (.int .i64 ((cf v : Int) + 1))) (EvT pw s pt u7 u8 gb t n A0 c0 cf' al bv) t g1 g2 ws := by
  have h1 := h.set 2 rfl hne v (.int .i64 ((cf v : Int) + 1))
  rw [row_set, row_congr (g := fun k => (cf' k : Int)) (fun k _ => by
    by_cases e : k = v
    · subst e
      rw [if_pos rfl, hc k]
      simp
    · rw [if_neg e, hc k]
      simp [Ne.symm e])] at h1
  exact h1
theorem ES.incA (h : ES w0 w (EvT pw s pt u7 u8 gb t n A0 c0 cf al bv) t g1 g2 ws) (hne : t ≠ u8 ∧ g1 ≠ u8 ∧ g2 ≠ u8) :
    ES w0 (w.setCell ⟨u8, 0, none⟩ (.int .i64 ((al : Int) + 1))) (EvT pw s pt u7 u8 gb t n A0 c0 cf (al + 1) bv) t g1 g2 ws := by
  exact h.set 0 rfl hne 0 (.int .i64 ((al : Int) + 1))
theorem ES.drew11 {T : List Blk} (h : ES w0 w T t g1 g2 ws) : ES w0 w.drew T t g1 g2 ws := h.below ⟨rfl, rfl, rfl, Nat.le_refl _, fun _ _ => rfl⟩
theorem ES.cell11 (h : ES w0 w (EvT pw s pt u7 u8 gb t n A0 c0 cf al bv) t g1 g2 ws) : w.cell? ⟨u8, 0, none⟩ = some (.int .i64 (al : Int)) ∧ w.cell? ⟨u7, 0, none⟩ = some (.slice (some ⟨gb, 0, none⟩) n n) ∧ w.cell? ⟨pt, 0, none⟩ = some (.pointer (some ⟨t, 0, none⟩)) ∧ w.cell? ⟨s, 0, none⟩ = some (.bool bv) ∧ w.cell? ⟨pw, 0, none⟩ = some (.slice A0 n c0) :=
  ⟨BlkOk.cell (k := 0) (h.cs.get 0 rfl) rfl, BlkOk.cell (k := 0) (h.cs.get 1 rfl) rfl, BlkOk.cell (k := 0) (h.cs.get 3 rfl) rfl, BlkOk.cell (k := 0) (h.cs.get 4 rfl) rfl, BlkOk.cell (k := 0) (h.cs.get 5 rfl) rfl⟩
theorem ES.row11 (h : ES w0 w (EvT pw s pt u7 u8 gb t n A0 c0 cf al bv) t g1 g2 ws) {k : Nat} (hk : k < n) : w.cell? ⟨gb, k, none⟩ = some (.int .i64 (cf k : Int)) := BlkOk.cell (h.cs.get 2 rfl) (row_get hk)
theorem ES.fr11 (h : ES w0 w (EvT pw s pt u7 u8 gb t n A0 c0 cf al bv) t g1 g2 ws) (k : Nat) : w.frozen? ⟨gb, k, none⟩ = false ∧ w.frozen? ⟨u8, 0, none⟩ = false ∧ w.frozen? ⟨s, 0, none⟩ = false := ⟨BlkOk.fr (h.cs.get 2 rfl) k, BlkOk.fr (h.cs.get 0 rfl) 0, BlkOk.fr (h.cs.get 4 rfl) 0⟩
end
/-- how often each place came among the first i strings, and any -/
def gF (c : Nat → Int) (o : Nat → Nat) (n m N i p : Nat) : Nat := sumN (fun j => if (drA c o n m (ofB N j) 0 false).2.1 = true ∧ (drA c o n m (ofB N j) 0 false).1 = p then 1 else 0) i
def aF (c : Nat → Int) (o : Nat → Nat) (n m N i : Nat) : Nat := sumN (fun j => if (drA c o n m (ofB N j) 0 false).2.1 = true then 1 else 0) i
section
variable {c : Nat → Int} {o : Nat → Nat} {n m N j p a : Nat}
theorem gF_le (i : Nat) : gF c o n m N i p ≤ i := by
  unfold gF
  have h9 := sumN_le (f := fun j => if (drA c o n m (ofB N j) 0 false).2.1 = true ∧ (drA c o n m (ofB N j) 0 false).1 = p then 1 else 0) (g := fun _ => 1) (n := i) (fun j _ => by split <;> omega)
  rw [sumN_const] at h9
  omega
theorem aF_le (i : Nat) : aF c o n m N i ≤ i := by
  unfold aF
  have h9 := sumN_le (f := fun j => if (drA c o n m (ofB N j) 0 false).2.1 = true then 1 else 0) (g := fun _ => 1) (n := i) (fun j _ => by split <;> omega)
  rw [sumN_const] at h9
  omega
theorem dr_ofB0 (hn : n ≠ 0) (hj : j < 2 ^ N) : dr (ofB N j) 0 false n = ((dN (wd n) n (N + 1) N j).1, (dN (wd n) n (N + 1) N j).2.1, (dN (wd n) n (N + 1) N j).2.2, !(dN (wd n) n (N + 1) N j).2.1) := by
  have h9 := drF_ofB N j (wd n) n (N + 1) 0 (Nat.zero_le _)
  rw [Nat.sub_zero, Nat.mod_eq_of_lt hj, Nat.zero_add] at h9
  rw [dr_in hn, ofB_length, h9]
theorem dr_ofB1 (hm : m ≠ 0) (ha : a ≤ N) : dr (ofB N j) a false m = ((dN (wd m) m (N + 1) (N - a) (j % 2 ^ (N - a))).1, (dN (wd m) m (N + 1) (N - a) (j % 2 ^ (N - a))).2.1, a + (dN (wd m) m (N + 1) (N - a) (j % 2 ^ (N - a))).2.2, !(dN (wd m) m (N + 1) (N - a) (j % 2 ^ (N - a))).2.1) := by
  rw [dr_in hm, ofB_length, drF_ofB N j (wd m) m (N + 1) a ha]
theorem drA_ofB (hn : n ≠ 0) (hm : m ≠ 0) (hj : j < 2 ^ N) : ((drA c o n m (ofB N j) 0 false).2.1 = true ↔ (dN (wd n) n (N + 1) N j).2.1 = true ∧ (dN2 (wd n) n (wd m) m (N + 1) (N + 1) N j).2.1 = true) ∧
    ((drA c o n m (ofB N j) 0 false).2.1 = true → (drA c o n m (ofB N j) 0 false).1 = pkA c o (dN (wd n) n (N + 1) N j).1 ((dN2 (wd n) n (wd m) m (N + 1) (N + 1) N j).1 : Int)) := by
  have h1 := dr_ofB0 (n := n) (N := N) (j := j) hn hj
  have h0 := (dr_ways h1).2.1 (Nat.zero_le _)
  rw [ofB_length] at h0
  cases hg : (dN (wd n) n (N + 1) N j).2.1 with
  | false =>
    rw [hg] at h1
    rw [drA_no h1]
    simp
  | true =>
    rw [hg] at h1
    have h2 := dr_ofB1 (m := m) (j := j) hm h0
    have e : dN (wd m) m (N + 1) (N - (dN (wd n) n (N + 1) N j).2.2) (j % 2 ^ (N - (dN (wd n) n (N + 1) N j).2.2)) = dN2 (wd n) n (wd m) m (N + 1) (N + 1) N j := rfl
    rw [e] at h2
    cases hg2 : (dN2 (wd n) n (wd m) m (N + 1) (N + 1) N j).2.1 with
    | false =>
      rw [hg2] at h2
      rw [drA_half h1 h2]
      simp
    | true =>
      rw [hg2] at h2
      rw [drA_yes h1 h2]
      simp
/-- each place comes by its part -/
theorem even11 {W : Nat} {q : Nat → Int} (hn : n ≠ 0) (hW : W ≠ 0) (h : Tab (W : Int) n q c o) (hp : p < n) : ((gF c o n W N (2 ^ N) p : Nat) : Int) * ((n : Int) * (W : Int)) = q p * ((aF c o n W N (2 ^ N) : Nat) : Int) := by
  obtain ⟨V, hV⟩ : ∃ V, way2 (wd n) n (wd W) W (N + 1) (N + 1) N = V := ⟨_, rfl⟩
  have e1 : gF c o n W N (2 ^ N) p = sumN (fun x => sumN (fun r => if pkA c o x (r : Int) = p then 1 else 0) W) n * V := by
    rw [← hV, ← dN2_sum (fun x r => if pkA c o x (r : Int) = p then 1 else 0) (wd_le n) (wd_le W)]
    unfold gF
    refine sumN_congr fun j hj => ?_
    obtain ⟨h1, h2⟩ := drA_ofB (c := c) (o := o) hn hW hj
    by_cases hd : (drA c o n W (ofB N j) 0 false).2.1 = true
    · rw [if_pos (h1.1 hd), ← h2 hd]
      simp [hd]
    · rw [if_neg (fun e => hd (h1.2 e)), if_neg (fun e => hd e.1)]
  have e2 : aF c o n W N (2 ^ N) = n * W * V := by
    have h3 : sumN (fun x => sumN (fun _ => 1) W) n = n * W := by rw [sumN_congr (g := fun _ => W) (fun j _ => by rw [sumN_const, Nat.mul_one]), sumN_const]
    rw [← hV, ← h3, ← dN2_sum (fun _ _ => 1) (wd_le n) (wd_le W)]
    unfold aF
    refine sumN_congr fun j hj => ?_
    obtain ⟨h1, _⟩ := drA_ofB (c := c) (o := o) hn hW hj
    by_cases hd : (drA c o n W (ofB N j) 0 false).2.1 = true
    · rw [if_pos (h1.1 hd), if_pos hd]
    · rw [if_neg (fun e => hd (h1.2 e)), if_neg hd]
  have e3 := pick_pairs h hp
  obtain ⟨G, hG⟩ : ∃ G, sumN (fun x => sumN (fun r => if pkA c o x (r : Int) = p then 1 else 0) W) n = G := ⟨_, rfl⟩
  rw [hG] at e1 e3
  rw [e1, e2, ← e3, Int.natCast_mul, Int.natCast_mul, Int.natCast_mul, Int.mul_assoc, Int.mul_comm (V : Int)]
theorem drA_lt {W : Int} {q : Nat → Int} {l : List UInt8} {a2 r : Nat} {gd o2 : Bool} (h : Tab W n q c o) (hn : 0 < n) (hd : drA c o n m l a false = (r, gd, a2, o2)) : r < n := by
  rcases drA_ways hd with ⟨_, _, _, _, rfl, _⟩ | ⟨_, _, _, _, _, _, rfl, _⟩ | ⟨v, _, _, y, h1, _, rfl, _⟩
  · exact hn
  · exact hn
  · have hv : v < n := by
      rcases (dr_ways h1).2.2 with ⟨_, e, _⟩ | ⟨e, _⟩
      · exact e
      · cases e
    unfold pkA
    split
    · exact hv
    · exact (h.cut v hv).2.2.1
end
attribute [local go_sem] Oper.semAt_some
set_option maxRecDepth 100000 in
set_option maxHeartbeats 8000000 in
theorem walk (w : World) (A0 : Option Addr) (n0 c0 : Nat) (xs0 : List Int) (h0 : Il w A0 n0 c0 xs0) (a1 : Int) (w1 : (Lit.int .u8 a1).wf = true) :
    Calls Tryz.prog 6 #[.slice A0 n0 c0, .int .u8 a1] w fun e w' => e = .returned (.bool true) ∧ Below w.heap.size w w' := by
  have HI := Lib.hid h0
  have HLN := Lib.hid h0.len
  clear h0
  have bl := bounds_u8 w1
  obtain ⟨N, hN, hN1⟩ : ∃ N : Nat, a1 % 10 = (N : Int) ∧ N ≤ 9 := ⟨(a1 % 10).toNat, by omega, by omega⟩
  have htm : a1.tmod 10 = (N : Int) := by rw [Int.tmod_eq_emod_of_nonneg bl.1]; exact hN
  have hwn : IntKind.i64.wrap a1 = a1 := by rw [IntKind.wrap_i64]; omega
  have hro : Fence.wide.round = none := rfl
  by_cases h8 : 100 < n0
  · have h9 : (100 : Int) < (n0 : Int) := by omega
    refine calls_of_wp_z 6 Tryz.func6 rfl ?_
    simp only [Tryz.ntmps6, List.size_toArray, List.length_cons, List.length_nil, Nat.reduceAdd, Nat.reduceSub, Array.replicate_succ, Array.replicate_zero, List.push_toArray, List.append_toArray, List.nil_append, List.cons_append]
    go_wp2_with fail
    refine gen_calls fun L hL => ?_
    have hc2 : BlkOk L ⟨w.heap.size, [.slice A0 n0 c0], 22⟩ := by
      have h1 : BlkOk (w.alloc (.cells #[.slice A0 n0 c0] 22)) ⟨w.heap.size, [.slice A0 n0 c0], 22⟩ := heap_alloc_new w _
      rw [hL]
      exact h1.on ((Below.refl _ _).alloc (Nat.le_refl _) _)
    have hc4 : BlkOk L ⟨w.heap.size + 1, [.bool false], 4⟩ := by
      have h1 := heap_alloc_new (w.alloc (.cells #[.slice A0 n0 c0] 22)) (.cells #[.bool false] 4)
      rw [hL]
      simpa [BlkOk] using h1
    have hb0 : Below w.heap.size w L := by rw [hL]; exact ((Below.refl _ w).alloc (Nat.le_refl _) _).alloc (by simp) _
    have hs0 : L.heap.size = w.heap.size + 2 := by rw [hL]; simp
    clear hL
    go_at_call 7
    refine (awake11 L).mono ?_
    rintro e w1 ⟨rfl, hb1⟩
    have HC2 := Lib.hid (hc2.on hb1)
    have HC4 := Lib.hid (hc4.on hb1)
    have HB1 := Lib.hid (hb0.trans (hb1.mono hb0.size))
    have HS1 := Lib.hid (show w.heap.size + 2 ≤ w1.heap.size by have := hb1.size; omega)
    have q2 : w1.cell? ⟨w.heap.size, 0, none⟩ = some (.slice A0 n0 c0) := BlkOk.cell (k := 0) HC2.out rfl
    have q4 : w1.cell? ⟨w.heap.size + 1, 0, none⟩ = some (.bool false) := BlkOk.cell (k := 0) HC4.out rfl
    have q5 : w1.frozen? ⟨w.heap.size + 1, 0, none⟩ = false := BlkOk.fr HC4.out 0
    clear hc2 hc4 hb0 hs0 hb1
    have HX := Lib.hid (World.cell?_setCell_same' w1 ⟨w.heap.size + 1, 0, none⟩ (.bool true) (by rw [q4]; rfl))
    have HXB := Lib.hid (HB1.out.setCell (p := ⟨w.heap.size + 1, 0, none⟩) (by show w.heap.size ≤ w.heap.size + 1; omega) (.bool true))
    go_wp2
    exact ⟨.bool true, by simp [results, Tryz.f6, go_sem, HX.out], rfl, HXB.out⟩
  · have h9 : ¬ (100 : Int) < (n0 : Int) := by omega
    by_cases hm : mayW xs0 = 0
    · have HM := Lib.hid hm
      have HW := Lib.hid (mayW_zero.1 hm)
      refine calls_of_wp_z 6 Tryz.func6 rfl ?_
      simp only [Tryz.ntmps6, List.size_toArray, List.length_cons, List.length_nil, Nat.reduceAdd, Nat.reduceSub, Array.replicate_succ, Array.replicate_zero, List.push_toArray, List.append_toArray, List.nil_append, List.cons_append]
      go_wp2_with fail
      refine gen_calls fun L hL => ?_
      have hc2 : BlkOk L ⟨w.heap.size, [.slice A0 n0 c0], 22⟩ := by
        have h1 : BlkOk (w.alloc (.cells #[.slice A0 n0 c0] 22)) ⟨w.heap.size, [.slice A0 n0 c0], 22⟩ := heap_alloc_new w _
        rw [hL]
        exact h1.on ((Below.refl _ _).alloc (Nat.le_refl _) _)
      have hc4 : BlkOk L ⟨w.heap.size + 1, [.bool false], 4⟩ := by
        have h1 := heap_alloc_new (w.alloc (.cells #[.slice A0 n0 c0] 22)) (.cells #[.bool false] 4)
        rw [hL]
        simpa [BlkOk] using h1
      have hb0 : Below w.heap.size w L := by rw [hL]; exact ((Below.refl _ w).alloc (Nat.le_refl _) _).alloc (by simp) _
      have hs0 : L.heap.size = w.heap.size + 2 := by rw [hL]; simp
      clear hL
      go_at_call 7
      refine (awake11 L).mono ?_
      rintro e w1 ⟨rfl, hb1⟩
      have HC2 := Lib.hid (hc2.on hb1)
      have HC4 := Lib.hid (hc4.on hb1)
      have HB1 := Lib.hid (hb0.trans (hb1.mono hb0.size))
      have HS1 := Lib.hid (show w.heap.size + 2 ≤ w1.heap.size by have := hb1.size; omega)
      have q2 : w1.cell? ⟨w.heap.size, 0, none⟩ = some (.slice A0 n0 c0) := BlkOk.cell (k := 0) HC2.out rfl
      have q4 : w1.cell? ⟨w.heap.size + 1, 0, none⟩ = some (.bool false) := BlkOk.cell (k := 0) HC4.out rfl
      have q5 : w1.frozen? ⟨w.heap.size + 1, 0, none⟩ = false := BlkOk.fr HC4.out 0
      clear hc2 hc4 hb0 hs0 hb1
      clear hm
      go_wp2_with fail
      go_at_call 8
      refine (anew_ok (HI.out.below HB1.out) HM.out).mono ?_
      rintro e w2 ⟨t, g1, g2, rfl, hT, hgt, hg1, hg2, hb2⟩
      have HT := Lib.hid hT
      have HGT := Lib.hid (show w.heap.size + 2 ≤ t ∧ w.heap.size + 2 ≤ g1 ∧ w.heap.size + 2 ≤ g2 by have := HS1.out; omega)
      have HLT := Lib.hid (show t < w2.heap.size ∧ g1 < w2.heap.size ∧ g2 < w2.heap.size from ⟨BlkOk.lt hT.tb, BlkOk.lt hT.cu, BlkOk.lt hT.ot⟩)
      clear hT hgt hg1 hg2
      clear q2 q4 q5
      have HD2 := Lib.hid (HC2.out.on hb2)
      have HD4 := Lib.hid (HC4.out.on hb2)
      have HB2 := Lib.hid (HB1.out.trans (hb2.mono HB1.out.size))
      have HS2 := Lib.hid (show w.heap.size + 2 ≤ w2.heap.size by have := hb2.size; have := HS1.out; omega)
      have q2 : w2.cell? ⟨w.heap.size, 0, none⟩ = some (.slice A0 n0 c0) := BlkOk.cell (k := 0) HD2.out rfl
      have q4 : w2.cell? ⟨w.heap.size + 1, 0, none⟩ = some (.bool false) := BlkOk.cell (k := 0) HD4.out rfl
      have q5 : w2.frozen? ⟨w.heap.size + 1, 0, none⟩ = false := BlkOk.fr HD4.out 0
      clear HC2 HC4 HB1 HS1 hb2
      have hmk := make64_run n0 (by have := HW.out.l1; have := HLN.out; omega)
      have q3 : (w2.alloc (.cells #[.pointer (some ⟨t, 0, none⟩)] 24)).cell? ⟨w.heap.size, 0, none⟩ = some (.slice A0 n0 c0) := BlkOk.cell (k := 0) (HD2.out.on ((Below.refl _ _).alloc (Nat.le_refl _) _)) rfl
      go_wp2_with fail
      refine gen_calls fun L2 hL2 => ?_
      have hcs0 : CS w w2 [⟨w.heap.size + 1, [.bool false], 4⟩, ⟨w.heap.size, [.slice A0 n0 c0], 22⟩] := ⟨HB2.out, by
        intro q hq
        rcases List.mem_cons.1 hq with rfl | hq
        · exact HD4.out
        · obtain rfl : q = _ := List.mem_singleton.1 hq
          exact HD2.out, by
        intro q hq
        rcases List.mem_cons.1 hq with rfl | hq
        · show w.heap.size ≤ w.heap.size + 1; omega
        · obtain rfl : q = _ := List.mem_singleton.1 hq
          exact Nat.le_refl _, by simp⟩
      have hE : ES w L2 (EvT w.heap.size (w.heap.size + 1) w2.heap.size (w2.heap.size + 1 + 1) (w2.heap.size + 1 + 1 + 1) (w2.heap.size + 1) t n0 A0 c0 (fun _ => 0) 0 false) t g1 g2 xs0 := by
        have h1 := hcs0.alloc11 [.pointer (some ⟨t, 0, none⟩)] 24 rfl
        have h2 := h1.alloc11 (row n0 fun _ => 0) 2 (g := w2.heap.size + 1) (by simp)
        have h3 := h2.alloc11 [.slice (some ⟨w2.heap.size + 1, 0, none⟩) n0 n0] 22 (g := w2.heap.size + 1 + 1) (by simp)
        have h4 := h3.alloc11 [.int .i64 0] 2 (g := w2.heap.size + 1 + 1 + 1) (by simp)
        have hbb := ((((Below.refl w2.heap.size w2).alloc (Nat.le_refl _) (.cells [Value.pointer (some ⟨t, 0, none⟩)].toArray 24)).alloc (by simp) (.cells (row n0 fun _ => 0).toArray 2)).alloc (by simp; omega) (.cells [Value.slice (some ⟨w2.heap.size + 1, 0, none⟩) n0 n0].toArray 22)).alloc (by simp; omega) (.cells [Value.int .i64 0].toArray 2)
        rw [hL2]
        exact ⟨h4, HT.out.on hbb⟩
      have hsL : L2.heap.size = w2.heap.size + 4 := by rw [hL2]; simp
      obtain ⟨pt, hpt⟩ : ∃ x, w2.heap.size = x := ⟨_, rfl⟩
      have hlt := HLT.out
      have hs2 := HS2.out
      rw [hpt] at hE hsL hlt hs2
      try rw [hpt]
      have HLT2 := Lib.hid hlt
      have HS3 := Lib.hid hs2
      clear hL2 hpt hcs0 HB2 HD2 HD4 HT HLT HS2 q2 q3 q4 q5 hmk hlt hs2
      go_at_call 29
      refine (all_any _ _).mono ?_
      rintro e w3 ⟨rfl, rfl⟩
      obtain ⟨m, hm1⟩ : ∃ m : Nat, pre xs0 xs0.length = (m : Int) := ⟨(pre xs0 xs0.length).toNat, by have := HW.out.pos; omega⟩
      have HS := Lib.hid hm1
      have HMB := Lib.hid (show 0 < m ∧ m ≤ 67108864 by have h1 := HW.out.pos; have h2 := (HW.out.le (Nat.le_refl _)).2.2; rw [hm1] at h1 h2; omega)
      have HTAB := Lib.hid (altab_tab HW.out)
      have hp9 : 2 ^ N ≤ 512 := Nat.pow_le_pow_right (n := 2) (by decide) hN1
      clear hm1
      go_wp2_with fail
      refine (wpIn_wide (n := 6)).1 ?_
      refine gen_w fun L3 hL3 => ?_
      have hcb : L3.cell? ⟨pt + 4, 0, none⟩ = some (.int .i64 (N : Int)) := by rw [hL3, ← hsL]; go_simp
      have hs3 : L3.heap.size = pt + 5 := by rw [hL3]; simp [hsL]
      have hb3 : Below L2.heap.size L2 L3 := by rw [hL3]; exact (Below.refl _ L2).alloc (Nat.le_refl _) _
      have hE2 := hE.below hb3
      try rw [hsL]
      clear hL3 hb3 hE
      have HS5 := Lib.hid hs3
      have hfar : Far L3.heap.size (fun (pl : List (List UInt8)) (X : World) => ES w X (EvT w.heap.size (w.heap.size + 1) pt (pt + 1 + 1) (pt + 1 + 1 + 1) (pt + 1) t n0 A0 c0 (gF (cutA xs0) (othA xs0) n0 m N pl.length) (aF (cutA xs0) (othA xs0) n0 m N pl.length) false) t g1 g2 xs0) := fun s' A C hs hb => hs.far hb (by have h7 := HS5.out; have h8 := HS3.out; unfold EvT; simp; omega) (by have h7 := HS5.out; have h8 := HLT2.out; omega) (by have h7 := HS5.out; have h8 := HS3.out; omega)
      have hfarx : ∀ c : Code, Far L3.heap.size (fun (pl : List (List UInt8)) (X : World) => False) := fun c s' A C hs hb => hs
      refine wp_range1 (gf := 52) (lb := #[.pointer (some ⟨pt + 4, 0, none⟩)]) rfl (enters_of Tryz.func52 (by kernel_rfl) rfl) (enc := fun l : List UInt8 => .string ⟨l.toArray⟩)
        (all_iter N (by omega) (pt + 4) L3 (by omega) hcb) (Below.refl _ _) _ _ hfar hfarx hE2 (of_decide_eq_true rfl) ?body ?done ?stop
      case stop =>
        rintro D c pl x post Wd hD hall hF hK
        exact hF.elim
      case body =>
        rintro l pl x X hI ⟨post, hall⟩ hsz
        obtain ⟨rfl, hi⟩ := allS_at hall
        obtain ⟨i, hie⟩ : ∃ i, pl.length = i := ⟨_, rfl⟩
        rw [hie] at hI hi ⊢
        have hil : (pl ++ [ofB N i]).length = i + 1 := by simp [hie]
        have hsB : isB (ofB N i) = true := isB_iff.2 ⟨by rw [ofB_length]; omega, ofB_bits _ _⟩
        rcases hdn : drA (cutA xs0) (othA xs0) n0 m (ofB N i) 0 false with ⟨v, gd, a2, o2⟩
        have hn9 : 0 < n0 := by have := HW.out.l0; have := HLN.out; omega
        have hvn : v < n0 := by
          have h9 := HTAB.out
          rw [HLN.out] at h9
          exact drA_lt h9 hn9 hdn
        have hgs : ∀ y, gF (cutA xs0) (othA xs0) n0 m N (i + 1) y = gF (cutA xs0) (othA xs0) n0 m N i y + (if gd = true ∧ v = y then 1 else 0) := fun y => by unfold gF; rw [sumN, hdn]
        have has : aF (cutA xs0) (othA xs0) n0 m N (i + 1) = aF (cutA xs0) (othA xs0) n0 m N i + (if gd = true then 1 else 0) := by unfold aF; rw [sumN, hdn]
        have hg9 : ∀ y, gF (cutA xs0) (othA xs0) n0 m N i y ≤ i := fun y => gF_le i
        have ha9 : aF (cutA xs0) (othA xs0) n0 m N i ≤ i := aF_le i
        obtain ⟨sx, hsx⟩ : ∃ sx, ofB N i = sx := ⟨_, rfl⟩
        rw [hsx] at hil hsB hdn ⊢
        obtain ⟨cf, hcf⟩ : ∃ c, gF (cutA xs0) (othA xs0) n0 m N i = c := ⟨_, rfl⟩
        obtain ⟨al, hal⟩ : ∃ c, aF (cutA xs0) (othA xs0) n0 m N i = c := ⟨_, rfl⟩
        rw [hcf] at hI hgs hg9
        rw [hal] at hI has ha9
        have HIL := Lib.hid hil
        have HGS := Lib.hid hgs
        have HAS := Lib.hid has
        have HSB := Lib.hid hsB
        have HDN := Lib.hid (show drA (cutA xs0) (othA xs0) xs0.length m sx 0 false = (v, gd, a2, o2) by rw [HLN.out]; exact hdn)
        have HI9 := Lib.hid hI
        obtain ⟨c8, c7, c3, c4, c5⟩ := hI.cell11
        clear hI hall hgs has hcf hal hdn hsB hil hsx hie hE2
        gi_wp2_with fail
        refine ⟨trivial, ?_⟩
        gi_at_call 10
        refine (CallsIn.inRound l (callsIn_wide.2 (new_yes X sx HSB.out))).mono ?_
        rintro e Xa ⟨gc, rfl, hgc, hcu, hba⟩
        have HCU := Lib.hid hcu
        have HBA := Lib.hid hba
        have HGC := Lib.hid hgc
        have HEA := Lib.hid (HI9.out.below hba)
        clear c8 c7 c3 c4 c5 hba hcu hgc
        obtain ⟨c8, c7, c3, c4, c5⟩ := HEA.out.cell11
        gi_wp2_with fail
        try refine ⟨trivial, ?_⟩
        gi_at_call 12
        refine (CallsIn.inRound l (callsIn_wide.2 (adraw_any HEA.out.ta HW.out HCU.out HSB.out (Nat.zero_le _) HS.out HDN.out))).mono ?_
        rintro e Xb ⟨rfl, hgr, _, _⟩
        have hbb := grown_below11 HBA.out HGC.out hgr
        have HV := Lib.hid (Above.of_below (B := L3.heap.size) hbb)
        have HEB := Lib.hid (HI9.out.below hbb)
        clear c8 c7 c3 c4 c5 hbb hgr HI9 HEA HCU HGC HBA
        obtain ⟨c8, c7, c3, c4, c5⟩ := HEB.out.cell11
        have hv0 : ¬ (v : Int) < 0 := by omega
        have hv1 : ¬ (n0 : Int) ≤ (v : Int) := by omega
        cases gd with
        | true =>
          obtain ⟨cv, hcv⟩ : ∃ c, cf v = c := ⟨_, rfl⟩
          have hrr := HEB.out.row11 hvn
          obtain ⟨f2, f0, _⟩ := HEB.out.fr11 v
          rw [hcv] at hrr
          have hcv9 : cv ≤ 512 := by rw [← hcv]; have := hg9 v; omega
          have hal9 : al ≤ 512 := by omega
          have hw1 : IntKind.i64.wrap ((cv : Int) + 1) = (cv : Int) + 1 := by rw [IntKind.wrap_i64]; omega
          have hw2 : IntKind.i64.wrap ((al : Int) + 1) = (al : Int) + 1 := by rw [IntKind.wrap_i64]; omega
          have hv3 : (v : Int) < (n0 : Int) := by omega
          have hEC := HEB.out.inc (v := v) (cf' := gF (cutA xs0) (othA xs0) n0 m N (i + 1)) (by have h7 := HLT2.out; omega) (fun y => HGS.out y)
          rw [hcv] at hEC
          have HEC := Lib.hid hEC
          obtain ⟨d8, d7, d3, d4, d5⟩ := hEC.cell11
          obtain ⟨_, e0, _⟩ := hEC.fr11 v
          clear hg9 ha9 hcv hcv9 hal9 hEC
          gi_wp2
          refine ⟨(HV.out.trans (Above.set _ _ (by show pt + 1 < _; omega))).trans (Above.set _ _ (by show pt + 1 + 1 + 1 < _; omega)), ?_⟩
          have hEF := HEC.out.incA (by have h7 := HLT2.out; omega)
          rw [← show aF (cutA xs0) (othA xs0) n0 m N (i + 1) = al + 1 by rw [HAS.out]; simp, ← HIL.out] at hEF
          exact hEF
        | false =>
          clear hg9 ha9
          gi_wp2
          refine ⟨HV.out, ?_⟩
          show ES w Xb (EvT w.heap.size (w.heap.size + 1) pt (pt + 1 + 1) (pt + 1 + 1 + 1) (pt + 1) t n0 A0 c0 (gF (cutA xs0) (othA xs0) n0 m N (pl ++ [sx]).length) (aF (cutA xs0) (othA xs0) n0 m N (pl ++ [sx]).length) false) t g1 g2 xs0
          rw [HIL.out, show gF (cutA xs0) (othA xs0) n0 m N (i + 1) = cf from funext fun y => by rw [HGS.out y]; simp, show aF (cutA xs0) (othA xs0) n0 m N (i + 1) = al by rw [HAS.out]; simp]
          exact HEB.out
      case done =>
        rintro D Wd hD hI hK
        rw [allS_length] at hI
        have hn9 : 0 < n0 := by have := HW.out.l0; have := HLN.out; omega
        obtain ⟨cf, hcf⟩ : ∃ c, gF (cutA xs0) (othA xs0) n0 m N (2 ^ N) = c := ⟨_, rfl⟩
        obtain ⟨al, hal⟩ : ∃ c, aF (cutA xs0) (othA xs0) n0 m N (2 ^ N) = c := ⟨_, rfl⟩
        have HEQ := Lib.hid (show ∀ (i : Nat) (x : Int), xs0[i]? = some x → i < n0 → (cf i : Int) * (m : Int) = x * (al : Int) from fun i x hx hi => by
          have h9 := HTAB.out
          rw [HS.out, HLN.out] at h9
          have h8 := even11 (N := N) (by omega) (by have := HMB.out.1; omega) h9 hi
          have hh : hts xs0 i = (n0 : Int) * x := by unfold hts; rw [HLN.out, List.getD_eq_getElem?_getD, hx]; rfl
          rw [hh, hcf, hal] at h8
          have hnz : (n0 : Int) ≠ 0 := by omega
          apply Int.eq_of_mul_eq_mul_left hnz
          rw [Int.mul_left_comm, h8, Int.mul_assoc])
        rw [hcf, hal] at hI
        have HC9 := Lib.hid (show ∀ y, cf y ≤ 512 from fun y => by rw [← hcf]; exact Nat.le_trans (gF_le _) hp9)
        have HI9 := Lib.hid hI
        have HK := Lib.hid hK
        have HDS := Lib.hid (show w.heap.size + 1 ≠ D ∧ w.heap.size ≤ D by have := HS3.out; omega)
        clear hcf hal hI hK hD hfar hfarx hE2 hs3 hcb hsL
        go_wp2_with fail
        go_loopw [14] (fun iv wr => ∃ i : Nat, i ≤ n0 ∧ iv = .int .i64 (i : Nat) ∧ ES w wr (EvT w.heap.size (w.heap.size + 1) pt (pt + 1 + 1) (pt + 1 + 1 + 1) (pt + 1) t n0 A0 c0 cf al false) t g1 g2 xs0 ∧ Below Wd.heap.size Wd wr) (fun iv _ => n0 - (intOf iv).toNat)
        case atStart => exact ⟨0, by omega, rfl, HI9.out, Below.refl _ _⟩
        case round =>
          obtain ⟨i, hi, rfl, hI2, hbw⟩ := hrel
          clear HI9
          have HI2 := Lib.hid hI2
          have HBW := Lib.hid hbw
          obtain ⟨c8, c7, c3, c4, c5⟩ := hI2.cell11
          by_cases h1 : i < n0
          · obtain ⟨ad, x, rfl, hx, hwf, _⟩ := HI.out.one h1
            have hcw : wr.cell? (ad.add i) = some (.int .i64 x) := (HI.out.below hI2.cs.bl).the h1 hx
            have hrr := hI2.row11 h1
            have hEq := HEQ.out i x hx h1
            have hcb9 := HC9.out i
            obtain ⟨cv, hcv⟩ : ∃ c, cf i = c := ⟨_, rfl⟩
            rw [hcv] at hrr hEq hcb9
            have hP9 : cv * m ≤ 512 * 67108864 := Nat.mul_le_mul hcb9 HMB.out.2
            obtain ⟨P, hP⟩ : ∃ P : Nat, cv * m = P := ⟨_, rfl⟩
            have hPi : (cv : Int) * (m : Int) = (P : Int) := by rw [← hP]; simp
            rw [hPi] at hEq
            rw [hP] at hP9
            have hm1 : IntKind.i64.wrap ((cv : Int) * (m : Int)) = (P : Int) := by rw [hPi, IntKind.wrap_i64]; omega
            have hm2 : IntKind.i64.wrap (x * (al : Int)) = (P : Int) := by rw [← hEq, IntKind.wrap_i64]; omega
            have j1 : (0 : Int) ≤ (i : Int) := by omega
            have j2 : (i : Int) < (n0 : Int) := by omega
            clear hI2 hbw hx hwf hEq hcb9 hcv hP9 hPi hP
            go_wp2_with fail
            go_region_held3 (fun W => W.cell? ⟨pt + 1 + 1, 0, none⟩ = some (.slice (some ⟨pt + 1, 0, none⟩) n0 n0) ∧ W.cell? ⟨pt + 1, i, none⟩ = some (.int .i64 (cv : Int)) ∧ W.cell? ⟨pt, 0, none⟩ = some (.pointer (some ⟨t, 0, none⟩)) ∧ W.cell? ⟨w.heap.size, 0, none⟩ = some (.slice (some ad) n0 c0) ∧ W.cell? (ad.add i) = some (.int .i64 x) ∧ W.cell? ⟨pt + 1 + 1 + 1, 0, none⟩ = some (.int .i64 (al : Int))) (exact ⟨c7, hrr, c3, c5, hcw, c8⟩) ((go_at_call 21; (with_reducible refine (ta_sum (HI2.out.drew11).ta HS.out).mono ?_); rintro e wx ⟨rfl, rfl⟩))
            go_wp2
            go_roundw
            case rel => exact ⟨i + 1, h1, by go_num, HI2.out.below ⟨rfl, rfl, rfl, Nat.le_refl _, fun _ _ => rfl⟩, HBW.out.trans ⟨rfl, rfl, rfl, Nat.le_refl _, fun _ _ => rfl⟩⟩
            case measure => simp [intOf]; omega
          · have h2 : ¬ (i : Int) < (n0 : Int) := by omega
            obtain ⟨_, _, f4⟩ := hI2.fr11 0
            have hXK := (KeepsOthers.setCell wr ⟨w.heap.size + 1, 0, none⟩ (.bool true)).same D _ ((hbw.block D (Array.getElem?_eq_some_iff.1 HK.out).1).trans HK.out) rfl
            have hXc := World.cell?_setCell_same' wr ⟨w.heap.size + 1, 0, none⟩ (.bool true) (by rw [c4]; rfl)
            have hXb := hI2.cs.bl.setCell (p := ⟨w.heap.size + 1, 0, none⟩) (by show w.heap.size ≤ w.heap.size + 1; omega) (.bool true)
            have HXK := Lib.hid hXK
            have HXC := Lib.hid hXc
            have HXB := Lib.hid hXb
            clear hI2 hbw hXK hXc hXb
            go_wp2
            refine ⟨by simp, .inl ⟨_, _, rfl, run_takeDeferred HXK.out, ?_⟩⟩
            have hc5 := cell_kept HXC.out (grownBy_putObj' _ D (.deferred none)) (fun r e => by cases e; exact ⟨_, HXK.out, rfl⟩)
            exact ⟨.bool true, by simp [results, Tryz.f6, go_sem, hc5], rfl, HXB.out.trans (below_put _ (.deferred none) HDS.out.2)⟩
    · obtain ⟨z, hz1, hz2, _, _⟩ := mayW_ways (fun e => hm (mayW_zero.2 e))
      have HM := Lib.hid hz1
      have HZ := Lib.hid hz2
      have hzb : ¬ z = 0 := hz2
      clear hz1
      refine calls_of_wp_z 6 Tryz.func6 rfl ?_
      simp only [Tryz.ntmps6, List.size_toArray, List.length_cons, List.length_nil, Nat.reduceAdd, Nat.reduceSub, Array.replicate_succ, Array.replicate_zero, List.push_toArray, List.append_toArray, List.nil_append, List.cons_append]
      go_wp2_with fail
      refine gen_calls fun L hL => ?_
      have hc2 : BlkOk L ⟨w.heap.size, [.slice A0 n0 c0], 22⟩ := by
        have h1 : BlkOk (w.alloc (.cells #[.slice A0 n0 c0] 22)) ⟨w.heap.size, [.slice A0 n0 c0], 22⟩ := heap_alloc_new w _
        rw [hL]
        exact h1.on ((Below.refl _ _).alloc (Nat.le_refl _) _)
      have hc4 : BlkOk L ⟨w.heap.size + 1, [.bool false], 4⟩ := by
        have h1 := heap_alloc_new (w.alloc (.cells #[.slice A0 n0 c0] 22)) (.cells #[.bool false] 4)
        rw [hL]
        simpa [BlkOk] using h1
      have hb0 : Below w.heap.size w L := by rw [hL]; exact ((Below.refl _ w).alloc (Nat.le_refl _) _).alloc (by simp) _
      have hs0 : L.heap.size = w.heap.size + 2 := by rw [hL]; simp
      clear hL
      go_at_call 7
      refine (awake11 L).mono ?_
      rintro e w1 ⟨rfl, hb1⟩
      have HC2 := Lib.hid (hc2.on hb1)
      have HC4 := Lib.hid (hc4.on hb1)
      have HB1 := Lib.hid (hb0.trans (hb1.mono hb0.size))
      have HS1 := Lib.hid (show w.heap.size + 2 ≤ w1.heap.size by have := hb1.size; omega)
      have q2 : w1.cell? ⟨w.heap.size, 0, none⟩ = some (.slice A0 n0 c0) := BlkOk.cell (k := 0) HC2.out rfl
      have q4 : w1.cell? ⟨w.heap.size + 1, 0, none⟩ = some (.bool false) := BlkOk.cell (k := 0) HC4.out rfl
      have q5 : w1.frozen? ⟨w.heap.size + 1, 0, none⟩ = false := BlkOk.fr HC4.out 0
      clear hc2 hc4 hb0 hs0 hb1
      clear hm
      go_wp2_with fail
      go_at_call 8
      refine (anew_no (HI.out.below HB1.out) HM.out HZ.out).mono ?_
      rintro e w2 ⟨rfl, hb2⟩
      clear q2 q4 q5
      have HD2 := Lib.hid (HC2.out.on hb2)
      have HD4 := Lib.hid (HC4.out.on hb2)
      have HB2 := Lib.hid (HB1.out.trans (hb2.mono HB1.out.size))
      have HS2 := Lib.hid (show w.heap.size + 2 ≤ w2.heap.size by have := hb2.size; have := HS1.out; omega)
      have q2 : w2.cell? ⟨w.heap.size, 0, none⟩ = some (.slice A0 n0 c0) := BlkOk.cell (k := 0) HD2.out rfl
      have q4 : w2.cell? ⟨w.heap.size + 1, 0, none⟩ = some (.bool false) := BlkOk.cell (k := 0) HD4.out rfl
      have q5 : w2.frozen? ⟨w.heap.size + 1, 0, none⟩ = false := BlkOk.fr HD4.out 0
      clear HC2 HC4 HB1 HS1 hb2
      clear q2 q4 q5
      have st2 := (Below.refl w2.heap.size w2).alloc (Nat.le_refl _) (.cells #[.pointer none] 24)
      have HE4 := Lib.hid (HD4.out.on st2)
      have HBE := Lib.hid (HB2.out.trans (st2.mono HB2.out.size))
      clear st2
      obtain ⟨E, hE⟩ : ∃ E, w2.alloc (.cells #[.pointer none] 24) = E := ⟨_, rfl⟩
      rw [hE] at HE4 HBE
      have q4 : E.cell? ⟨w.heap.size + 1, 0, none⟩ = some (.bool false) := BlkOk.cell (k := 0) HE4.out rfl
      have q5 : E.frozen? ⟨w.heap.size + 1, 0, none⟩ = false := BlkOk.fr HE4.out 0
      rw [← hE] at q4 q5
      have HX := Lib.hid (World.cell?_setCell_same' E ⟨w.heap.size + 1, 0, none⟩ (.bool true) (by rw [← hE, q4]; rfl))
      have HXB := Lib.hid (HBE.out.setCell (p := ⟨w.heap.size + 1, 0, none⟩) (by show w.heap.size ≤ w.heap.size + 1; omega) (.bool true))
      rw [← hE] at HX HXB
      clear hE
      go_wp2
      exact ⟨.bool true, by simp [results, Tryz.f6, go_sem, HX.out], rfl, HXB.out⟩
set_option maxRecDepth 100000 in
theorem lifted (os : Os) (started : os.Started) (H : Type) (enc : TypeId × Value → H) :
    ReturnsInHanded {} Tryz.checked os 6 .any (fun w args => (Rows.aliasEvenlySpec.pre enc Tryz.prog Tryz.f6 Rows.aliasEvenlyRow.domain false w args ∧ laidMetH Tryz.prog Rows.aliasEvenlyRow.laid w) ∧ sizedMet enc Tryz.prog Tryz.f6 (OpenSpec.ofChange Rows.aliasEvenlySpec) false w args) (Rows.aliasEvenlySpec.post enc Tryz.prog Tryz.f6 false true false false) := by
  refine returnsInHanded_of_change_and (C := Tryz.checked) (X := fun w _ => laidMetH Tryz.prog Rows.aliasEvenlyRow.laid w) (fun _ _ _ hh h => h.of_heap hh) own started (by kernel_rfl) Tryz.func6
    (ChangeSpec.witness_shaped (enc := enc) (C := Tryz.checked) (os := os) (X := fun w _ => laidMetH Tryz.prog Rows.aliasEvenlyRow.laid w) false (World.laidAll Tryz.prog os Rows.aliasEvenlyRow.laid) #[.slice none 0 0, .int .u8 0] 8 (World.laidAll_os _ _ _)
      (World.shaped_of_ZipB (by kernel_rfl) (by kernel_rfl)) (by kernel_rfl) (by kernel_rfl) (by kernel_rfl)
      (by rw [MakeChecks.laidMetH_plain _ _ _ (by kernel_rfl)]; exact laidMet_laidAll _ (by kernel_rfl) (by kernel_rfl))) ?_
  intro W base args ds gs before hval0 hW hcnd _ _ _
  have hval : ∀ (j : Nat) t v, Tryz.f6.params[j]? = some t → args[j]? = some v → Value.okWide Tryz.prog W .any base t v := hval0
  have hW' := hW
  obtain ⟨p, q, hA0, hV, hpq, hfz, hnd⟩ := hW
  have hA : DataW.TrodAll enc Tryz.prog W 0 (fun _ => true) true Tryz.f6.params.toList args.toList ds p := hA0
  rw [Tryz.params6] at hA hval
  obtain ⟨v0, vs0, d0, ds0, p0, q0, hargs, rfl, rfl, h0, r0⟩ := trodAll_cons hA
  obtain ⟨v1, vs1, d1, ds1, p1, q1, rfl, rfl, rfl, h1, r1⟩ := trodAll_cons r0
  obtain ⟨rfl, rfl, rfl⟩ := trodAll_nil r1
  obtain rfl : args = #[v0, v1] := by cases args; simp_all
  obtain ⟨rfl, rfl⟩ := trodVars_none hV
  obtain ⟨A0, n0, c0, xs0, rfl, s0⟩ := open_i64s_ (hval 0 22 v0 rfl rfl) h0
  obtain ⟨a1, rfl, rfl, rfl, w1⟩ := open_int Tryz.underlying5 (hval 1 5 v1 rfl rfl) h1
  refine (walk W A0 n0 c0 xs0 s0 a1 w1).mono fun e W' ⟨he, hb⟩ => ?_
  subst he
  exact ⟨_, rfl, Frame.close laidOut hW' rfl rfl rfl Tryz.underlying4 (fun t ht => by rw [Tryz.params6] at ht; simp at ht; rcases ht with rfl | rfl <;> exact ⟨by kernel_rfl, of_decide_eq_true (by kernel_rfl)⟩) hb⟩
theorem over : Rows.aliasEvenlyRow.holds Tryz.pinned (OpenSpec.ofChange Rows.aliasEvenlySpec) :=
  OpenClaim.holds_of_wide 6 Tryz.f6 rfl rfl rfl rfl rfl rfl rfl ⟨rfl, rfl, rfl, rfl, rfl⟩ rfl rfl rfl rfl rfl (by kernel_rfl) Tryz.func6 (by kernel_rfl)
    (of_decide_eq_true (by kernel_rfl)) (by unfold Func.isWrapper; first | (rw [if_pos (by decide +kernel)]; kernel_rfl) | (rw [if_neg (by decide +kernel)]; exact ⟨rfl, rfl⟩))
    (fun os started H enc _ => lifted os started H enc)
/-- the statement -/
theorem proved : Rows.AliasEvenlyCardSaid :=
  Claim7.holds_tied_plain_at .later [] _ _ _ _ over (fun _ h => by cases h) (by kernel_rfl) (fun _ h => by cases h) aliasEvenly_row_tie rfl ⟨rfl, rfl⟩ (by kernel_rfl) rfl
    (fun f fn hf hfn => by
      obtain rfl : f = 6 := Option.some.inj ((show Tryz.prog.funcNamed "tombola/tombolalaw11.AliasEvenly" = some 6 by kernel_rfl).symm.trans hf) |>.symm
      obtain rfl : fn = Tryz.f6 := (Option.some.inj (Tryz.func6.symm.trans hfn)).symm
      exact ⟨by kernel_rfl, (fun j t ht => by
        rw [Tryz.params6] at ht
        have hm : t ∈ [22, 5] := by simpa using Array.mem_of_getElem? ht
        have hall : ([22, 5].all fun u => !Tryz.prog.wantsStandIn u) = true := by kernel_rfl
        exact (show Tryz.prog.wantsStandIn t = false by simpa using List.all_eq_true.1 hall t hm))⟩)
    (by kernel_rfl)
#print axioms proved
end Go.Proofs.YtfdpddlefobcpaaGreatDoor.aliasEvenly
