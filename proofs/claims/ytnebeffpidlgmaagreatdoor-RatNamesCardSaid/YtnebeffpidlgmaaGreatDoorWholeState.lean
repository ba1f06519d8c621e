/- Layer 5's calls over whole numbers at hand: the magnitudes lie in a state (NatState), the signs beside them. -/
import Derived.Test.YtnebeffpidlgmaaGreatDoorWholeProgD
import Derived.Test.YtnebeffpidlgmaaGreatDoorRefWhole
import Derived.Deep.RegionHeld3
namespace Go.Proofs.YtnebeffpidlgmaaGreatDoor
open Go.RowKit
set_option linter.unusedVariables false
set_option maxRecDepth 20000
open N
open Go.Lib (decDigits nDigits decDigits_length nDigits_pos)
/-- a block that holds one whole number: where, and what -/
structure Bx where
  g : Nat
  b : Bool
  A : Option Addr
  n : Nat
  c : Nat
def BxOk (w : World) (q : Bx) : Prop := BoxI w q.g q.b q.A q.n q.c
/-- a state with blocks that hold whole numbers: none of the naturals at hand lies in such a block -/
structure SB (w0 w : World) (S : List Ent) (T : List Bx) : Prop where
  st : St w0 w S
  box : ∀ q ∈ T, BxOk w q
  from_ : ∀ q ∈ T, w0.heap.size ≤ q.g
  apart : ∀ t ∈ S, ∀ q ∈ T, 0 < t.n → Aw t.A q.g
section
variable {w0 w w' : World} {S : List Ent} {T : List Bx} {A A' : Option Addr} {n c m d k k' : Nat} {xs ys : List Int} {v u z y : Int} {b b' : Bool}
theorem SB.start (w : World) : SB w w [] [] := ⟨St.nil_ w, (fun q hq => by cases hq), (fun q hq => by cases hq), (fun t ht => by cases ht)⟩
theorem SB.get (h : SB w0 w S T) (hm : (⟨A, n, c, k, xs, v⟩ : Ent) ∈ S) : Sl w A n c xs ∧ n ≤ k ∧ val B xs = v := h.st.get hm
theorem SB.below (h : SB w0 w S T) (hb : Below w.heap.size w w') : SB w0 w' S T := ⟨h.st.below hb, fun q hq => BoxI.on (h.box q hq) hb, h.from_, h.apart⟩
theorem SB.alloc (h : SB w0 w S T) (o : Obj) : SB w0 (w.alloc o) S T := h.below ((Below.refl _ _).alloc (Nat.le_refl _) _)
theorem SB.allocs (h : SB w0 w S T) {o : Obj} {w1 : World} (hw : w.alloc o = w1) : SB w0 w1 S T := by subst hw; exact h.alloc o
theorem SB.drewN (h : SB w0 w S T) (k : Nat) : SB w0 (w.drewN k) S T := h.below ⟨rfl, rfl, rfl, Nat.le_refl _, fun _ _ => rfl⟩
theorem SB.drew (h : SB w0 w S T) : SB w0 w.drew S T := h.below ⟨rfl, rfl, rfl, Nat.le_refl _, fun _ _ => rfl⟩
theorem SB.c0 (h : SB w0 w S T) {g : Nat} (hq : (⟨g, b, A, n, c⟩ : Bx) ∈ T) : w.cell? ⟨g, 0, none⟩ = some (.bool b) := BoxI.c0 (h.box _ hq)
theorem SB.c1 (h : SB w0 w S T) {g : Nat} (hq : (⟨g, b, A, n, c⟩ : Bx) ∈ T) : w.cell? ⟨g, 1, none⟩ = some (.slice A n c) := BoxI.c1 (h.box _ hq)
theorem SB.fr (h : SB w0 w S T) {g : Nat} (hq : (⟨g, b, A, n, c⟩ : Bx) ∈ T) (k : Nat) : w.frozen? ⟨g, k, none⟩ = false := BoxI.fr (h.box _ hq) k
/-- one more natural, that was there ahead of all the blocks -/
theorem SB.old (h : SB w0 w S T) (h1 : Sl w0 A n c xs) (h2 : n ≤ k) (h3 : val B xs = v) : SB w0 w (⟨A, n, c, k, xs, v⟩ :: S) T := by
  refine ⟨h.st.cons (h1.below h.st.1) h2 h3, h.box, h.from_, fun t ht q hq hn => ?_⟩
  rcases List.mem_cons.1 ht with e | e
  · subst e
    intro ad e
    obtain ⟨ad', e', hlt, _⟩ := h1.at' 0 hn
    have h4 := h.from_ q hq
    have e : A = some ad := e
    rw [e] at e'
    injection e' with e'
    subst e'
    omega
  · exact h.apart t e q hq hn
theorem SB.none_ (h : SB w0 w S T) : SB w0 w (⟨none, 0, 0, 0, [], 0⟩ :: S) T := by
  refine ⟨h.st.zero, h.box, h.from_, fun t ht q hq hn => ?_⟩
  rcases List.mem_cons.1 ht with e | e
  · subst e; exact absurd hn (by simp)
  · exact h.apart t e q hq hn
/-- one more natural, in memory of a call's own -/
theorem SB.new (h : SB w0 w S T) (hb : Below w.heap.size w w') (ho : N.Own w' w.heap.size A n c xs) (h2 : n ≤ k) (h3 : val B xs = v) : SB w0 w' (⟨A, n, c, k, xs, v⟩ :: S) T := by
  have h' := h.below hb
  refine ⟨h'.st.cons ho.sl h2 h3, h'.box, h'.from_, fun t ht q hq hn => ?_⟩
  rcases List.mem_cons.1 ht with e | e
  · subst e
    exact N.Own.aw ho (BoxI.lt (h.box q hq))
  · exact h'.apart t e q hq hn
theorem SB.lit (h : SB w0 w S T) (xs : List Int) (hd : Dg B xs) (hl : xs.length ≤ 1000) : SB w0 (w.alloc (.cells (uv xs).toArray 47)) (⟨some ⟨w.heap.size, 0, none⟩, xs.length, xs.length, xs.length, xs, val B xs⟩ :: S) T := by
  have h' := h.alloc (.cells (uv xs).toArray 47)
  refine ⟨h.st.lit xs hd hl, h'.box, h'.from_, fun t ht q hq hn => ?_⟩
  rcases List.mem_cons.1 ht with e | e
  · subst e
    intro ad e
    have hlt := BoxI.lt (h.box q hq)
    have e : some (⟨w.heap.size, 0, none⟩ : Addr) = some ad := e
    injection e with e
    subst e
    show w.heap.size ≠ q.g
    omega
  · exact h'.apart t e q hq hn
theorem SB.lit1 (h : SB w0 w S T) (x : Int) (hx : 0 ≤ x ∧ x < 18446744073709551616) : SB w0 (w.alloc (.cells #[.int .u64 x] 47)) (⟨some ⟨w.heap.size, 0, none⟩, 1, 1, 1, [x], x⟩ :: S) T := by
  have := h.lit [x] (Dg.one hx.1 hx.2) (by simp)
  rw [show val B [x] = x by simp [val]] at this
  exact this
theorem SB.lit2 (h : SB w0 w S T) (x y : Int) (hx : 0 ≤ x ∧ x < 18446744073709551616) (hy : 0 ≤ y ∧ y < 18446744073709551616) :
    SB w0 (w.alloc (.cells #[.int .u64 x, .int .u64 y] 47)) (⟨some ⟨w.heap.size, 0, none⟩, 2, 2, 2, [x, y], x + 18446744073709551616 * y⟩ :: S) T := by
  have := h.lit [x, y] (Dg.cons hx.1 hx.2 (Dg.one hy.1 hy.2)) (by simp)
  rw [show val B [x, y] = x + 18446744073709551616 * y by simp [val]] at this
  exact this
/-- a new block with a whole number -/
theorem SB.boxed (h : SB w0 w S T) {w1 : World} (hw : w.alloc (.cells #[.bool b, .slice A n c] 25) = w1) : SB w0 w1 S (⟨w.heap.size, b, A, n, c⟩ :: T) := by
  obtain ⟨hB, hb⟩ := BoxI.made hw
  have h' := h.below hb
  refine ⟨h'.st, fun q hq => ?_, fun q hq => ?_, fun t ht q hq hn => ?_⟩
  · rcases List.mem_cons.1 hq with e | e
    · subst e; exact hB
    · exact h'.box q e
  · rcases List.mem_cons.1 hq with e | e
    · subst e; exact h.st.1.size
    · exact h.from_ q e
  · rcases List.mem_cons.1 hq with e | e
    · subst e
      intro ad e
      obtain ⟨h1, _⟩ := h.st.2 t ht
      obtain ⟨ad', e', hlt, _⟩ := h1.at' 0 hn
      rw [e] at e'
      injection e' with e'
      subst e'
      show _ ≠ w.heap.size
      omega
    · exact h'.apart t ht q e hn
theorem SB.swap {q q' : Bx} (h : SB w0 w S (q :: q' :: T)) : SB w0 w S (q' :: q :: T) :=
  ⟨h.st, fun r hr => h.box r (by simp only [List.mem_cons] at hr ⊢; rcases hr with e | e | e <;> simp [e]), fun r hr => h.from_ r (by simp only [List.mem_cons] at hr ⊢; rcases hr with e | e | e <;> simp [e]),
    fun t ht r hr => h.apart t ht r (by simp only [List.mem_cons] at hr ⊢; rcases hr with e | e | e <;> simp [e])⟩
/-- fewer -/
theorem SB.sub {S' : List Ent} {T' : List Bx} (h : SB w0 w S T) (hs : ∀ t ∈ S', t ∈ S) (ht : ∀ q ∈ T', q ∈ T) : SB w0 w S' T' :=
  ⟨h.st.sub hs, fun q hq => h.box q (ht q hq), fun q hq => h.from_ q (ht q hq), fun t h1 q hq => h.apart t (hs t h1) q (ht q hq)⟩
/-- another whole number into a block -/
theorem SB.put {g : Nat} (h : SB w0 w S (⟨g, b, A, n, c⟩ :: T)) (hd : ∀ q ∈ T, q.g ≠ g) (b' : Bool) (A' : Option Addr) (n' c' : Nat) :
    SB w0 ((w.setCell ⟨g, 0, none⟩ (.bool b')).setCell ⟨g, 1, none⟩ (.slice A' n' c')) S (⟨g, b', A', n', c'⟩ :: T) := by
  have hg := h.from_ _ List.mem_cons_self
  have hB := h.box _ List.mem_cons_self
  have hbel : Below w0.heap.size w0 ((w.setCell ⟨g, 0, none⟩ (.bool b')).setCell ⟨g, 1, none⟩ (.slice A' n' c')) := (h.st.1.setCell (p := ⟨g, 0, none⟩) hg _).setCell (p := ⟨g, 1, none⟩) hg _
  refine ⟨⟨hbel, fun t ht => ?_⟩, fun q hq => ?_, fun q hq => ?_, fun t ht q hq => ?_⟩
  · obtain ⟨h1, h2, h3⟩ := h.st.2 t ht
    have ha := h.apart t ht _ List.mem_cons_self
    exact ⟨(h1.growz (grow_set _ g 0 _) ha).growz (grow_set _ g 1 _) ha, h2, h3⟩
  · rcases List.mem_cons.1 hq with e | e
    · subst e; exact (BoxI.set0 hB b').set1 A' n' c'
    · have hne := hd q e
      exact BoxI.far (BoxI.far (h.box q (List.mem_cons_of_mem _ e)) hne _) hne _
  · rcases List.mem_cons.1 hq with e | e
    · subst e; exact hg
    · exact h.from_ q (List.mem_cons_of_mem _ e)
  · rcases List.mem_cons.1 hq with e | e
    · subst e; exact h.apart t ht ⟨g, b, A, n, c⟩ List.mem_cons_self
    · exact h.apart t ht q (List.mem_cons_of_mem _ e)
/-- what the block at place i of the list holds, as a walk wants it -/
theorem SB.cs (h : SB w0 w S T) (i : Nat) {g : Nat} (hi : T[i]? = some ⟨g, b, A, n, c⟩) : w.cell? ⟨g, 0, none⟩ = some (.bool b) ∧ w.cell? ⟨g, 1, none⟩ = some (.slice A n c) :=
  have hq := List.mem_of_getElem? hi
  ⟨h.c0 hq, h.c1 hq⟩
theorem SB.frs (h : SB w0 w S T) (i : Nat) {g : Nat} (hi : T[i]? = some ⟨g, b, A, n, c⟩) : w.frozen? ⟨g, 0, none⟩ = false ∧ w.frozen? ⟨g, 1, none⟩ = false :=
  have hq := List.mem_of_getElem? hi
  ⟨h.fr hq 0, h.fr hq 1⟩
theorem SB.outI_le (h : SB w0 w S T) {m m' : Nat} {e : Ending} (hm : m ≤ m') (ho : OutI w m z e w') : ∃ A n c, e = .returned (.agg #[.bool (sg z), .slice A n c]) ∧ SB w0 w' (⟨A, n, c, m', limbs (mg z), mg z⟩ :: S) T := by
  obtain ⟨A, n, c, he, hn, hown, hb⟩ := ho
  exact ⟨A, n, c, he, h.new hb hown (by omega) (limbs_val (mg_nn z))⟩
theorem SB.outI (h : SB w0 w S T) {m : Nat} {e : Ending} (ho : OutI w m z e w') : ∃ A n c, e = .returned (.agg #[.bool (sg z), .slice A n c]) ∧ SB w0 w' (⟨A, n, c, m, limbs (mg z), mg z⟩ :: S) T := h.outI_le (Nat.le_refl _) ho
theorem SB.outIE (h : SB w0 w S T) {m : Nat} {q : Int} {e : Ending} (ho : OutIE w m z q e w') : ∃ A n c, e = .returned (.tuple #[.agg #[.bool (sg z), .slice A n c], .int .i64 q]) ∧ SB w0 w' (⟨A, n, c, m, limbs (mg z), mg z⟩ :: S) T := by
  obtain ⟨A, n, c, he, hn, hown, hb⟩ := ho
  exact ⟨A, n, c, he, h.new hb hown hn (limbs_val (mg_nn z))⟩
theorem SB.outI2 (h : SB w0 w S T) {m m' : Nat} {q : Int} {e : Ending} (hm : m ≤ m') (ho : OutI2 w m z y q e w') :
    ∃ A n c A' n' c', e = .returned (.tuple #[.agg #[.bool (sg z), .slice A n c], .agg #[.bool (sg y), .slice A' n' c'], .int .i64 q]) ∧ SB w0 w' (⟨A', n', c', m', limbs (mg y), mg y⟩ :: ⟨A, n, c, m', limbs (mg z), mg z⟩ :: S) T := by
  obtain ⟨A, n, c, A', n', c', he, hn, hn', ho1, ho2, hb⟩ := ho
  have h1 := h.new hb ho1 (k := m') (by omega) (limbs_val (mg_nn z))
  have h2 := h.new hb ho2 (k := m') (by omega) (limbs_val (mg_nn y))
  refine ⟨A, n, c, A', n', c', he, h1.st.cons ho2.sl (by omega) (limbs_val (mg_nn y)), h1.box, h1.from_, fun t ht => ?_⟩
  rcases List.mem_cons.1 ht with e | e
  · exact h2.apart t (by rw [e]; exact List.mem_cons_self)
  · exact h1.apart t e
theorem make_w (h : SB w0 w S T) (h1 : (⟨A, n, c, k, xs, v⟩ : Ent) ∈ S) (hk : k ≤ 1000000) (hz : iv b v = z) :
    Calls Tryz.prog 45 #[.bool b, .slice A n c] w fun e w' => ∃ A n c, e = .returned (.agg #[.bool (sg z), .slice A n c]) ∧ SB w0 w' (⟨A, n, c, k, limbs (mg z), mg z⟩ :: S) T := by
  obtain ⟨a1, a2, rfl⟩ := h.get h1
  subst hz
  exact (wmake_any w b a1 (by omega)).mono fun e w' ho => h.outI_le a2 ho
theorem of_w (h : SB w0 w S T) (h1 : -9223372036854775808 ≤ z) (h2 : z ≤ 9223372036854775807) :
    Calls Tryz.prog 46 #[.int .i64 z] w fun e w' => ∃ A n c, e = .returned (.agg #[.bool (sg z), .slice A n c]) ∧ SB w0 w' (⟨A, n, c, 1, limbs (mg z), mg z⟩ :: S) T :=
  (wof_any w z h1 h2).mono fun e w' ho => h.outI ho
theorem may_w (h : SB w0 w S T) (h1 : (⟨A, n, c, k, xs, v⟩ : Ent) ∈ S) (hk : k ≤ 1000000) {q : Bool} (hq : mayB b xs = q) :
    Calls Tryz.prog 51 #[.agg #[.bool b, .slice A n c]] w fun e w' => e = .returned (.bool q) ∧ SB w0 w' S T := by
  obtain ⟨a1, a2, rfl⟩ := h.get h1
  subst hq
  exact (wmay_any w b a1 (by omega)).mono fun e w' ⟨he, hb⟩ => ⟨he, h.below hb⟩
theorem sign_w (h : SB w0 w S T) (h1 : (⟨A, n, c, k, xs, v⟩ : Ent) ∈ S) (hk : k ≤ 1000000) (hz : iv b v = z) :
    Calls Tryz.prog 99 #[.agg #[.bool b, .slice A n c]] w fun e w' => e = .returned (.int .i64 (sgn z)) ∧ SB w0 w' S T := by
  obtain ⟨a1, a2, rfl⟩ := h.get h1
  subst hz
  exact (wsign_any w b a1 (by omega)).mono fun e w' ⟨he, hb⟩ => ⟨he, h.below hb⟩
theorem cmp_w (h : SB w0 w S T) (h1 : (⟨A, n, c, k, xs, v⟩ : Ent) ∈ S) (h2 : (⟨A', m, d, k', ys, u⟩ : Ent) ∈ S) (hk : k ≤ 1000000) (hk' : k' ≤ 1000000) (hz : iv b v = z) (hy : iv b' u = y) :
    Calls Tryz.prog 71 #[.agg #[.bool b, .slice A n c], .agg #[.bool b', .slice A' m d]] w fun e w' => e = .returned (.int .i64 (sgn (z - y))) ∧ SB w0 w' S T := by
  obtain ⟨a1, a2, rfl⟩ := h.get h1
  obtain ⟨b1, b2, rfl⟩ := h.get h2
  subst hz hy
  exact (wcmp_any w b a1 (by omega) b' b1 (by omega)).mono fun e w' ⟨he, hb⟩ => ⟨he, h.below hb⟩
theorem neg_w (h : SB w0 w S T) (h1 : (⟨A, n, c, k, xs, v⟩ : Ent) ∈ S) (hk : k ≤ 1000000) (hz : iv b v = z) :
    Calls Tryz.prog 47 #[.agg #[.bool b, .slice A n c]] w fun e w' => ∃ r A n c, -z = r ∧ e = .returned (.agg #[.bool (sg r), .slice A n c]) ∧ SB w0 w' (⟨A, n, c, k, limbs (mg r), mg r⟩ :: S) T := by
  obtain ⟨a1, a2, rfl⟩ := h.get h1
  subst hz
  exact (wneg_any w b a1 (by omega)).mono fun e w' ho => have ⟨A, n, c, he, h'⟩ := h.outI_le a2 ho; ⟨_, A, n, c, rfl, he, h'⟩
theorem add_w (h : SB w0 w S T) (h1 : (⟨A, n, c, k, xs, v⟩ : Ent) ∈ S) (h2 : (⟨A', m, d, k', ys, u⟩ : Ent) ∈ S) (hk : k ≤ 1000000) (hk' : k' ≤ 1000000) (hz : iv b v = z) (hy : iv b' u = y) :
    Calls Tryz.prog 67 #[.agg #[.bool b, .slice A n c], .agg #[.bool b', .slice A' m d]] w fun e w' => ∃ r A n c, z + y = r ∧ e = .returned (.agg #[.bool (sg r), .slice A n c]) ∧ SB w0 w' (⟨A, n, c, k + k' + 1, limbs (mg r), mg r⟩ :: S) T := by
  obtain ⟨a1, a2, rfl⟩ := h.get h1
  obtain ⟨b1, b2, rfl⟩ := h.get h2
  subst hz hy
  exact (wadd_any w b a1 (by omega) b' b1 (by omega)).mono fun e w' ho => have ⟨A, n, c, he, h'⟩ := h.outI_le (by omega) ho; ⟨_, A, n, c, rfl, he, h'⟩
theorem mul_w (h : SB w0 w S T) (h1 : (⟨A, n, c, k, xs, v⟩ : Ent) ∈ S) (h2 : (⟨A', m, d, k', ys, u⟩ : Ent) ∈ S) (hk : k ≤ 1000000) (hk' : k' ≤ 1000000) (hz : iv b v = z) (hy : iv b' u = y) :
    Calls Tryz.prog 70 #[.agg #[.bool b, .slice A n c], .agg #[.bool b', .slice A' m d]] w fun e w' => ∃ r A n c, z * y = r ∧ e = .returned (.agg #[.bool (sg r), .slice A n c]) ∧ SB w0 w' (⟨A, n, c, k + k', limbs (mg r), mg r⟩ :: S) T := by
  obtain ⟨a1, a2, rfl⟩ := h.get h1
  obtain ⟨b1, b2, rfl⟩ := h.get h2
  subst hz hy
  exact (wmul_any w b a1 (by omega) b' b1 (by omega)).mono fun e w' ho => have ⟨A, n, c, he, h'⟩ := h.outI_le (by omega) ho; ⟨_, A, n, c, rfl, he, h'⟩
theorem show_w (h : SB w0 w S T) (h1 : (⟨A, n, c, k, xs, v⟩ : Ent) ∈ S) (hk : k ≤ 1000000) (hz : iv b v = z) {X : List UInt8} (hX : shI z = X) :
    Calls Tryz.prog 60 #[.agg #[.bool b, .slice A n c]] w fun e w' => e = .returned (.string ⟨X.toArray⟩) ∧ SB w0 w' S T := by
  obtain ⟨a1, a2, rfl⟩ := h.get h1
  subst hz hX
  exact (wshow_any w b a1 (by omega)).mono fun e w' ⟨he, hb⟩ => ⟨he, h.below hb⟩
theorem read_w (h : SB w0 w S T) (bs : List UInt8) (hl : bs.length ≤ maxLen) {j : Int} (hj : rdJ bs = j) (hz : rdW bs = z) :
    Calls Tryz.prog 57 #[.string ⟨bs.toArray⟩] w fun e w' => ∃ A n c, e = .returned (.tuple #[.agg #[.bool (sg z), .slice A n c], .int .i64 j]) ∧ SB w0 w' (⟨A, n, c, 20001, limbs (mg z), mg z⟩ :: S) T := by
  subst hj hz
  exact (wread_any w bs hl).mono fun e w' ho => h.outIE ho
theorem sign_q (h : SB w0 w S T) (h1 : (⟨A, n, c, k, xs, v⟩ : Ent) ∈ S) (hk : k ≤ 1000000) (hz : iv b v = z) {q : Int} (hq : sgn z = q) :
    Calls Tryz.prog 99 #[.agg #[.bool b, .slice A n c]] w fun e w' => e = .returned (.int .i64 q) ∧ SB w0 w' S T := by
  subst hq
  exact sign_w h h1 hk hz
theorem cmp_q (h : SB w0 w S T) (h1 : (⟨A, n, c, k, xs, v⟩ : Ent) ∈ S) (h2 : (⟨A', m, d, k', ys, u⟩ : Ent) ∈ S) (hk : k ≤ 1000000) (hk' : k' ≤ 1000000) (hz : iv b v = z) (hy : iv b' u = y) {q : Int} (hq : sgn (z - y) = q) :
    Calls Tryz.prog 71 #[.agg #[.bool b, .slice A n c], .agg #[.bool b', .slice A' m d]] w fun e w' => e = .returned (.int .i64 q) ∧ SB w0 w' S T := by
  subst hq
  exact cmp_w h h1 h2 hk hk' hz hy
theorem rread_w (h : SB w0 w S T) (bs : List UInt8) (hl : bs.length ≤ maxLen) {j : Int} (hj : rdJ bs = j) (hz : rdW bs = z) :
    Calls Tryz.prog 54 #[.string ⟨bs.toArray⟩] w fun e w' => ∃ A n c, e = .returned (.tuple #[.agg #[.bool (sg z), .slice A n c], .int .i64 j]) ∧ SB w0 w' (⟨A, n, c, 20001, limbs (mg z), mg z⟩ :: S) T := by
  subst hj hz
  exact (rreadi_any w bs hl).mono fun e w' ho => h.outIE ho
theorem zero_q (h : SB w0 w S T) (h1 : (⟨A, n, c, k, xs, v⟩ : Ent) ∈ S) {q : Bool} (hq : decide (v = 0) = q) :
    Calls Tryz.prog 42 #[.slice A n c] w fun e w' => e = .returned (.bool q) ∧ SB w0 w' S T := by
  obtain ⟨a1, a2, rfl⟩ := h.get h1
  subst hq
  by_cases hv : val B xs = 0
  · rw [decide_eq_true hv]
    exact (zero_yes w A n c xs a1 hv).mono fun e w' ⟨he, hb⟩ => ⟨he, by rw [hb]; exact h⟩
  · rw [decide_eq_false hv]
    exact (zero_no w A n c xs a1 (by have := val_nonneg (b := B) (by decide) a1.dg; omega)).mono fun e w' ⟨he, hb⟩ => ⟨he, by rw [hb]; exact h⟩
theorem ncmp_q (h : SB w0 w S T) (h1 : (⟨A, n, c, k, xs, v⟩ : Ent) ∈ S) (h2 : (⟨A', m, d, k', ys, u⟩ : Ent) ∈ S) (hk : k ≤ 1000000) (hk' : k' ≤ 1000000) {q : Int} (hq : cmpI v u = q) :
    Calls Tryz.prog 92 #[.slice A n c, .slice A' m d] w fun e w' => e = .returned (.int .i64 q) ∧ SB w0 w' S T := by
  obtain ⟨a1, a2, rfl⟩ := h.get h1
  obtain ⟨b1, b2, rfl⟩ := h.get h2
  subst hq
  exact (ncmp_any w A A' n c m d xs ys a1 b1 (by omega) (by omega)).mono fun e w' ⟨he, hb⟩ => ⟨he, h.below hb⟩
end
namespace N
/-- the slice of whole numbers that a call with any number of them makes -/
def Ints (w : World) (g : Nat) (l : List (Bool × Option Addr × Nat × Nat)) : Prop := ∀ k, k < l.length → ∃ b A n c, l[k]? = some (b, A, n, c) ∧ w.cell? ⟨g, k * 2, none⟩ = some (.bool b) ∧ w.cell? ⟨g, k * 2 + 1, none⟩ = some (.slice A n c)
end N
theorem ints_lit (w : World) (l : List (Bool × Option Addr × Nat × Nat)) (cs : Array Value) (h : cs = (l.flatMap fun t => [Value.bool t.1, .slice t.2.1 t.2.2.1 t.2.2.2]).toArray) : Ints (w.alloc (.cells cs 25)) w.heap.size l := by
  have key : ∀ (l : List (Bool × Option Addr × Nat × Nat)) (k : Nat) (hk : k < l.length), (l.flatMap fun t => [Value.bool t.1, .slice t.2.1 t.2.2.1 t.2.2.2])[k * 2]? = some (.bool l[k].1) ∧ (l.flatMap fun t => [Value.bool t.1, .slice t.2.1 t.2.2.1 t.2.2.2])[k * 2 + 1]? = some (.slice l[k].2.1 l[k].2.2.1 l[k].2.2.2) := by
    intro l
    induction l with
    | nil => intro k hk; exact absurd hk (by simp)
    | cons t l ih =>
      intro k hk
      cases k with
      | zero => exact ⟨rfl, rfl⟩
      | succ k =>
        have h1 := ih k (by simpa using hk)
        rw [show (k + 1) * 2 = k * 2 + 1 + 1 by omega]
        simp only [List.flatMap_cons, List.cons_append, List.nil_append, List.getElem?_cons_succ, List.getElem_cons_succ]
        exact h1
  intro k hk
  obtain ⟨h1, h2⟩ := key l k hk
  refine ⟨l[k].1, l[k].2.1, l[k].2.2.1, l[k].2.2.2, List.getElem?_eq_getElem hk, ?_, ?_⟩
  · rw [World.cell?_alloc_new, h]
    simpa using h1
  · rw [World.cell?_alloc_new, h]
    simpa using h2
end Go.Proofs.YtnebeffpidlgmaaGreatDoor
