/- What the document's own package of whole numbers answers, over this translation. -/
import Derived.Test.YtgahnchfefngeaaDoorGRefB
import Derived.Test.YtgahnchfefngeaaDoorGDec
import Derived.Test.YtgahnchfefngeaaDoorGWhole
import Derived.Deep.QuietTactic
import Derived.BigQuiet
namespace Go.Proofs.YtgahnchfefngeaaDoor
open Go.RowKit
set_option linter.unusedVariables false
set_option maxRecDepth 20000
open N
open Go.Lib (decDigits nDigits decDigits_length nDigits_pos)
section
variable {w : World} {A A' : Option Addr} {n c m d : Nat} {xs ys : List Int}
theorem wsame_any (w : World) (b : Bool) (hx : Sl w A n c xs) (hy : Sl w A' m d xs) :
    Calls Tryd.prog 12 #[.agg #[.bool b, .slice A n c], .agg #[.bool b, .slice A' m d]] w fun e w' => e = .returned (.bool true) ∧ Below w.heap.size w w' := by
  have hcx := hx.cap
  have hmx := hx.max
  have hcy := hy.cap
  unfold maxLen at hmx
  obtain rfl : n = m := hx.len.symm.trans hy.len
  have h5 : ((n : Int) != (n : Int)) = false := by simp
  have h4 : (b != b) = false := by simp
  have HX := Lib.hid hx
  have HY := Lib.hid hy
  clear hx hy
  go_enter Tryd.func12, Tryd.ntmps12
  go_wp2
  go_loopw [5] (fun i wr => ∃ (k : Nat), k ≤ n ∧ i = .int .i64 k ∧ BoxI wr w.heap.size b A n c ∧ BoxI wr (w.heap.size + 1) b A' n d ∧ Below w.heap.size w wr) (fun i _ => n - (intOf i).toNat)
  case atStart =>
    refine ⟨0, Nat.zero_le _, rfl, (BoxI.made rfl).1.alloc _, ?_, ((Below.refl _ w).alloc (Nat.le_refl _) _).alloc (by simp) _⟩
    have := (BoxI.made (w := w.alloc (.cells #[.bool b, .slice A n c] 26)) (b := b) (A := A') (n := n) (c := d) rfl).1
    rwa [World.size_alloc] at this
  case round =>
    obtain ⟨k, hk, rfl, hBx, hBy, hb⟩ := hrel
    obtain ⟨wi, rfl⟩ : ∃ wi : World, wi = wr := ⟨_, rfl⟩
    have x0 := hBx.c0
    have x1 := hBx.c1
    have y0 := hBy.c0
    have y1 := hBy.c1
    by_cases hlt : k < n
    · obtain ⟨ad, rfl, _, h1⟩ := (HX.out.below hb).cell hlt
      obtain ⟨ad', rfl, _, h2⟩ := (HY.out.below hb).cell hlt
      have h6 : (lim xs k != lim xs k) = false := by simp
      have HBX := Lib.hid hBx
      have HBY := Lib.hid hBy
      have HB := Lib.hid hb
      clear hBx hBy hb
      go_wp2
      go_quiet (fail)
      go_wp2
      go_roundw
      case rel => exact ⟨k + 1, by omega, by go_num, HBX.out.drewN _, HBY.out.drewN _, HB.out.trans ⟨rfl, rfl, rfl, Nat.le_refl _, fun _ _ => rfl⟩⟩
      case measure => simp [intOf]; omega
    · obtain rfl : k = n := by omega
      have HB := Lib.hid hb
      clear hBx hBy hb
      go_wp2
      go_ret
      exact ⟨rfl, HB.out⟩
theorem sh_sum (T : List UInt8) : (⟨#[45]⟩ : ByteArray) ++ ⟨T.toArray⟩ = ⟨(45 :: T).toArray⟩ := ByteArray.mk_append_mk [45] T
theorem OutIE.fin {w w1 w2 : World} {g n1 c1 : Nat} {A1 : Option Addr} {z k : Int} {b : Bool} (hb1 : Below w.heap.size w w1) (hg : w.heap.size = g) (hg1 : g < w1.heap.size) (ho : N.Own w2 w1.heap.size A1 n1 c1 (limbs (mg z))) (hb2 : Below w1.heap.size w1 w2) (hn : n1 ≤ 20001) (hs : b = sg z) :
    OutIE w 20001 z k (.returned (.tuple #[.agg #[.bool b, .slice A1 n1 c1], .int .i64 k])) ((w2.setCell ⟨g, 0, none⟩ (.bool b)).setCell ⟨g, 1, none⟩ (.slice A1 n1 c1)) := by
  subst hs
  refine ⟨A1, n1, c1, rfl, hn, ?_, ?_⟩
  · exact ((ho.keep (grow_set w2 g 0 _) (fun k hk => by injection hk with hk; omega)).keep (grow_set _ g 1 _) (fun k hk => by injection hk with hk; omega)).mono hb1.size
  · exact ((hb1.trans (hb2.mono hb1.size)).setCell (show w.heap.size ≤ g by omega) _).setCell (show w.heap.size ≤ g by omega) _
theorem read_cut (b : UInt8) (t : List UInt8) : (⟨(b :: t).toArray⟩ : ByteArray).extract 1 (t.length + 1) = ⟨t.toArray⟩ := ext_drop (b :: t) 1
theorem own_nilz {w : World} {base : Nat} : N.Own w base none 0 0 (limbs (mg 0)) := by rw [mg_0, limbs_zero]; exact N.Own.nil_ _ _
end
end Go.Proofs.YtgahnchfefngeaaDoor
