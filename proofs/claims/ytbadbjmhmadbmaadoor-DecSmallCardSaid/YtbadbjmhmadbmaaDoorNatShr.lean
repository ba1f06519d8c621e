/- What Shr of layer 2 answers, over this translation. -/
import Derived.Test.YtbadbjmhmadbmaaDoorNatShl
import Derived.Test.YtbadbjmhmadbmaaDoorNatRange
import Derived.Test.YtbadbjmhmadbmaaDoorNatCmp
import Derived.Test.YtbadbjmhmadbmaaDoorNatShrMath
import Derived.RangeFuncNested
import Derived.RangeFuncBound
import Derived.RegionIn
import Derived.Laws.EntriesVeiled
import Derived.Shelf.RegionOpen
import Derived.Deep.RegionWith
namespace Go.Proofs.YtbadbjmhmadbmaaDoor
open Go.RowKit Go.Shelf
set_option linter.unusedVariables false
set_option maxRecDepth 20000
open N
attribute [local go_sem] Oper.semAt_some
abbrev ShrK (S : Nat) : Value := .func (.func 57) #[] #[.pointer (some ⟨S + 1 + 1 + 1, 0, none⟩), .pointer (some ⟨S + 1 + 1 + 1 + 1, 0, none⟩)]
theorem keeps_two (V : World) (p p' : Addr) (u u' : Value) (k : Nat) : KeepsOthers V (((V.setCell p u).drewN k).setCell p' u') :=
  (KeepsOthers.setCell V p u).trans (KeepsOthers.trans (⟨Nat.le_refl _, fun _ _ h _ => h⟩ : KeepsOthers (V.setCell p u) ((V.setCell p u).drewN k)) (KeepsOthers.setCell _ _ _))
theorem KpB.two {n₀ Bs : Nat} (V : World) {p p' : Addr} (h : n₀ ≤ p.block) (hB : Bs ≠ p.block) (h' : n₀ ≤ p'.block) (hB' : Bs ≠ p'.block) (u u' : Value) (k : Nat) : KpB n₀ Bs V (((V.setCell p u).drewN k).setCell p' u') :=
  (KpB.set V h hB u).trans (KpB.trans (⟨⟨rfl, rfl, rfl, Nat.le_refl _, fun _ _ => rfl⟩, rfl⟩ : KpB n₀ Bs (V.setCell p u) ((V.setCell p u).drewN k)) (KpB.set _ h' hB' u'))
theorem ownFrom_of_below {β : Type} {B : Nat} {I : β → World → Prop} (h : ∀ s W W', I s W → Below B W W' → I s W') (hs : ∀ s W, I s W → B ≤ W.heap.size) : OwnFrom B I :=
  fun s W W' row hi hg hr => h s W W' hi ⟨hg.os, hg.tape, hg.output, hg.size, fun k hk => hg.block k (Nat.lt_of_lt_of_le hk (hs s W hi)) (fun e => by have := (hr k e.symm).1; omega)⟩
end Go.Proofs.YtbadbjmhmadbmaaDoor
