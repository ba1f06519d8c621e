/- What the program's Draw of layer 10 answers over this translation. -/
import Derived.Test.YtolfjhfmcgibbaaGreatDoorFrePick
import Derived.Test.YtolfjhfmcgibbaaGreatDoorBelProg
namespace Go.Proofs.YtolfjhfmcgibbaaGreatDoor
open Go.RowKit Go.Shelf
set_option linter.unusedVariables false
set_option linter.unusedSimpArgs false
set_option maxRecDepth 20000
open N
theorem TbOk.grown {w w' : World} {t g gc : Nat} {ws : List Int} (h : TbOk w t g ws) (hg : w.grownBy w' (some gc)) (h1 : t ≠ gc) (h2 : g ≠ gc) : TbOk w' t g ws := ⟨h.tb.grown hg h1, h.en.grown hg h2⟩
theorem tdraw_any {w : World} {t g gc a v a2 m q : Nat} {gd o o2 : Bool} {l : List UInt8} {ws : List Int} (h : TbOk w t g ws) (hw : Wt ws) (hc : CuOk w gc l a o) (hB : isB l = true) (ha : a ≤ l.length) (hm : pre ws ws.length = (m : Int)) (hd : dr l a o m = (v, gd, a2, o2)) (h1 : t ≠ gc) (h2 : g ≠ gc) (hq : (gd = true ∧ Pk ws (v : Int) q) ∨ (gd = false ∧ q = 0)) :
    Calls Tryz.prog 23 #[.pointer (some ⟨t, 0, none⟩), .pointer (some ⟨gc, 0, none⟩)] w fun e w' => e = .returned (.tuple #[.int .i64 (q : Int), .bool gd]) ∧ w.grownBy w' (some gc) ∧ CuOk w' gc l a2 o2 := by
  have hm9 : (m : Int) ≤ 67108864 := by rw [← hm]; exact (hw.le (Nat.le_refl _)).2.2
  have HS := Lib.hid (tsum_any h hw.l1 hm)
  have hcw : IntKind.u64.wrap (m : Int) = (m : Int) := by rw [IntKind.wrap_u64]; omega
  have HD := Lib.hid (draw_any hc hB ha (by omega) hd)
  have HT := Lib.hid (fun (W : World) (hg : w.grownBy W (some gc)) => h.grown hg h1 h2)
  rcases hq with ⟨rfl, hp⟩ | ⟨rfl, rfl⟩
  · have hvw : IntKind.i64.wrap (v : Int) = (v : Int) := by
      have := hp.range hw.ok
      rw [hm] at this
      rw [IntKind.wrap_i64]
      omega
    have HI := Lib.hid (fun (W : World) (hT : TbOk W t g ws) => index_any hT hw hp)
    clear h hw hc hB ha hm hd h1 h2 hp hm9
    go_enter Tryz.func23, Tryz.ntmps23
    go_wp2_with (first
      | (go_at_call 19; refine HS.out.mono ?_; rintro e w1 ⟨rfl, rfl⟩)
      | (go_at_call 35; refine HD.out.mono ?_; rintro e w2 ⟨rfl, hg2, hc2⟩; have HG2 := Lib.hid hg2; have HC2 := Lib.hid hc2; clear hg2 hc2)
      | (go_at_call 38; refine (HI.out _ (HT.out _ HG2.out)).mono ?_; rintro e w3 ⟨rfl, hb3⟩))
    go_ret2
    exact ⟨rfl, grownBy_then HG2.out hb3, HC2.out.on hb3⟩
  · clear h hw hc hB ha hm hd h1 h2 hm9
    go_enter Tryz.func23, Tryz.ntmps23
    go_wp2_with (first
      | (go_at_call 19; refine HS.out.mono ?_; rintro e w1 ⟨rfl, rfl⟩)
      | (go_at_call 35; refine HD.out.mono ?_; rintro e w2 ⟨rfl, hg2, hc2⟩; have HG2 := Lib.hid hg2; have HC2 := Lib.hid hc2; clear hg2 hc2))
    go_ret2
    exact ⟨rfl, HG2.out, HC2.out⟩
/-- of a table that sums up to nothing: nil, or one that nobody made -/
theorem tdraw_zero {w : World} {p : Option Addr} {gc a : Nat} {o : Bool} {l : List UInt8} (hS : Calls Tryz.prog 19 #[.pointer p] w fun e w' => e = .returned (.int .i64 0) ∧ w' = w) (hc : CuOk w gc l a o) (hB : isB l = true) (ha : a ≤ l.length) :
    Calls Tryz.prog 23 #[.pointer p, .pointer (some ⟨gc, 0, none⟩)] w fun e w' => e = .returned (.tuple #[.int .i64 0, .bool false]) ∧ w.grownBy w' (some gc) ∧ CuOk w' gc l a o := by
  have HS := Lib.hid hS
  have hcw : IntKind.u64.wrap 0 = ((0 : Nat) : Int) := rfl
  have HD := Lib.hid (draw_any (m := 0) hc hB ha (by decide) (dr_no (.inl rfl)))
  clear hS hc hB ha
  go_enter Tryz.func23, Tryz.ntmps23
  go_wp2_with (first
    | (go_at_call 19; refine HS.out.mono ?_; rintro e w1 ⟨rfl, rfl⟩)
    | (go_at_call 35; refine HD.out.mono ?_; rintro e w2 ⟨rfl, hg2, hc2⟩; have HG2 := Lib.hid hg2; have HC2 := Lib.hid hc2; clear hg2 hc2))
  go_ret2
  exact ⟨rfl, HG2.out, HC2.out⟩
end Go.Proofs.YtolfjhfmcgibbaaGreatDoor
