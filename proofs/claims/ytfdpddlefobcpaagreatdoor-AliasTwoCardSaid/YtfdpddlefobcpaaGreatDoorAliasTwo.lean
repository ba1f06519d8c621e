/-
  PROVED: the statement AliasTwo (tombolalaw11.AliasTwo) about the landed commit: for every input the law returns true and leaves its arguments as they were. Conditions: none beyond those that the given row itself prints.
-/
import Derived.Test.YtfdpddlefobcpaaGreatDoorCards
import Derived.Test.YtfdpddlefobcpaaGreatDoorTie
import Derived.LaidMore
import Derived.Lay
import Derived.SevenTiedAt
import Derived.Stop.Joined
import Derived.Test.YtfdpddlefobcpaaGreatDoorRows
import Derived.WalkKit
import Derived.ProofKit
import Derived.OpenShut
import Derived.RowKit3
import Derived.Test.YtfdpddlefobcpaaGreatDoorGFrame
import Derived.Test.YtfdpddlefobcpaaGreatDoorGAlj
namespace Go.Proofs.YtfdpddlefobcpaaGreatDoor.aliasTwo
open Go.ChangeShapes Go.WideShapes Go.ChangeAt Go.RowKit
set_option linter.unusedVariables false
set_option linter.unusedSimpArgs false
set_option maxRecDepth 20000
open N
theorem own : ownKnob Tryz.prog.godebug = none := by kernel_rfl
/-- cursors, and a table, at hand -/
structure ES (w0 w : World) (T : List Blk) (t g1 g2 : Nat) (ws : List Int) : Prop where
  cs : CS w0 w T
  ta : Ta w t g1 g2 ws
section
variable {w0 w w' : World} {T : List Blk} {t g1 g2 gc a a2 q m v n : Nat} {gd o o2 : Bool} {l : List UInt8} {ws : List Int}
theorem ES.below (h : ES w0 w T t g1 g2 ws) (hb : Below w.heap.size w w') : ES w0 w' T t g1 g2 ws := ⟨h.cs.below hb, h.ta.on hb⟩
theorem cnew_e (h : ES w0 w T t g1 g2 ws) (hB : isB l = true) :
    Calls Tryz.prog 10 #[.string ⟨l.toArray⟩] w fun e w' => ∃ g, e = .returned (.tuple #[.pointer (some ⟨g, 0, none⟩), .int .i64 0]) ∧ ES w0 w' (K g l 0 false :: T) t g1 g2 ws := by
  refine (new_yes w l hB).mono ?_
  rintro e w' ⟨g, rfl, hg, hq, hb⟩
  exact ⟨g, rfl, h.cs.new (q := K g l 0 false) hb hq hg, h.ta.on hb⟩
theorem copy_e (h : ES w0 w T t g1 g2 ws) (i : Nat) (hi : T[i]? = some (K gc l a o)) (hB : isB l = true) :
    Calls Tryz.prog 27 #[.pointer (some ⟨gc, 0, none⟩)] w fun e w' => ∃ g', e = .returned (.pointer (some ⟨g', 0, none⟩)) ∧ ES w0 w' (K g' l a o :: T) t g1 g2 ws := by
  have hl := (isB_iff.1 hB).1
  refine (copy_any (h.cs.get i hi) (by omega)).mono ?_
  rintro e w' ⟨g', rfl, hg, hq, hb⟩
  exact ⟨g', rfl, h.cs.new (q := K g' l a o) hb hq hg, h.ta.on hb⟩
theorem draw_e (h : ES w0 w T t g1 g2 ws) (k : Nat) (hk : T[k]? = some (K gc l a o)) (hB : isB l = true) (ha : a ≤ l.length) (hm : m < 18446744073709551616) (hd : dr l a o m = (v, gd, a2, o2)) :
    Calls Tryz.prog 28 #[.pointer (some ⟨gc, 0, none⟩), .int .u64 (m : Nat)] w fun e w' => e = .returned (.tuple #[.int .u64 (v : Nat), .bool gd]) ∧ ES w0 w' (T.set k (K gc l a2 o2)) t g1 g2 ws := by
  have hc := h.cs.get k hk
  refine (draw_any hc hB ha hm hd).mono ?_
  rintro e w' ⟨rfl, hg, hq⟩
  exact ⟨rfl, h.cs.turn k hk hg hq, h.ta.grown hc hg⟩
theorem adraw_e (h : ES w0 w T t g1 g2 ws) (k : Nat) (hk : T[k]? = some (K gc l a o)) (hw : Wt ws) (hB : isB l = true) (ha : a ≤ l.length) (hm : pre ws ws.length = (m : Int)) (hd : drA (cutA ws) (othA ws) ws.length m l a o = (q, gd, a2, o2)) :
    Calls Tryz.prog 12 #[.pointer (some ⟨t, 0, none⟩), .pointer (some ⟨gc, 0, none⟩)] w fun e w' => e = .returned (.tuple #[.int .i64 (q : Int), .bool gd]) ∧ ES w0 w' (T.set k (K gc l a2 o2)) t g1 g2 ws := by
  have hc := h.cs.get k hk
  refine (adraw_any h.ta hw hc hB ha hm hd).mono ?_
  rintro e w' ⟨rfl, hg, hc2, hT⟩
  exact ⟨rfl, h.cs.turn k hk hg hc2, hT⟩
theorem at_e (h : ES w0 w T t g1 g2 ws) (i : Nat) (hi : T[i]? = some (K gc l a o)) :
    Calls Tryz.prog 14 #[.pointer (some ⟨gc, 0, none⟩)] w fun e w' => e = .returned (.int .i64 (a : Int)) ∧ ES w0 w' T t g1 g2 ws := by
  refine (at_any (h.cs.get i hi)).mono ?_
  rintro e w' ⟨rfl, hb⟩
  exact ⟨rfl, h.below hb⟩
theorem cover_e (h : ES w0 w T t g1 g2 ws) (i : Nat) (hi : T[i]? = some (K gc l a o)) :
    Calls Tryz.prog 15 #[.pointer (some ⟨gc, 0, none⟩)] w fun e w' => e = .returned (.bool o) ∧ ES w0 w' T t g1 g2 ws := by
  refine (over_any (h.cs.get i hi)).mono ?_
  rintro e w' ⟨rfl, hb⟩
  exact ⟨rfl, h.below hb⟩
theorem sum_e (h : ES w0 w T t g1 g2 ws) {s : Int} (hs : pre ws ws.length = s) :
    Calls Tryz.prog 21 #[.pointer (some ⟨t, 0, none⟩)] w fun e w' => e = .returned (.int .i64 s) ∧ ES w0 w' T t g1 g2 ws := by
  refine (ta_sum h.ta hs).mono ?_
  rintro e w' ⟨rfl, rfl⟩
  exact ⟨rfl, h⟩
theorem pick_e (h : ES w0 w T t g1 g2 ws) {i : Nat} {r : Int} (hi : i < ws.length) (hr : 0 ≤ r ∧ r < pre ws ws.length) {y : Nat} (hy : pkA (cutA ws) (othA ws) i r = y) :
    Calls Tryz.prog 18 #[.pointer (some ⟨t, 0, none⟩), .int .i64 (i : Int), .int .i64 r] w fun e w' => e = .returned (.tuple #[.int .i64 (y : Int), .int .i64 0]) ∧ ES w0 w' T t g1 g2 ws := by
  refine (ta_pick h.ta hi hr (by rw [hy]) rfl).mono ?_
  rintro e w' ⟨rfl, rfl⟩
  exact ⟨rfl, h⟩
/-- other bits behind change nothing of what is drawn -/
theorem dr_front11 {l l' : List UInt8} {a a2 c v n : Nat} {o2 : Bool} (h : dr l a false n = (v, true, a2, o2)) (hc : a2 ≤ c) (hl : c ≤ l.length) (hl' : c ≤ l'.length) (ht : l.take c = l'.take c) (ha : a ≤ l.length) (ha' : a ≤ l'.length) : dr l' a false n = (v, true, a2, o2) := by
  have hn : n ≠ 0 := by
    rcases (dr_ways h).2.2 with ⟨_, _, _, e⟩ | ⟨e, _⟩
    · exact e
    · cases e
  rw [dr_in hn] at h ⊢
  have ht2 : l.take a2 = l'.take a2 := by
    have h1 := congrArg (List.take a2) ht
    rwa [List.take_take, List.take_take, Nat.min_eq_left hc] at h1
  have e1 := drF_front h (by omega) (by omega) ht2 (Nat.le_max_left (l.length + 1) (l'.length + 1))
  rw [← e1]
  exact drF_fuel (.inr (by omega)) (by omega) (by omega) ha'
end
set_option maxRecDepth 100000 in
set_option maxHeartbeats 8000000 in
theorem walk (w : World) (A0 : Option Addr) (n0 c0 : Nat) (xs0 : List Int) (h0 : Il w A0 n0 c0 xs0) (b1 : List UInt8) (l1 : b1.length ≤ maxLen) (b2 : List UInt8) (l2 : b2.length ≤ maxLen) :
    Calls Tryz.prog 5 #[.slice A0 n0 c0, .string ⟨b1.toArray⟩, .string ⟨b2.toArray⟩] w fun e w' => e = .returned (.bool true) ∧ Below w.heap.size w w' := by
  have HI := Lib.hid h0
  have HLN := Lib.hid h0.len
  clear h0
  have HB := Lib.hid (Below.refl w.heap.size w)
  by_cases h8 : 100 < n0
  · have h9 : (100 : Int) < (n0 : Int) := by omega
    clear l1 l2
    go_enter Tryz.func5, Tryz.ntmps5
    go_wp2_with (first
      | (go_at_call 7; refine (awake11 _).mono ?_; rintro e wi ⟨rfl, hb⟩; have HBB := Lib.hid (HB.out.trans (hb.mono HB.out.size)); clear hb HB; have HB := HBB; clear HBB))
    go_ret
    first
      | exact ⟨rfl, HB.out⟩
      | (refine ⟨?_, HB.out⟩; simp)
  · have h9 : ¬ (100 : Int) < (n0 : Int) := by omega
    by_cases hi1 : isB b1 = true
    · by_cases hi2 : isB b2 = true
      · have HI1 := Lib.hid (fun W : World => (by have h := bis_any W b1 l1; rwa [hi1] at h : Calls Tryz.prog 26 #[.string ⟨b1.toArray⟩] W fun e w' => e = .returned (.bool true) ∧ Below W.heap.size W w'))
        have HI2 := Lib.hid (fun W : World => (by have h := bis_any W b2 l2; rwa [hi2] at h : Calls Tryz.prog 26 #[.string ⟨b2.toArray⟩] W fun e w' => e = .returned (.bool true) ∧ Below W.heap.size W w'))
        obtain ⟨nb1, hb1⟩ := isB_iff.1 hi1
        obtain ⟨nb2, hb2⟩ := isB_iff.1 hi2
        have hwl : IntKind.i64.wrap ((b1.length : Int) + (b2.length : Int)) = (b1.length : Int) + (b2.length : Int) := by rw [IntKind.wrap_i64]; omega
        by_cases h2 : 1024 < b1.length + b2.length
        · have h3 : 1024 < (b1.length : Int) + (b2.length : Int) := by omega
          clear l1 l2 hi1 hi2 nb1 nb2 hb1 hb2 h2
          go_enter Tryz.func5, Tryz.ntmps5
          go_wp2_with (first
            | (go_at_call_of 26 (Value.string ⟨b1.toArray⟩); refine (HI1.out _).mono ?_; rintro e wi ⟨rfl, hb⟩; have HBB := Lib.hid (HB.out.trans (hb.mono HB.out.size)); clear hb HB; have HB := HBB; clear HBB)
            | (go_at_call_of 26 (Value.string ⟨b2.toArray⟩); refine (HI2.out _).mono ?_; rintro e wi ⟨rfl, hb⟩; have HBB := Lib.hid (HB.out.trans (hb.mono HB.out.size)); clear hb HB; have HB := HBB; clear HBB)
            | (go_at_call 7; refine (awake11 _).mono ?_; rintro e wi ⟨rfl, hb⟩; have HBB := Lib.hid (HB.out.trans (hb.mono HB.out.size)); clear hb HB; have HB := HBB; clear HBB))
          go_ret
          first
            | exact ⟨rfl, HB.out⟩
            | (refine ⟨?_, HB.out⟩; simp)
        · by_cases hm : mayW xs0 = 0
          · have HM := Lib.hid hm
            have HW := Lib.hid (mayW_zero.1 hm)
            clear hm
            have h3 : ¬ 1024 < (b1.length : Int) + (b2.length : Int) := by omega
            have HBN := Lib.hid hi1
            obtain ⟨m, hsm⟩ : ∃ m : Nat, pre xs0 xs0.length = (m : Int) := ⟨(pre xs0 xs0.length).toNat, by have := HW.out.pos; omega⟩
            have HS := Lib.hid hsm
            have hnb : 0 < n0 ∧ n0 ≤ 64 := by have q1 := HW.out.l0; have q2 := HW.out.l1; rw [HLN.out] at q1 q2; exact ⟨q1, q2⟩
            have hmb : 0 < m ∧ m ≤ 67108864 := by have q1 := HW.out.pos; have q2 := (HW.out.le (Nat.le_refl _)).2.2; rw [hsm] at q1 q2; omega
            have hcn : IntKind.u64.wrap (n0 : Int) = (n0 : Int) := by rw [IntKind.wrap_u64]; omega
            have hcm : IntKind.u64.wrap (m : Int) = (m : Int) := by rw [IntKind.wrap_u64]; omega
            have HNB := Lib.hid (show n0 < 18446744073709551616 by omega)
            have HMB := Lib.hid (show m < 18446744073709551616 by omega)
            rcases hd1 : dr b1 0 false n0 with ⟨v, gd1, a1, o1⟩
            obtain ⟨p1, p2, p3⟩ := dr_ways hd1
            have ha1 := p2 (Nat.zero_le _)
            have HA1 := Lib.hid ha1
            have HD1 := Lib.hid hd1
            rcases hd2 : dr b1 a1 o1 m with ⟨r, gd2, a2, o2⟩
            obtain ⟨s1, s2, s3⟩ := dr_ways hd2
            have ha2 := s2 ha1
            have HD2 := Lib.hid hd2
            have hz1 : ¬ (a2 : Int) < 0 := by omega
            have hz2 : ¬ (b1.length : Int) < (a2 : Int) := by omega
            cases gd1 with
            | false =>
              obtain ⟨rfl, rfl⟩ : v = 0 ∧ o1 = true := by
                rcases p3 with ⟨e, _⟩ | ⟨_, e, f⟩
                · cases e
                · exact ⟨e, f.resolve_right (by omega)⟩
              rw [dr_no (.inr rfl)] at hd2
              injection hd2 with e1 hd3; injection hd3 with e2 hd3; injection hd3 with e3 e4
              subst e1 e2 e3 e4
              have HAD := Lib.hid (show drA (cutA xs0) (othA xs0) xs0.length m b1 0 false = (0, false, a1, true) by rw [HLN.out]; exact drA_no hd1)
              clear l1 l2 hi1 hi2 nb1 nb2 hb1 hb2 h2 hsm hnb hmb hd1 p1 p2 p3 ha1 s1 s2 s3 ha2
              go_enter Tryz.func5, Tryz.ntmps5
              go_wp2_with (first
                | (go_at_call_of 26 (Value.string ⟨b1.toArray⟩); refine (HI1.out _).mono ?_; rintro e wi ⟨rfl, hb⟩; have HBB := Lib.hid (HB.out.trans (hb.mono HB.out.size)); clear hb HB; have HB := HBB; clear HBB)
                | (go_at_call_of 26 (Value.string ⟨b2.toArray⟩); refine (HI2.out _).mono ?_; rintro e wi ⟨rfl, hb⟩; have HBB := Lib.hid (HB.out.trans (hb.mono HB.out.size)); clear hb HB; have HB := HBB; clear HBB)
                | (go_at_call 7; refine (awake11 _).mono ?_; rintro e wi ⟨rfl, hb⟩; have HBB := Lib.hid (HB.out.trans (hb.mono HB.out.size)); clear hb HB; have HB := HBB; clear HBB)
                | (go_at_call 8; refine (anew_ok (HI.out.below HB.out) HM.out).mono ?_; rintro e wi ⟨t, g1, g2, rfl, hT, _, _, _, hb⟩; have hS := Lib.hid (show ES w wi [] t g1 g2 xs0 from ⟨(CS.start w).below (HB.out.trans (hb.mono HB.out.size)), hT⟩); clear hT hb HB)
                | (go_at_call 10; (with_reducible refine (cnew_e hS.out HBN.out).mono ?_); rintro e wi ⟨gc, rfl, h1⟩; have h2 : ES w wi [K gc b1 0 false] t g1 g2 xs0 := h1; clear hS h1; have hS := Lib.hid h2; clear h2)
                | (go_at_call 27; (with_reducible refine (copy_e hS.out 0 rfl HBN.out).mono ?_); rintro e wi ⟨gk, rfl, h1⟩; have h2 : ES w wi [K gk b1 0 false, K gc b1 0 false] t g1 g2 xs0 := h1; clear hS h1; have hS := Lib.hid h2; clear h2)
                | (go_at_call 12; (with_reducible refine (adraw_e (q := 0) (gd := false) (a2 := a1) (o2 := true) hS.out 1 rfl HW.out HBN.out (Nat.zero_le _) HS.out HAD.out).mono ?_); rintro e wi ⟨rfl, h1⟩; have h2 : ES w wi [K gk b1 0 false, K gc b1 a1 true] t g1 g2 xs0 := h1; clear hS h1; have hS := Lib.hid h2; clear h2)
                | (go_at_call 28; (with_reducible refine (draw_e (m := n0) (v := 0) (gd := false) (a2 := a1) (o2 := true) hS.out 0 rfl HBN.out (Nat.zero_le _) HNB.out HD1.out).mono ?_); rintro e wi ⟨rfl, h1⟩; have h2 : ES w wi [K gk b1 a1 true, K gc b1 a1 true] t g1 g2 xs0 := h1; clear hS h1; have hS := Lib.hid h2; clear h2)
                | (go_at_call 28; (with_reducible refine (draw_e (m := m) (v := 0) (gd := false) (a2 := a1) (o2 := true) hS.out 0 rfl HBN.out HA1.out HMB.out HD2.out).mono ?_); rintro e wi ⟨rfl, h1⟩; have h2 : ES w wi [K gk b1 a1 true, K gc b1 a1 true] t g1 g2 xs0 := h1; clear hS h1; have hS := Lib.hid h2; clear h2)
                | (go_at_call 21; (with_reducible refine (sum_e hS.out HS.out).mono ?_); rintro e wi ⟨rfl, h1⟩; have h2 : ES w wi [K gk b1 a1 true, K gc b1 a1 true] t g1 g2 xs0 := h1; clear hS h1; have hS := Lib.hid h2; clear h2)
                | (go_at_call 14; (with_reducible refine (at_e hS.out 0 rfl).mono ?_); rintro e wi ⟨rfl, h1⟩; have h2 : ES w wi [K gk b1 a1 true, K gc b1 a1 true] t g1 g2 xs0 := h1; clear hS h1; have hS := Lib.hid h2; clear h2)
                | (go_at_call 14; (with_reducible refine (at_e hS.out 1 rfl).mono ?_); rintro e wi ⟨rfl, h1⟩; have h2 : ES w wi [K gk b1 a1 true, K gc b1 a1 true] t g1 g2 xs0 := h1; clear hS h1; have hS := Lib.hid h2; clear h2)
                | (go_at_call 15; (with_reducible refine (cover_e hS.out 0 rfl).mono ?_); rintro e wi ⟨rfl, h1⟩; have h2 : ES w wi [K gk b1 a1 true, K gc b1 a1 true] t g1 g2 xs0 := h1; clear hS h1; have hS := Lib.hid h2; clear h2)
                | (go_at_call 15; (with_reducible refine (cover_e hS.out 1 rfl).mono ?_); rintro e wi ⟨rfl, h1⟩; have h2 : ES w wi [K gk b1 a1 true, K gc b1 a1 true] t g1 g2 xs0 := h1; clear hS h1; have hS := Lib.hid h2; clear h2))
              go_ret
              exact ⟨rfl, hS.out.cs.bl⟩
            | true =>
              cases gd2 with
              | false =>
                obtain rfl : r = 0 := by
                  rcases s3 with ⟨e, _⟩ | ⟨_, e, _⟩
                  · cases e
                  · exact e
                have HAD := Lib.hid (show drA (cutA xs0) (othA xs0) xs0.length m b1 0 false = (0, false, a2, o2) by rw [HLN.out]; exact drA_half hd1 hd2)
                clear l1 l2 hi1 hi2 nb1 nb2 hb1 hb2 h2 hsm hnb hmb hd1 hd2 p1 p2 p3 ha1 s1 s2 s3 ha2
                go_enter Tryz.func5, Tryz.ntmps5
                go_wp2_with (first
                  | (go_at_call_of 26 (Value.string ⟨b1.toArray⟩); refine (HI1.out _).mono ?_; rintro e wi ⟨rfl, hb⟩; have HBB := Lib.hid (HB.out.trans (hb.mono HB.out.size)); clear hb HB; have HB := HBB; clear HBB)
                  | (go_at_call_of 26 (Value.string ⟨b2.toArray⟩); refine (HI2.out _).mono ?_; rintro e wi ⟨rfl, hb⟩; have HBB := Lib.hid (HB.out.trans (hb.mono HB.out.size)); clear hb HB; have HB := HBB; clear HBB)
                  | (go_at_call 7; refine (awake11 _).mono ?_; rintro e wi ⟨rfl, hb⟩; have HBB := Lib.hid (HB.out.trans (hb.mono HB.out.size)); clear hb HB; have HB := HBB; clear HBB)
                  | (go_at_call 8; refine (anew_ok (HI.out.below HB.out) HM.out).mono ?_; rintro e wi ⟨t, g1, g2, rfl, hT, _, _, _, hb⟩; have hS := Lib.hid (show ES w wi [] t g1 g2 xs0 from ⟨(CS.start w).below (HB.out.trans (hb.mono HB.out.size)), hT⟩); clear hT hb HB)
                  | (go_at_call 10; (with_reducible refine (cnew_e hS.out HBN.out).mono ?_); rintro e wi ⟨gc, rfl, h1⟩; have h2 : ES w wi [K gc b1 0 false] t g1 g2 xs0 := h1; clear hS h1; have hS := Lib.hid h2; clear h2)
                  | (go_at_call 27; (with_reducible refine (copy_e hS.out 0 rfl HBN.out).mono ?_); rintro e wi ⟨gk, rfl, h1⟩; have h2 : ES w wi [K gk b1 0 false, K gc b1 0 false] t g1 g2 xs0 := h1; clear hS h1; have hS := Lib.hid h2; clear h2)
                  | (go_at_call 12; (with_reducible refine (adraw_e (q := 0) (gd := false) (a2 := a2) (o2 := o2) hS.out 1 rfl HW.out HBN.out (Nat.zero_le _) HS.out HAD.out).mono ?_); rintro e wi ⟨rfl, h1⟩; have h2 : ES w wi [K gk b1 0 false, K gc b1 a2 o2] t g1 g2 xs0 := h1; clear hS h1; have hS := Lib.hid h2; clear h2)
                  | (go_at_call 28; (with_reducible refine (draw_e (m := n0) (v := v) (gd := true) (a2 := a1) (o2 := o1) hS.out 0 rfl HBN.out (Nat.zero_le _) HNB.out HD1.out).mono ?_); rintro e wi ⟨rfl, h1⟩; have h2 : ES w wi [K gk b1 a1 o1, K gc b1 a2 o2] t g1 g2 xs0 := h1; clear hS h1; have hS := Lib.hid h2; clear h2)
                  | (go_at_call 28; (with_reducible refine (draw_e (m := m) (v := 0) (gd := false) (a2 := a2) (o2 := o2) hS.out 0 rfl HBN.out HA1.out HMB.out HD2.out).mono ?_); rintro e wi ⟨rfl, h1⟩; have h2 : ES w wi [K gk b1 a2 o2, K gc b1 a2 o2] t g1 g2 xs0 := h1; clear hS h1; have hS := Lib.hid h2; clear h2)
                  | (go_at_call 21; (with_reducible refine (sum_e hS.out HS.out).mono ?_); rintro e wi ⟨rfl, h1⟩; have h2 : ES w wi [K gk b1 a1 o1, K gc b1 a2 o2] t g1 g2 xs0 := h1; clear hS h1; have hS := Lib.hid h2; clear h2)
                  | (go_at_call 14; (with_reducible refine (at_e hS.out 0 rfl).mono ?_); rintro e wi ⟨rfl, h1⟩; have h2 : ES w wi [K gk b1 a2 o2, K gc b1 a2 o2] t g1 g2 xs0 := h1; clear hS h1; have hS := Lib.hid h2; clear h2)
                  | (go_at_call 14; (with_reducible refine (at_e hS.out 1 rfl).mono ?_); rintro e wi ⟨rfl, h1⟩; have h2 : ES w wi [K gk b1 a2 o2, K gc b1 a2 o2] t g1 g2 xs0 := h1; clear hS h1; have hS := Lib.hid h2; clear h2)
                  | (go_at_call 15; (with_reducible refine (cover_e hS.out 0 rfl).mono ?_); rintro e wi ⟨rfl, h1⟩; have h2 : ES w wi [K gk b1 a2 o2, K gc b1 a2 o2] t g1 g2 xs0 := h1; clear hS h1; have hS := Lib.hid h2; clear h2)
                  | (go_at_call 15; (with_reducible refine (cover_e hS.out 1 rfl).mono ?_); rintro e wi ⟨rfl, h1⟩; have h2 : ES w wi [K gk b1 a2 o2, K gc b1 a2 o2] t g1 g2 xs0 := h1; clear hS h1; have hS := Lib.hid h2; clear h2))
                go_ret
                exact ⟨rfl, hS.out.cs.bl⟩
              | true =>
                obtain ⟨hv, rfl⟩ : v < n0 ∧ o1 = false := by
                  rcases p3 with ⟨_, e, f, _⟩ | ⟨e, _⟩
                  · exact ⟨e, f⟩
                  · cases e
                obtain ⟨hr, rfl⟩ : r < m ∧ o2 = false := by
                  rcases s3 with ⟨_, e, f, _⟩ | ⟨e, _⟩
                  · exact ⟨e, f⟩
                  · cases e
                have HAD := Lib.hid (show drA (cutA xs0) (othA xs0) xs0.length m b1 0 false = (pkA (cutA xs0) (othA xs0) v (r : Int), true, a2, false) by rw [HLN.out]; exact drA_yes hd1 hd2)
                obtain ⟨s, hs⟩ : ∃ s, b1.take a2 ++ b2 = s := ⟨_, rfl⟩
                have hsl : s.length = a2 + b2.length := by rw [← hs, List.length_append, List.length_take]; omega
                have hst : b1.take a2 = s.take a2 := by rw [← hs, List.take_append_of_le_length (by rw [List.length_take]; omega), List.take_take, Nat.min_self]
                have hsB : isB s = true := isB_iff.2 ⟨by omega, by rw [← hs, bitsL_append, bitsL_take hb1 a2, hb2]; rfl⟩
                have hsd1 := dr_front11 hd1 s1 ha2 (by omega) hst (Nat.zero_le _) (Nat.zero_le _)
                have hsd2 := dr_front11 hd2 (Nat.le_refl _) ha2 (by omega) hst (by omega) (by omega)
                have HAS := Lib.hid (show drA (cutA xs0) (othA xs0) xs0.length m s 0 false = (pkA (cutA xs0) (othA xs0) v (r : Int), true, a2, false) by rw [HLN.out]; exact drA_yes hsd1 hsd2)
                have HBS := Lib.hid hsB
                obtain ⟨y, hy⟩ : ∃ y, pkA (cutA xs0) (othA xs0) v (r : Int) = y := ⟨_, rfl⟩
                rw [hy] at HAD HAS
                have HPK := Lib.hid hy
                have HVN := Lib.hid (show v < xs0.length by rw [HLN.out]; exact hv)
                have HRM := Lib.hid (show 0 ≤ (r : Int) ∧ (r : Int) < pre xs0 xs0.length by rw [HS.out]; omega)
                have hcv : IntKind.i64.wrap (v : Int) = (v : Int) := by rw [IntKind.wrap_i64]; omega
                have hcr : IntKind.i64.wrap (r : Int) = (r : Int) := by rw [IntKind.wrap_i64]; omega
                have hex : (⟨b1.toArray⟩ : ByteArray).extract 0 a2 = ⟨(b1.take a2).toArray⟩ := by
                  apply ByteArray.ext
                  simp
                have hap : (⟨(b1.take a2).toArray⟩ : ByteArray) ++ ⟨b2.toArray⟩ = ⟨s.toArray⟩ := by rw [← hs]; exact ByteArray.mk_append_mk _ b2
                obtain ⟨pa, hpa⟩ : ∃ p, b1.take a2 = p := ⟨_, rfl⟩
                have npa : pa.length ≤ 1024 := by rw [← hpa, List.length_take]; omega
                have npb : b2.length ≤ 1024 := nb2
                have hz4 : (a2 : Int) ≤ (b1.length : Int) := by omega
                have hz5 : (0 : Int) ≤ (a2 : Int) := by omega
                rw [hpa] at hex hap
                clear l1 l2 hi1 hi2 nb1 nb2 hb1 hb2 h2 hsm hnb hmb hd1 hd2 p1 p2 p3 ha1 s1 s2 s3 ha2 hs hsl hst hsB hsd1 hsd2 hy hv hr hpa
                go_enter Tryz.func5, Tryz.ntmps5
                go_wp2_with (first
                  | (go_at_call_of 26 (Value.string ⟨b1.toArray⟩); refine (HI1.out _).mono ?_; rintro e wi ⟨rfl, hb⟩; have HBB := Lib.hid (HB.out.trans (hb.mono HB.out.size)); clear hb HB; have HB := HBB; clear HBB)
                  | (go_at_call_of 26 (Value.string ⟨b2.toArray⟩); refine (HI2.out _).mono ?_; rintro e wi ⟨rfl, hb⟩; have HBB := Lib.hid (HB.out.trans (hb.mono HB.out.size)); clear hb HB; have HB := HBB; clear HBB)
                  | (go_at_call 7; refine (awake11 _).mono ?_; rintro e wi ⟨rfl, hb⟩; have HBB := Lib.hid (HB.out.trans (hb.mono HB.out.size)); clear hb HB; have HB := HBB; clear HBB)
                  | (go_at_call 8; refine (anew_ok (HI.out.below HB.out) HM.out).mono ?_; rintro e wi ⟨t, g1, g2, rfl, hT, _, _, _, hb⟩; have hS := Lib.hid (show ES w wi [] t g1 g2 xs0 from ⟨(CS.start w).below (HB.out.trans (hb.mono HB.out.size)), hT⟩); clear hT hb HB)
                  | (go_at_call 10; (with_reducible refine (cnew_e hS.out HBN.out).mono ?_); rintro e wi ⟨gc, rfl, h1⟩; have h2 : ES w wi [K gc b1 0 false] t g1 g2 xs0 := h1; clear hS h1; have hS := Lib.hid h2; clear h2)
                  | (go_at_call 27; (with_reducible refine (copy_e hS.out 0 rfl HBN.out).mono ?_); rintro e wi ⟨gk, rfl, h1⟩; have h2 : ES w wi [K gk b1 0 false, K gc b1 0 false] t g1 g2 xs0 := h1; clear hS h1; have hS := Lib.hid h2; clear h2)
                  | (go_at_call 12; (with_reducible refine (adraw_e (q := y) (gd := true) (a2 := a2) (o2 := false) hS.out 1 rfl HW.out HBN.out (Nat.zero_le _) HS.out HAD.out).mono ?_); rintro e wi ⟨rfl, h1⟩; have h2 : ES w wi [K gk b1 0 false, K gc b1 a2 false] t g1 g2 xs0 := h1; clear hS h1; have hS := Lib.hid h2; clear h2)
                  | (go_at_call 28; (with_reducible refine (draw_e (m := n0) (v := v) (gd := true) (a2 := a1) (o2 := false) hS.out 0 rfl HBN.out (Nat.zero_le _) HNB.out HD1.out).mono ?_); rintro e wi ⟨rfl, h1⟩; have h2 : ES w wi [K gk b1 a1 false, K gc b1 a2 false] t g1 g2 xs0 := h1; clear hS h1; have hS := Lib.hid h2; clear h2)
                  | (go_at_call 28; (with_reducible refine (draw_e (m := m) (v := r) (gd := true) (a2 := a2) (o2 := false) hS.out 0 rfl HBN.out HA1.out HMB.out HD2.out).mono ?_); rintro e wi ⟨rfl, h1⟩; have h2 : ES w wi [K gk b1 a2 false, K gc b1 a2 false] t g1 g2 xs0 := h1; clear hS h1; have hS := Lib.hid h2; clear h2)
                  | (go_at_call 21; (with_reducible refine (sum_e hS.out HS.out).mono ?_); rintro e wi ⟨rfl, h1⟩; have h2 : ES w wi [K gk b1 a1 false, K gc b1 a2 false] t g1 g2 xs0 := h1; clear hS h1; have hS := Lib.hid h2; clear h2)
                  | (go_at_call 18; (with_reducible refine (pick_e hS.out HVN.out HRM.out HPK.out).mono ?_); rintro e wi ⟨rfl, h1⟩; have h2 : ES w wi [K gk b1 a2 false, K gc b1 a2 false] t g1 g2 xs0 := h1; clear hS h1; have hS := Lib.hid h2; clear h2)
                  | (go_at_call 10; (with_reducible refine (cnew_e hS.out HBS.out).mono ?_); rintro e wi ⟨gx, rfl, h1⟩; have h2 : ES w wi [K gx s 0 false, K gk b1 a2 false, K gc b1 a2 false] t g1 g2 xs0 := h1; clear hS h1; have hS := Lib.hid h2; clear h2)
                  | (go_at_call 12; (with_reducible refine (adraw_e (q := y) (gd := true) (a2 := a2) (o2 := false) hS.out 0 rfl HW.out HBS.out (Nat.zero_le _) HS.out HAS.out).mono ?_); rintro e wi ⟨rfl, h1⟩; have h2 : ES w wi [K gx s a2 false, K gk b1 a2 false, K gc b1 a2 false] t g1 g2 xs0 := h1; clear hS h1; have hS := Lib.hid h2; clear h2)
                  | (go_at_call 14; (with_reducible refine (at_e hS.out 0 rfl).mono ?_); rintro e wi ⟨rfl, h1⟩; have h2 : ES w wi [K gx s a2 false, K gk b1 a2 false, K gc b1 a2 false] t g1 g2 xs0 := h1; clear hS h1; have hS := Lib.hid h2; clear h2)
                  | (go_at_call 14; (with_reducible refine (at_e hS.out 2 rfl).mono ?_); rintro e wi ⟨rfl, h1⟩; have h2 : ES w wi [K gx s a2 false, K gk b1 a2 false, K gc b1 a2 false] t g1 g2 xs0 := h1; clear hS h1; have hS := Lib.hid h2; clear h2)
                  | (go_at_call 14; (with_reducible refine (at_e hS.out 0 rfl).mono ?_); rintro e wi ⟨rfl, h1⟩; have h2 : ES w wi [K gk b1 a2 false, K gc b1 a2 false] t g1 g2 xs0 := h1; clear hS h1; have hS := Lib.hid h2; clear h2)
                  | (go_at_call 14; (with_reducible refine (at_e hS.out 1 rfl).mono ?_); rintro e wi ⟨rfl, h1⟩; have h2 : ES w wi [K gk b1 a2 false, K gc b1 a2 false] t g1 g2 xs0 := h1; clear hS h1; have hS := Lib.hid h2; clear h2)
                  | (go_at_call 15; (with_reducible refine (cover_e hS.out 0 rfl).mono ?_); rintro e wi ⟨rfl, h1⟩; have h2 : ES w wi [K gk b1 a2 false, K gc b1 a2 false] t g1 g2 xs0 := h1; clear hS h1; have hS := Lib.hid h2; clear h2)
                  | (go_at_call 15; (with_reducible refine (cover_e hS.out 1 rfl).mono ?_); rintro e wi ⟨rfl, h1⟩; have h2 : ES w wi [K gk b1 a2 false, K gc b1 a2 false] t g1 g2 xs0 := h1; clear hS h1; have hS := Lib.hid h2; clear h2))
                go_ret
                first
                  | exact ⟨rfl, hS.out.cs.bl⟩
                  | (refine ⟨?_, hS.out.cs.bl⟩; simp)
          · obtain ⟨z, hz1, hz2, _, _⟩ := mayW_ways (fun e => hm (mayW_zero.2 e))
            have HM := Lib.hid hz1
            have HZ := Lib.hid hz2
            have hzb : ¬ z = 0 := hz2
            clear hz1 hm
            have h3 : ¬ 1024 < (b1.length : Int) + (b2.length : Int) := by omega
            clear l1 l2 hi1 hi2 nb1 nb2 hb1 hb2 h2
            go_enter Tryz.func5, Tryz.ntmps5
            go_wp2_with (first
              | (go_at_call_of 26 (Value.string ⟨b1.toArray⟩); refine (HI1.out _).mono ?_; rintro e wi ⟨rfl, hb⟩; have HBB := Lib.hid (HB.out.trans (hb.mono HB.out.size)); clear hb HB; have HB := HBB; clear HBB)
              | (go_at_call_of 26 (Value.string ⟨b2.toArray⟩); refine (HI2.out _).mono ?_; rintro e wi ⟨rfl, hb⟩; have HBB := Lib.hid (HB.out.trans (hb.mono HB.out.size)); clear hb HB; have HB := HBB; clear HBB)
              | (go_at_call 7; refine (awake11 _).mono ?_; rintro e wi ⟨rfl, hb⟩; have HBB := Lib.hid (HB.out.trans (hb.mono HB.out.size)); clear hb HB; have HB := HBB; clear HBB)
              | (go_at_call 8; refine (anew_no (HI.out.below HB.out) HM.out HZ.out).mono ?_; rintro e wi ⟨rfl, hb⟩; have HBB := Lib.hid (HB.out.trans (hb.mono HB.out.size)); clear hb HB; have HB := HBB; clear HBB))
            go_ret
            first
              | exact ⟨rfl, HB.out⟩
              | (refine ⟨?_, HB.out⟩; simp)
      · have hB2 : isB b2 = false := by simpa using hi2
        have HI1 := Lib.hid (fun W : World => (by have h := bis_any W b1 l1; rwa [hi1] at h : Calls Tryz.prog 26 #[.string ⟨b1.toArray⟩] W fun e w' => e = .returned (.bool true) ∧ Below W.heap.size W w'))
        have HI2 := Lib.hid (fun W : World => (by have h := bis_any W b2 l2; rwa [hB2] at h : Calls Tryz.prog 26 #[.string ⟨b2.toArray⟩] W fun e w' => e = .returned (.bool false) ∧ Below W.heap.size W w'))
        clear l1 l2 hB2 hi1 hi2
        go_enter Tryz.func5, Tryz.ntmps5
        go_wp2_with (first
          | (go_at_call_of 26 (Value.string ⟨b1.toArray⟩); refine (HI1.out _).mono ?_; rintro e wi ⟨rfl, hb⟩; have HBB := Lib.hid (HB.out.trans (hb.mono HB.out.size)); clear hb HB; have HB := HBB; clear HBB)
          | (go_at_call_of 26 (Value.string ⟨b2.toArray⟩); refine (HI2.out _).mono ?_; rintro e wi ⟨rfl, hb⟩; have HBB := Lib.hid (HB.out.trans (hb.mono HB.out.size)); clear hb HB; have HB := HBB; clear HBB)
          | (go_at_call 7; refine (awake11 _).mono ?_; rintro e wi ⟨rfl, hb⟩; have HBB := Lib.hid (HB.out.trans (hb.mono HB.out.size)); clear hb HB; have HB := HBB; clear HBB))
        go_ret
        first
          | exact ⟨rfl, HB.out⟩
          | (refine ⟨?_, HB.out⟩; simp)
    · have hB1 : isB b1 = false := by simpa using hi1
      have HI1 := Lib.hid (fun W : World => (by have h := bis_any W b1 l1; rwa [hB1] at h : Calls Tryz.prog 26 #[.string ⟨b1.toArray⟩] W fun e w' => e = .returned (.bool false) ∧ Below W.heap.size W w'))
      clear l1 l2 hB1 hi1
      go_enter Tryz.func5, Tryz.ntmps5
      go_wp2_with (first
        | (go_at_call_of 26 (Value.string ⟨b1.toArray⟩); refine (HI1.out _).mono ?_; rintro e wi ⟨rfl, hb⟩; have HBB := Lib.hid (HB.out.trans (hb.mono HB.out.size)); clear hb HB; have HB := HBB; clear HBB)
        | (go_at_call 7; refine (awake11 _).mono ?_; rintro e wi ⟨rfl, hb⟩; have HBB := Lib.hid (HB.out.trans (hb.mono HB.out.size)); clear hb HB; have HB := HBB; clear HBB))
      go_ret
      first
        | exact ⟨rfl, HB.out⟩
        | (refine ⟨?_, HB.out⟩; simp)
set_option maxRecDepth 100000 in
theorem lifted (os : Os) (started : os.Started) (H : Type) (enc : TypeId × Value → H) :
    ReturnsInHanded {} Tryz.checked os 5 .any (fun w args => (Rows.aliasTwoSpec.pre enc Tryz.prog Tryz.f5 Rows.aliasTwoRow.domain false w args ∧ laidMetH Tryz.prog Rows.aliasTwoRow.laid w) ∧ sizedMet enc Tryz.prog Tryz.f5 (OpenSpec.ofChange Rows.aliasTwoSpec) false w args) (Rows.aliasTwoSpec.post enc Tryz.prog Tryz.f5 false true false false) := by
  refine returnsInHanded_of_change_and (C := Tryz.checked) (X := fun w _ => laidMetH Tryz.prog Rows.aliasTwoRow.laid w) (fun _ _ _ hh h => h.of_heap hh) own started (by kernel_rfl) Tryz.func5
    (ChangeSpec.witness_shaped (enc := enc) (C := Tryz.checked) (os := os) (X := fun w _ => laidMetH Tryz.prog Rows.aliasTwoRow.laid w) false (World.laidAll Tryz.prog os Rows.aliasTwoRow.laid) #[.slice none 0 0, .string ByteArray.empty, .string ByteArray.empty] 8 (World.laidAll_os _ _ _)
      (World.shaped_of_ZipB (by kernel_rfl) (by kernel_rfl)) (by kernel_rfl) (by kernel_rfl) (by kernel_rfl)
      (by rw [MakeChecks.laidMetH_plain _ _ _ (by kernel_rfl)]; exact laidMet_laidAll _ (by kernel_rfl) (by kernel_rfl))) ?_
  intro W base args ds gs before hval0 hW hcnd _ _ _
  have hval : ∀ (j : Nat) t v, Tryz.f5.params[j]? = some t → args[j]? = some v → Value.okWide Tryz.prog W .any base t v := hval0
  have hW' := hW
  obtain ⟨p, q, hA0, hV, hpq, hfz, hnd⟩ := hW
  have hA : DataW.TrodAll enc Tryz.prog W 0 (fun _ => true) true Tryz.f5.params.toList args.toList ds p := hA0
  rw [Tryz.params5] at hA hval
  obtain ⟨v0, vs0, d0, ds0, p0, q0, hargs, rfl, rfl, h0, r0⟩ := trodAll_cons hA
  obtain ⟨v1, vs1, d1, ds1, p1, q1, rfl, rfl, rfl, h1, r1⟩ := trodAll_cons r0
  obtain ⟨v2, vs2, d2, ds2, p2, q2, rfl, rfl, rfl, h2, r2⟩ := trodAll_cons r1
  obtain ⟨rfl, rfl, rfl⟩ := trodAll_nil r2
  obtain rfl : args = #[v0, v1, v2] := by cases args; simp_all
  obtain ⟨rfl, rfl⟩ := trodVars_none hV
  obtain ⟨A0, n0, c0, xs0, rfl, s0⟩ := open_i64s_ (hval 0 22 v0 rfl rfl) h0
  obtain ⟨y1, rfl, rfl, rfl, l1⟩ := Go.ChangeMaps.open_string Tryz.underlying9 (hval 1 9 v1 rfl rfl) h1
  obtain ⟨b1, rfl⟩ : ∃ b : List UInt8, y1 = ⟨b.toArray⟩ := ⟨y1.data.toList, by cases y1; simp⟩
  obtain ⟨y2, rfl, rfl, rfl, l2⟩ := Go.ChangeMaps.open_string Tryz.underlying9 (hval 2 9 v2 rfl rfl) h2
  obtain ⟨b2, rfl⟩ : ∃ b : List UInt8, y2 = ⟨b.toArray⟩ := ⟨y2.data.toList, by cases y2; simp⟩
  refine (walk W A0 n0 c0 xs0 s0 b1 l1 b2 l2).mono fun e W' ⟨he, hb⟩ => ?_
  subst he
  exact ⟨_, rfl, Frame.close laidOut hW' rfl rfl rfl Tryz.underlying4 (fun t ht => by rw [Tryz.params5] at ht; simp at ht; rcases ht with rfl | rfl <;> exact ⟨by kernel_rfl, of_decide_eq_true (by kernel_rfl)⟩) hb⟩
theorem over : Rows.aliasTwoRow.holds Tryz.pinned (OpenSpec.ofChange Rows.aliasTwoSpec) :=
  OpenClaim.holds_of_wide 5 Tryz.f5 rfl rfl rfl rfl rfl rfl rfl ⟨rfl, rfl, rfl, rfl, rfl⟩ rfl rfl rfl rfl rfl (by kernel_rfl) Tryz.func5 (by kernel_rfl)
    (of_decide_eq_true (by kernel_rfl)) (by unfold Func.isWrapper; first | (rw [if_pos (by decide +kernel)]; kernel_rfl) | (rw [if_neg (by decide +kernel)]; exact ⟨rfl, rfl⟩))
    (fun os started H enc _ => lifted os started H enc)
/-- the statement -/
theorem proved : Rows.AliasTwoCardSaid :=
  Claim7.holds_tied_plain_at .later [] _ _ _ _ over (fun _ h => by cases h) (by kernel_rfl) (fun _ h => by cases h) aliasTwo_row_tie rfl ⟨rfl, rfl⟩ (by kernel_rfl) rfl
    (fun f fn hf hfn => by
      obtain rfl : f = 5 := Option.some.inj ((show Tryz.prog.funcNamed "tombola/tombolalaw11.AliasTwo" = some 5 by kernel_rfl).symm.trans hf) |>.symm
      obtain rfl : fn = Tryz.f5 := (Option.some.inj (Tryz.func5.symm.trans hfn)).symm
      exact ⟨by kernel_rfl, (fun j t ht => by
        rw [Tryz.params5] at ht
        have hm : t ∈ [22, 9, 9] := by simpa using Array.mem_of_getElem? ht
        have hall : ([22, 9, 9].all fun u => !Tryz.prog.wantsStandIn u) = true := by kernel_rfl
        exact (show Tryz.prog.wantsStandIn t = false by simpa using List.all_eq_true.1 hall t hm))⟩)
    (by kernel_rfl)
#print axioms proved
end Go.Proofs.YtfdpddlefobcpaaGreatDoor.aliasTwo
