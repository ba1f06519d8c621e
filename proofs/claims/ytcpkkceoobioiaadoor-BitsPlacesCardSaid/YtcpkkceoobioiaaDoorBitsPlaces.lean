/-
  PROVED: the statement BitsPlaces (tombolalaw07.BitsPlaces) about the landed commit: for every input the law returns true and leaves its arguments as they were. Conditions: none beyond those that the given row itself prints.
-/
import Derived.Test.YtcpkkceoobioiaaDoorCards
import Derived.Test.YtcpkkceoobioiaaDoorTie
import Derived.LaidMore
import Derived.Lay
import Derived.SevenTiedAt
import Derived.Stop.Joined
import Derived.Test.YtcpkkceoobioiaaDoorRows
import Derived.WalkKit
import Derived.ProofKit
import Derived.OpenShut
import Derived.RowKit3
import Derived.Test.YtcpkkceoobioiaaDoorGFrame
import Derived.Test.YtcpkkceoobioiaaDoorBitAwake
import Derived.Test.YtcpkkceoobioiaaDoorBitMath3
import Derived.Test.YtcpkkceoobioiaaDoorRegG
namespace Go.Proofs.YtcpkkceoobioiaaDoor.bitsPlaces
open Go.ChangeShapes Go.WideShapes Go.ChangeAt Go.RowKit
set_option linter.unusedVariables false
set_option linter.unusedSimpArgs false
set_option maxRecDepth 20000
open N
theorem own : ownKnob Tryd.prog.godebug = none := by kernel_rfl
theorem downE_zero {l : List UInt8} {a : Int} (h : downE l a = 0) : isB l = true ∧ 0 ≤ a ∧ a < l.length ∧ l.getD a.toNat 0 = 49 := by
  unfold downE at h
  by_cases hB : isB l = true
  · rw [if_pos hB] at h
    by_cases hp : isOne l a
    · exact ⟨hB, hp⟩
    · rw [if_neg hp] at h; cases h
  · rw [if_neg hB] at h; cases h
set_option maxRecDepth 100000 in
set_option maxHeartbeats 40000000 in
theorem walk (w : World) (b0 : List UInt8) (l0 : b0.length ≤ maxLen) (a1 : Int) (w1 : (Lit.int .i64 a1).wf = true) (a2 : Int) (w2 : (Lit.int .i64 a2).wf = true) :
    Calls Tryd.prog 11 #[.string ⟨b0.toArray⟩, .int .i64 a1, .int .i64 a2] w fun e w' => e = .returned (.bool true) ∧ Below w.heap.size w w' := by
  have lm0 := l0
  unfold maxLen at lm0
  have HB := Lib.hid (Below.refl w.heap.size w)
  by_cases hl : b0.length ≤ 3000
  · by_cases he : partE b0 a1 a2 = 0
    · obtain ⟨hB, p1, p2, p3⟩ := partE_zero he
      obtain ⟨x, rfl⟩ := Int.eq_ofNat_of_zero_le p1
      obtain ⟨y, rfl⟩ := Int.eq_ofNat_of_zero_le (show 0 ≤ a2 by omega)
      have hxy : x + y ≤ b0.length := by omega
      have hy1 : 1 ≤ y := by omega
      have c1 : cutV b0 (x : Int) (y : Int) = cutB b0 x y := by unfold cutV; rw [if_pos he]; rfl
      have c2 : clearV b0 (x : Int) (y : Int) = clearB b0 x y := by unfold clearV; rw [if_pos he]; rfl
      obtain ⟨cB, cc, cl⟩ := cut_less hB hy1 hxy
      have kl := clear_len (l := b0) hxy
      obtain ⟨P, hP⟩ : ∃ P, b0.take x = P := ⟨_, rfl⟩
      obtain ⟨j, hj⟩ : ∃ j, x + y = j := ⟨_, rfl⟩
      obtain ⟨Q, hQ⟩ : ∃ Q, b0.drop j = Q := ⟨_, rfl⟩
      have hPl : P.length = x := by rw [← hP, List.length_take]; omega
      have hQl : Q.length = b0.length - j := by rw [← hQ, List.length_drop]
      obtain ⟨cv, hcv⟩ : ∃ v, cutB b0 x y = v := ⟨_, rfl⟩
      obtain ⟨kv, hkv⟩ : ∃ v, clearB b0 x y = v := ⟨_, rfl⟩
      have hcv2 : cv = P ++ Q := by rw [← hcv, ← hP, ← hQ, ← hj]; rfl
      have hkv2 : kv = P ++ List.replicate y 48 ++ Q := by rw [← hkv, ← hP, ← hQ, ← hj]; rfl
      rw [hcv] at c1 cl
      rw [hkv] at c2 kl
      have x1 : (⟨b0.toArray⟩ : ByteArray).extract 0 x = ⟨P.toArray⟩ := by rw [ext_to, hP]
      have x2 : (⟨b0.toArray⟩ : ByteArray).extract j b0.length = ⟨Q.toArray⟩ := by rw [ext_from, hQ]
      have x3 : (⟨cv.toArray⟩ : ByteArray).extract 0 x = ⟨P.toArray⟩ := by rw [ext_to, hcv2, List.take_left' hPl]
      have x4 : (⟨cv.toArray⟩ : ByteArray).extract x cv.length = ⟨Q.toArray⟩ := by rw [ext_from, hcv2, List.drop_left' hPl]
      have x5 : (⟨kv.toArray⟩ : ByteArray).extract 0 x = ⟨P.toArray⟩ := by rw [ext_to, hkv2, List.append_assoc, List.take_left' hPl]
      have x6 : (⟨kv.toArray⟩ : ByteArray).extract j kv.length = ⟨Q.toArray⟩ := by rw [ext_from, hkv2, List.drop_left' (by rw [List.length_append, hPl, List.length_replicate]; exact hj)]
      have y1 : (x : Int) + (y : Int) = (j : Int) := by omega
      have y2 : (((cv.length : Nat) : Int) != ((b0.length : Nat) : Int) - (y : Int)) = false := by simp; omega
      have y3 : (((kv.length : Nat) : Int) != ((b0.length : Nat) : Int)) = false := by simp; omega
      have y4 : x ≤ cv.length := by omega
      have y5 : x ≤ kv.length := by omega
      have y6 : j ≤ kv.length := by omega
      have y7 : j ≤ b0.length := by omega
      have y8 : x ≤ b0.length := by omega
      have y9 : b0.length ≤ 1024 := (isB_iff.1 hB).1
      have y10 : IntKind.i64.wrap (((b0.length : Nat) : Int) - (y : Int)) = ((b0.length : Nat) : Int) - (y : Int) := by rw [IntKind.wrap_i64]; omega
      have y11 : cv.length ≤ 1024 := by omega
      have y12 : kv.length ≤ 1024 := by omega
      have H1 := Lib.hid (fun W : World => show Calls Tryd.prog 24 #[.string ⟨b0.toArray⟩, .int .i64 (x : Int), .int .i64 (y : Int)] W fun e w' => e = .returned (.tuple #[.string ⟨(cv).toArray⟩, .int .i64 (0)]) ∧ Below W.heap.size W w' from by
        have h := cut_any W b0 l0 (x : Int) (y : Int) w1 w2
        rwa [c1, he] at h)
      have H2 := Lib.hid (fun W : World => show Calls Tryd.prog 26 #[.string ⟨b0.toArray⟩, .int .i64 (x : Int), .int .i64 (y : Int)] W fun e w' => e = .returned (.tuple #[.string ⟨(kv).toArray⟩, .int .i64 (0)]) ∧ Below W.heap.size W w' from by
        have h := clear_any W b0 l0 (x : Int) (y : Int) w1 w2
        rwa [c2, he] at h)
      have HP := Lib.hid (fun W : World => lpart_yes W b0 l0 x y hy1 hxy)
      clear c1 c2 hcv hkv hcv2 hkv2 he p1 p2 p3 kl cl cB cc hQ hQl hj hB
      have HPP := Lib.hid hP
      have HPL := Lib.hid hPl
      clear hP hPl
      by_cases hg : downE b0 (x : Int) = 0
      · obtain ⟨gB, g1, g2, g3⟩ := downE_zero hg
        have hx : x < b0.length := by omega
        have g3 : b0.getD x 0 = 49 := g3
        have hv : downV b0 (x : Int) = downB b0 x := by unfold downV; rw [if_pos hg]; rfl
        obtain ⟨dB, dc, dl⟩ := down_less gB hx g3
        obtain ⟨dv, hdv⟩ : ∃ v, downB b0 x = v := ⟨_, rfl⟩
        rw [hdv] at hv dl dB
        have H3 := Lib.hid (fun W : World => show Calls Tryd.prog 28 #[.string ⟨b0.toArray⟩, .int .i64 (x : Int)] W fun e w' => e = .returned (.tuple #[.string ⟨(dv).toArray⟩, .int .i64 (0)]) ∧ Below W.heap.size W w' from by
          have h := down_any W b0 l0 (x : Int) w1
          rwa [hv, hg] at h)
        have hP := HPP.out
        have hPl := HPL.out
        obtain ⟨k, hk⟩ : ∃ k, b0.length - x - 1 = k := ⟨_, rfl⟩
        obtain ⟨tl, htl⟩ : ∃ q : List UInt8, [48] ++ List.replicate k 49 = q := ⟨_, rfl⟩
        have hdv2 : dv = P ++ tl := by rw [← hdv, ← htl]; unfold downB; rw [hP, hk, List.append_assoc]
        have htll : tl.length = k + 1 := by rw [← htl]; simp
        have z2 : (⟨dv.toArray⟩ : ByteArray).extract 0 x = ⟨P.toArray⟩ := by rw [ext_to, hdv2, List.take_left' hPl]
        have z3 : (⟨dv.toArray⟩ : ByteArray).extract x dv.length = ⟨tl.toArray⟩ := by rw [ext_from, hdv2, List.drop_left' hPl]
        have z3b : (⟨dv.toArray⟩ : ByteArray).extract x b0.length = ⟨tl.toArray⟩ := by rw [← dl]; exact z3
        have z4 : x ≤ b0.length := by omega
        have z5 : b0.length ≤ 1024 := (isB_iff.1 gB).1
        have z6 : ∀ W : World, (Instr.index 9 (.string ⟨b0.toArray⟩) (.int .i64 (x : Int))).run Tryd.prog W = .ok (.int .u8 49) W := fun W => by
          have := str_at b0 9 strU .i64 x hx W
          unfold str bat at this
          rw [g3] at this
          exact this
        have z7 : ((b0.length : Nat) : Int) - (x : Int) = ((k + 1 : Nat) : Int) := by omega
        have z8 : (((k + 1 : Nat) : Int)) - 1 = (k : Int) := by omega
        have HP2 := Lib.hid (fun W : World => lpart_yes W b0 l0 x 1 (Nat.le_refl _) (by omega))
        have htB : isB tl = true := by
          refine isB_iff.2 ⟨by omega, ?_⟩
          rw [← htl, bitsL_append, bitsL_rep _ (by decide)]; rfl
        have htn : numB tl + 1 = 2 ^ k := by
          have h0 := numB_ones k
          rw [← htl]
          show ((48 : UInt8).toNat - 48) * _ + numB _ + 1 = _
          have : (48 : UInt8).toNat - 48 = 0 := rfl
          rw [this, Nat.zero_mul, Nat.zero_add]; exact h0
        have mtl : tl.length ≤ maxLen := by unfold maxLen; omega
        clear hv hg hdv hdv2 dB dc gB g1 g2 g3 hP hPl htl
        by_cases hbig : 63 < k + 1
        · have hk63 : ((63 : Int) < ((k + 1 : Nat) : Int)) := by omega
          clear htn htB
          go_enter Tryd.func11, Tryd.ntmps11
          go_wp2_with (first
            | (go_at_call 13; refine (bawake _).mono ?_; rintro e w1 ⟨rfl, hb⟩; have HB2 := Lib.hid (HB.out.trans (hb.mono HB.out.size)); clear hb HB; have HB := HB2; clear HB2)
            | (go_at_call 24; refine (H1.out _).mono ?_; rintro e w1 ⟨rfl, hb⟩; have HB2 := Lib.hid (HB.out.trans (hb.mono HB.out.size)); clear hb HB; have HB := HB2; clear HB2)
            | (go_at_call 26; refine (H2.out _).mono ?_; rintro e w1 ⟨rfl, hb⟩; have HB2 := Lib.hid (HB.out.trans (hb.mono HB.out.size)); clear hb HB; have HB := HB2; clear HB2))
          refine RV.wp_region_g (by kernel_rfl) [37, 38, 39, 40, 41, 42, 43, 44, 45, 46, 47, 48, 49, 50, 51, 52, 53, 54, 55, 56, 57, 58, 59, 60, 61, 62, 63, 64, 65, 66, 67, 68, 69, 70, 71, 72, 73, 74, 75, 76, 77, 78, 79, 80, 81, 82, 83, 84, 85, 86, 87, 88, 89, 90, 91, 92, 93, 94, 95, 96, 97, 98, 99, 100, 101, 102, 103, 104, 105, 106, 107] [.int .i64 (0), .bool true, .bool true, .int .i64 (0), .bool false, .bool false, .string ⟨(b0).toArray⟩, .int .i64 (x : Nat), .int .i64 (y : Nat), .bool true, .bool false, .bool false, .bool false, .string ⟨(cv).toArray⟩, .int .i64 (cv.length : Nat), .string ⟨(b0).toArray⟩, .int .i64 (b0.length : Nat), .int .i64 (y : Nat), .int .i64 ((b0.length : Int) - (y : Int)), .bool false, .bool false, .bool false, .string ⟨(kv).toArray⟩, .int .i64 (kv.length : Nat), .string ⟨(b0).toArray⟩, .int .i64 (b0.length : Nat), .bool false, .bool false, .bool false, .string ⟨(cv).toArray⟩, .int .i64 (x : Nat), .string ⟨(P).toArray⟩, .string ⟨(b0).toArray⟩, .int .i64 (x : Nat), .string ⟨(P).toArray⟩, .bool false, .bool false, .bool false, .string ⟨(cv).toArray⟩, .int .i64 (x : Nat), .string ⟨(Q).toArray⟩, .string ⟨(b0).toArray⟩, .int .i64 (x : Nat), .int .i64 (y : Nat), .int .i64 (j : Nat), .string ⟨(Q).toArray⟩, .bool false, .bool false, .bool false, .string ⟨(kv).toArray⟩, .int .i64 (x : Nat), .string ⟨(P).toArray⟩, .string ⟨(b0).toArray⟩, .int .i64 (x : Nat), .string ⟨(P).toArray⟩, .bool false, .bool false, .bool false, .string ⟨(kv).toArray⟩, .int .i64 (x : Nat), .int .i64 (y : Nat), .int .i64 (j : Nat), .string ⟨(Q).toArray⟩, .string ⟨(b0).toArray⟩, .int .i64 (x : Nat), .int .i64 (y : Nat), .int .i64 (j : Nat), .string ⟨(Q).toArray⟩, .bool false, .bool false, .bool false] (fun W => Below w.heap.size w W) (by kernel_rfl) rfl (by decide) rfl (by kernel_rfl) (HB.out.drew) ?_ ?_
          · intro ii hii fa fw fr hp hG
            match ii, hii with
            | 0, _ =>
              have p8 : fa.eval (.tmp 8) = .int .i64 (0) := (fr.out 8 (by decide)).trans rfl
              simp only [Act.eval] at p8
              refine ⟨_, _, rfl, rfl, .inl ⟨RV.wanted_none rfl, .inl ⟨fw, ?_, hG⟩⟩⟩
              simp only [execOp, Act.eval]
              go_simp
              all_goals first | omega | (intro hh; omega) | (simp only [IntKind.wrap_i64]; omega) | simp
            | 1, _ =>
              have p37 : fa.eval (.tmp 37) = .int .i64 (0) := hp 0 37 _ (by kernel_rfl) rfl rfl
              simp only [Act.eval] at p37
              refine ⟨_, _, rfl, rfl, .inl ⟨RV.wanted_none rfl, .inl ⟨fw, ?_, hG⟩⟩⟩
              simp only [execOp, Act.eval]
              go_simp
              all_goals first | omega | (intro hh; omega) | (simp only [IntKind.wrap_i64]; omega) | simp
            | 2, _ =>
              have p38 : fa.eval (.tmp 38) = .bool true := hp 1 38 _ (by kernel_rfl) rfl rfl
              simp only [Act.eval] at p38
              refine ⟨_, _, rfl, rfl, .inl ⟨RV.wanted_none rfl, .inl ⟨fw, ?_, hG⟩⟩⟩
              simp only [execOp, Act.eval]
              go_simp
              all_goals first | omega | (intro hh; omega) | (simp only [IntKind.wrap_i64]; omega) | simp
            | 3, _ =>
              have p10 : fa.eval (.tmp 10) = .int .i64 (0) := (fr.out 10 (by decide)).trans rfl
              simp only [Act.eval] at p10
              refine ⟨_, _, rfl, rfl, .inl ⟨RV.wanted_at (d := 39) rfl fr (by rfl) (hp 2 39 _ (by kernel_rfl) rfl rfl) rfl, .inl ⟨fw, ?_, hG⟩⟩⟩
              simp only [execOp, Act.eval]
              go_simp
              all_goals first | omega | (intro hh; omega) | (simp only [IntKind.wrap_i64]; omega) | simp
            | 4, _ =>
              have p40 : fa.eval (.tmp 40) = .int .i64 (0) := hp 3 40 _ (by kernel_rfl) rfl rfl
              simp only [Act.eval] at p40
              refine ⟨_, _, rfl, rfl, .inl ⟨RV.wanted_at (d := 39) rfl fr (by rfl) (hp 2 39 _ (by kernel_rfl) rfl rfl) rfl, .inl ⟨fw, ?_, hG⟩⟩⟩
              simp only [execOp, Act.eval]
              go_simp
              all_goals first | omega | (intro hh; omega) | (simp only [IntKind.wrap_i64]; omega) | simp
            | 5, _ =>
              have p41 : fa.eval (.tmp 41) = .bool false := hp 4 41 _ (by kernel_rfl) rfl rfl
              simp only [Act.eval] at p41
              refine ⟨_, _, rfl, rfl, .inl ⟨RV.wanted_at (d := 39) rfl fr (by rfl) (hp 2 39 _ (by kernel_rfl) rfl rfl) rfl, .inl ⟨fw, ?_, hG⟩⟩⟩
              simp only [execOp, Act.eval]
              go_simp
              all_goals first | omega | (intro hh; omega) | (simp only [IntKind.wrap_i64]; omega) | simp
            | 6, _ =>
              have p0 : fa.eval (.tmp 0) = .string ⟨(b0).toArray⟩ := (fr.out 0 (by decide)).trans rfl
              simp only [Act.eval] at p0
              refine ⟨_, _, rfl, rfl, .inl ⟨RV.wanted_at (d := 42) rfl fr (by rfl) (hp 5 42 _ (by kernel_rfl) rfl rfl) rfl, .inl ⟨fw, ?_, hG⟩⟩⟩
              simp only [execOp, Act.eval]
              go_simp
              all_goals first | omega | (intro hh; omega) | (simp only [IntKind.wrap_i64]; omega) | simp
            | 7, _ =>
              have p1 : fa.eval (.tmp 1) = .int .i64 (x : Nat) := (fr.out 1 (by decide)).trans rfl
              simp only [Act.eval] at p1
              refine ⟨_, _, rfl, rfl, .inl ⟨RV.wanted_at (d := 42) rfl fr (by rfl) (hp 5 42 _ (by kernel_rfl) rfl rfl) rfl, .inl ⟨fw, ?_, hG⟩⟩⟩
              simp only [execOp, Act.eval]
              go_simp
              all_goals first | omega | (intro hh; omega) | (simp only [IntKind.wrap_i64]; omega) | simp
            | 8, _ =>
              have p2 : fa.eval (.tmp 2) = .int .i64 (y : Nat) := (fr.out 2 (by decide)).trans rfl
              simp only [Act.eval] at p2
              refine ⟨_, _, rfl, rfl, .inl ⟨RV.wanted_at (d := 42) rfl fr (by rfl) (hp 5 42 _ (by kernel_rfl) rfl rfl) rfl, .inl ⟨fw, ?_, hG⟩⟩⟩
              simp only [execOp, Act.eval]
              go_simp
              all_goals first | omega | (intro hh; omega) | (simp only [IntKind.wrap_i64]; omega) | simp
            | 9, _ =>
              have p43 : fa.eval (.tmp 43) = .string ⟨(b0).toArray⟩ := hp 6 43 _ (by kernel_rfl) rfl rfl
              have p44 : fa.eval (.tmp 44) = .int .i64 (x : Nat) := hp 7 44 _ (by kernel_rfl) rfl rfl
              have p45 : fa.eval (.tmp 45) = .int .i64 (y : Nat) := hp 8 45 _ (by kernel_rfl) rfl rfl
              have hv : (#[Operand.tmp 43, Operand.tmp 44, Operand.tmp 45] : Array Operand).map fa.eval = #[(.string ⟨(b0).toArray⟩), (.int .i64 (x : Nat)), (.int .i64 (y : Nat))] := by simp only [List.map_toArray, List.map_cons, List.map_nil, p43, p44, p45]
              exact ⟨_, _, rfl, rfl, .inl ⟨RV.wanted_at (d := 42) rfl fr (by rfl) (hp 5 42 _ (by kernel_rfl) rfl rfl) rfl, RV.yields_call_g hv Tryd.func32 (by kernel_rfl) rfl (HP.out fw) (fun e w2 h => ⟨h.1, by have h2 := h.2; subst h2; exact hG⟩)⟩⟩
            | 10, _ =>
              have p46 : fa.eval (.tmp 46) = .bool true := hp 9 46 _ (by kernel_rfl) rfl rfl
              simp only [Act.eval] at p46
              refine ⟨_, _, rfl, rfl, .inl ⟨RV.wanted_at (d := 42) rfl fr (by rfl) (hp 5 42 _ (by kernel_rfl) rfl rfl) rfl, .inl ⟨fw, ?_, hG⟩⟩⟩
              simp only [execOp, Act.eval]
              go_simp
              all_goals first | omega | (intro hh; omega) | (simp only [IntKind.wrap_i64]; omega) | simp
            | 11, _ =>
              have p42 : fa.eval (.tmp 42) = .bool false := hp 5 42 _ (by kernel_rfl) rfl rfl
              have p47 : fa.eval (.tmp 47) = .bool false := hp 10 47 _ (by kernel_rfl) rfl rfl
              simp only [Act.eval] at p42 p47
              refine ⟨_, _, rfl, rfl, .inl ⟨RV.wanted_at (d := 39) rfl fr (by rfl) (hp 2 39 _ (by kernel_rfl) rfl rfl) rfl, .inl ⟨fw, ?_, hG⟩⟩⟩
              simp only [execOp, Act.eval]
              go_simp
              all_goals first | omega | (intro hh; omega) | (simp only [IntKind.wrap_i64]; omega) | simp
            | 12, _ =>
              have p48 : fa.eval (.tmp 48) = .bool false := hp 11 48 _ (by kernel_rfl) rfl rfl
              simp only [Act.eval] at p48
              refine ⟨_, _, rfl, rfl, .inl ⟨RV.wanted_at (d := 39) rfl fr (by rfl) (hp 2 39 _ (by kernel_rfl) rfl rfl) rfl, .inl ⟨fw, ?_, hG⟩⟩⟩
              simp only [execOp, Act.eval]
              go_simp
              all_goals first | omega | (intro hh; omega) | (simp only [IntKind.wrap_i64]; omega) | simp
            | 13, _ =>
              have p7 : fa.eval (.tmp 7) = .string ⟨(cv).toArray⟩ := (fr.out 7 (by decide)).trans rfl
              simp only [Act.eval] at p7
              refine ⟨_, _, rfl, rfl, .inl ⟨RV.wanted_at (d := 49) rfl fr (by rfl) (hp 12 49 _ (by kernel_rfl) rfl rfl) rfl, .inl ⟨fw, ?_, hG⟩⟩⟩
              simp only [execOp, Act.eval]
              go_simp
              all_goals first | omega | (intro hh; omega) | (simp only [IntKind.wrap_i64]; omega) | simp
            | 14, _ =>
              have p50 : fa.eval (.tmp 50) = .string ⟨(cv).toArray⟩ := hp 13 50 _ (by kernel_rfl) rfl rfl
              simp only [Act.eval] at p50
              refine ⟨_, _, rfl, rfl, .inl ⟨RV.wanted_at (d := 49) rfl fr (by rfl) (hp 12 49 _ (by kernel_rfl) rfl rfl) rfl, .inl ⟨fw, ?_, hG⟩⟩⟩
              simp only [execOp, Act.eval]
              go_simp
              all_goals first | omega | (intro hh; omega) | (simp only [IntKind.wrap_i64]; omega) | simp
            | 15, _ =>
              have p0 : fa.eval (.tmp 0) = .string ⟨(b0).toArray⟩ := (fr.out 0 (by decide)).trans rfl
              simp only [Act.eval] at p0
              refine ⟨_, _, rfl, rfl, .inl ⟨RV.wanted_at (d := 49) rfl fr (by rfl) (hp 12 49 _ (by kernel_rfl) rfl rfl) rfl, .inl ⟨fw, ?_, hG⟩⟩⟩
              simp only [execOp, Act.eval]
              go_simp
              all_goals first | omega | (intro hh; omega) | (simp only [IntKind.wrap_i64]; omega) | simp
            | 16, _ =>
              have p52 : fa.eval (.tmp 52) = .string ⟨(b0).toArray⟩ := hp 15 52 _ (by kernel_rfl) rfl rfl
              simp only [Act.eval] at p52
              refine ⟨_, _, rfl, rfl, .inl ⟨RV.wanted_at (d := 49) rfl fr (by rfl) (hp 12 49 _ (by kernel_rfl) rfl rfl) rfl, .inl ⟨fw, ?_, hG⟩⟩⟩
              simp only [execOp, Act.eval]
              go_simp
              all_goals first | omega | (intro hh; omega) | (simp only [IntKind.wrap_i64]; omega) | simp
            | 17, _ =>
              have p2 : fa.eval (.tmp 2) = .int .i64 (y : Nat) := (fr.out 2 (by decide)).trans rfl
              simp only [Act.eval] at p2
              refine ⟨_, _, rfl, rfl, .inl ⟨RV.wanted_at (d := 49) rfl fr (by rfl) (hp 12 49 _ (by kernel_rfl) rfl rfl) rfl, .inl ⟨fw, ?_, hG⟩⟩⟩
              simp only [execOp, Act.eval]
              go_simp
              all_goals first | omega | (intro hh; omega) | (simp only [IntKind.wrap_i64]; omega) | simp
            | 18, _ =>
              have p53 : fa.eval (.tmp 53) = .int .i64 (b0.length : Nat) := hp 16 53 _ (by kernel_rfl) rfl rfl
              have p54 : fa.eval (.tmp 54) = .int .i64 (y : Nat) := hp 17 54 _ (by kernel_rfl) rfl rfl
              simp only [Act.eval] at p53 p54
              refine ⟨_, _, rfl, rfl, .inl ⟨RV.wanted_at (d := 49) rfl fr (by rfl) (hp 12 49 _ (by kernel_rfl) rfl rfl) rfl, .inl ⟨fw, ?_, hG⟩⟩⟩
              simp only [execOp, Act.eval]
              go_simp
              all_goals first | omega | (intro hh; omega) | (simp only [IntKind.wrap_i64]; omega) | simp
            | 19, _ =>
              have p51 : fa.eval (.tmp 51) = .int .i64 (cv.length : Nat) := hp 14 51 _ (by kernel_rfl) rfl rfl
              have p55 : fa.eval (.tmp 55) = .int .i64 ((b0.length : Int) - (y : Int)) := hp 18 55 _ (by kernel_rfl) rfl rfl
              simp only [Act.eval] at p51 p55
              refine ⟨_, _, rfl, rfl, .inl ⟨RV.wanted_at (d := 49) rfl fr (by rfl) (hp 12 49 _ (by kernel_rfl) rfl rfl) rfl, .inl ⟨fw, ?_, hG⟩⟩⟩
              simp only [execOp, Act.eval]
              go_simp
              all_goals first | omega | (intro hh; omega) | (simp only [IntKind.wrap_i64]; omega) | simp
            | 20, _ =>
              have p49 : fa.eval (.tmp 49) = .bool false := hp 12 49 _ (by kernel_rfl) rfl rfl
              have p56 : fa.eval (.tmp 56) = .bool false := hp 19 56 _ (by kernel_rfl) rfl rfl
              simp only [Act.eval] at p49 p56
              refine ⟨_, _, rfl, rfl, .inl ⟨RV.wanted_at (d := 39) rfl fr (by rfl) (hp 2 39 _ (by kernel_rfl) rfl rfl) rfl, .inl ⟨fw, ?_, hG⟩⟩⟩
              simp only [execOp, Act.eval]
              go_simp
              all_goals first | omega | (intro hh; omega) | (simp only [IntKind.wrap_i64]; omega) | simp
            | 21, _ =>
              have p57 : fa.eval (.tmp 57) = .bool false := hp 20 57 _ (by kernel_rfl) rfl rfl
              simp only [Act.eval] at p57
              refine ⟨_, _, rfl, rfl, .inl ⟨RV.wanted_at (d := 39) rfl fr (by rfl) (hp 2 39 _ (by kernel_rfl) rfl rfl) rfl, .inl ⟨fw, ?_, hG⟩⟩⟩
              simp only [execOp, Act.eval]
              go_simp
              all_goals first | omega | (intro hh; omega) | (simp only [IntKind.wrap_i64]; omega) | simp
            | 22, _ =>
              have p9 : fa.eval (.tmp 9) = .string ⟨(kv).toArray⟩ := (fr.out 9 (by decide)).trans rfl
              simp only [Act.eval] at p9
              refine ⟨_, _, rfl, rfl, .inl ⟨RV.wanted_at (d := 58) rfl fr (by rfl) (hp 21 58 _ (by kernel_rfl) rfl rfl) rfl, .inl ⟨fw, ?_, hG⟩⟩⟩
              simp only [execOp, Act.eval]
              go_simp
              all_goals first | omega | (intro hh; omega) | (simp only [IntKind.wrap_i64]; omega) | simp
            | 23, _ =>
              have p59 : fa.eval (.tmp 59) = .string ⟨(kv).toArray⟩ := hp 22 59 _ (by kernel_rfl) rfl rfl
              simp only [Act.eval] at p59
              refine ⟨_, _, rfl, rfl, .inl ⟨RV.wanted_at (d := 58) rfl fr (by rfl) (hp 21 58 _ (by kernel_rfl) rfl rfl) rfl, .inl ⟨fw, ?_, hG⟩⟩⟩
              simp only [execOp, Act.eval]
              go_simp
              all_goals first | omega | (intro hh; omega) | (simp only [IntKind.wrap_i64]; omega) | simp
            | 24, _ =>
              have p0 : fa.eval (.tmp 0) = .string ⟨(b0).toArray⟩ := (fr.out 0 (by decide)).trans rfl
              simp only [Act.eval] at p0
              refine ⟨_, _, rfl, rfl, .inl ⟨RV.wanted_at (d := 58) rfl fr (by rfl) (hp 21 58 _ (by kernel_rfl) rfl rfl) rfl, .inl ⟨fw, ?_, hG⟩⟩⟩
              simp only [execOp, Act.eval]
              go_simp
              all_goals first | omega | (intro hh; omega) | (simp only [IntKind.wrap_i64]; omega) | simp
            | 25, _ =>
              have p61 : fa.eval (.tmp 61) = .string ⟨(b0).toArray⟩ := hp 24 61 _ (by kernel_rfl) rfl rfl
              simp only [Act.eval] at p61
              refine ⟨_, _, rfl, rfl, .inl ⟨RV.wanted_at (d := 58) rfl fr (by rfl) (hp 21 58 _ (by kernel_rfl) rfl rfl) rfl, .inl ⟨fw, ?_, hG⟩⟩⟩
              simp only [execOp, Act.eval]
              go_simp
              all_goals first | omega | (intro hh; omega) | (simp only [IntKind.wrap_i64]; omega) | simp
            | 26, _ =>
              have p60 : fa.eval (.tmp 60) = .int .i64 (kv.length : Nat) := hp 23 60 _ (by kernel_rfl) rfl rfl
              have p62 : fa.eval (.tmp 62) = .int .i64 (b0.length : Nat) := hp 25 62 _ (by kernel_rfl) rfl rfl
              simp only [Act.eval] at p60 p62
              refine ⟨_, _, rfl, rfl, .inl ⟨RV.wanted_at (d := 58) rfl fr (by rfl) (hp 21 58 _ (by kernel_rfl) rfl rfl) rfl, .inl ⟨fw, ?_, hG⟩⟩⟩
              simp only [execOp, Act.eval]
              go_simp
              all_goals first | omega | (intro hh; omega) | (simp only [IntKind.wrap_i64]; omega) | simp
            | 27, _ =>
              have p58 : fa.eval (.tmp 58) = .bool false := hp 21 58 _ (by kernel_rfl) rfl rfl
              have p63 : fa.eval (.tmp 63) = .bool false := hp 26 63 _ (by kernel_rfl) rfl rfl
              simp only [Act.eval] at p58 p63
              refine ⟨_, _, rfl, rfl, .inl ⟨RV.wanted_at (d := 39) rfl fr (by rfl) (hp 2 39 _ (by kernel_rfl) rfl rfl) rfl, .inl ⟨fw, ?_, hG⟩⟩⟩
              simp only [execOp, Act.eval]
              go_simp
              all_goals first | omega | (intro hh; omega) | (simp only [IntKind.wrap_i64]; omega) | simp
            | 28, _ =>
              have p64 : fa.eval (.tmp 64) = .bool false := hp 27 64 _ (by kernel_rfl) rfl rfl
              simp only [Act.eval] at p64
              refine ⟨_, _, rfl, rfl, .inl ⟨RV.wanted_at (d := 39) rfl fr (by rfl) (hp 2 39 _ (by kernel_rfl) rfl rfl) rfl, .inl ⟨fw, ?_, hG⟩⟩⟩
              simp only [execOp, Act.eval]
              go_simp
              all_goals first | omega | (intro hh; omega) | (simp only [IntKind.wrap_i64]; omega) | simp
            | 29, _ =>
              have p7 : fa.eval (.tmp 7) = .string ⟨(cv).toArray⟩ := (fr.out 7 (by decide)).trans rfl
              simp only [Act.eval] at p7
              refine ⟨_, _, rfl, rfl, .inl ⟨RV.wanted_at (d := 65) rfl fr (by rfl) (hp 28 65 _ (by kernel_rfl) rfl rfl) rfl, .inl ⟨fw, ?_, hG⟩⟩⟩
              simp only [execOp, Act.eval]
              go_simp
              all_goals first | omega | (intro hh; omega) | (simp only [IntKind.wrap_i64]; omega) | simp
            | 30, _ =>
              have p1 : fa.eval (.tmp 1) = .int .i64 (x : Nat) := (fr.out 1 (by decide)).trans rfl
              simp only [Act.eval] at p1
              refine ⟨_, _, rfl, rfl, .inl ⟨RV.wanted_at (d := 65) rfl fr (by rfl) (hp 28 65 _ (by kernel_rfl) rfl rfl) rfl, .inl ⟨fw, ?_, hG⟩⟩⟩
              simp only [execOp, Act.eval]
              go_simp
              all_goals first | omega | (intro hh; omega) | (simp only [IntKind.wrap_i64]; omega) | simp
            | 31, _ =>
              have p66 : fa.eval (.tmp 66) = .string ⟨(cv).toArray⟩ := hp 29 66 _ (by kernel_rfl) rfl rfl
              have p67 : fa.eval (.tmp 67) = .int .i64 (x : Nat) := hp 30 67 _ (by kernel_rfl) rfl rfl
              simp only [Act.eval] at p66 p67
              refine ⟨_, _, rfl, rfl, .inl ⟨RV.wanted_at (d := 65) rfl fr (by rfl) (hp 28 65 _ (by kernel_rfl) rfl rfl) rfl, .inl ⟨fw, ?_, hG⟩⟩⟩
              simp only [execOp, Act.eval]
              go_simp
              all_goals first | omega | (intro hh; omega) | (simp only [IntKind.wrap_i64]; omega) | simp
            | 32, _ =>
              have p0 : fa.eval (.tmp 0) = .string ⟨(b0).toArray⟩ := (fr.out 0 (by decide)).trans rfl
              simp only [Act.eval] at p0
              refine ⟨_, _, rfl, rfl, .inl ⟨RV.wanted_at (d := 65) rfl fr (by rfl) (hp 28 65 _ (by kernel_rfl) rfl rfl) rfl, .inl ⟨fw, ?_, hG⟩⟩⟩
              simp only [execOp, Act.eval]
              go_simp
              all_goals first | omega | (intro hh; omega) | (simp only [IntKind.wrap_i64]; omega) | simp
            | 33, _ =>
              have p1 : fa.eval (.tmp 1) = .int .i64 (x : Nat) := (fr.out 1 (by decide)).trans rfl
              simp only [Act.eval] at p1
              refine ⟨_, _, rfl, rfl, .inl ⟨RV.wanted_at (d := 65) rfl fr (by rfl) (hp 28 65 _ (by kernel_rfl) rfl rfl) rfl, .inl ⟨fw, ?_, hG⟩⟩⟩
              simp only [execOp, Act.eval]
              go_simp
              all_goals first | omega | (intro hh; omega) | (simp only [IntKind.wrap_i64]; omega) | simp
            | 34, _ =>
              have p69 : fa.eval (.tmp 69) = .string ⟨(b0).toArray⟩ := hp 32 69 _ (by kernel_rfl) rfl rfl
              have p70 : fa.eval (.tmp 70) = .int .i64 (x : Nat) := hp 33 70 _ (by kernel_rfl) rfl rfl
              simp only [Act.eval] at p69 p70
              refine ⟨_, _, rfl, rfl, .inl ⟨RV.wanted_at (d := 65) rfl fr (by rfl) (hp 28 65 _ (by kernel_rfl) rfl rfl) rfl, .inl ⟨fw, ?_, hG⟩⟩⟩
              simp only [execOp, Act.eval]
              go_simp
              all_goals first | omega | (intro hh; omega) | (simp only [IntKind.wrap_i64]; omega) | simp
            | 35, _ =>
              have p68 : fa.eval (.tmp 68) = .string ⟨(P).toArray⟩ := hp 31 68 _ (by kernel_rfl) rfl rfl
              have p71 : fa.eval (.tmp 71) = .string ⟨(P).toArray⟩ := hp 34 71 _ (by kernel_rfl) rfl rfl
              simp only [Act.eval] at p68 p71
              refine ⟨_, _, rfl, rfl, .inl ⟨RV.wanted_at (d := 65) rfl fr (by rfl) (hp 28 65 _ (by kernel_rfl) rfl rfl) rfl, .inl ⟨fw, ?_, hG⟩⟩⟩
              simp only [execOp, Act.eval]
              go_simp
              all_goals first | omega | (intro hh; omega) | (simp only [IntKind.wrap_i64]; omega) | simp
            | 36, _ =>
              have p65 : fa.eval (.tmp 65) = .bool false := hp 28 65 _ (by kernel_rfl) rfl rfl
              have p72 : fa.eval (.tmp 72) = .bool false := hp 35 72 _ (by kernel_rfl) rfl rfl
              simp only [Act.eval] at p65 p72
              refine ⟨_, _, rfl, rfl, .inl ⟨RV.wanted_at (d := 39) rfl fr (by rfl) (hp 2 39 _ (by kernel_rfl) rfl rfl) rfl, .inl ⟨fw, ?_, hG⟩⟩⟩
              simp only [execOp, Act.eval]
              go_simp
              all_goals first | omega | (intro hh; omega) | (simp only [IntKind.wrap_i64]; omega) | simp
            | 37, _ =>
              have p73 : fa.eval (.tmp 73) = .bool false := hp 36 73 _ (by kernel_rfl) rfl rfl
              simp only [Act.eval] at p73
              refine ⟨_, _, rfl, rfl, .inl ⟨RV.wanted_at (d := 39) rfl fr (by rfl) (hp 2 39 _ (by kernel_rfl) rfl rfl) rfl, .inl ⟨fw, ?_, hG⟩⟩⟩
              simp only [execOp, Act.eval]
              go_simp
              all_goals first | omega | (intro hh; omega) | (simp only [IntKind.wrap_i64]; omega) | simp
            | 38, _ =>
              have p7 : fa.eval (.tmp 7) = .string ⟨(cv).toArray⟩ := (fr.out 7 (by decide)).trans rfl
              simp only [Act.eval] at p7
              refine ⟨_, _, rfl, rfl, .inl ⟨RV.wanted_at (d := 74) rfl fr (by rfl) (hp 37 74 _ (by kernel_rfl) rfl rfl) rfl, .inl ⟨fw, ?_, hG⟩⟩⟩
              simp only [execOp, Act.eval]
              go_simp
              all_goals first | omega | (intro hh; omega) | (simp only [IntKind.wrap_i64]; omega) | simp
            | 39, _ =>
              have p1 : fa.eval (.tmp 1) = .int .i64 (x : Nat) := (fr.out 1 (by decide)).trans rfl
              simp only [Act.eval] at p1
              refine ⟨_, _, rfl, rfl, .inl ⟨RV.wanted_at (d := 74) rfl fr (by rfl) (hp 37 74 _ (by kernel_rfl) rfl rfl) rfl, .inl ⟨fw, ?_, hG⟩⟩⟩
              simp only [execOp, Act.eval]
              go_simp
              all_goals first | omega | (intro hh; omega) | (simp only [IntKind.wrap_i64]; omega) | simp
            | 40, _ =>
              have p75 : fa.eval (.tmp 75) = .string ⟨(cv).toArray⟩ := hp 38 75 _ (by kernel_rfl) rfl rfl
              have p76 : fa.eval (.tmp 76) = .int .i64 (x : Nat) := hp 39 76 _ (by kernel_rfl) rfl rfl
              simp only [Act.eval] at p75 p76
              refine ⟨_, _, rfl, rfl, .inl ⟨RV.wanted_at (d := 74) rfl fr (by rfl) (hp 37 74 _ (by kernel_rfl) rfl rfl) rfl, .inl ⟨fw, ?_, hG⟩⟩⟩
              simp only [execOp, Act.eval]
              go_simp
              all_goals first | omega | (intro hh; omega) | (simp only [IntKind.wrap_i64]; omega) | simp
            | 41, _ =>
              have p0 : fa.eval (.tmp 0) = .string ⟨(b0).toArray⟩ := (fr.out 0 (by decide)).trans rfl
              simp only [Act.eval] at p0
              refine ⟨_, _, rfl, rfl, .inl ⟨RV.wanted_at (d := 74) rfl fr (by rfl) (hp 37 74 _ (by kernel_rfl) rfl rfl) rfl, .inl ⟨fw, ?_, hG⟩⟩⟩
              simp only [execOp, Act.eval]
              go_simp
              all_goals first | omega | (intro hh; omega) | (simp only [IntKind.wrap_i64]; omega) | simp
            | 42, _ =>
              have p1 : fa.eval (.tmp 1) = .int .i64 (x : Nat) := (fr.out 1 (by decide)).trans rfl
              simp only [Act.eval] at p1
              refine ⟨_, _, rfl, rfl, .inl ⟨RV.wanted_at (d := 74) rfl fr (by rfl) (hp 37 74 _ (by kernel_rfl) rfl rfl) rfl, .inl ⟨fw, ?_, hG⟩⟩⟩
              simp only [execOp, Act.eval]
              go_simp
              all_goals first | omega | (intro hh; omega) | (simp only [IntKind.wrap_i64]; omega) | simp
            | 43, _ =>
              have p2 : fa.eval (.tmp 2) = .int .i64 (y : Nat) := (fr.out 2 (by decide)).trans rfl
              simp only [Act.eval] at p2
              refine ⟨_, _, rfl, rfl, .inl ⟨RV.wanted_at (d := 74) rfl fr (by rfl) (hp 37 74 _ (by kernel_rfl) rfl rfl) rfl, .inl ⟨fw, ?_, hG⟩⟩⟩
              simp only [execOp, Act.eval]
              go_simp
              all_goals first | omega | (intro hh; omega) | (simp only [IntKind.wrap_i64]; omega) | simp
            | 44, _ =>
              have p79 : fa.eval (.tmp 79) = .int .i64 (x : Nat) := hp 42 79 _ (by kernel_rfl) rfl rfl
              have p80 : fa.eval (.tmp 80) = .int .i64 (y : Nat) := hp 43 80 _ (by kernel_rfl) rfl rfl
              simp only [Act.eval] at p79 p80
              refine ⟨_, _, rfl, rfl, .inl ⟨RV.wanted_at (d := 74) rfl fr (by rfl) (hp 37 74 _ (by kernel_rfl) rfl rfl) rfl, .inl ⟨fw, ?_, hG⟩⟩⟩
              simp only [execOp, Act.eval]
              go_simp
              all_goals first | omega | (intro hh; omega) | (simp only [IntKind.wrap_i64]; omega) | simp
            | 45, _ =>
              have p78 : fa.eval (.tmp 78) = .string ⟨(b0).toArray⟩ := hp 41 78 _ (by kernel_rfl) rfl rfl
              have p81 : fa.eval (.tmp 81) = .int .i64 (j : Nat) := hp 44 81 _ (by kernel_rfl) rfl rfl
              simp only [Act.eval] at p78 p81
              refine ⟨_, _, rfl, rfl, .inl ⟨RV.wanted_at (d := 74) rfl fr (by rfl) (hp 37 74 _ (by kernel_rfl) rfl rfl) rfl, .inl ⟨fw, ?_, hG⟩⟩⟩
              simp only [execOp, Act.eval]
              go_simp
              all_goals first | omega | (intro hh; omega) | (simp only [IntKind.wrap_i64]; omega) | simp
            | 46, _ =>
              have p77 : fa.eval (.tmp 77) = .string ⟨(Q).toArray⟩ := hp 40 77 _ (by kernel_rfl) rfl rfl
              have p82 : fa.eval (.tmp 82) = .string ⟨(Q).toArray⟩ := hp 45 82 _ (by kernel_rfl) rfl rfl
              simp only [Act.eval] at p77 p82
              refine ⟨_, _, rfl, rfl, .inl ⟨RV.wanted_at (d := 74) rfl fr (by rfl) (hp 37 74 _ (by kernel_rfl) rfl rfl) rfl, .inl ⟨fw, ?_, hG⟩⟩⟩
              simp only [execOp, Act.eval]
              go_simp
              all_goals first | omega | (intro hh; omega) | (simp only [IntKind.wrap_i64]; omega) | simp
            | 47, _ =>
              have p74 : fa.eval (.tmp 74) = .bool false := hp 37 74 _ (by kernel_rfl) rfl rfl
              have p83 : fa.eval (.tmp 83) = .bool false := hp 46 83 _ (by kernel_rfl) rfl rfl
              simp only [Act.eval] at p74 p83
              refine ⟨_, _, rfl, rfl, .inl ⟨RV.wanted_at (d := 39) rfl fr (by rfl) (hp 2 39 _ (by kernel_rfl) rfl rfl) rfl, .inl ⟨fw, ?_, hG⟩⟩⟩
              simp only [execOp, Act.eval]
              go_simp
              all_goals first | omega | (intro hh; omega) | (simp only [IntKind.wrap_i64]; omega) | simp
            | 48, _ =>
              have p84 : fa.eval (.tmp 84) = .bool false := hp 47 84 _ (by kernel_rfl) rfl rfl
              simp only [Act.eval] at p84
              refine ⟨_, _, rfl, rfl, .inl ⟨RV.wanted_at (d := 39) rfl fr (by rfl) (hp 2 39 _ (by kernel_rfl) rfl rfl) rfl, .inl ⟨fw, ?_, hG⟩⟩⟩
              simp only [execOp, Act.eval]
              go_simp
              all_goals first | omega | (intro hh; omega) | (simp only [IntKind.wrap_i64]; omega) | simp
            | 49, _ =>
              have p9 : fa.eval (.tmp 9) = .string ⟨(kv).toArray⟩ := (fr.out 9 (by decide)).trans rfl
              simp only [Act.eval] at p9
              refine ⟨_, _, rfl, rfl, .inl ⟨RV.wanted_at (d := 85) rfl fr (by rfl) (hp 48 85 _ (by kernel_rfl) rfl rfl) rfl, .inl ⟨fw, ?_, hG⟩⟩⟩
              simp only [execOp, Act.eval]
              go_simp
              all_goals first | omega | (intro hh; omega) | (simp only [IntKind.wrap_i64]; omega) | simp
            | 50, _ =>
              have p1 : fa.eval (.tmp 1) = .int .i64 (x : Nat) := (fr.out 1 (by decide)).trans rfl
              simp only [Act.eval] at p1
              refine ⟨_, _, rfl, rfl, .inl ⟨RV.wanted_at (d := 85) rfl fr (by rfl) (hp 48 85 _ (by kernel_rfl) rfl rfl) rfl, .inl ⟨fw, ?_, hG⟩⟩⟩
              simp only [execOp, Act.eval]
              go_simp
              all_goals first | omega | (intro hh; omega) | (simp only [IntKind.wrap_i64]; omega) | simp
            | 51, _ =>
              have p86 : fa.eval (.tmp 86) = .string ⟨(kv).toArray⟩ := hp 49 86 _ (by kernel_rfl) rfl rfl
              have p87 : fa.eval (.tmp 87) = .int .i64 (x : Nat) := hp 50 87 _ (by kernel_rfl) rfl rfl
              simp only [Act.eval] at p86 p87
              refine ⟨_, _, rfl, rfl, .inl ⟨RV.wanted_at (d := 85) rfl fr (by rfl) (hp 48 85 _ (by kernel_rfl) rfl rfl) rfl, .inl ⟨fw, ?_, hG⟩⟩⟩
              simp only [execOp, Act.eval]
              go_simp
              all_goals first | omega | (intro hh; omega) | (simp only [IntKind.wrap_i64]; omega) | simp
            | 52, _ =>
              have p0 : fa.eval (.tmp 0) = .string ⟨(b0).toArray⟩ := (fr.out 0 (by decide)).trans rfl
              simp only [Act.eval] at p0
              refine ⟨_, _, rfl, rfl, .inl ⟨RV.wanted_at (d := 85) rfl fr (by rfl) (hp 48 85 _ (by kernel_rfl) rfl rfl) rfl, .inl ⟨fw, ?_, hG⟩⟩⟩
              simp only [execOp, Act.eval]
              go_simp
              all_goals first | omega | (intro hh; omega) | (simp only [IntKind.wrap_i64]; omega) | simp
            | 53, _ =>
              have p1 : fa.eval (.tmp 1) = .int .i64 (x : Nat) := (fr.out 1 (by decide)).trans rfl
              simp only [Act.eval] at p1
              refine ⟨_, _, rfl, rfl, .inl ⟨RV.wanted_at (d := 85) rfl fr (by rfl) (hp 48 85 _ (by kernel_rfl) rfl rfl) rfl, .inl ⟨fw, ?_, hG⟩⟩⟩
              simp only [execOp, Act.eval]
              go_simp
              all_goals first | omega | (intro hh; omega) | (simp only [IntKind.wrap_i64]; omega) | simp
            | 54, _ =>
              have p89 : fa.eval (.tmp 89) = .string ⟨(b0).toArray⟩ := hp 52 89 _ (by kernel_rfl) rfl rfl
              have p90 : fa.eval (.tmp 90) = .int .i64 (x : Nat) := hp 53 90 _ (by kernel_rfl) rfl rfl
              simp only [Act.eval] at p89 p90
              refine ⟨_, _, rfl, rfl, .inl ⟨RV.wanted_at (d := 85) rfl fr (by rfl) (hp 48 85 _ (by kernel_rfl) rfl rfl) rfl, .inl ⟨fw, ?_, hG⟩⟩⟩
              simp only [execOp, Act.eval]
              go_simp
              all_goals first | omega | (intro hh; omega) | (simp only [IntKind.wrap_i64]; omega) | simp
            | 55, _ =>
              have p88 : fa.eval (.tmp 88) = .string ⟨(P).toArray⟩ := hp 51 88 _ (by kernel_rfl) rfl rfl
              have p91 : fa.eval (.tmp 91) = .string ⟨(P).toArray⟩ := hp 54 91 _ (by kernel_rfl) rfl rfl
              simp only [Act.eval] at p88 p91
              refine ⟨_, _, rfl, rfl, .inl ⟨RV.wanted_at (d := 85) rfl fr (by rfl) (hp 48 85 _ (by kernel_rfl) rfl rfl) rfl, .inl ⟨fw, ?_, hG⟩⟩⟩
              simp only [execOp, Act.eval]
              go_simp
              all_goals first | omega | (intro hh; omega) | (simp only [IntKind.wrap_i64]; omega) | simp
            | 56, _ =>
              have p85 : fa.eval (.tmp 85) = .bool false := hp 48 85 _ (by kernel_rfl) rfl rfl
              have p92 : fa.eval (.tmp 92) = .bool false := hp 55 92 _ (by kernel_rfl) rfl rfl
              simp only [Act.eval] at p85 p92
              refine ⟨_, _, rfl, rfl, .inl ⟨RV.wanted_at (d := 39) rfl fr (by rfl) (hp 2 39 _ (by kernel_rfl) rfl rfl) rfl, .inl ⟨fw, ?_, hG⟩⟩⟩
              simp only [execOp, Act.eval]
              go_simp
              all_goals first | omega | (intro hh; omega) | (simp only [IntKind.wrap_i64]; omega) | simp
            | 57, _ =>
              have p93 : fa.eval (.tmp 93) = .bool false := hp 56 93 _ (by kernel_rfl) rfl rfl
              simp only [Act.eval] at p93
              refine ⟨_, _, rfl, rfl, .inl ⟨RV.wanted_at (d := 39) rfl fr (by rfl) (hp 2 39 _ (by kernel_rfl) rfl rfl) rfl, .inl ⟨fw, ?_, hG⟩⟩⟩
              simp only [execOp, Act.eval]
              go_simp
              all_goals first | omega | (intro hh; omega) | (simp only [IntKind.wrap_i64]; omega) | simp
            | 58, _ =>
              have p9 : fa.eval (.tmp 9) = .string ⟨(kv).toArray⟩ := (fr.out 9 (by decide)).trans rfl
              simp only [Act.eval] at p9
              refine ⟨_, _, rfl, rfl, .inl ⟨RV.wanted_at (d := 94) rfl fr (by rfl) (hp 57 94 _ (by kernel_rfl) rfl rfl) rfl, .inl ⟨fw, ?_, hG⟩⟩⟩
              simp only [execOp, Act.eval]
              go_simp
              all_goals first | omega | (intro hh; omega) | (simp only [IntKind.wrap_i64]; omega) | simp
            | 59, _ =>
              have p1 : fa.eval (.tmp 1) = .int .i64 (x : Nat) := (fr.out 1 (by decide)).trans rfl
              simp only [Act.eval] at p1
              refine ⟨_, _, rfl, rfl, .inl ⟨RV.wanted_at (d := 94) rfl fr (by rfl) (hp 57 94 _ (by kernel_rfl) rfl rfl) rfl, .inl ⟨fw, ?_, hG⟩⟩⟩
              simp only [execOp, Act.eval]
              go_simp
              all_goals first | omega | (intro hh; omega) | (simp only [IntKind.wrap_i64]; omega) | simp
            | 60, _ =>
              have p2 : fa.eval (.tmp 2) = .int .i64 (y : Nat) := (fr.out 2 (by decide)).trans rfl
              simp only [Act.eval] at p2
              refine ⟨_, _, rfl, rfl, .inl ⟨RV.wanted_at (d := 94) rfl fr (by rfl) (hp 57 94 _ (by kernel_rfl) rfl rfl) rfl, .inl ⟨fw, ?_, hG⟩⟩⟩
              simp only [execOp, Act.eval]
              go_simp
              all_goals first | omega | (intro hh; omega) | (simp only [IntKind.wrap_i64]; omega) | simp
            | 61, _ =>
              have p96 : fa.eval (.tmp 96) = .int .i64 (x : Nat) := hp 59 96 _ (by kernel_rfl) rfl rfl
              have p97 : fa.eval (.tmp 97) = .int .i64 (y : Nat) := hp 60 97 _ (by kernel_rfl) rfl rfl
              simp only [Act.eval] at p96 p97
              refine ⟨_, _, rfl, rfl, .inl ⟨RV.wanted_at (d := 94) rfl fr (by rfl) (hp 57 94 _ (by kernel_rfl) rfl rfl) rfl, .inl ⟨fw, ?_, hG⟩⟩⟩
              simp only [execOp, Act.eval]
              go_simp
              all_goals first | omega | (intro hh; omega) | (simp only [IntKind.wrap_i64]; omega) | simp
            | 62, _ =>
              have p95 : fa.eval (.tmp 95) = .string ⟨(kv).toArray⟩ := hp 58 95 _ (by kernel_rfl) rfl rfl
              have p98 : fa.eval (.tmp 98) = .int .i64 (j : Nat) := hp 61 98 _ (by kernel_rfl) rfl rfl
              simp only [Act.eval] at p95 p98
              refine ⟨_, _, rfl, rfl, .inl ⟨RV.wanted_at (d := 94) rfl fr (by rfl) (hp 57 94 _ (by kernel_rfl) rfl rfl) rfl, .inl ⟨fw, ?_, hG⟩⟩⟩
              simp only [execOp, Act.eval]
              go_simp
              all_goals first | omega | (intro hh; omega) | (simp only [IntKind.wrap_i64]; omega) | simp
            | 63, _ =>
              have p0 : fa.eval (.tmp 0) = .string ⟨(b0).toArray⟩ := (fr.out 0 (by decide)).trans rfl
              simp only [Act.eval] at p0
              refine ⟨_, _, rfl, rfl, .inl ⟨RV.wanted_at (d := 94) rfl fr (by rfl) (hp 57 94 _ (by kernel_rfl) rfl rfl) rfl, .inl ⟨fw, ?_, hG⟩⟩⟩
              simp only [execOp, Act.eval]
              go_simp
              all_goals first | omega | (intro hh; omega) | (simp only [IntKind.wrap_i64]; omega) | simp
            | 64, _ =>
              have p1 : fa.eval (.tmp 1) = .int .i64 (x : Nat) := (fr.out 1 (by decide)).trans rfl
              simp only [Act.eval] at p1
              refine ⟨_, _, rfl, rfl, .inl ⟨RV.wanted_at (d := 94) rfl fr (by rfl) (hp 57 94 _ (by kernel_rfl) rfl rfl) rfl, .inl ⟨fw, ?_, hG⟩⟩⟩
              simp only [execOp, Act.eval]
              go_simp
              all_goals first | omega | (intro hh; omega) | (simp only [IntKind.wrap_i64]; omega) | simp
            | 65, _ =>
              have p2 : fa.eval (.tmp 2) = .int .i64 (y : Nat) := (fr.out 2 (by decide)).trans rfl
              simp only [Act.eval] at p2
              refine ⟨_, _, rfl, rfl, .inl ⟨RV.wanted_at (d := 94) rfl fr (by rfl) (hp 57 94 _ (by kernel_rfl) rfl rfl) rfl, .inl ⟨fw, ?_, hG⟩⟩⟩
              simp only [execOp, Act.eval]
              go_simp
              all_goals first | omega | (intro hh; omega) | (simp only [IntKind.wrap_i64]; omega) | simp
            | 66, _ =>
              have p101 : fa.eval (.tmp 101) = .int .i64 (x : Nat) := hp 64 101 _ (by kernel_rfl) rfl rfl
              have p102 : fa.eval (.tmp 102) = .int .i64 (y : Nat) := hp 65 102 _ (by kernel_rfl) rfl rfl
              simp only [Act.eval] at p101 p102
              refine ⟨_, _, rfl, rfl, .inl ⟨RV.wanted_at (d := 94) rfl fr (by rfl) (hp 57 94 _ (by kernel_rfl) rfl rfl) rfl, .inl ⟨fw, ?_, hG⟩⟩⟩
              simp only [execOp, Act.eval]
              go_simp
              all_goals first | omega | (intro hh; omega) | (simp only [IntKind.wrap_i64]; omega) | simp
            | 67, _ =>
              have p100 : fa.eval (.tmp 100) = .string ⟨(b0).toArray⟩ := hp 63 100 _ (by kernel_rfl) rfl rfl
              have p103 : fa.eval (.tmp 103) = .int .i64 (j : Nat) := hp 66 103 _ (by kernel_rfl) rfl rfl
              simp only [Act.eval] at p100 p103
              refine ⟨_, _, rfl, rfl, .inl ⟨RV.wanted_at (d := 94) rfl fr (by rfl) (hp 57 94 _ (by kernel_rfl) rfl rfl) rfl, .inl ⟨fw, ?_, hG⟩⟩⟩
              simp only [execOp, Act.eval]
              go_simp
              all_goals first | omega | (intro hh; omega) | (simp only [IntKind.wrap_i64]; omega) | simp
            | 68, _ =>
              have p99 : fa.eval (.tmp 99) = .string ⟨(Q).toArray⟩ := hp 62 99 _ (by kernel_rfl) rfl rfl
              have p104 : fa.eval (.tmp 104) = .string ⟨(Q).toArray⟩ := hp 67 104 _ (by kernel_rfl) rfl rfl
              simp only [Act.eval] at p99 p104
              refine ⟨_, _, rfl, rfl, .inl ⟨RV.wanted_at (d := 94) rfl fr (by rfl) (hp 57 94 _ (by kernel_rfl) rfl rfl) rfl, .inl ⟨fw, ?_, hG⟩⟩⟩
              simp only [execOp, Act.eval]
              go_simp
              all_goals first | omega | (intro hh; omega) | (simp only [IntKind.wrap_i64]; omega) | simp
            | 69, _ =>
              have p94 : fa.eval (.tmp 94) = .bool false := hp 57 94 _ (by kernel_rfl) rfl rfl
              have p105 : fa.eval (.tmp 105) = .bool false := hp 68 105 _ (by kernel_rfl) rfl rfl
              simp only [Act.eval] at p94 p105
              refine ⟨_, _, rfl, rfl, .inl ⟨RV.wanted_at (d := 39) rfl fr (by rfl) (hp 2 39 _ (by kernel_rfl) rfl rfl) rfl, .inl ⟨fw, ?_, hG⟩⟩⟩
              simp only [execOp, Act.eval]
              go_simp
              all_goals first | omega | (intro hh; omega) | (simp only [IntKind.wrap_i64]; omega) | simp
            | 70, _ =>
              have p39 : fa.eval (.tmp 39) = .bool true := hp 2 39 _ (by kernel_rfl) rfl rfl
              have p106 : fa.eval (.tmp 106) = .bool false := hp 69 106 _ (by kernel_rfl) rfl rfl
              simp only [Act.eval] at p39 p106
              refine ⟨_, _, rfl, rfl, .inl ⟨RV.wanted_none rfl, .inl ⟨fw, ?_, hG⟩⟩⟩
              simp only [execOp, Act.eval]
              go_simp
              all_goals first | omega | (intro hh; omega) | (simp only [IntKind.wrap_i64]; omega) | simp
            | i + 71, hi => exact absurd hi (by show ¬ (i + 71 < 71); omega)
          · intro w2 hG
            simp only [RV.putAll, List.zip_cons_cons, List.zip_nil_left, List.zip_nil_right, List.foldl_cons, List.foldl_nil, Act.put, List.setIfInBounds_toArray, List.set_cons_zero, List.set_cons_succ]
            have HB3 := Lib.hid hG; clear HB; have HB := HB3; clear HB3 hG
            go_wp2_with (first
              | (go_at_call 13; refine (bawake _).mono ?_; rintro e w1 ⟨rfl, hb⟩; have HB2 := Lib.hid (HB.out.trans (hb.mono HB.out.size)); clear hb HB; have HB := HB2; clear HB2)
              | (go_at_call 28; refine (H3.out _).mono ?_; rintro e w1 ⟨rfl, hb⟩; have HB2 := Lib.hid (HB.out.trans (hb.mono HB.out.size)); clear hb HB; have HB := HB2; clear HB2))
            refine RV.wp_region_g (by kernel_rfl) [118, 119, 120, 121, 122, 123, 124, 125, 126, 127, 128, 129, 130, 131, 132, 133, 134, 135, 136, 137, 138, 139, 140, 141, 142, 143] [.string ⟨(b0).toArray⟩, .int .i64 (x : Nat), .bool true, .bool false, .bool false, .string ⟨(dv).toArray⟩, .int .i64 (b0.length : Nat), .string ⟨(b0).toArray⟩, .int .i64 (b0.length : Nat), .bool false, .bool false, .bool false, .string ⟨(dv).toArray⟩, .int .i64 (x : Nat), .string ⟨(P).toArray⟩, .string ⟨(b0).toArray⟩, .int .i64 (x : Nat), .string ⟨(P).toArray⟩, .bool false, .bool false, .bool false, .string ⟨(b0).toArray⟩, .int .i64 (x : Nat), .int .u8 49, .bool false, .bool false] (fun W => Below w.heap.size w W) (by kernel_rfl) rfl (by decide) rfl (by kernel_rfl) (HB.out.drew) ?_ ?_
            · intro ii hii fa fw fr hp hG
              match ii, hii with
              | 0, _ =>
                have p0 : fa.eval (.tmp 0) = .string ⟨(b0).toArray⟩ := (fr.out 0 (by decide)).trans rfl
                simp only [Act.eval] at p0
                refine ⟨_, _, rfl, rfl, .inl ⟨RV.wanted_none rfl, .inl ⟨fw, ?_, hG⟩⟩⟩
                simp only [execOp, Act.eval]
                go_simp
                all_goals first | omega | (intro hh; omega) | (simp only [IntKind.wrap_i64]; omega) | simp
              | 1, _ =>
                have p1 : fa.eval (.tmp 1) = .int .i64 (x : Nat) := (fr.out 1 (by decide)).trans rfl
                simp only [Act.eval] at p1
                refine ⟨_, _, rfl, rfl, .inl ⟨RV.wanted_none rfl, .inl ⟨fw, ?_, hG⟩⟩⟩
                simp only [execOp, Act.eval]
                go_simp
                all_goals first | omega | (intro hh; omega) | (simp only [IntKind.wrap_i64]; omega) | simp
              | 2, _ =>
                have p118 : fa.eval (.tmp 118) = .string ⟨(b0).toArray⟩ := hp 0 118 _ (by kernel_rfl) rfl rfl
                have p119 : fa.eval (.tmp 119) = .int .i64 (x : Nat) := hp 1 119 _ (by kernel_rfl) rfl rfl
                have hv : (#[Operand.tmp 118, Operand.tmp 119, Operand.const (Value.int IntKind.i64 1)] : Array Operand).map fa.eval = #[(.string ⟨(b0).toArray⟩), (.int .i64 (x : Nat)), (Value.int IntKind.i64 1)] := by simp only [List.map_toArray, List.map_cons, List.map_nil, p118, p119]; rfl
                exact ⟨_, _, rfl, rfl, .inl ⟨RV.wanted_none rfl, RV.yields_call_g hv Tryd.func32 (by kernel_rfl) rfl (HP2.out fw) (fun e w2 h => ⟨h.1, by have h2 := h.2; subst h2; exact hG⟩)⟩⟩
              | 3, _ =>
                have p120 : fa.eval (.tmp 120) = .bool true := hp 2 120 _ (by kernel_rfl) rfl rfl
                simp only [Act.eval] at p120
                refine ⟨_, _, rfl, rfl, .inl ⟨RV.wanted_none rfl, .inl ⟨fw, ?_, hG⟩⟩⟩
                simp only [execOp, Act.eval]
                go_simp
                all_goals first | omega | (intro hh; omega) | (simp only [IntKind.wrap_i64]; omega) | simp
              | 4, _ =>
                have p121 : fa.eval (.tmp 121) = .bool false := hp 3 121 _ (by kernel_rfl) rfl rfl
                simp only [Act.eval] at p121
                refine ⟨_, _, rfl, rfl, .inl ⟨RV.wanted_none rfl, .inl ⟨fw, ?_, hG⟩⟩⟩
                simp only [execOp, Act.eval]
                go_simp
                all_goals first | omega | (intro hh; omega) | (simp only [IntKind.wrap_i64]; omega) | simp
              | 5, _ =>
                have p11 : fa.eval (.tmp 11) = .string ⟨(dv).toArray⟩ := (fr.out 11 (by decide)).trans rfl
                simp only [Act.eval] at p11
                refine ⟨_, _, rfl, rfl, .inl ⟨RV.wanted_at (d := 122) rfl fr (by rfl) (hp 4 122 _ (by kernel_rfl) rfl rfl) rfl, .inl ⟨fw, ?_, hG⟩⟩⟩
                simp only [execOp, Act.eval]
                go_simp
                all_goals first | omega | (intro hh; omega) | (simp only [IntKind.wrap_i64]; omega) | simp
              | 6, _ =>
                have p123 : fa.eval (.tmp 123) = .string ⟨(dv).toArray⟩ := hp 5 123 _ (by kernel_rfl) rfl rfl
                simp only [Act.eval] at p123
                refine ⟨_, _, rfl, rfl, .inl ⟨RV.wanted_at (d := 122) rfl fr (by rfl) (hp 4 122 _ (by kernel_rfl) rfl rfl) rfl, .inl ⟨fw, ?_, hG⟩⟩⟩
                simp only [execOp, Act.eval]
                go_simp
                all_goals first | omega | exact dl | simp [dl]
              | 7, _ =>
                have p0 : fa.eval (.tmp 0) = .string ⟨(b0).toArray⟩ := (fr.out 0 (by decide)).trans rfl
                simp only [Act.eval] at p0
                refine ⟨_, _, rfl, rfl, .inl ⟨RV.wanted_at (d := 122) rfl fr (by rfl) (hp 4 122 _ (by kernel_rfl) rfl rfl) rfl, .inl ⟨fw, ?_, hG⟩⟩⟩
                simp only [execOp, Act.eval]
                go_simp
                all_goals first | omega | (intro hh; omega) | (simp only [IntKind.wrap_i64]; omega) | simp
              | 8, _ =>
                have p125 : fa.eval (.tmp 125) = .string ⟨(b0).toArray⟩ := hp 7 125 _ (by kernel_rfl) rfl rfl
                simp only [Act.eval] at p125
                refine ⟨_, _, rfl, rfl, .inl ⟨RV.wanted_at (d := 122) rfl fr (by rfl) (hp 4 122 _ (by kernel_rfl) rfl rfl) rfl, .inl ⟨fw, ?_, hG⟩⟩⟩
                simp only [execOp, Act.eval]
                go_simp
                all_goals first | omega | (intro hh; omega) | (simp only [IntKind.wrap_i64]; omega) | simp
              | 9, _ =>
                have p124 : fa.eval (.tmp 124) = .int .i64 (b0.length : Nat) := hp 6 124 _ (by kernel_rfl) rfl rfl
                have p126 : fa.eval (.tmp 126) = .int .i64 (b0.length : Nat) := hp 8 126 _ (by kernel_rfl) rfl rfl
                simp only [Act.eval] at p124 p126
                refine ⟨_, _, rfl, rfl, .inl ⟨RV.wanted_at (d := 122) rfl fr (by rfl) (hp 4 122 _ (by kernel_rfl) rfl rfl) rfl, .inl ⟨fw, ?_, hG⟩⟩⟩
                simp only [execOp, Act.eval]
                go_simp
                all_goals first | omega | (intro hh; omega) | (simp only [IntKind.wrap_i64]; omega) | simp
              | 10, _ =>
                have p122 : fa.eval (.tmp 122) = .bool false := hp 4 122 _ (by kernel_rfl) rfl rfl
                have p127 : fa.eval (.tmp 127) = .bool false := hp 9 127 _ (by kernel_rfl) rfl rfl
                simp only [Act.eval] at p122 p127
                refine ⟨_, _, rfl, rfl, .inl ⟨RV.wanted_none rfl, .inl ⟨fw, ?_, hG⟩⟩⟩
                simp only [execOp, Act.eval]
                go_simp
                all_goals first | omega | (intro hh; omega) | (simp only [IntKind.wrap_i64]; omega) | simp
              | 11, _ =>
                have p128 : fa.eval (.tmp 128) = .bool false := hp 10 128 _ (by kernel_rfl) rfl rfl
                simp only [Act.eval] at p128
                refine ⟨_, _, rfl, rfl, .inl ⟨RV.wanted_none rfl, .inl ⟨fw, ?_, hG⟩⟩⟩
                simp only [execOp, Act.eval]
                go_simp
                all_goals first | omega | (intro hh; omega) | (simp only [IntKind.wrap_i64]; omega) | simp
              | 12, _ =>
                have p11 : fa.eval (.tmp 11) = .string ⟨(dv).toArray⟩ := (fr.out 11 (by decide)).trans rfl
                simp only [Act.eval] at p11
                refine ⟨_, _, rfl, rfl, .inl ⟨RV.wanted_at (d := 129) rfl fr (by rfl) (hp 11 129 _ (by kernel_rfl) rfl rfl) rfl, .inl ⟨fw, ?_, hG⟩⟩⟩
                simp only [execOp, Act.eval]
                go_simp
                all_goals first | omega | (intro hh; omega) | (simp only [IntKind.wrap_i64]; omega) | simp
              | 13, _ =>
                have p1 : fa.eval (.tmp 1) = .int .i64 (x : Nat) := (fr.out 1 (by decide)).trans rfl
                simp only [Act.eval] at p1
                refine ⟨_, _, rfl, rfl, .inl ⟨RV.wanted_at (d := 129) rfl fr (by rfl) (hp 11 129 _ (by kernel_rfl) rfl rfl) rfl, .inl ⟨fw, ?_, hG⟩⟩⟩
                simp only [execOp, Act.eval]
                go_simp
                all_goals first | omega | (intro hh; omega) | (simp only [IntKind.wrap_i64]; omega) | simp
              | 14, _ =>
                have p130 : fa.eval (.tmp 130) = .string ⟨(dv).toArray⟩ := hp 12 130 _ (by kernel_rfl) rfl rfl
                have p131 : fa.eval (.tmp 131) = .int .i64 (x : Nat) := hp 13 131 _ (by kernel_rfl) rfl rfl
                simp only [Act.eval] at p130 p131
                refine ⟨_, _, rfl, rfl, .inl ⟨RV.wanted_at (d := 129) rfl fr (by rfl) (hp 11 129 _ (by kernel_rfl) rfl rfl) rfl, .inl ⟨fw, ?_, hG⟩⟩⟩
                simp only [execOp, Act.eval]
                go_simp
                all_goals first | omega | (intro hh; omega) | (simp only [IntKind.wrap_i64]; omega) | simp
              | 15, _ =>
                have p0 : fa.eval (.tmp 0) = .string ⟨(b0).toArray⟩ := (fr.out 0 (by decide)).trans rfl
                simp only [Act.eval] at p0
                refine ⟨_, _, rfl, rfl, .inl ⟨RV.wanted_at (d := 129) rfl fr (by rfl) (hp 11 129 _ (by kernel_rfl) rfl rfl) rfl, .inl ⟨fw, ?_, hG⟩⟩⟩
                simp only [execOp, Act.eval]
                go_simp
                all_goals first | omega | (intro hh; omega) | (simp only [IntKind.wrap_i64]; omega) | simp
              | 16, _ =>
                have p1 : fa.eval (.tmp 1) = .int .i64 (x : Nat) := (fr.out 1 (by decide)).trans rfl
                simp only [Act.eval] at p1
                refine ⟨_, _, rfl, rfl, .inl ⟨RV.wanted_at (d := 129) rfl fr (by rfl) (hp 11 129 _ (by kernel_rfl) rfl rfl) rfl, .inl ⟨fw, ?_, hG⟩⟩⟩
                simp only [execOp, Act.eval]
                go_simp
                all_goals first | omega | (intro hh; omega) | (simp only [IntKind.wrap_i64]; omega) | simp
              | 17, _ =>
                have p133 : fa.eval (.tmp 133) = .string ⟨(b0).toArray⟩ := hp 15 133 _ (by kernel_rfl) rfl rfl
                have p134 : fa.eval (.tmp 134) = .int .i64 (x : Nat) := hp 16 134 _ (by kernel_rfl) rfl rfl
                simp only [Act.eval] at p133 p134
                refine ⟨_, _, rfl, rfl, .inl ⟨RV.wanted_at (d := 129) rfl fr (by rfl) (hp 11 129 _ (by kernel_rfl) rfl rfl) rfl, .inl ⟨fw, ?_, hG⟩⟩⟩
                simp only [execOp, Act.eval]
                go_simp
                all_goals first | omega | (intro hh; omega) | (simp only [IntKind.wrap_i64]; omega) | simp
              | 18, _ =>
                have p132 : fa.eval (.tmp 132) = .string ⟨(P).toArray⟩ := hp 14 132 _ (by kernel_rfl) rfl rfl
                have p135 : fa.eval (.tmp 135) = .string ⟨(P).toArray⟩ := hp 17 135 _ (by kernel_rfl) rfl rfl
                simp only [Act.eval] at p132 p135
                refine ⟨_, _, rfl, rfl, .inl ⟨RV.wanted_at (d := 129) rfl fr (by rfl) (hp 11 129 _ (by kernel_rfl) rfl rfl) rfl, .inl ⟨fw, ?_, hG⟩⟩⟩
                simp only [execOp, Act.eval]
                go_simp
                all_goals first | omega | (intro hh; omega) | (simp only [IntKind.wrap_i64]; omega) | simp
              | 19, _ =>
                have p129 : fa.eval (.tmp 129) = .bool false := hp 11 129 _ (by kernel_rfl) rfl rfl
                have p136 : fa.eval (.tmp 136) = .bool false := hp 18 136 _ (by kernel_rfl) rfl rfl
                simp only [Act.eval] at p129 p136
                refine ⟨_, _, rfl, rfl, .inl ⟨RV.wanted_none rfl, .inl ⟨fw, ?_, hG⟩⟩⟩
                simp only [execOp, Act.eval]
                go_simp
                all_goals first | omega | (intro hh; omega) | (simp only [IntKind.wrap_i64]; omega) | simp
              | 20, _ =>
                have p137 : fa.eval (.tmp 137) = .bool false := hp 19 137 _ (by kernel_rfl) rfl rfl
                simp only [Act.eval] at p137
                refine ⟨_, _, rfl, rfl, .inl ⟨RV.wanted_none rfl, .inl ⟨fw, ?_, hG⟩⟩⟩
                simp only [execOp, Act.eval]
                go_simp
                all_goals first | omega | (intro hh; omega) | (simp only [IntKind.wrap_i64]; omega) | simp
              | 21, _ =>
                have p0 : fa.eval (.tmp 0) = .string ⟨(b0).toArray⟩ := (fr.out 0 (by decide)).trans rfl
                simp only [Act.eval] at p0
                refine ⟨_, _, rfl, rfl, .inl ⟨RV.wanted_at (d := 138) rfl fr (by rfl) (hp 20 138 _ (by kernel_rfl) rfl rfl) rfl, .inl ⟨fw, ?_, hG⟩⟩⟩
                simp only [execOp, Act.eval]
                go_simp
                all_goals first | omega | (intro hh; omega) | (simp only [IntKind.wrap_i64]; omega) | simp
              | 22, _ =>
                have p1 : fa.eval (.tmp 1) = .int .i64 (x : Nat) := (fr.out 1 (by decide)).trans rfl
                simp only [Act.eval] at p1
                refine ⟨_, _, rfl, rfl, .inl ⟨RV.wanted_at (d := 138) rfl fr (by rfl) (hp 20 138 _ (by kernel_rfl) rfl rfl) rfl, .inl ⟨fw, ?_, hG⟩⟩⟩
                simp only [execOp, Act.eval]
                go_simp
                all_goals first | omega | (intro hh; omega) | (simp only [IntKind.wrap_i64]; omega) | simp
              | 23, _ =>
                have p139 : fa.eval (.tmp 139) = .string ⟨(b0).toArray⟩ := hp 21 139 _ (by kernel_rfl) rfl rfl
                have p140 : fa.eval (.tmp 140) = .int .i64 (x : Nat) := hp 22 140 _ (by kernel_rfl) rfl rfl
                simp only [Act.eval] at p139 p140
                refine ⟨_, _, rfl, rfl, .inl ⟨RV.wanted_at (d := 138) rfl fr (by rfl) (hp 20 138 _ (by kernel_rfl) rfl rfl) rfl, .inl ⟨fw, ?_, hG⟩⟩⟩
                simp only [execOp, Act.eval]
                go_simp
                all_goals first | omega | (intro hh; omega) | (simp only [IntKind.wrap_i64]; omega) | simp
              | 24, _ =>
                have p141 : fa.eval (.tmp 141) = .int .u8 49 := hp 23 141 _ (by kernel_rfl) rfl rfl
                simp only [Act.eval] at p141
                refine ⟨_, _, rfl, rfl, .inl ⟨RV.wanted_at (d := 138) rfl fr (by rfl) (hp 20 138 _ (by kernel_rfl) rfl rfl) rfl, .inl ⟨fw, ?_, hG⟩⟩⟩
                simp only [execOp, Act.eval]
                go_simp
                all_goals first | omega | (intro hh; omega) | (simp only [IntKind.wrap_i64]; omega) | simp
              | 25, _ =>
                have p138 : fa.eval (.tmp 138) = .bool false := hp 20 138 _ (by kernel_rfl) rfl rfl
                have p142 : fa.eval (.tmp 142) = .bool false := hp 24 142 _ (by kernel_rfl) rfl rfl
                simp only [Act.eval] at p138 p142
                refine ⟨_, _, rfl, rfl, .inl ⟨RV.wanted_none rfl, .inl ⟨fw, ?_, hG⟩⟩⟩
                simp only [execOp, Act.eval]
                go_simp
                all_goals first | omega | (intro hh; omega) | (simp only [IntKind.wrap_i64]; omega) | simp
              | i + 26, hi => exact absurd hi (by show ¬ (i + 26 < 26); omega)
            · intro w2 hG
              simp only [RV.putAll, List.zip_cons_cons, List.zip_nil_left, List.zip_nil_right, List.foldl_cons, List.foldl_nil, Act.put, List.setIfInBounds_toArray, List.set_cons_zero, List.set_cons_succ]
              have HB3 := Lib.hid hG; clear HB; have HB := HB3; clear HB3 hG
              go_wp2
              go_ret
              exact ⟨rfl, HB.out⟩
        · have hk63 : ¬ ((63 : Int) < ((k + 1 : Nat) : Int)) := by omega
          obtain ⟨n1, n2⟩ := nu_of htB (by omega)
          obtain ⟨v, hvv⟩ : ∃ v, numB tl = v := ⟨_, rfl⟩
          rw [hvv] at n2 htn
          have H6 := Lib.hid (fun W : World => show Calls Tryd.prog 14 #[.string ⟨tl.toArray⟩] W fun e w' => e = .returned (.tuple #[.int .u64 (v : Int), .int .i64 0]) ∧ Below W.heap.size W w' from by
            have h := num_any W tl mtl
            rwa [n2, n1] at h)
          have hv63 : v + 1 ≤ 4611686018427387904 := by rw [htn]; exact Nat.le_trans (Nat.pow_le_pow_right (n := 2) (by decide) (show k ≤ 62 by omega)) (by decide)
          have hsh : IntKind.u64.wrap ((2 : Int) ^ k) = (v : Int) + 1 := by
            have h2 : ((2 : Int) ^ k) = ((2 ^ k : Nat) : Int) := (W.cast_pow k).symm
            rw [h2, ← htn, IntKind.wrap_u64]; omega
          clear n1 n2 hvv htn htB
          go_enter Tryd.func11, Tryd.ntmps11
          go_wp2_with (first
            | (go_at_call 13; refine (bawake _).mono ?_; rintro e w1 ⟨rfl, hb⟩; have HB2 := Lib.hid (HB.out.trans (hb.mono HB.out.size)); clear hb HB; have HB := HB2; clear HB2)
            | (go_at_call 24; refine (H1.out _).mono ?_; rintro e w1 ⟨rfl, hb⟩; have HB2 := Lib.hid (HB.out.trans (hb.mono HB.out.size)); clear hb HB; have HB := HB2; clear HB2)
            | (go_at_call 26; refine (H2.out _).mono ?_; rintro e w1 ⟨rfl, hb⟩; have HB2 := Lib.hid (HB.out.trans (hb.mono HB.out.size)); clear hb HB; have HB := HB2; clear HB2))
          refine RV.wp_region_g (by kernel_rfl) [37, 38, 39, 40, 41, 42, 43, 44, 45, 46, 47, 48, 49, 50, 51, 52, 53, 54, 55, 56, 57, 58, 59, 60, 61, 62, 63, 64, 65, 66, 67, 68, 69, 70, 71, 72, 73, 74, 75, 76, 77, 78, 79, 80, 81, 82, 83, 84, 85, 86, 87, 88, 89, 90, 91, 92, 93, 94, 95, 96, 97, 98, 99, 100, 101, 102, 103, 104, 105, 106, 107] [.int .i64 (0), .bool true, .bool true, .int .i64 (0), .bool false, .bool false, .string ⟨(b0).toArray⟩, .int .i64 (x : Nat), .int .i64 (y : Nat), .bool true, .bool false, .bool false, .bool false, .string ⟨(cv).toArray⟩, .int .i64 (cv.length : Nat), .string ⟨(b0).toArray⟩, .int .i64 (b0.length : Nat), .int .i64 (y : Nat), .int .i64 ((b0.length : Int) - (y : Int)), .bool false, .bool false, .bool false, .string ⟨(kv).toArray⟩, .int .i64 (kv.length : Nat), .string ⟨(b0).toArray⟩, .int .i64 (b0.length : Nat), .bool false, .bool false, .bool false, .string ⟨(cv).toArray⟩, .int .i64 (x : Nat), .string ⟨(P).toArray⟩, .string ⟨(b0).toArray⟩, .int .i64 (x : Nat), .string ⟨(P).toArray⟩, .bool false, .bool false, .bool false, .string ⟨(cv).toArray⟩, .int .i64 (x : Nat), .string ⟨(Q).toArray⟩, .string ⟨(b0).toArray⟩, .int .i64 (x : Nat), .int .i64 (y : Nat), .int .i64 (j : Nat), .string ⟨(Q).toArray⟩, .bool false, .bool false, .bool false, .string ⟨(kv).toArray⟩, .int .i64 (x : Nat), .string ⟨(P).toArray⟩, .string ⟨(b0).toArray⟩, .int .i64 (x : Nat), .string ⟨(P).toArray⟩, .bool false, .bool false, .bool false, .string ⟨(kv).toArray⟩, .int .i64 (x : Nat), .int .i64 (y : Nat), .int .i64 (j : Nat), .string ⟨(Q).toArray⟩, .string ⟨(b0).toArray⟩, .int .i64 (x : Nat), .int .i64 (y : Nat), .int .i64 (j : Nat), .string ⟨(Q).toArray⟩, .bool false, .bool false, .bool false] (fun W => Below w.heap.size w W) (by kernel_rfl) rfl (by decide) rfl (by kernel_rfl) (HB.out.drew) ?_ ?_
          · intro ii hii fa fw fr hp hG
            match ii, hii with
            | 0, _ =>
              have p8 : fa.eval (.tmp 8) = .int .i64 (0) := (fr.out 8 (by decide)).trans rfl
              simp only [Act.eval] at p8
              refine ⟨_, _, rfl, rfl, .inl ⟨RV.wanted_none rfl, .inl ⟨fw, ?_, hG⟩⟩⟩
              simp only [execOp, Act.eval]
              go_simp
              all_goals first | omega | (intro hh; omega) | (simp only [IntKind.wrap_i64]; omega) | simp
            | 1, _ =>
              have p37 : fa.eval (.tmp 37) = .int .i64 (0) := hp 0 37 _ (by kernel_rfl) rfl rfl
              simp only [Act.eval] at p37
              refine ⟨_, _, rfl, rfl, .inl ⟨RV.wanted_none rfl, .inl ⟨fw, ?_, hG⟩⟩⟩
              simp only [execOp, Act.eval]
              go_simp
              all_goals first | omega | (intro hh; omega) | (simp only [IntKind.wrap_i64]; omega) | simp
            | 2, _ =>
              have p38 : fa.eval (.tmp 38) = .bool true := hp 1 38 _ (by kernel_rfl) rfl rfl
              simp only [Act.eval] at p38
              refine ⟨_, _, rfl, rfl, .inl ⟨RV.wanted_none rfl, .inl ⟨fw, ?_, hG⟩⟩⟩
              simp only [execOp, Act.eval]
              go_simp
              all_goals first | omega | (intro hh; omega) | (simp only [IntKind.wrap_i64]; omega) | simp
            | 3, _ =>
              have p10 : fa.eval (.tmp 10) = .int .i64 (0) := (fr.out 10 (by decide)).trans rfl
              simp only [Act.eval] at p10
              refine ⟨_, _, rfl, rfl, .inl ⟨RV.wanted_at (d := 39) rfl fr (by rfl) (hp 2 39 _ (by kernel_rfl) rfl rfl) rfl, .inl ⟨fw, ?_, hG⟩⟩⟩
              simp only [execOp, Act.eval]
              go_simp
              all_goals first | omega | (intro hh; omega) | (simp only [IntKind.wrap_i64]; omega) | simp
            | 4, _ =>
              have p40 : fa.eval (.tmp 40) = .int .i64 (0) := hp 3 40 _ (by kernel_rfl) rfl rfl
              simp only [Act.eval] at p40
              refine ⟨_, _, rfl, rfl, .inl ⟨RV.wanted_at (d := 39) rfl fr (by rfl) (hp 2 39 _ (by kernel_rfl) rfl rfl) rfl, .inl ⟨fw, ?_, hG⟩⟩⟩
              simp only [execOp, Act.eval]
              go_simp
              all_goals first | omega | (intro hh; omega) | (simp only [IntKind.wrap_i64]; omega) | simp
            | 5, _ =>
              have p41 : fa.eval (.tmp 41) = .bool false := hp 4 41 _ (by kernel_rfl) rfl rfl
              simp only [Act.eval] at p41
              refine ⟨_, _, rfl, rfl, .inl ⟨RV.wanted_at (d := 39) rfl fr (by rfl) (hp 2 39 _ (by kernel_rfl) rfl rfl) rfl, .inl ⟨fw, ?_, hG⟩⟩⟩
              simp only [execOp, Act.eval]
              go_simp
              all_goals first | omega | (intro hh; omega) | (simp only [IntKind.wrap_i64]; omega) | simp
            | 6, _ =>
              have p0 : fa.eval (.tmp 0) = .string ⟨(b0).toArray⟩ := (fr.out 0 (by decide)).trans rfl
              simp only [Act.eval] at p0
              refine ⟨_, _, rfl, rfl, .inl ⟨RV.wanted_at (d := 42) rfl fr (by rfl) (hp 5 42 _ (by kernel_rfl) rfl rfl) rfl, .inl ⟨fw, ?_, hG⟩⟩⟩
              simp only [execOp, Act.eval]
              go_simp
              all_goals first | omega | (intro hh; omega) | (simp only [IntKind.wrap_i64]; omega) | simp
            | 7, _ =>
              have p1 : fa.eval (.tmp 1) = .int .i64 (x : Nat) := (fr.out 1 (by decide)).trans rfl
              simp only [Act.eval] at p1
              refine ⟨_, _, rfl, rfl, .inl ⟨RV.wanted_at (d := 42) rfl fr (by rfl) (hp 5 42 _ (by kernel_rfl) rfl rfl) rfl, .inl ⟨fw, ?_, hG⟩⟩⟩
              simp only [execOp, Act.eval]
              go_simp
              all_goals first | omega | (intro hh; omega) | (simp only [IntKind.wrap_i64]; omega) | simp
            | 8, _ =>
              have p2 : fa.eval (.tmp 2) = .int .i64 (y : Nat) := (fr.out 2 (by decide)).trans rfl
              simp only [Act.eval] at p2
              refine ⟨_, _, rfl, rfl, .inl ⟨RV.wanted_at (d := 42) rfl fr (by rfl) (hp 5 42 _ (by kernel_rfl) rfl rfl) rfl, .inl ⟨fw, ?_, hG⟩⟩⟩
              simp only [execOp, Act.eval]
              go_simp
              all_goals first | omega | (intro hh; omega) | (simp only [IntKind.wrap_i64]; omega) | simp
            | 9, _ =>
              have p43 : fa.eval (.tmp 43) = .string ⟨(b0).toArray⟩ := hp 6 43 _ (by kernel_rfl) rfl rfl
              have p44 : fa.eval (.tmp 44) = .int .i64 (x : Nat) := hp 7 44 _ (by kernel_rfl) rfl rfl
              have p45 : fa.eval (.tmp 45) = .int .i64 (y : Nat) := hp 8 45 _ (by kernel_rfl) rfl rfl
              have hv : (#[Operand.tmp 43, Operand.tmp 44, Operand.tmp 45] : Array Operand).map fa.eval = #[(.string ⟨(b0).toArray⟩), (.int .i64 (x : Nat)), (.int .i64 (y : Nat))] := by simp only [List.map_toArray, List.map_cons, List.map_nil, p43, p44, p45]
              exact ⟨_, _, rfl, rfl, .inl ⟨RV.wanted_at (d := 42) rfl fr (by rfl) (hp 5 42 _ (by kernel_rfl) rfl rfl) rfl, RV.yields_call_g hv Tryd.func32 (by kernel_rfl) rfl (HP.out fw) (fun e w2 h => ⟨h.1, by have h2 := h.2; subst h2; exact hG⟩)⟩⟩
            | 10, _ =>
              have p46 : fa.eval (.tmp 46) = .bool true := hp 9 46 _ (by kernel_rfl) rfl rfl
              simp only [Act.eval] at p46
              refine ⟨_, _, rfl, rfl, .inl ⟨RV.wanted_at (d := 42) rfl fr (by rfl) (hp 5 42 _ (by kernel_rfl) rfl rfl) rfl, .inl ⟨fw, ?_, hG⟩⟩⟩
              simp only [execOp, Act.eval]
              go_simp
              all_goals first | omega | (intro hh; omega) | (simp only [IntKind.wrap_i64]; omega) | simp
            | 11, _ =>
              have p42 : fa.eval (.tmp 42) = .bool false := hp 5 42 _ (by kernel_rfl) rfl rfl
              have p47 : fa.eval (.tmp 47) = .bool false := hp 10 47 _ (by kernel_rfl) rfl rfl
              simp only [Act.eval] at p42 p47
              refine ⟨_, _, rfl, rfl, .inl ⟨RV.wanted_at (d := 39) rfl fr (by rfl) (hp 2 39 _ (by kernel_rfl) rfl rfl) rfl, .inl ⟨fw, ?_, hG⟩⟩⟩
              simp only [execOp, Act.eval]
              go_simp
              all_goals first | omega | (intro hh; omega) | (simp only [IntKind.wrap_i64]; omega) | simp
            | 12, _ =>
              have p48 : fa.eval (.tmp 48) = .bool false := hp 11 48 _ (by kernel_rfl) rfl rfl
              simp only [Act.eval] at p48
              refine ⟨_, _, rfl, rfl, .inl ⟨RV.wanted_at (d := 39) rfl fr (by rfl) (hp 2 39 _ (by kernel_rfl) rfl rfl) rfl, .inl ⟨fw, ?_, hG⟩⟩⟩
              simp only [execOp, Act.eval]
              go_simp
              all_goals first | omega | (intro hh; omega) | (simp only [IntKind.wrap_i64]; omega) | simp
            | 13, _ =>
              have p7 : fa.eval (.tmp 7) = .string ⟨(cv).toArray⟩ := (fr.out 7 (by decide)).trans rfl
              simp only [Act.eval] at p7
              refine ⟨_, _, rfl, rfl, .inl ⟨RV.wanted_at (d := 49) rfl fr (by rfl) (hp 12 49 _ (by kernel_rfl) rfl rfl) rfl, .inl ⟨fw, ?_, hG⟩⟩⟩
              simp only [execOp, Act.eval]
              go_simp
              all_goals first | omega | (intro hh; omega) | (simp only [IntKind.wrap_i64]; omega) | simp
            | 14, _ =>
              have p50 : fa.eval (.tmp 50) = .string ⟨(cv).toArray⟩ := hp 13 50 _ (by kernel_rfl) rfl rfl
              simp only [Act.eval] at p50
              refine ⟨_, _, rfl, rfl, .inl ⟨RV.wanted_at (d := 49) rfl fr (by rfl) (hp 12 49 _ (by kernel_rfl) rfl rfl) rfl, .inl ⟨fw, ?_, hG⟩⟩⟩
              simp only [execOp, Act.eval]
              go_simp
              all_goals first | omega | (intro hh; omega) | (simp only [IntKind.wrap_i64]; omega) | simp
            | 15, _ =>
              have p0 : fa.eval (.tmp 0) = .string ⟨(b0).toArray⟩ := (fr.out 0 (by decide)).trans rfl
              simp only [Act.eval] at p0
              refine ⟨_, _, rfl, rfl, .inl ⟨RV.wanted_at (d := 49) rfl fr (by rfl) (hp 12 49 _ (by kernel_rfl) rfl rfl) rfl, .inl ⟨fw, ?_, hG⟩⟩⟩
              simp only [execOp, Act.eval]
              go_simp
              all_goals first | omega | (intro hh; omega) | (simp only [IntKind.wrap_i64]; omega) | simp
            | 16, _ =>
              have p52 : fa.eval (.tmp 52) = .string ⟨(b0).toArray⟩ := hp 15 52 _ (by kernel_rfl) rfl rfl
              simp only [Act.eval] at p52
              refine ⟨_, _, rfl, rfl, .inl ⟨RV.wanted_at (d := 49) rfl fr (by rfl) (hp 12 49 _ (by kernel_rfl) rfl rfl) rfl, .inl ⟨fw, ?_, hG⟩⟩⟩
              simp only [execOp, Act.eval]
              go_simp
              all_goals first | omega | (intro hh; omega) | (simp only [IntKind.wrap_i64]; omega) | simp
            | 17, _ =>
              have p2 : fa.eval (.tmp 2) = .int .i64 (y : Nat) := (fr.out 2 (by decide)).trans rfl
              simp only [Act.eval] at p2
              refine ⟨_, _, rfl, rfl, .inl ⟨RV.wanted_at (d := 49) rfl fr (by rfl) (hp 12 49 _ (by kernel_rfl) rfl rfl) rfl, .inl ⟨fw, ?_, hG⟩⟩⟩
              simp only [execOp, Act.eval]
              go_simp
              all_goals first | omega | (intro hh; omega) | (simp only [IntKind.wrap_i64]; omega) | simp
            | 18, _ =>
              have p53 : fa.eval (.tmp 53) = .int .i64 (b0.length : Nat) := hp 16 53 _ (by kernel_rfl) rfl rfl
              have p54 : fa.eval (.tmp 54) = .int .i64 (y : Nat) := hp 17 54 _ (by kernel_rfl) rfl rfl
              simp only [Act.eval] at p53 p54
              refine ⟨_, _, rfl, rfl, .inl ⟨RV.wanted_at (d := 49) rfl fr (by rfl) (hp 12 49 _ (by kernel_rfl) rfl rfl) rfl, .inl ⟨fw, ?_, hG⟩⟩⟩
              simp only [execOp, Act.eval]
              go_simp
              all_goals first | omega | (intro hh; omega) | (simp only [IntKind.wrap_i64]; omega) | simp
            | 19, _ =>
              have p51 : fa.eval (.tmp 51) = .int .i64 (cv.length : Nat) := hp 14 51 _ (by kernel_rfl) rfl rfl
              have p55 : fa.eval (.tmp 55) = .int .i64 ((b0.length : Int) - (y : Int)) := hp 18 55 _ (by kernel_rfl) rfl rfl
              simp only [Act.eval] at p51 p55
              refine ⟨_, _, rfl, rfl, .inl ⟨RV.wanted_at (d := 49) rfl fr (by rfl) (hp 12 49 _ (by kernel_rfl) rfl rfl) rfl, .inl ⟨fw, ?_, hG⟩⟩⟩
              simp only [execOp, Act.eval]
              go_simp
              all_goals first | omega | (intro hh; omega) | (simp only [IntKind.wrap_i64]; omega) | simp
            | 20, _ =>
              have p49 : fa.eval (.tmp 49) = .bool false := hp 12 49 _ (by kernel_rfl) rfl rfl
              have p56 : fa.eval (.tmp 56) = .bool false := hp 19 56 _ (by kernel_rfl) rfl rfl
              simp only [Act.eval] at p49 p56
              refine ⟨_, _, rfl, rfl, .inl ⟨RV.wanted_at (d := 39) rfl fr (by rfl) (hp 2 39 _ (by kernel_rfl) rfl rfl) rfl, .inl ⟨fw, ?_, hG⟩⟩⟩
              simp only [execOp, Act.eval]
              go_simp
              all_goals first | omega | (intro hh; omega) | (simp only [IntKind.wrap_i64]; omega) | simp
            | 21, _ =>
              have p57 : fa.eval (.tmp 57) = .bool false := hp 20 57 _ (by kernel_rfl) rfl rfl
              simp only [Act.eval] at p57
              refine ⟨_, _, rfl, rfl, .inl ⟨RV.wanted_at (d := 39) rfl fr (by rfl) (hp 2 39 _ (by kernel_rfl) rfl rfl) rfl, .inl ⟨fw, ?_, hG⟩⟩⟩
              simp only [execOp, Act.eval]
              go_simp
              all_goals first | omega | (intro hh; omega) | (simp only [IntKind.wrap_i64]; omega) | simp
            | 22, _ =>
              have p9 : fa.eval (.tmp 9) = .string ⟨(kv).toArray⟩ := (fr.out 9 (by decide)).trans rfl
              simp only [Act.eval] at p9
              refine ⟨_, _, rfl, rfl, .inl ⟨RV.wanted_at (d := 58) rfl fr (by rfl) (hp 21 58 _ (by kernel_rfl) rfl rfl) rfl, .inl ⟨fw, ?_, hG⟩⟩⟩
              simp only [execOp, Act.eval]
              go_simp
              all_goals first | omega | (intro hh; omega) | (simp only [IntKind.wrap_i64]; omega) | simp
            | 23, _ =>
              have p59 : fa.eval (.tmp 59) = .string ⟨(kv).toArray⟩ := hp 22 59 _ (by kernel_rfl) rfl rfl
              simp only [Act.eval] at p59
              refine ⟨_, _, rfl, rfl, .inl ⟨RV.wanted_at (d := 58) rfl fr (by rfl) (hp 21 58 _ (by kernel_rfl) rfl rfl) rfl, .inl ⟨fw, ?_, hG⟩⟩⟩
              simp only [execOp, Act.eval]
              go_simp
              all_goals first | omega | (intro hh; omega) | (simp only [IntKind.wrap_i64]; omega) | simp
            | 24, _ =>
              have p0 : fa.eval (.tmp 0) = .string ⟨(b0).toArray⟩ := (fr.out 0 (by decide)).trans rfl
              simp only [Act.eval] at p0
              refine ⟨_, _, rfl, rfl, .inl ⟨RV.wanted_at (d := 58) rfl fr (by rfl) (hp 21 58 _ (by kernel_rfl) rfl rfl) rfl, .inl ⟨fw, ?_, hG⟩⟩⟩
              simp only [execOp, Act.eval]
              go_simp
              all_goals first | omega | (intro hh; omega) | (simp only [IntKind.wrap_i64]; omega) | simp
            | 25, _ =>
              have p61 : fa.eval (.tmp 61) = .string ⟨(b0).toArray⟩ := hp 24 61 _ (by kernel_rfl) rfl rfl
              simp only [Act.eval] at p61
              refine ⟨_, _, rfl, rfl, .inl ⟨RV.wanted_at (d := 58) rfl fr (by rfl) (hp 21 58 _ (by kernel_rfl) rfl rfl) rfl, .inl ⟨fw, ?_, hG⟩⟩⟩
              simp only [execOp, Act.eval]
              go_simp
              all_goals first | omega | (intro hh; omega) | (simp only [IntKind.wrap_i64]; omega) | simp
            | 26, _ =>
              have p60 : fa.eval (.tmp 60) = .int .i64 (kv.length : Nat) := hp 23 60 _ (by kernel_rfl) rfl rfl
              have p62 : fa.eval (.tmp 62) = .int .i64 (b0.length : Nat) := hp 25 62 _ (by kernel_rfl) rfl rfl
              simp only [Act.eval] at p60 p62
              refine ⟨_, _, rfl, rfl, .inl ⟨RV.wanted_at (d := 58) rfl fr (by rfl) (hp 21 58 _ (by kernel_rfl) rfl rfl) rfl, .inl ⟨fw, ?_, hG⟩⟩⟩
              simp only [execOp, Act.eval]
              go_simp
              all_goals first | omega | (intro hh; omega) | (simp only [IntKind.wrap_i64]; omega) | simp
            | 27, _ =>
              have p58 : fa.eval (.tmp 58) = .bool false := hp 21 58 _ (by kernel_rfl) rfl rfl
              have p63 : fa.eval (.tmp 63) = .bool false := hp 26 63 _ (by kernel_rfl) rfl rfl
              simp only [Act.eval] at p58 p63
              refine ⟨_, _, rfl, rfl, .inl ⟨RV.wanted_at (d := 39) rfl fr (by rfl) (hp 2 39 _ (by kernel_rfl) rfl rfl) rfl, .inl ⟨fw, ?_, hG⟩⟩⟩
              simp only [execOp, Act.eval]
              go_simp
              all_goals first | omega | (intro hh; omega) | (simp only [IntKind.wrap_i64]; omega) | simp
            | 28, _ =>
              have p64 : fa.eval (.tmp 64) = .bool false := hp 27 64 _ (by kernel_rfl) rfl rfl
              simp only [Act.eval] at p64
              refine ⟨_, _, rfl, rfl, .inl ⟨RV.wanted_at (d := 39) rfl fr (by rfl) (hp 2 39 _ (by kernel_rfl) rfl rfl) rfl, .inl ⟨fw, ?_, hG⟩⟩⟩
              simp only [execOp, Act.eval]
              go_simp
              all_goals first | omega | (intro hh; omega) | (simp only [IntKind.wrap_i64]; omega) | simp
            | 29, _ =>
              have p7 : fa.eval (.tmp 7) = .string ⟨(cv).toArray⟩ := (fr.out 7 (by decide)).trans rfl
              simp only [Act.eval] at p7
              refine ⟨_, _, rfl, rfl, .inl ⟨RV.wanted_at (d := 65) rfl fr (by rfl) (hp 28 65 _ (by kernel_rfl) rfl rfl) rfl, .inl ⟨fw, ?_, hG⟩⟩⟩
              simp only [execOp, Act.eval]
              go_simp
              all_goals first | omega | (intro hh; omega) | (simp only [IntKind.wrap_i64]; omega) | simp
            | 30, _ =>
              have p1 : fa.eval (.tmp 1) = .int .i64 (x : Nat) := (fr.out 1 (by decide)).trans rfl
              simp only [Act.eval] at p1
              refine ⟨_, _, rfl, rfl, .inl ⟨RV.wanted_at (d := 65) rfl fr (by rfl) (hp 28 65 _ (by kernel_rfl) rfl rfl) rfl, .inl ⟨fw, ?_, hG⟩⟩⟩
              simp only [execOp, Act.eval]
              go_simp
              all_goals first | omega | (intro hh; omega) | (simp only [IntKind.wrap_i64]; omega) | simp
            | 31, _ =>
              have p66 : fa.eval (.tmp 66) = .string ⟨(cv).toArray⟩ := hp 29 66 _ (by kernel_rfl) rfl rfl
              have p67 : fa.eval (.tmp 67) = .int .i64 (x : Nat) := hp 30 67 _ (by kernel_rfl) rfl rfl
              simp only [Act.eval] at p66 p67
              refine ⟨_, _, rfl, rfl, .inl ⟨RV.wanted_at (d := 65) rfl fr (by rfl) (hp 28 65 _ (by kernel_rfl) rfl rfl) rfl, .inl ⟨fw, ?_, hG⟩⟩⟩
              simp only [execOp, Act.eval]
              go_simp
              all_goals first | omega | (intro hh; omega) | (simp only [IntKind.wrap_i64]; omega) | simp
            | 32, _ =>
              have p0 : fa.eval (.tmp 0) = .string ⟨(b0).toArray⟩ := (fr.out 0 (by decide)).trans rfl
              simp only [Act.eval] at p0
              refine ⟨_, _, rfl, rfl, .inl ⟨RV.wanted_at (d := 65) rfl fr (by rfl) (hp 28 65 _ (by kernel_rfl) rfl rfl) rfl, .inl ⟨fw, ?_, hG⟩⟩⟩
              simp only [execOp, Act.eval]
              go_simp
              all_goals first | omega | (intro hh; omega) | (simp only [IntKind.wrap_i64]; omega) | simp
            | 33, _ =>
              have p1 : fa.eval (.tmp 1) = .int .i64 (x : Nat) := (fr.out 1 (by decide)).trans rfl
              simp only [Act.eval] at p1
              refine ⟨_, _, rfl, rfl, .inl ⟨RV.wanted_at (d := 65) rfl fr (by rfl) (hp 28 65 _ (by kernel_rfl) rfl rfl) rfl, .inl ⟨fw, ?_, hG⟩⟩⟩
              simp only [execOp, Act.eval]
              go_simp
              all_goals first | omega | (intro hh; omega) | (simp only [IntKind.wrap_i64]; omega) | simp
            | 34, _ =>
              have p69 : fa.eval (.tmp 69) = .string ⟨(b0).toArray⟩ := hp 32 69 _ (by kernel_rfl) rfl rfl
              have p70 : fa.eval (.tmp 70) = .int .i64 (x : Nat) := hp 33 70 _ (by kernel_rfl) rfl rfl
              simp only [Act.eval] at p69 p70
              refine ⟨_, _, rfl, rfl, .inl ⟨RV.wanted_at (d := 65) rfl fr (by rfl) (hp 28 65 _ (by kernel_rfl) rfl rfl) rfl, .inl ⟨fw, ?_, hG⟩⟩⟩
              simp only [execOp, Act.eval]
              go_simp
              all_goals first | omega | (intro hh; omega) | (simp only [IntKind.wrap_i64]; omega) | simp
            | 35, _ =>
              have p68 : fa.eval (.tmp 68) = .string ⟨(P).toArray⟩ := hp 31 68 _ (by kernel_rfl) rfl rfl
              have p71 : fa.eval (.tmp 71) = .string ⟨(P).toArray⟩ := hp 34 71 _ (by kernel_rfl) rfl rfl
              simp only [Act.eval] at p68 p71
              refine ⟨_, _, rfl, rfl, .inl ⟨RV.wanted_at (d := 65) rfl fr (by rfl) (hp 28 65 _ (by kernel_rfl) rfl rfl) rfl, .inl ⟨fw, ?_, hG⟩⟩⟩
              simp only [execOp, Act.eval]
              go_simp
              all_goals first | omega | (intro hh; omega) | (simp only [IntKind.wrap_i64]; omega) | simp
            | 36, _ =>
              have p65 : fa.eval (.tmp 65) = .bool false := hp 28 65 _ (by kernel_rfl) rfl rfl
              have p72 : fa.eval (.tmp 72) = .bool false := hp 35 72 _ (by kernel_rfl) rfl rfl
              simp only [Act.eval] at p65 p72
              refine ⟨_, _, rfl, rfl, .inl ⟨RV.wanted_at (d := 39) rfl fr (by rfl) (hp 2 39 _ (by kernel_rfl) rfl rfl) rfl, .inl ⟨fw, ?_, hG⟩⟩⟩
              simp only [execOp, Act.eval]
              go_simp
              all_goals first | omega | (intro hh; omega) | (simp only [IntKind.wrap_i64]; omega) | simp
            | 37, _ =>
              have p73 : fa.eval (.tmp 73) = .bool false := hp 36 73 _ (by kernel_rfl) rfl rfl
              simp only [Act.eval] at p73
              refine ⟨_, _, rfl, rfl, .inl ⟨RV.wanted_at (d := 39) rfl fr (by rfl) (hp 2 39 _ (by kernel_rfl) rfl rfl) rfl, .inl ⟨fw, ?_, hG⟩⟩⟩
              simp only [execOp, Act.eval]
              go_simp
              all_goals first | omega | (intro hh; omega) | (simp only [IntKind.wrap_i64]; omega) | simp
            | 38, _ =>
              have p7 : fa.eval (.tmp 7) = .string ⟨(cv).toArray⟩ := (fr.out 7 (by decide)).trans rfl
              simp only [Act.eval] at p7
              refine ⟨_, _, rfl, rfl, .inl ⟨RV.wanted_at (d := 74) rfl fr (by rfl) (hp 37 74 _ (by kernel_rfl) rfl rfl) rfl, .inl ⟨fw, ?_, hG⟩⟩⟩
              simp only [execOp, Act.eval]
              go_simp
              all_goals first | omega | (intro hh; omega) | (simp only [IntKind.wrap_i64]; omega) | simp
            | 39, _ =>
              have p1 : fa.eval (.tmp 1) = .int .i64 (x : Nat) := (fr.out 1 (by decide)).trans rfl
              simp only [Act.eval] at p1
              refine ⟨_, _, rfl, rfl, .inl ⟨RV.wanted_at (d := 74) rfl fr (by rfl) (hp 37 74 _ (by kernel_rfl) rfl rfl) rfl, .inl ⟨fw, ?_, hG⟩⟩⟩
              simp only [execOp, Act.eval]
              go_simp
              all_goals first | omega | (intro hh; omega) | (simp only [IntKind.wrap_i64]; omega) | simp
            | 40, _ =>
              have p75 : fa.eval (.tmp 75) = .string ⟨(cv).toArray⟩ := hp 38 75 _ (by kernel_rfl) rfl rfl
              have p76 : fa.eval (.tmp 76) = .int .i64 (x : Nat) := hp 39 76 _ (by kernel_rfl) rfl rfl
              simp only [Act.eval] at p75 p76
              refine ⟨_, _, rfl, rfl, .inl ⟨RV.wanted_at (d := 74) rfl fr (by rfl) (hp 37 74 _ (by kernel_rfl) rfl rfl) rfl, .inl ⟨fw, ?_, hG⟩⟩⟩
              simp only [execOp, Act.eval]
              go_simp
              all_goals first | omega | (intro hh; omega) | (simp only [IntKind.wrap_i64]; omega) | simp
            | 41, _ =>
              have p0 : fa.eval (.tmp 0) = .string ⟨(b0).toArray⟩ := (fr.out 0 (by decide)).trans rfl
              simp only [Act.eval] at p0
              refine ⟨_, _, rfl, rfl, .inl ⟨RV.wanted_at (d := 74) rfl fr (by rfl) (hp 37 74 _ (by kernel_rfl) rfl rfl) rfl, .inl ⟨fw, ?_, hG⟩⟩⟩
              simp only [execOp, Act.eval]
              go_simp
              all_goals first | omega | (intro hh; omega) | (simp only [IntKind.wrap_i64]; omega) | simp
            | 42, _ =>
              have p1 : fa.eval (.tmp 1) = .int .i64 (x : Nat) := (fr.out 1 (by decide)).trans rfl
              simp only [Act.eval] at p1
              refine ⟨_, _, rfl, rfl, .inl ⟨RV.wanted_at (d := 74) rfl fr (by rfl) (hp 37 74 _ (by kernel_rfl) rfl rfl) rfl, .inl ⟨fw, ?_, hG⟩⟩⟩
              simp only [execOp, Act.eval]
              go_simp
              all_goals first | omega | (intro hh; omega) | (simp only [IntKind.wrap_i64]; omega) | simp
            | 43, _ =>
              have p2 : fa.eval (.tmp 2) = .int .i64 (y : Nat) := (fr.out 2 (by decide)).trans rfl
              simp only [Act.eval] at p2
              refine ⟨_, _, rfl, rfl, .inl ⟨RV.wanted_at (d := 74) rfl fr (by rfl) (hp 37 74 _ (by kernel_rfl) rfl rfl) rfl, .inl ⟨fw, ?_, hG⟩⟩⟩
              simp only [execOp, Act.eval]
              go_simp
              all_goals first | omega | (intro hh; omega) | (simp only [IntKind.wrap_i64]; omega) | simp
            | 44, _ =>
              have p79 : fa.eval (.tmp 79) = .int .i64 (x : Nat) := hp 42 79 _ (by kernel_rfl) rfl rfl
              have p80 : fa.eval (.tmp 80) = .int .i64 (y : Nat) := hp 43 80 _ (by kernel_rfl) rfl rfl
              simp only [Act.eval] at p79 p80
              refine ⟨_, _, rfl, rfl, .inl ⟨RV.wanted_at (d := 74) rfl fr (by rfl) (hp 37 74 _ (by kernel_rfl) rfl rfl) rfl, .inl ⟨fw, ?_, hG⟩⟩⟩
              simp only [execOp, Act.eval]
              go_simp
              all_goals first | omega | (intro hh; omega) | (simp only [IntKind.wrap_i64]; omega) | simp
            | 45, _ =>
              have p78 : fa.eval (.tmp 78) = .string ⟨(b0).toArray⟩ := hp 41 78 _ (by kernel_rfl) rfl rfl
              have p81 : fa.eval (.tmp 81) = .int .i64 (j : Nat) := hp 44 81 _ (by kernel_rfl) rfl rfl
              simp only [Act.eval] at p78 p81
              refine ⟨_, _, rfl, rfl, .inl ⟨RV.wanted_at (d := 74) rfl fr (by rfl) (hp 37 74 _ (by kernel_rfl) rfl rfl) rfl, .inl ⟨fw, ?_, hG⟩⟩⟩
              simp only [execOp, Act.eval]
              go_simp
              all_goals first | omega | (intro hh; omega) | (simp only [IntKind.wrap_i64]; omega) | simp
            | 46, _ =>
              have p77 : fa.eval (.tmp 77) = .string ⟨(Q).toArray⟩ := hp 40 77 _ (by kernel_rfl) rfl rfl
              have p82 : fa.eval (.tmp 82) = .string ⟨(Q).toArray⟩ := hp 45 82 _ (by kernel_rfl) rfl rfl
              simp only [Act.eval] at p77 p82
              refine ⟨_, _, rfl, rfl, .inl ⟨RV.wanted_at (d := 74) rfl fr (by rfl) (hp 37 74 _ (by kernel_rfl) rfl rfl) rfl, .inl ⟨fw, ?_, hG⟩⟩⟩
              simp only [execOp, Act.eval]
              go_simp
              all_goals first | omega | (intro hh; omega) | (simp only [IntKind.wrap_i64]; omega) | simp
            | 47, _ =>
              have p74 : fa.eval (.tmp 74) = .bool false := hp 37 74 _ (by kernel_rfl) rfl rfl
              have p83 : fa.eval (.tmp 83) = .bool false := hp 46 83 _ (by kernel_rfl) rfl rfl
              simp only [Act.eval] at p74 p83
              refine ⟨_, _, rfl, rfl, .inl ⟨RV.wanted_at (d := 39) rfl fr (by rfl) (hp 2 39 _ (by kernel_rfl) rfl rfl) rfl, .inl ⟨fw, ?_, hG⟩⟩⟩
              simp only [execOp, Act.eval]
              go_simp
              all_goals first | omega | (intro hh; omega) | (simp only [IntKind.wrap_i64]; omega) | simp
            | 48, _ =>
              have p84 : fa.eval (.tmp 84) = .bool false := hp 47 84 _ (by kernel_rfl) rfl rfl
              simp only [Act.eval] at p84
              refine ⟨_, _, rfl, rfl, .inl ⟨RV.wanted_at (d := 39) rfl fr (by rfl) (hp 2 39 _ (by kernel_rfl) rfl rfl) rfl, .inl ⟨fw, ?_, hG⟩⟩⟩
              simp only [execOp, Act.eval]
              go_simp
              all_goals first | omega | (intro hh; omega) | (simp only [IntKind.wrap_i64]; omega) | simp
            | 49, _ =>
              have p9 : fa.eval (.tmp 9) = .string ⟨(kv).toArray⟩ := (fr.out 9 (by decide)).trans rfl
              simp only [Act.eval] at p9
              refine ⟨_, _, rfl, rfl, .inl ⟨RV.wanted_at (d := 85) rfl fr (by rfl) (hp 48 85 _ (by kernel_rfl) rfl rfl) rfl, .inl ⟨fw, ?_, hG⟩⟩⟩
              simp only [execOp, Act.eval]
              go_simp
              all_goals first | omega | (intro hh; omega) | (simp only [IntKind.wrap_i64]; omega) | simp
            | 50, _ =>
              have p1 : fa.eval (.tmp 1) = .int .i64 (x : Nat) := (fr.out 1 (by decide)).trans rfl
              simp only [Act.eval] at p1
              refine ⟨_, _, rfl, rfl, .inl ⟨RV.wanted_at (d := 85) rfl fr (by rfl) (hp 48 85 _ (by kernel_rfl) rfl rfl) rfl, .inl ⟨fw, ?_, hG⟩⟩⟩
              simp only [execOp, Act.eval]
              go_simp
              all_goals first | omega | (intro hh; omega) | (simp only [IntKind.wrap_i64]; omega) | simp
            | 51, _ =>
              have p86 : fa.eval (.tmp 86) = .string ⟨(kv).toArray⟩ := hp 49 86 _ (by kernel_rfl) rfl rfl
              have p87 : fa.eval (.tmp 87) = .int .i64 (x : Nat) := hp 50 87 _ (by kernel_rfl) rfl rfl
              simp only [Act.eval] at p86 p87
              refine ⟨_, _, rfl, rfl, .inl ⟨RV.wanted_at (d := 85) rfl fr (by rfl) (hp 48 85 _ (by kernel_rfl) rfl rfl) rfl, .inl ⟨fw, ?_, hG⟩⟩⟩
              simp only [execOp, Act.eval]
              go_simp
              all_goals first | omega | (intro hh; omega) | (simp only [IntKind.wrap_i64]; omega) | simp
            | 52, _ =>
              have p0 : fa.eval (.tmp 0) = .string ⟨(b0).toArray⟩ := (fr.out 0 (by decide)).trans rfl
              simp only [Act.eval] at p0
              refine ⟨_, _, rfl, rfl, .inl ⟨RV.wanted_at (d := 85) rfl fr (by rfl) (hp 48 85 _ (by kernel_rfl) rfl rfl) rfl, .inl ⟨fw, ?_, hG⟩⟩⟩
              simp only [execOp, Act.eval]
              go_simp
              all_goals first | omega | (intro hh; omega) | (simp only [IntKind.wrap_i64]; omega) | simp
            | 53, _ =>
              have p1 : fa.eval (.tmp 1) = .int .i64 (x : Nat) := (fr.out 1 (by decide)).trans rfl
              simp only [Act.eval] at p1
              refine ⟨_, _, rfl, rfl, .inl ⟨RV.wanted_at (d := 85) rfl fr (by rfl) (hp 48 85 _ (by kernel_rfl) rfl rfl) rfl, .inl ⟨fw, ?_, hG⟩⟩⟩
              simp only [execOp, Act.eval]
              go_simp
              all_goals first | omega | (intro hh; omega) | (simp only [IntKind.wrap_i64]; omega) | simp
            | 54, _ =>
              have p89 : fa.eval (.tmp 89) = .string ⟨(b0).toArray⟩ := hp 52 89 _ (by kernel_rfl) rfl rfl
              have p90 : fa.eval (.tmp 90) = .int .i64 (x : Nat) := hp 53 90 _ (by kernel_rfl) rfl rfl
              simp only [Act.eval] at p89 p90
              refine ⟨_, _, rfl, rfl, .inl ⟨RV.wanted_at (d := 85) rfl fr (by rfl) (hp 48 85 _ (by kernel_rfl) rfl rfl) rfl, .inl ⟨fw, ?_, hG⟩⟩⟩
              simp only [execOp, Act.eval]
              go_simp
              all_goals first | omega | (intro hh; omega) | (simp only [IntKind.wrap_i64]; omega) | simp
            | 55, _ =>
              have p88 : fa.eval (.tmp 88) = .string ⟨(P).toArray⟩ := hp 51 88 _ (by kernel_rfl) rfl rfl
              have p91 : fa.eval (.tmp 91) = .string ⟨(P).toArray⟩ := hp 54 91 _ (by kernel_rfl) rfl rfl
              simp only [Act.eval] at p88 p91
              refine ⟨_, _, rfl, rfl, .inl ⟨RV.wanted_at (d := 85) rfl fr (by rfl) (hp 48 85 _ (by kernel_rfl) rfl rfl) rfl, .inl ⟨fw, ?_, hG⟩⟩⟩
              simp only [execOp, Act.eval]
              go_simp
              all_goals first | omega | (intro hh; omega) | (simp only [IntKind.wrap_i64]; omega) | simp
            | 56, _ =>
              have p85 : fa.eval (.tmp 85) = .bool false := hp 48 85 _ (by kernel_rfl) rfl rfl
              have p92 : fa.eval (.tmp 92) = .bool false := hp 55 92 _ (by kernel_rfl) rfl rfl
              simp only [Act.eval] at p85 p92
              refine ⟨_, _, rfl, rfl, .inl ⟨RV.wanted_at (d := 39) rfl fr (by rfl) (hp 2 39 _ (by kernel_rfl) rfl rfl) rfl, .inl ⟨fw, ?_, hG⟩⟩⟩
              simp only [execOp, Act.eval]
              go_simp
              all_goals first | omega | (intro hh; omega) | (simp only [IntKind.wrap_i64]; omega) | simp
            | 57, _ =>
              have p93 : fa.eval (.tmp 93) = .bool false := hp 56 93 _ (by kernel_rfl) rfl rfl
              simp only [Act.eval] at p93
              refine ⟨_, _, rfl, rfl, .inl ⟨RV.wanted_at (d := 39) rfl fr (by rfl) (hp 2 39 _ (by kernel_rfl) rfl rfl) rfl, .inl ⟨fw, ?_, hG⟩⟩⟩
              simp only [execOp, Act.eval]
              go_simp
              all_goals first | omega | (intro hh; omega) | (simp only [IntKind.wrap_i64]; omega) | simp
            | 58, _ =>
              have p9 : fa.eval (.tmp 9) = .string ⟨(kv).toArray⟩ := (fr.out 9 (by decide)).trans rfl
              simp only [Act.eval] at p9
              refine ⟨_, _, rfl, rfl, .inl ⟨RV.wanted_at (d := 94) rfl fr (by rfl) (hp 57 94 _ (by kernel_rfl) rfl rfl) rfl, .inl ⟨fw, ?_, hG⟩⟩⟩
              simp only [execOp, Act.eval]
              go_simp
              all_goals first | omega | (intro hh; omega) | (simp only [IntKind.wrap_i64]; omega) | simp
            | 59, _ =>
              have p1 : fa.eval (.tmp 1) = .int .i64 (x : Nat) := (fr.out 1 (by decide)).trans rfl
              simp only [Act.eval] at p1
              refine ⟨_, _, rfl, rfl, .inl ⟨RV.wanted_at (d := 94) rfl fr (by rfl) (hp 57 94 _ (by kernel_rfl) rfl rfl) rfl, .inl ⟨fw, ?_, hG⟩⟩⟩
              simp only [execOp, Act.eval]
              go_simp
              all_goals first | omega | (intro hh; omega) | (simp only [IntKind.wrap_i64]; omega) | simp
            | 60, _ =>
              have p2 : fa.eval (.tmp 2) = .int .i64 (y : Nat) := (fr.out 2 (by decide)).trans rfl
              simp only [Act.eval] at p2
              refine ⟨_, _, rfl, rfl, .inl ⟨RV.wanted_at (d := 94) rfl fr (by rfl) (hp 57 94 _ (by kernel_rfl) rfl rfl) rfl, .inl ⟨fw, ?_, hG⟩⟩⟩
              simp only [execOp, Act.eval]
              go_simp
              all_goals first | omega | (intro hh; omega) | (simp only [IntKind.wrap_i64]; omega) | simp
            | 61, _ =>
              have p96 : fa.eval (.tmp 96) = .int .i64 (x : Nat) := hp 59 96 _ (by kernel_rfl) rfl rfl
              have p97 : fa.eval (.tmp 97) = .int .i64 (y : Nat) := hp 60 97 _ (by kernel_rfl) rfl rfl
              simp only [Act.eval] at p96 p97
              refine ⟨_, _, rfl, rfl, .inl ⟨RV.wanted_at (d := 94) rfl fr (by rfl) (hp 57 94 _ (by kernel_rfl) rfl rfl) rfl, .inl ⟨fw, ?_, hG⟩⟩⟩
              simp only [execOp, Act.eval]
              go_simp
              all_goals first | omega | (intro hh; omega) | (simp only [IntKind.wrap_i64]; omega) | simp
            | 62, _ =>
              have p95 : fa.eval (.tmp 95) = .string ⟨(kv).toArray⟩ := hp 58 95 _ (by kernel_rfl) rfl rfl
              have p98 : fa.eval (.tmp 98) = .int .i64 (j : Nat) := hp 61 98 _ (by kernel_rfl) rfl rfl
              simp only [Act.eval] at p95 p98
              refine ⟨_, _, rfl, rfl, .inl ⟨RV.wanted_at (d := 94) rfl fr (by rfl) (hp 57 94 _ (by kernel_rfl) rfl rfl) rfl, .inl ⟨fw, ?_, hG⟩⟩⟩
              simp only [execOp, Act.eval]
              go_simp
              all_goals first | omega | (intro hh; omega) | (simp only [IntKind.wrap_i64]; omega) | simp
            | 63, _ =>
              have p0 : fa.eval (.tmp 0) = .string ⟨(b0).toArray⟩ := (fr.out 0 (by decide)).trans rfl
              simp only [Act.eval] at p0
              refine ⟨_, _, rfl, rfl, .inl ⟨RV.wanted_at (d := 94) rfl fr (by rfl) (hp 57 94 _ (by kernel_rfl) rfl rfl) rfl, .inl ⟨fw, ?_, hG⟩⟩⟩
              simp only [execOp, Act.eval]
              go_simp
              all_goals first | omega | (intro hh; omega) | (simp only [IntKind.wrap_i64]; omega) | simp
            | 64, _ =>
              have p1 : fa.eval (.tmp 1) = .int .i64 (x : Nat) := (fr.out 1 (by decide)).trans rfl
              simp only [Act.eval] at p1
              refine ⟨_, _, rfl, rfl, .inl ⟨RV.wanted_at (d := 94) rfl fr (by rfl) (hp 57 94 _ (by kernel_rfl) rfl rfl) rfl, .inl ⟨fw, ?_, hG⟩⟩⟩
              simp only [execOp, Act.eval]
              go_simp
              all_goals first | omega | (intro hh; omega) | (simp only [IntKind.wrap_i64]; omega) | simp
            | 65, _ =>
              have p2 : fa.eval (.tmp 2) = .int .i64 (y : Nat) := (fr.out 2 (by decide)).trans rfl
              simp only [Act.eval] at p2
              refine ⟨_, _, rfl, rfl, .inl ⟨RV.wanted_at (d := 94) rfl fr (by rfl) (hp 57 94 _ (by kernel_rfl) rfl rfl) rfl, .inl ⟨fw, ?_, hG⟩⟩⟩
              simp only [execOp, Act.eval]
              go_simp
              all_goals first | omega | (intro hh; omega) | (simp only [IntKind.wrap_i64]; omega) | simp
            | 66, _ =>
              have p101 : fa.eval (.tmp 101) = .int .i64 (x : Nat) := hp 64 101 _ (by kernel_rfl) rfl rfl
              have p102 : fa.eval (.tmp 102) = .int .i64 (y : Nat) := hp 65 102 _ (by kernel_rfl) rfl rfl
              simp only [Act.eval] at p101 p102
              refine ⟨_, _, rfl, rfl, .inl ⟨RV.wanted_at (d := 94) rfl fr (by rfl) (hp 57 94 _ (by kernel_rfl) rfl rfl) rfl, .inl ⟨fw, ?_, hG⟩⟩⟩
              simp only [execOp, Act.eval]
              go_simp
              all_goals first | omega | (intro hh; omega) | (simp only [IntKind.wrap_i64]; omega) | simp
            | 67, _ =>
              have p100 : fa.eval (.tmp 100) = .string ⟨(b0).toArray⟩ := hp 63 100 _ (by kernel_rfl) rfl rfl
              have p103 : fa.eval (.tmp 103) = .int .i64 (j : Nat) := hp 66 103 _ (by kernel_rfl) rfl rfl
              simp only [Act.eval] at p100 p103
              refine ⟨_, _, rfl, rfl, .inl ⟨RV.wanted_at (d := 94) rfl fr (by rfl) (hp 57 94 _ (by kernel_rfl) rfl rfl) rfl, .inl ⟨fw, ?_, hG⟩⟩⟩
              simp only [execOp, Act.eval]
              go_simp
              all_goals first | omega | (intro hh; omega) | (simp only [IntKind.wrap_i64]; omega) | simp
            | 68, _ =>
              have p99 : fa.eval (.tmp 99) = .string ⟨(Q).toArray⟩ := hp 62 99 _ (by kernel_rfl) rfl rfl
              have p104 : fa.eval (.tmp 104) = .string ⟨(Q).toArray⟩ := hp 67 104 _ (by kernel_rfl) rfl rfl
              simp only [Act.eval] at p99 p104
              refine ⟨_, _, rfl, rfl, .inl ⟨RV.wanted_at (d := 94) rfl fr (by rfl) (hp 57 94 _ (by kernel_rfl) rfl rfl) rfl, .inl ⟨fw, ?_, hG⟩⟩⟩
              simp only [execOp, Act.eval]
              go_simp
              all_goals first | omega | (intro hh; omega) | (simp only [IntKind.wrap_i64]; omega) | simp
            | 69, _ =>
              have p94 : fa.eval (.tmp 94) = .bool false := hp 57 94 _ (by kernel_rfl) rfl rfl
              have p105 : fa.eval (.tmp 105) = .bool false := hp 68 105 _ (by kernel_rfl) rfl rfl
              simp only [Act.eval] at p94 p105
              refine ⟨_, _, rfl, rfl, .inl ⟨RV.wanted_at (d := 39) rfl fr (by rfl) (hp 2 39 _ (by kernel_rfl) rfl rfl) rfl, .inl ⟨fw, ?_, hG⟩⟩⟩
              simp only [execOp, Act.eval]
              go_simp
              all_goals first | omega | (intro hh; omega) | (simp only [IntKind.wrap_i64]; omega) | simp
            | 70, _ =>
              have p39 : fa.eval (.tmp 39) = .bool true := hp 2 39 _ (by kernel_rfl) rfl rfl
              have p106 : fa.eval (.tmp 106) = .bool false := hp 69 106 _ (by kernel_rfl) rfl rfl
              simp only [Act.eval] at p39 p106
              refine ⟨_, _, rfl, rfl, .inl ⟨RV.wanted_none rfl, .inl ⟨fw, ?_, hG⟩⟩⟩
              simp only [execOp, Act.eval]
              go_simp
              all_goals first | omega | (intro hh; omega) | (simp only [IntKind.wrap_i64]; omega) | simp
            | i + 71, hi => exact absurd hi (by show ¬ (i + 71 < 71); omega)
          · intro w2 hG
            simp only [RV.putAll, List.zip_cons_cons, List.zip_nil_left, List.zip_nil_right, List.foldl_cons, List.foldl_nil, Act.put, List.setIfInBounds_toArray, List.set_cons_zero, List.set_cons_succ]
            have HB3 := Lib.hid hG; clear HB; have HB := HB3; clear HB3 hG
            go_wp2_with (first
              | (go_at_call 13; refine (bawake _).mono ?_; rintro e w1 ⟨rfl, hb⟩; have HB2 := Lib.hid (HB.out.trans (hb.mono HB.out.size)); clear hb HB; have HB := HB2; clear HB2)
              | (go_at_call 28; refine (H3.out _).mono ?_; rintro e w1 ⟨rfl, hb⟩; have HB2 := Lib.hid (HB.out.trans (hb.mono HB.out.size)); clear hb HB; have HB := HB2; clear HB2))
            refine RV.wp_region_g (by kernel_rfl) [118, 119, 120, 121, 122, 123, 124, 125, 126, 127, 128, 129, 130, 131, 132, 133, 134, 135, 136, 137, 138, 139, 140, 141, 142, 143] [.string ⟨(b0).toArray⟩, .int .i64 (x : Nat), .bool true, .bool false, .bool false, .string ⟨(dv).toArray⟩, .int .i64 (b0.length : Nat), .string ⟨(b0).toArray⟩, .int .i64 (b0.length : Nat), .bool false, .bool false, .bool false, .string ⟨(dv).toArray⟩, .int .i64 (x : Nat), .string ⟨(P).toArray⟩, .string ⟨(b0).toArray⟩, .int .i64 (x : Nat), .string ⟨(P).toArray⟩, .bool false, .bool false, .bool false, .string ⟨(b0).toArray⟩, .int .i64 (x : Nat), .int .u8 49, .bool false, .bool false] (fun W => Below w.heap.size w W) (by kernel_rfl) rfl (by decide) rfl (by kernel_rfl) (HB.out.drew) ?_ ?_
            · intro ii hii fa fw fr hp hG
              match ii, hii with
              | 0, _ =>
                have p0 : fa.eval (.tmp 0) = .string ⟨(b0).toArray⟩ := (fr.out 0 (by decide)).trans rfl
                simp only [Act.eval] at p0
                refine ⟨_, _, rfl, rfl, .inl ⟨RV.wanted_none rfl, .inl ⟨fw, ?_, hG⟩⟩⟩
                simp only [execOp, Act.eval]
                go_simp
                all_goals first | omega | (intro hh; omega) | (simp only [IntKind.wrap_i64]; omega) | simp
              | 1, _ =>
                have p1 : fa.eval (.tmp 1) = .int .i64 (x : Nat) := (fr.out 1 (by decide)).trans rfl
                simp only [Act.eval] at p1
                refine ⟨_, _, rfl, rfl, .inl ⟨RV.wanted_none rfl, .inl ⟨fw, ?_, hG⟩⟩⟩
                simp only [execOp, Act.eval]
                go_simp
                all_goals first | omega | (intro hh; omega) | (simp only [IntKind.wrap_i64]; omega) | simp
              | 2, _ =>
                have p118 : fa.eval (.tmp 118) = .string ⟨(b0).toArray⟩ := hp 0 118 _ (by kernel_rfl) rfl rfl
                have p119 : fa.eval (.tmp 119) = .int .i64 (x : Nat) := hp 1 119 _ (by kernel_rfl) rfl rfl
                have hv : (#[Operand.tmp 118, Operand.tmp 119, Operand.const (Value.int IntKind.i64 1)] : Array Operand).map fa.eval = #[(.string ⟨(b0).toArray⟩), (.int .i64 (x : Nat)), (Value.int IntKind.i64 1)] := by simp only [List.map_toArray, List.map_cons, List.map_nil, p118, p119]; rfl
                exact ⟨_, _, rfl, rfl, .inl ⟨RV.wanted_none rfl, RV.yields_call_g hv Tryd.func32 (by kernel_rfl) rfl (HP2.out fw) (fun e w2 h => ⟨h.1, by have h2 := h.2; subst h2; exact hG⟩)⟩⟩
              | 3, _ =>
                have p120 : fa.eval (.tmp 120) = .bool true := hp 2 120 _ (by kernel_rfl) rfl rfl
                simp only [Act.eval] at p120
                refine ⟨_, _, rfl, rfl, .inl ⟨RV.wanted_none rfl, .inl ⟨fw, ?_, hG⟩⟩⟩
                simp only [execOp, Act.eval]
                go_simp
                all_goals first | omega | (intro hh; omega) | (simp only [IntKind.wrap_i64]; omega) | simp
              | 4, _ =>
                have p121 : fa.eval (.tmp 121) = .bool false := hp 3 121 _ (by kernel_rfl) rfl rfl
                simp only [Act.eval] at p121
                refine ⟨_, _, rfl, rfl, .inl ⟨RV.wanted_none rfl, .inl ⟨fw, ?_, hG⟩⟩⟩
                simp only [execOp, Act.eval]
                go_simp
                all_goals first | omega | (intro hh; omega) | (simp only [IntKind.wrap_i64]; omega) | simp
              | 5, _ =>
                have p11 : fa.eval (.tmp 11) = .string ⟨(dv).toArray⟩ := (fr.out 11 (by decide)).trans rfl
                simp only [Act.eval] at p11
                refine ⟨_, _, rfl, rfl, .inl ⟨RV.wanted_at (d := 122) rfl fr (by rfl) (hp 4 122 _ (by kernel_rfl) rfl rfl) rfl, .inl ⟨fw, ?_, hG⟩⟩⟩
                simp only [execOp, Act.eval]
                go_simp
                all_goals first | omega | (intro hh; omega) | (simp only [IntKind.wrap_i64]; omega) | simp
              | 6, _ =>
                have p123 : fa.eval (.tmp 123) = .string ⟨(dv).toArray⟩ := hp 5 123 _ (by kernel_rfl) rfl rfl
                simp only [Act.eval] at p123
                refine ⟨_, _, rfl, rfl, .inl ⟨RV.wanted_at (d := 122) rfl fr (by rfl) (hp 4 122 _ (by kernel_rfl) rfl rfl) rfl, .inl ⟨fw, ?_, hG⟩⟩⟩
                simp only [execOp, Act.eval]
                go_simp
                all_goals first | omega | exact dl | simp [dl]
              | 7, _ =>
                have p0 : fa.eval (.tmp 0) = .string ⟨(b0).toArray⟩ := (fr.out 0 (by decide)).trans rfl
                simp only [Act.eval] at p0
                refine ⟨_, _, rfl, rfl, .inl ⟨RV.wanted_at (d := 122) rfl fr (by rfl) (hp 4 122 _ (by kernel_rfl) rfl rfl) rfl, .inl ⟨fw, ?_, hG⟩⟩⟩
                simp only [execOp, Act.eval]
                go_simp
                all_goals first | omega | (intro hh; omega) | (simp only [IntKind.wrap_i64]; omega) | simp
              | 8, _ =>
                have p125 : fa.eval (.tmp 125) = .string ⟨(b0).toArray⟩ := hp 7 125 _ (by kernel_rfl) rfl rfl
                simp only [Act.eval] at p125
                refine ⟨_, _, rfl, rfl, .inl ⟨RV.wanted_at (d := 122) rfl fr (by rfl) (hp 4 122 _ (by kernel_rfl) rfl rfl) rfl, .inl ⟨fw, ?_, hG⟩⟩⟩
                simp only [execOp, Act.eval]
                go_simp
                all_goals first | omega | (intro hh; omega) | (simp only [IntKind.wrap_i64]; omega) | simp
              | 9, _ =>
                have p124 : fa.eval (.tmp 124) = .int .i64 (b0.length : Nat) := hp 6 124 _ (by kernel_rfl) rfl rfl
                have p126 : fa.eval (.tmp 126) = .int .i64 (b0.length : Nat) := hp 8 126 _ (by kernel_rfl) rfl rfl
                simp only [Act.eval] at p124 p126
                refine ⟨_, _, rfl, rfl, .inl ⟨RV.wanted_at (d := 122) rfl fr (by rfl) (hp 4 122 _ (by kernel_rfl) rfl rfl) rfl, .inl ⟨fw, ?_, hG⟩⟩⟩
                simp only [execOp, Act.eval]
                go_simp
                all_goals first | omega | (intro hh; omega) | (simp only [IntKind.wrap_i64]; omega) | simp
              | 10, _ =>
                have p122 : fa.eval (.tmp 122) = .bool false := hp 4 122 _ (by kernel_rfl) rfl rfl
                have p127 : fa.eval (.tmp 127) = .bool false := hp 9 127 _ (by kernel_rfl) rfl rfl
                simp only [Act.eval] at p122 p127
                refine ⟨_, _, rfl, rfl, .inl ⟨RV.wanted_none rfl, .inl ⟨fw, ?_, hG⟩⟩⟩
                simp only [execOp, Act.eval]
                go_simp
                all_goals first | omega | (intro hh; omega) | (simp only [IntKind.wrap_i64]; omega) | simp
              | 11, _ =>
                have p128 : fa.eval (.tmp 128) = .bool false := hp 10 128 _ (by kernel_rfl) rfl rfl
                simp only [Act.eval] at p128
                refine ⟨_, _, rfl, rfl, .inl ⟨RV.wanted_none rfl, .inl ⟨fw, ?_, hG⟩⟩⟩
                simp only [execOp, Act.eval]
                go_simp
                all_goals first | omega | (intro hh; omega) | (simp only [IntKind.wrap_i64]; omega) | simp
              | 12, _ =>
                have p11 : fa.eval (.tmp 11) = .string ⟨(dv).toArray⟩ := (fr.out 11 (by decide)).trans rfl
                simp only [Act.eval] at p11
                refine ⟨_, _, rfl, rfl, .inl ⟨RV.wanted_at (d := 129) rfl fr (by rfl) (hp 11 129 _ (by kernel_rfl) rfl rfl) rfl, .inl ⟨fw, ?_, hG⟩⟩⟩
                simp only [execOp, Act.eval]
                go_simp
                all_goals first | omega | (intro hh; omega) | (simp only [IntKind.wrap_i64]; omega) | simp
              | 13, _ =>
                have p1 : fa.eval (.tmp 1) = .int .i64 (x : Nat) := (fr.out 1 (by decide)).trans rfl
                simp only [Act.eval] at p1
                refine ⟨_, _, rfl, rfl, .inl ⟨RV.wanted_at (d := 129) rfl fr (by rfl) (hp 11 129 _ (by kernel_rfl) rfl rfl) rfl, .inl ⟨fw, ?_, hG⟩⟩⟩
                simp only [execOp, Act.eval]
                go_simp
                all_goals first | omega | (intro hh; omega) | (simp only [IntKind.wrap_i64]; omega) | simp
              | 14, _ =>
                have p130 : fa.eval (.tmp 130) = .string ⟨(dv).toArray⟩ := hp 12 130 _ (by kernel_rfl) rfl rfl
                have p131 : fa.eval (.tmp 131) = .int .i64 (x : Nat) := hp 13 131 _ (by kernel_rfl) rfl rfl
                simp only [Act.eval] at p130 p131
                refine ⟨_, _, rfl, rfl, .inl ⟨RV.wanted_at (d := 129) rfl fr (by rfl) (hp 11 129 _ (by kernel_rfl) rfl rfl) rfl, .inl ⟨fw, ?_, hG⟩⟩⟩
                simp only [execOp, Act.eval]
                go_simp
                all_goals first | omega | (intro hh; omega) | (simp only [IntKind.wrap_i64]; omega) | simp
              | 15, _ =>
                have p0 : fa.eval (.tmp 0) = .string ⟨(b0).toArray⟩ := (fr.out 0 (by decide)).trans rfl
                simp only [Act.eval] at p0
                refine ⟨_, _, rfl, rfl, .inl ⟨RV.wanted_at (d := 129) rfl fr (by rfl) (hp 11 129 _ (by kernel_rfl) rfl rfl) rfl, .inl ⟨fw, ?_, hG⟩⟩⟩
                simp only [execOp, Act.eval]
                go_simp
                all_goals first | omega | (intro hh; omega) | (simp only [IntKind.wrap_i64]; omega) | simp
              | 16, _ =>
                have p1 : fa.eval (.tmp 1) = .int .i64 (x : Nat) := (fr.out 1 (by decide)).trans rfl
                simp only [Act.eval] at p1
                refine ⟨_, _, rfl, rfl, .inl ⟨RV.wanted_at (d := 129) rfl fr (by rfl) (hp 11 129 _ (by kernel_rfl) rfl rfl) rfl, .inl ⟨fw, ?_, hG⟩⟩⟩
                simp only [execOp, Act.eval]
                go_simp
                all_goals first | omega | (intro hh; omega) | (simp only [IntKind.wrap_i64]; omega) | simp
              | 17, _ =>
                have p133 : fa.eval (.tmp 133) = .string ⟨(b0).toArray⟩ := hp 15 133 _ (by kernel_rfl) rfl rfl
                have p134 : fa.eval (.tmp 134) = .int .i64 (x : Nat) := hp 16 134 _ (by kernel_rfl) rfl rfl
                simp only [Act.eval] at p133 p134
                refine ⟨_, _, rfl, rfl, .inl ⟨RV.wanted_at (d := 129) rfl fr (by rfl) (hp 11 129 _ (by kernel_rfl) rfl rfl) rfl, .inl ⟨fw, ?_, hG⟩⟩⟩
                simp only [execOp, Act.eval]
                go_simp
                all_goals first | omega | (intro hh; omega) | (simp only [IntKind.wrap_i64]; omega) | simp
              | 18, _ =>
                have p132 : fa.eval (.tmp 132) = .string ⟨(P).toArray⟩ := hp 14 132 _ (by kernel_rfl) rfl rfl
                have p135 : fa.eval (.tmp 135) = .string ⟨(P).toArray⟩ := hp 17 135 _ (by kernel_rfl) rfl rfl
                simp only [Act.eval] at p132 p135
                refine ⟨_, _, rfl, rfl, .inl ⟨RV.wanted_at (d := 129) rfl fr (by rfl) (hp 11 129 _ (by kernel_rfl) rfl rfl) rfl, .inl ⟨fw, ?_, hG⟩⟩⟩
                simp only [execOp, Act.eval]
                go_simp
                all_goals first | omega | (intro hh; omega) | (simp only [IntKind.wrap_i64]; omega) | simp
              | 19, _ =>
                have p129 : fa.eval (.tmp 129) = .bool false := hp 11 129 _ (by kernel_rfl) rfl rfl
                have p136 : fa.eval (.tmp 136) = .bool false := hp 18 136 _ (by kernel_rfl) rfl rfl
                simp only [Act.eval] at p129 p136
                refine ⟨_, _, rfl, rfl, .inl ⟨RV.wanted_none rfl, .inl ⟨fw, ?_, hG⟩⟩⟩
                simp only [execOp, Act.eval]
                go_simp
                all_goals first | omega | (intro hh; omega) | (simp only [IntKind.wrap_i64]; omega) | simp
              | 20, _ =>
                have p137 : fa.eval (.tmp 137) = .bool false := hp 19 137 _ (by kernel_rfl) rfl rfl
                simp only [Act.eval] at p137
                refine ⟨_, _, rfl, rfl, .inl ⟨RV.wanted_none rfl, .inl ⟨fw, ?_, hG⟩⟩⟩
                simp only [execOp, Act.eval]
                go_simp
                all_goals first | omega | (intro hh; omega) | (simp only [IntKind.wrap_i64]; omega) | simp
              | 21, _ =>
                have p0 : fa.eval (.tmp 0) = .string ⟨(b0).toArray⟩ := (fr.out 0 (by decide)).trans rfl
                simp only [Act.eval] at p0
                refine ⟨_, _, rfl, rfl, .inl ⟨RV.wanted_at (d := 138) rfl fr (by rfl) (hp 20 138 _ (by kernel_rfl) rfl rfl) rfl, .inl ⟨fw, ?_, hG⟩⟩⟩
                simp only [execOp, Act.eval]
                go_simp
                all_goals first | omega | (intro hh; omega) | (simp only [IntKind.wrap_i64]; omega) | simp
              | 22, _ =>
                have p1 : fa.eval (.tmp 1) = .int .i64 (x : Nat) := (fr.out 1 (by decide)).trans rfl
                simp only [Act.eval] at p1
                refine ⟨_, _, rfl, rfl, .inl ⟨RV.wanted_at (d := 138) rfl fr (by rfl) (hp 20 138 _ (by kernel_rfl) rfl rfl) rfl, .inl ⟨fw, ?_, hG⟩⟩⟩
                simp only [execOp, Act.eval]
                go_simp
                all_goals first | omega | (intro hh; omega) | (simp only [IntKind.wrap_i64]; omega) | simp
              | 23, _ =>
                have p139 : fa.eval (.tmp 139) = .string ⟨(b0).toArray⟩ := hp 21 139 _ (by kernel_rfl) rfl rfl
                have p140 : fa.eval (.tmp 140) = .int .i64 (x : Nat) := hp 22 140 _ (by kernel_rfl) rfl rfl
                simp only [Act.eval] at p139 p140
                refine ⟨_, _, rfl, rfl, .inl ⟨RV.wanted_at (d := 138) rfl fr (by rfl) (hp 20 138 _ (by kernel_rfl) rfl rfl) rfl, .inl ⟨fw, ?_, hG⟩⟩⟩
                simp only [execOp, Act.eval]
                go_simp
                all_goals first | omega | (intro hh; omega) | (simp only [IntKind.wrap_i64]; omega) | simp
              | 24, _ =>
                have p141 : fa.eval (.tmp 141) = .int .u8 49 := hp 23 141 _ (by kernel_rfl) rfl rfl
                simp only [Act.eval] at p141
                refine ⟨_, _, rfl, rfl, .inl ⟨RV.wanted_at (d := 138) rfl fr (by rfl) (hp 20 138 _ (by kernel_rfl) rfl rfl) rfl, .inl ⟨fw, ?_, hG⟩⟩⟩
                simp only [execOp, Act.eval]
                go_simp
                all_goals first | omega | (intro hh; omega) | (simp only [IntKind.wrap_i64]; omega) | simp
              | 25, _ =>
                have p138 : fa.eval (.tmp 138) = .bool false := hp 20 138 _ (by kernel_rfl) rfl rfl
                have p142 : fa.eval (.tmp 142) = .bool false := hp 24 142 _ (by kernel_rfl) rfl rfl
                simp only [Act.eval] at p138 p142
                refine ⟨_, _, rfl, rfl, .inl ⟨RV.wanted_none rfl, .inl ⟨fw, ?_, hG⟩⟩⟩
                simp only [execOp, Act.eval]
                go_simp
                all_goals first | omega | (intro hh; omega) | (simp only [IntKind.wrap_i64]; omega) | simp
              | i + 26, hi => exact absurd hi (by show ¬ (i + 26 < 26); omega)
            · intro w2 hG
              simp only [RV.putAll, List.zip_cons_cons, List.zip_nil_left, List.zip_nil_right, List.foldl_cons, List.foldl_nil, Act.put, List.setIfInBounds_toArray, List.set_cons_zero, List.set_cons_succ]
              have HB3 := Lib.hid hG; clear HB; have HB := HB3; clear HB3 hG
              go_wp2_with (first | (go_at_call 14; refine (H6.out _).mono ?_; rintro e w1 ⟨rfl, hb⟩; have HB2 := Lib.hid (HB.out.trans (hb.mono HB.out.size)); clear hb HB; have HB := HB2; clear HB2))
              go_ret; exact ⟨rfl, HB.out⟩
      · have hv : downV b0 (x : Int) = [] := by unfold downV; rw [if_neg hg]
        obtain ⟨g, hgg⟩ : ∃ g, downE b0 (x : Int) = g := ⟨_, rfl⟩
        rw [hgg] at hg
        have H3 := Lib.hid (fun W : World => show Calls Tryd.prog 28 #[.string ⟨b0.toArray⟩, .int .i64 (x : Int)] W fun e w' => e = .returned (.tuple #[.string ⟨([]).toArray⟩, .int .i64 (g)]) ∧ Below W.heap.size W w' from by
          have h := down_any W b0 l0 (x : Int) w1
          rwa [hv, hgg] at h)
        have hg0 : (g != 0) = true := by simpa using hg
        clear hv hgg hg
        go_enter Tryd.func11, Tryd.ntmps11
        go_wp2_with (first
          | (go_at_call 13; refine (bawake _).mono ?_; rintro e w1 ⟨rfl, hb⟩; have HB2 := Lib.hid (HB.out.trans (hb.mono HB.out.size)); clear hb HB; have HB := HB2; clear HB2)
          | (go_at_call 24; refine (H1.out _).mono ?_; rintro e w1 ⟨rfl, hb⟩; have HB2 := Lib.hid (HB.out.trans (hb.mono HB.out.size)); clear hb HB; have HB := HB2; clear HB2)
          | (go_at_call 26; refine (H2.out _).mono ?_; rintro e w1 ⟨rfl, hb⟩; have HB2 := Lib.hid (HB.out.trans (hb.mono HB.out.size)); clear hb HB; have HB := HB2; clear HB2))
        refine RV.wp_region_g (by kernel_rfl) [37, 38, 39, 40, 41, 42, 43, 44, 45, 46, 47, 48, 49, 50, 51, 52, 53, 54, 55, 56, 57, 58, 59, 60, 61, 62, 63, 64, 65, 66, 67, 68, 69, 70, 71, 72, 73, 74, 75, 76, 77, 78, 79, 80, 81, 82, 83, 84, 85, 86, 87, 88, 89, 90, 91, 92, 93, 94, 95, 96, 97, 98, 99, 100, 101, 102, 103, 104, 105, 106, 107] [.int .i64 (0), .bool true, .bool true, .int .i64 (0), .bool false, .bool false, .string ⟨(b0).toArray⟩, .int .i64 (x : Nat), .int .i64 (y : Nat), .bool true, .bool false, .bool false, .bool false, .string ⟨(cv).toArray⟩, .int .i64 (cv.length : Nat), .string ⟨(b0).toArray⟩, .int .i64 (b0.length : Nat), .int .i64 (y : Nat), .int .i64 ((b0.length : Int) - (y : Int)), .bool false, .bool false, .bool false, .string ⟨(kv).toArray⟩, .int .i64 (kv.length : Nat), .string ⟨(b0).toArray⟩, .int .i64 (b0.length : Nat), .bool false, .bool false, .bool false, .string ⟨(cv).toArray⟩, .int .i64 (x : Nat), .string ⟨(P).toArray⟩, .string ⟨(b0).toArray⟩, .int .i64 (x : Nat), .string ⟨(P).toArray⟩, .bool false, .bool false, .bool false, .string ⟨(cv).toArray⟩, .int .i64 (x : Nat), .string ⟨(Q).toArray⟩, .string ⟨(b0).toArray⟩, .int .i64 (x : Nat), .int .i64 (y : Nat), .int .i64 (j : Nat), .string ⟨(Q).toArray⟩, .bool false, .bool false, .bool false, .string ⟨(kv).toArray⟩, .int .i64 (x : Nat), .string ⟨(P).toArray⟩, .string ⟨(b0).toArray⟩, .int .i64 (x : Nat), .string ⟨(P).toArray⟩, .bool false, .bool false, .bool false, .string ⟨(kv).toArray⟩, .int .i64 (x : Nat), .int .i64 (y : Nat), .int .i64 (j : Nat), .string ⟨(Q).toArray⟩, .string ⟨(b0).toArray⟩, .int .i64 (x : Nat), .int .i64 (y : Nat), .int .i64 (j : Nat), .string ⟨(Q).toArray⟩, .bool false, .bool false, .bool false] (fun W => Below w.heap.size w W) (by kernel_rfl) rfl (by decide) rfl (by kernel_rfl) (HB.out.drew) ?_ ?_
        · intro ii hii fa fw fr hp hG
          match ii, hii with
          | 0, _ =>
            have p8 : fa.eval (.tmp 8) = .int .i64 (0) := (fr.out 8 (by decide)).trans rfl
            simp only [Act.eval] at p8
            refine ⟨_, _, rfl, rfl, .inl ⟨RV.wanted_none rfl, .inl ⟨fw, ?_, hG⟩⟩⟩
            simp only [execOp, Act.eval]
            go_simp
            all_goals first | omega | (intro hh; omega) | (simp only [IntKind.wrap_i64]; omega) | simp
          | 1, _ =>
            have p37 : fa.eval (.tmp 37) = .int .i64 (0) := hp 0 37 _ (by kernel_rfl) rfl rfl
            simp only [Act.eval] at p37
            refine ⟨_, _, rfl, rfl, .inl ⟨RV.wanted_none rfl, .inl ⟨fw, ?_, hG⟩⟩⟩
            simp only [execOp, Act.eval]
            go_simp
            all_goals first | omega | (intro hh; omega) | (simp only [IntKind.wrap_i64]; omega) | simp
          | 2, _ =>
            have p38 : fa.eval (.tmp 38) = .bool true := hp 1 38 _ (by kernel_rfl) rfl rfl
            simp only [Act.eval] at p38
            refine ⟨_, _, rfl, rfl, .inl ⟨RV.wanted_none rfl, .inl ⟨fw, ?_, hG⟩⟩⟩
            simp only [execOp, Act.eval]
            go_simp
            all_goals first | omega | (intro hh; omega) | (simp only [IntKind.wrap_i64]; omega) | simp
          | 3, _ =>
            have p10 : fa.eval (.tmp 10) = .int .i64 (0) := (fr.out 10 (by decide)).trans rfl
            simp only [Act.eval] at p10
            refine ⟨_, _, rfl, rfl, .inl ⟨RV.wanted_at (d := 39) rfl fr (by rfl) (hp 2 39 _ (by kernel_rfl) rfl rfl) rfl, .inl ⟨fw, ?_, hG⟩⟩⟩
            simp only [execOp, Act.eval]
            go_simp
            all_goals first | omega | (intro hh; omega) | (simp only [IntKind.wrap_i64]; omega) | simp
          | 4, _ =>
            have p40 : fa.eval (.tmp 40) = .int .i64 (0) := hp 3 40 _ (by kernel_rfl) rfl rfl
            simp only [Act.eval] at p40
            refine ⟨_, _, rfl, rfl, .inl ⟨RV.wanted_at (d := 39) rfl fr (by rfl) (hp 2 39 _ (by kernel_rfl) rfl rfl) rfl, .inl ⟨fw, ?_, hG⟩⟩⟩
            simp only [execOp, Act.eval]
            go_simp
            all_goals first | omega | (intro hh; omega) | (simp only [IntKind.wrap_i64]; omega) | simp
          | 5, _ =>
            have p41 : fa.eval (.tmp 41) = .bool false := hp 4 41 _ (by kernel_rfl) rfl rfl
            simp only [Act.eval] at p41
            refine ⟨_, _, rfl, rfl, .inl ⟨RV.wanted_at (d := 39) rfl fr (by rfl) (hp 2 39 _ (by kernel_rfl) rfl rfl) rfl, .inl ⟨fw, ?_, hG⟩⟩⟩
            simp only [execOp, Act.eval]
            go_simp
            all_goals first | omega | (intro hh; omega) | (simp only [IntKind.wrap_i64]; omega) | simp
          | 6, _ =>
            have p0 : fa.eval (.tmp 0) = .string ⟨(b0).toArray⟩ := (fr.out 0 (by decide)).trans rfl
            simp only [Act.eval] at p0
            refine ⟨_, _, rfl, rfl, .inl ⟨RV.wanted_at (d := 42) rfl fr (by rfl) (hp 5 42 _ (by kernel_rfl) rfl rfl) rfl, .inl ⟨fw, ?_, hG⟩⟩⟩
            simp only [execOp, Act.eval]
            go_simp
            all_goals first | omega | (intro hh; omega) | (simp only [IntKind.wrap_i64]; omega) | simp
          | 7, _ =>
            have p1 : fa.eval (.tmp 1) = .int .i64 (x : Nat) := (fr.out 1 (by decide)).trans rfl
            simp only [Act.eval] at p1
            refine ⟨_, _, rfl, rfl, .inl ⟨RV.wanted_at (d := 42) rfl fr (by rfl) (hp 5 42 _ (by kernel_rfl) rfl rfl) rfl, .inl ⟨fw, ?_, hG⟩⟩⟩
            simp only [execOp, Act.eval]
            go_simp
            all_goals first | omega | (intro hh; omega) | (simp only [IntKind.wrap_i64]; omega) | simp
          | 8, _ =>
            have p2 : fa.eval (.tmp 2) = .int .i64 (y : Nat) := (fr.out 2 (by decide)).trans rfl
            simp only [Act.eval] at p2
            refine ⟨_, _, rfl, rfl, .inl ⟨RV.wanted_at (d := 42) rfl fr (by rfl) (hp 5 42 _ (by kernel_rfl) rfl rfl) rfl, .inl ⟨fw, ?_, hG⟩⟩⟩
            simp only [execOp, Act.eval]
            go_simp
            all_goals first | omega | (intro hh; omega) | (simp only [IntKind.wrap_i64]; omega) | simp
          | 9, _ =>
            have p43 : fa.eval (.tmp 43) = .string ⟨(b0).toArray⟩ := hp 6 43 _ (by kernel_rfl) rfl rfl
            have p44 : fa.eval (.tmp 44) = .int .i64 (x : Nat) := hp 7 44 _ (by kernel_rfl) rfl rfl
            have p45 : fa.eval (.tmp 45) = .int .i64 (y : Nat) := hp 8 45 _ (by kernel_rfl) rfl rfl
            have hv : (#[Operand.tmp 43, Operand.tmp 44, Operand.tmp 45] : Array Operand).map fa.eval = #[(.string ⟨(b0).toArray⟩), (.int .i64 (x : Nat)), (.int .i64 (y : Nat))] := by simp only [List.map_toArray, List.map_cons, List.map_nil, p43, p44, p45]
            exact ⟨_, _, rfl, rfl, .inl ⟨RV.wanted_at (d := 42) rfl fr (by rfl) (hp 5 42 _ (by kernel_rfl) rfl rfl) rfl, RV.yields_call_g hv Tryd.func32 (by kernel_rfl) rfl (HP.out fw) (fun e w2 h => ⟨h.1, by have h2 := h.2; subst h2; exact hG⟩)⟩⟩
          | 10, _ =>
            have p46 : fa.eval (.tmp 46) = .bool true := hp 9 46 _ (by kernel_rfl) rfl rfl
            simp only [Act.eval] at p46
            refine ⟨_, _, rfl, rfl, .inl ⟨RV.wanted_at (d := 42) rfl fr (by rfl) (hp 5 42 _ (by kernel_rfl) rfl rfl) rfl, .inl ⟨fw, ?_, hG⟩⟩⟩
            simp only [execOp, Act.eval]
            go_simp
            all_goals first | omega | (intro hh; omega) | (simp only [IntKind.wrap_i64]; omega) | simp
          | 11, _ =>
            have p42 : fa.eval (.tmp 42) = .bool false := hp 5 42 _ (by kernel_rfl) rfl rfl
            have p47 : fa.eval (.tmp 47) = .bool false := hp 10 47 _ (by kernel_rfl) rfl rfl
            simp only [Act.eval] at p42 p47
            refine ⟨_, _, rfl, rfl, .inl ⟨RV.wanted_at (d := 39) rfl fr (by rfl) (hp 2 39 _ (by kernel_rfl) rfl rfl) rfl, .inl ⟨fw, ?_, hG⟩⟩⟩
            simp only [execOp, Act.eval]
            go_simp
            all_goals first | omega | (intro hh; omega) | (simp only [IntKind.wrap_i64]; omega) | simp
          | 12, _ =>
            have p48 : fa.eval (.tmp 48) = .bool false := hp 11 48 _ (by kernel_rfl) rfl rfl
            simp only [Act.eval] at p48
            refine ⟨_, _, rfl, rfl, .inl ⟨RV.wanted_at (d := 39) rfl fr (by rfl) (hp 2 39 _ (by kernel_rfl) rfl rfl) rfl, .inl ⟨fw, ?_, hG⟩⟩⟩
            simp only [execOp, Act.eval]
            go_simp
            all_goals first | omega | (intro hh; omega) | (simp only [IntKind.wrap_i64]; omega) | simp
          | 13, _ =>
            have p7 : fa.eval (.tmp 7) = .string ⟨(cv).toArray⟩ := (fr.out 7 (by decide)).trans rfl
            simp only [Act.eval] at p7
            refine ⟨_, _, rfl, rfl, .inl ⟨RV.wanted_at (d := 49) rfl fr (by rfl) (hp 12 49 _ (by kernel_rfl) rfl rfl) rfl, .inl ⟨fw, ?_, hG⟩⟩⟩
            simp only [execOp, Act.eval]
            go_simp
            all_goals first | omega | (intro hh; omega) | (simp only [IntKind.wrap_i64]; omega) | simp
          | 14, _ =>
            have p50 : fa.eval (.tmp 50) = .string ⟨(cv).toArray⟩ := hp 13 50 _ (by kernel_rfl) rfl rfl
            simp only [Act.eval] at p50
            refine ⟨_, _, rfl, rfl, .inl ⟨RV.wanted_at (d := 49) rfl fr (by rfl) (hp 12 49 _ (by kernel_rfl) rfl rfl) rfl, .inl ⟨fw, ?_, hG⟩⟩⟩
            simp only [execOp, Act.eval]
            go_simp
            all_goals first | omega | (intro hh; omega) | (simp only [IntKind.wrap_i64]; omega) | simp
          | 15, _ =>
            have p0 : fa.eval (.tmp 0) = .string ⟨(b0).toArray⟩ := (fr.out 0 (by decide)).trans rfl
            simp only [Act.eval] at p0
            refine ⟨_, _, rfl, rfl, .inl ⟨RV.wanted_at (d := 49) rfl fr (by rfl) (hp 12 49 _ (by kernel_rfl) rfl rfl) rfl, .inl ⟨fw, ?_, hG⟩⟩⟩
            simp only [execOp, Act.eval]
            go_simp
            all_goals first | omega | (intro hh; omega) | (simp only [IntKind.wrap_i64]; omega) | simp
          | 16, _ =>
            have p52 : fa.eval (.tmp 52) = .string ⟨(b0).toArray⟩ := hp 15 52 _ (by kernel_rfl) rfl rfl
            simp only [Act.eval] at p52
            refine ⟨_, _, rfl, rfl, .inl ⟨RV.wanted_at (d := 49) rfl fr (by rfl) (hp 12 49 _ (by kernel_rfl) rfl rfl) rfl, .inl ⟨fw, ?_, hG⟩⟩⟩
            simp only [execOp, Act.eval]
            go_simp
            all_goals first | omega | (intro hh; omega) | (simp only [IntKind.wrap_i64]; omega) | simp
          | 17, _ =>
            have p2 : fa.eval (.tmp 2) = .int .i64 (y : Nat) := (fr.out 2 (by decide)).trans rfl
            simp only [Act.eval] at p2
            refine ⟨_, _, rfl, rfl, .inl ⟨RV.wanted_at (d := 49) rfl fr (by rfl) (hp 12 49 _ (by kernel_rfl) rfl rfl) rfl, .inl ⟨fw, ?_, hG⟩⟩⟩
            simp only [execOp, Act.eval]
            go_simp
            all_goals first | omega | (intro hh; omega) | (simp only [IntKind.wrap_i64]; omega) | simp
          | 18, _ =>
            have p53 : fa.eval (.tmp 53) = .int .i64 (b0.length : Nat) := hp 16 53 _ (by kernel_rfl) rfl rfl
            have p54 : fa.eval (.tmp 54) = .int .i64 (y : Nat) := hp 17 54 _ (by kernel_rfl) rfl rfl
            simp only [Act.eval] at p53 p54
            refine ⟨_, _, rfl, rfl, .inl ⟨RV.wanted_at (d := 49) rfl fr (by rfl) (hp 12 49 _ (by kernel_rfl) rfl rfl) rfl, .inl ⟨fw, ?_, hG⟩⟩⟩
            simp only [execOp, Act.eval]
            go_simp
            all_goals first | omega | (intro hh; omega) | (simp only [IntKind.wrap_i64]; omega) | simp
          | 19, _ =>
            have p51 : fa.eval (.tmp 51) = .int .i64 (cv.length : Nat) := hp 14 51 _ (by kernel_rfl) rfl rfl
            have p55 : fa.eval (.tmp 55) = .int .i64 ((b0.length : Int) - (y : Int)) := hp 18 55 _ (by kernel_rfl) rfl rfl
            simp only [Act.eval] at p51 p55
            refine ⟨_, _, rfl, rfl, .inl ⟨RV.wanted_at (d := 49) rfl fr (by rfl) (hp 12 49 _ (by kernel_rfl) rfl rfl) rfl, .inl ⟨fw, ?_, hG⟩⟩⟩
            simp only [execOp, Act.eval]
            go_simp
            all_goals first | omega | (intro hh; omega) | (simp only [IntKind.wrap_i64]; omega) | simp
          | 20, _ =>
            have p49 : fa.eval (.tmp 49) = .bool false := hp 12 49 _ (by kernel_rfl) rfl rfl
            have p56 : fa.eval (.tmp 56) = .bool false := hp 19 56 _ (by kernel_rfl) rfl rfl
            simp only [Act.eval] at p49 p56
            refine ⟨_, _, rfl, rfl, .inl ⟨RV.wanted_at (d := 39) rfl fr (by rfl) (hp 2 39 _ (by kernel_rfl) rfl rfl) rfl, .inl ⟨fw, ?_, hG⟩⟩⟩
            simp only [execOp, Act.eval]
            go_simp
            all_goals first | omega | (intro hh; omega) | (simp only [IntKind.wrap_i64]; omega) | simp
          | 21, _ =>
            have p57 : fa.eval (.tmp 57) = .bool false := hp 20 57 _ (by kernel_rfl) rfl rfl
            simp only [Act.eval] at p57
            refine ⟨_, _, rfl, rfl, .inl ⟨RV.wanted_at (d := 39) rfl fr (by rfl) (hp 2 39 _ (by kernel_rfl) rfl rfl) rfl, .inl ⟨fw, ?_, hG⟩⟩⟩
            simp only [execOp, Act.eval]
            go_simp
            all_goals first | omega | (intro hh; omega) | (simp only [IntKind.wrap_i64]; omega) | simp
          | 22, _ =>
            have p9 : fa.eval (.tmp 9) = .string ⟨(kv).toArray⟩ := (fr.out 9 (by decide)).trans rfl
            simp only [Act.eval] at p9
            refine ⟨_, _, rfl, rfl, .inl ⟨RV.wanted_at (d := 58) rfl fr (by rfl) (hp 21 58 _ (by kernel_rfl) rfl rfl) rfl, .inl ⟨fw, ?_, hG⟩⟩⟩
            simp only [execOp, Act.eval]
            go_simp
            all_goals first | omega | (intro hh; omega) | (simp only [IntKind.wrap_i64]; omega) | simp
          | 23, _ =>
            have p59 : fa.eval (.tmp 59) = .string ⟨(kv).toArray⟩ := hp 22 59 _ (by kernel_rfl) rfl rfl
            simp only [Act.eval] at p59
            refine ⟨_, _, rfl, rfl, .inl ⟨RV.wanted_at (d := 58) rfl fr (by rfl) (hp 21 58 _ (by kernel_rfl) rfl rfl) rfl, .inl ⟨fw, ?_, hG⟩⟩⟩
            simp only [execOp, Act.eval]
            go_simp
            all_goals first | omega | (intro hh; omega) | (simp only [IntKind.wrap_i64]; omega) | simp
          | 24, _ =>
            have p0 : fa.eval (.tmp 0) = .string ⟨(b0).toArray⟩ := (fr.out 0 (by decide)).trans rfl
            simp only [Act.eval] at p0
            refine ⟨_, _, rfl, rfl, .inl ⟨RV.wanted_at (d := 58) rfl fr (by rfl) (hp 21 58 _ (by kernel_rfl) rfl rfl) rfl, .inl ⟨fw, ?_, hG⟩⟩⟩
            simp only [execOp, Act.eval]
            go_simp
            all_goals first | omega | (intro hh; omega) | (simp only [IntKind.wrap_i64]; omega) | simp
          | 25, _ =>
            have p61 : fa.eval (.tmp 61) = .string ⟨(b0).toArray⟩ := hp 24 61 _ (by kernel_rfl) rfl rfl
            simp only [Act.eval] at p61
            refine ⟨_, _, rfl, rfl, .inl ⟨RV.wanted_at (d := 58) rfl fr (by rfl) (hp 21 58 _ (by kernel_rfl) rfl rfl) rfl, .inl ⟨fw, ?_, hG⟩⟩⟩
            simp only [execOp, Act.eval]
            go_simp
            all_goals first | omega | (intro hh; omega) | (simp only [IntKind.wrap_i64]; omega) | simp
          | 26, _ =>
            have p60 : fa.eval (.tmp 60) = .int .i64 (kv.length : Nat) := hp 23 60 _ (by kernel_rfl) rfl rfl
            have p62 : fa.eval (.tmp 62) = .int .i64 (b0.length : Nat) := hp 25 62 _ (by kernel_rfl) rfl rfl
            simp only [Act.eval] at p60 p62
            refine ⟨_, _, rfl, rfl, .inl ⟨RV.wanted_at (d := 58) rfl fr (by rfl) (hp 21 58 _ (by kernel_rfl) rfl rfl) rfl, .inl ⟨fw, ?_, hG⟩⟩⟩
            simp only [execOp, Act.eval]
            go_simp
            all_goals first | omega | (intro hh; omega) | (simp only [IntKind.wrap_i64]; omega) | simp
          | 27, _ =>
            have p58 : fa.eval (.tmp 58) = .bool false := hp 21 58 _ (by kernel_rfl) rfl rfl
            have p63 : fa.eval (.tmp 63) = .bool false := hp 26 63 _ (by kernel_rfl) rfl rfl
            simp only [Act.eval] at p58 p63
            refine ⟨_, _, rfl, rfl, .inl ⟨RV.wanted_at (d := 39) rfl fr (by rfl) (hp 2 39 _ (by kernel_rfl) rfl rfl) rfl, .inl ⟨fw, ?_, hG⟩⟩⟩
            simp only [execOp, Act.eval]
            go_simp
            all_goals first | omega | (intro hh; omega) | (simp only [IntKind.wrap_i64]; omega) | simp
          | 28, _ =>
            have p64 : fa.eval (.tmp 64) = .bool false := hp 27 64 _ (by kernel_rfl) rfl rfl
            simp only [Act.eval] at p64
            refine ⟨_, _, rfl, rfl, .inl ⟨RV.wanted_at (d := 39) rfl fr (by rfl) (hp 2 39 _ (by kernel_rfl) rfl rfl) rfl, .inl ⟨fw, ?_, hG⟩⟩⟩
            simp only [execOp, Act.eval]
            go_simp
            all_goals first | omega | (intro hh; omega) | (simp only [IntKind.wrap_i64]; omega) | simp
          | 29, _ =>
            have p7 : fa.eval (.tmp 7) = .string ⟨(cv).toArray⟩ := (fr.out 7 (by decide)).trans rfl
            simp only [Act.eval] at p7
            refine ⟨_, _, rfl, rfl, .inl ⟨RV.wanted_at (d := 65) rfl fr (by rfl) (hp 28 65 _ (by kernel_rfl) rfl rfl) rfl, .inl ⟨fw, ?_, hG⟩⟩⟩
            simp only [execOp, Act.eval]
            go_simp
            all_goals first | omega | (intro hh; omega) | (simp only [IntKind.wrap_i64]; omega) | simp
          | 30, _ =>
            have p1 : fa.eval (.tmp 1) = .int .i64 (x : Nat) := (fr.out 1 (by decide)).trans rfl
            simp only [Act.eval] at p1
            refine ⟨_, _, rfl, rfl, .inl ⟨RV.wanted_at (d := 65) rfl fr (by rfl) (hp 28 65 _ (by kernel_rfl) rfl rfl) rfl, .inl ⟨fw, ?_, hG⟩⟩⟩
            simp only [execOp, Act.eval]
            go_simp
            all_goals first | omega | (intro hh; omega) | (simp only [IntKind.wrap_i64]; omega) | simp
          | 31, _ =>
            have p66 : fa.eval (.tmp 66) = .string ⟨(cv).toArray⟩ := hp 29 66 _ (by kernel_rfl) rfl rfl
            have p67 : fa.eval (.tmp 67) = .int .i64 (x : Nat) := hp 30 67 _ (by kernel_rfl) rfl rfl
            simp only [Act.eval] at p66 p67
            refine ⟨_, _, rfl, rfl, .inl ⟨RV.wanted_at (d := 65) rfl fr (by rfl) (hp 28 65 _ (by kernel_rfl) rfl rfl) rfl, .inl ⟨fw, ?_, hG⟩⟩⟩
            simp only [execOp, Act.eval]
            go_simp
            all_goals first | omega | (intro hh; omega) | (simp only [IntKind.wrap_i64]; omega) | simp
          | 32, _ =>
            have p0 : fa.eval (.tmp 0) = .string ⟨(b0).toArray⟩ := (fr.out 0 (by decide)).trans rfl
            simp only [Act.eval] at p0
            refine ⟨_, _, rfl, rfl, .inl ⟨RV.wanted_at (d := 65) rfl fr (by rfl) (hp 28 65 _ (by kernel_rfl) rfl rfl) rfl, .inl ⟨fw, ?_, hG⟩⟩⟩
            simp only [execOp, Act.eval]
            go_simp
            all_goals first | omega | (intro hh; omega) | (simp only [IntKind.wrap_i64]; omega) | simp
          | 33, _ =>
            have p1 : fa.eval (.tmp 1) = .int .i64 (x : Nat) := (fr.out 1 (by decide)).trans rfl
            simp only [Act.eval] at p1
            refine ⟨_, _, rfl, rfl, .inl ⟨RV.wanted_at (d := 65) rfl fr (by rfl) (hp 28 65 _ (by kernel_rfl) rfl rfl) rfl, .inl ⟨fw, ?_, hG⟩⟩⟩
            simp only [execOp, Act.eval]
            go_simp
            all_goals first | omega | (intro hh; omega) | (simp only [IntKind.wrap_i64]; omega) | simp
          | 34, _ =>
            have p69 : fa.eval (.tmp 69) = .string ⟨(b0).toArray⟩ := hp 32 69 _ (by kernel_rfl) rfl rfl
            have p70 : fa.eval (.tmp 70) = .int .i64 (x : Nat) := hp 33 70 _ (by kernel_rfl) rfl rfl
            simp only [Act.eval] at p69 p70
            refine ⟨_, _, rfl, rfl, .inl ⟨RV.wanted_at (d := 65) rfl fr (by rfl) (hp 28 65 _ (by kernel_rfl) rfl rfl) rfl, .inl ⟨fw, ?_, hG⟩⟩⟩
            simp only [execOp, Act.eval]
            go_simp
            all_goals first | omega | (intro hh; omega) | (simp only [IntKind.wrap_i64]; omega) | simp
          | 35, _ =>
            have p68 : fa.eval (.tmp 68) = .string ⟨(P).toArray⟩ := hp 31 68 _ (by kernel_rfl) rfl rfl
            have p71 : fa.eval (.tmp 71) = .string ⟨(P).toArray⟩ := hp 34 71 _ (by kernel_rfl) rfl rfl
            simp only [Act.eval] at p68 p71
            refine ⟨_, _, rfl, rfl, .inl ⟨RV.wanted_at (d := 65) rfl fr (by rfl) (hp 28 65 _ (by kernel_rfl) rfl rfl) rfl, .inl ⟨fw, ?_, hG⟩⟩⟩
            simp only [execOp, Act.eval]
            go_simp
            all_goals first | omega | (intro hh; omega) | (simp only [IntKind.wrap_i64]; omega) | simp
          | 36, _ =>
            have p65 : fa.eval (.tmp 65) = .bool false := hp 28 65 _ (by kernel_rfl) rfl rfl
            have p72 : fa.eval (.tmp 72) = .bool false := hp 35 72 _ (by kernel_rfl) rfl rfl
            simp only [Act.eval] at p65 p72
            refine ⟨_, _, rfl, rfl, .inl ⟨RV.wanted_at (d := 39) rfl fr (by rfl) (hp 2 39 _ (by kernel_rfl) rfl rfl) rfl, .inl ⟨fw, ?_, hG⟩⟩⟩
            simp only [execOp, Act.eval]
            go_simp
            all_goals first | omega | (intro hh; omega) | (simp only [IntKind.wrap_i64]; omega) | simp
          | 37, _ =>
            have p73 : fa.eval (.tmp 73) = .bool false := hp 36 73 _ (by kernel_rfl) rfl rfl
            simp only [Act.eval] at p73
            refine ⟨_, _, rfl, rfl, .inl ⟨RV.wanted_at (d := 39) rfl fr (by rfl) (hp 2 39 _ (by kernel_rfl) rfl rfl) rfl, .inl ⟨fw, ?_, hG⟩⟩⟩
            simp only [execOp, Act.eval]
            go_simp
            all_goals first | omega | (intro hh; omega) | (simp only [IntKind.wrap_i64]; omega) | simp
          | 38, _ =>
            have p7 : fa.eval (.tmp 7) = .string ⟨(cv).toArray⟩ := (fr.out 7 (by decide)).trans rfl
            simp only [Act.eval] at p7
            refine ⟨_, _, rfl, rfl, .inl ⟨RV.wanted_at (d := 74) rfl fr (by rfl) (hp 37 74 _ (by kernel_rfl) rfl rfl) rfl, .inl ⟨fw, ?_, hG⟩⟩⟩
            simp only [execOp, Act.eval]
            go_simp
            all_goals first | omega | (intro hh; omega) | (simp only [IntKind.wrap_i64]; omega) | simp
          | 39, _ =>
            have p1 : fa.eval (.tmp 1) = .int .i64 (x : Nat) := (fr.out 1 (by decide)).trans rfl
            simp only [Act.eval] at p1
            refine ⟨_, _, rfl, rfl, .inl ⟨RV.wanted_at (d := 74) rfl fr (by rfl) (hp 37 74 _ (by kernel_rfl) rfl rfl) rfl, .inl ⟨fw, ?_, hG⟩⟩⟩
            simp only [execOp, Act.eval]
            go_simp
            all_goals first | omega | (intro hh; omega) | (simp only [IntKind.wrap_i64]; omega) | simp
          | 40, _ =>
            have p75 : fa.eval (.tmp 75) = .string ⟨(cv).toArray⟩ := hp 38 75 _ (by kernel_rfl) rfl rfl
            have p76 : fa.eval (.tmp 76) = .int .i64 (x : Nat) := hp 39 76 _ (by kernel_rfl) rfl rfl
            simp only [Act.eval] at p75 p76
            refine ⟨_, _, rfl, rfl, .inl ⟨RV.wanted_at (d := 74) rfl fr (by rfl) (hp 37 74 _ (by kernel_rfl) rfl rfl) rfl, .inl ⟨fw, ?_, hG⟩⟩⟩
            simp only [execOp, Act.eval]
            go_simp
            all_goals first | omega | (intro hh; omega) | (simp only [IntKind.wrap_i64]; omega) | simp
          | 41, _ =>
            have p0 : fa.eval (.tmp 0) = .string ⟨(b0).toArray⟩ := (fr.out 0 (by decide)).trans rfl
            simp only [Act.eval] at p0
            refine ⟨_, _, rfl, rfl, .inl ⟨RV.wanted_at (d := 74) rfl fr (by rfl) (hp 37 74 _ (by kernel_rfl) rfl rfl) rfl, .inl ⟨fw, ?_, hG⟩⟩⟩
            simp only [execOp, Act.eval]
            go_simp
            all_goals first | omega | (intro hh; omega) | (simp only [IntKind.wrap_i64]; omega) | simp
          | 42, _ =>
            have p1 : fa.eval (.tmp 1) = .int .i64 (x : Nat) := (fr.out 1 (by decide)).trans rfl
            simp only [Act.eval] at p1
            refine ⟨_, _, rfl, rfl, .inl ⟨RV.wanted_at (d := 74) rfl fr (by rfl) (hp 37 74 _ (by kernel_rfl) rfl rfl) rfl, .inl ⟨fw, ?_, hG⟩⟩⟩
            simp only [execOp, Act.eval]
            go_simp
            all_goals first | omega | (intro hh; omega) | (simp only [IntKind.wrap_i64]; omega) | simp
          | 43, _ =>
            have p2 : fa.eval (.tmp 2) = .int .i64 (y : Nat) := (fr.out 2 (by decide)).trans rfl
            simp only [Act.eval] at p2
            refine ⟨_, _, rfl, rfl, .inl ⟨RV.wanted_at (d := 74) rfl fr (by rfl) (hp 37 74 _ (by kernel_rfl) rfl rfl) rfl, .inl ⟨fw, ?_, hG⟩⟩⟩
            simp only [execOp, Act.eval]
            go_simp
            all_goals first | omega | (intro hh; omega) | (simp only [IntKind.wrap_i64]; omega) | simp
          | 44, _ =>
            have p79 : fa.eval (.tmp 79) = .int .i64 (x : Nat) := hp 42 79 _ (by kernel_rfl) rfl rfl
            have p80 : fa.eval (.tmp 80) = .int .i64 (y : Nat) := hp 43 80 _ (by kernel_rfl) rfl rfl
            simp only [Act.eval] at p79 p80
            refine ⟨_, _, rfl, rfl, .inl ⟨RV.wanted_at (d := 74) rfl fr (by rfl) (hp 37 74 _ (by kernel_rfl) rfl rfl) rfl, .inl ⟨fw, ?_, hG⟩⟩⟩
            simp only [execOp, Act.eval]
            go_simp
            all_goals first | omega | (intro hh; omega) | (simp only [IntKind.wrap_i64]; omega) | simp
          | 45, _ =>
            have p78 : fa.eval (.tmp 78) = .string ⟨(b0).toArray⟩ := hp 41 78 _ (by kernel_rfl) rfl rfl
            have p81 : fa.eval (.tmp 81) = .int .i64 (j : Nat) := hp 44 81 _ (by kernel_rfl) rfl rfl
            simp only [Act.eval] at p78 p81
            refine ⟨_, _, rfl, rfl, .inl ⟨RV.wanted_at (d := 74) rfl fr (by rfl) (hp 37 74 _ (by kernel_rfl) rfl rfl) rfl, .inl ⟨fw, ?_, hG⟩⟩⟩
            simp only [execOp, Act.eval]
            go_simp
            all_goals first | omega | (intro hh; omega) | (simp only [IntKind.wrap_i64]; omega) | simp
          | 46, _ =>
            have p77 : fa.eval (.tmp 77) = .string ⟨(Q).toArray⟩ := hp 40 77 _ (by kernel_rfl) rfl rfl
            have p82 : fa.eval (.tmp 82) = .string ⟨(Q).toArray⟩ := hp 45 82 _ (by kernel_rfl) rfl rfl
            simp only [Act.eval] at p77 p82
            refine ⟨_, _, rfl, rfl, .inl ⟨RV.wanted_at (d := 74) rfl fr (by rfl) (hp 37 74 _ (by kernel_rfl) rfl rfl) rfl, .inl ⟨fw, ?_, hG⟩⟩⟩
            simp only [execOp, Act.eval]
            go_simp
            all_goals first | omega | (intro hh; omega) | (simp only [IntKind.wrap_i64]; omega) | simp
          | 47, _ =>
            have p74 : fa.eval (.tmp 74) = .bool false := hp 37 74 _ (by kernel_rfl) rfl rfl
            have p83 : fa.eval (.tmp 83) = .bool false := hp 46 83 _ (by kernel_rfl) rfl rfl
            simp only [Act.eval] at p74 p83
            refine ⟨_, _, rfl, rfl, .inl ⟨RV.wanted_at (d := 39) rfl fr (by rfl) (hp 2 39 _ (by kernel_rfl) rfl rfl) rfl, .inl ⟨fw, ?_, hG⟩⟩⟩
            simp only [execOp, Act.eval]
            go_simp
            all_goals first | omega | (intro hh; omega) | (simp only [IntKind.wrap_i64]; omega) | simp
          | 48, _ =>
            have p84 : fa.eval (.tmp 84) = .bool false := hp 47 84 _ (by kernel_rfl) rfl rfl
            simp only [Act.eval] at p84
            refine ⟨_, _, rfl, rfl, .inl ⟨RV.wanted_at (d := 39) rfl fr (by rfl) (hp 2 39 _ (by kernel_rfl) rfl rfl) rfl, .inl ⟨fw, ?_, hG⟩⟩⟩
            simp only [execOp, Act.eval]
            go_simp
            all_goals first | omega | (intro hh; omega) | (simp only [IntKind.wrap_i64]; omega) | simp
          | 49, _ =>
            have p9 : fa.eval (.tmp 9) = .string ⟨(kv).toArray⟩ := (fr.out 9 (by decide)).trans rfl
            simp only [Act.eval] at p9
            refine ⟨_, _, rfl, rfl, .inl ⟨RV.wanted_at (d := 85) rfl fr (by rfl) (hp 48 85 _ (by kernel_rfl) rfl rfl) rfl, .inl ⟨fw, ?_, hG⟩⟩⟩
            simp only [execOp, Act.eval]
            go_simp
            all_goals first | omega | (intro hh; omega) | (simp only [IntKind.wrap_i64]; omega) | simp
          | 50, _ =>
            have p1 : fa.eval (.tmp 1) = .int .i64 (x : Nat) := (fr.out 1 (by decide)).trans rfl
            simp only [Act.eval] at p1
            refine ⟨_, _, rfl, rfl, .inl ⟨RV.wanted_at (d := 85) rfl fr (by rfl) (hp 48 85 _ (by kernel_rfl) rfl rfl) rfl, .inl ⟨fw, ?_, hG⟩⟩⟩
            simp only [execOp, Act.eval]
            go_simp
            all_goals first | omega | (intro hh; omega) | (simp only [IntKind.wrap_i64]; omega) | simp
          | 51, _ =>
            have p86 : fa.eval (.tmp 86) = .string ⟨(kv).toArray⟩ := hp 49 86 _ (by kernel_rfl) rfl rfl
            have p87 : fa.eval (.tmp 87) = .int .i64 (x : Nat) := hp 50 87 _ (by kernel_rfl) rfl rfl
            simp only [Act.eval] at p86 p87
            refine ⟨_, _, rfl, rfl, .inl ⟨RV.wanted_at (d := 85) rfl fr (by rfl) (hp 48 85 _ (by kernel_rfl) rfl rfl) rfl, .inl ⟨fw, ?_, hG⟩⟩⟩
            simp only [execOp, Act.eval]
            go_simp
            all_goals first | omega | (intro hh; omega) | (simp only [IntKind.wrap_i64]; omega) | simp
          | 52, _ =>
            have p0 : fa.eval (.tmp 0) = .string ⟨(b0).toArray⟩ := (fr.out 0 (by decide)).trans rfl
            simp only [Act.eval] at p0
            refine ⟨_, _, rfl, rfl, .inl ⟨RV.wanted_at (d := 85) rfl fr (by rfl) (hp 48 85 _ (by kernel_rfl) rfl rfl) rfl, .inl ⟨fw, ?_, hG⟩⟩⟩
            simp only [execOp, Act.eval]
            go_simp
            all_goals first | omega | (intro hh; omega) | (simp only [IntKind.wrap_i64]; omega) | simp
          | 53, _ =>
            have p1 : fa.eval (.tmp 1) = .int .i64 (x : Nat) := (fr.out 1 (by decide)).trans rfl
            simp only [Act.eval] at p1
            refine ⟨_, _, rfl, rfl, .inl ⟨RV.wanted_at (d := 85) rfl fr (by rfl) (hp 48 85 _ (by kernel_rfl) rfl rfl) rfl, .inl ⟨fw, ?_, hG⟩⟩⟩
            simp only [execOp, Act.eval]
            go_simp
            all_goals first | omega | (intro hh; omega) | (simp only [IntKind.wrap_i64]; omega) | simp
          | 54, _ =>
            have p89 : fa.eval (.tmp 89) = .string ⟨(b0).toArray⟩ := hp 52 89 _ (by kernel_rfl) rfl rfl
            have p90 : fa.eval (.tmp 90) = .int .i64 (x : Nat) := hp 53 90 _ (by kernel_rfl) rfl rfl
            simp only [Act.eval] at p89 p90
            refine ⟨_, _, rfl, rfl, .inl ⟨RV.wanted_at (d := 85) rfl fr (by rfl) (hp 48 85 _ (by kernel_rfl) rfl rfl) rfl, .inl ⟨fw, ?_, hG⟩⟩⟩
            simp only [execOp, Act.eval]
            go_simp
            all_goals first | omega | (intro hh; omega) | (simp only [IntKind.wrap_i64]; omega) | simp
          | 55, _ =>
            have p88 : fa.eval (.tmp 88) = .string ⟨(P).toArray⟩ := hp 51 88 _ (by kernel_rfl) rfl rfl
            have p91 : fa.eval (.tmp 91) = .string ⟨(P).toArray⟩ := hp 54 91 _ (by kernel_rfl) rfl rfl
            simp only [Act.eval] at p88 p91
            refine ⟨_, _, rfl, rfl, .inl ⟨RV.wanted_at (d := 85) rfl fr (by rfl) (hp 48 85 _ (by kernel_rfl) rfl rfl) rfl, .inl ⟨fw, ?_, hG⟩⟩⟩
            simp only [execOp, Act.eval]
            go_simp
            all_goals first | omega | (intro hh; omega) | (simp only [IntKind.wrap_i64]; omega) | simp
          | 56, _ =>
            have p85 : fa.eval (.tmp 85) = .bool false := hp 48 85 _ (by kernel_rfl) rfl rfl
            have p92 : fa.eval (.tmp 92) = .bool false := hp 55 92 _ (by kernel_rfl) rfl rfl
            simp only [Act.eval] at p85 p92
            refine ⟨_, _, rfl, rfl, .inl ⟨RV.wanted_at (d := 39) rfl fr (by rfl) (hp 2 39 _ (by kernel_rfl) rfl rfl) rfl, .inl ⟨fw, ?_, hG⟩⟩⟩
            simp only [execOp, Act.eval]
            go_simp
            all_goals first | omega | (intro hh; omega) | (simp only [IntKind.wrap_i64]; omega) | simp
          | 57, _ =>
            have p93 : fa.eval (.tmp 93) = .bool false := hp 56 93 _ (by kernel_rfl) rfl rfl
            simp only [Act.eval] at p93
            refine ⟨_, _, rfl, rfl, .inl ⟨RV.wanted_at (d := 39) rfl fr (by rfl) (hp 2 39 _ (by kernel_rfl) rfl rfl) rfl, .inl ⟨fw, ?_, hG⟩⟩⟩
            simp only [execOp, Act.eval]
            go_simp
            all_goals first | omega | (intro hh; omega) | (simp only [IntKind.wrap_i64]; omega) | simp
          | 58, _ =>
            have p9 : fa.eval (.tmp 9) = .string ⟨(kv).toArray⟩ := (fr.out 9 (by decide)).trans rfl
            simp only [Act.eval] at p9
            refine ⟨_, _, rfl, rfl, .inl ⟨RV.wanted_at (d := 94) rfl fr (by rfl) (hp 57 94 _ (by kernel_rfl) rfl rfl) rfl, .inl ⟨fw, ?_, hG⟩⟩⟩
            simp only [execOp, Act.eval]
            go_simp
            all_goals first | omega | (intro hh; omega) | (simp only [IntKind.wrap_i64]; omega) | simp
          | 59, _ =>
            have p1 : fa.eval (.tmp 1) = .int .i64 (x : Nat) := (fr.out 1 (by decide)).trans rfl
            simp only [Act.eval] at p1
            refine ⟨_, _, rfl, rfl, .inl ⟨RV.wanted_at (d := 94) rfl fr (by rfl) (hp 57 94 _ (by kernel_rfl) rfl rfl) rfl, .inl ⟨fw, ?_, hG⟩⟩⟩
            simp only [execOp, Act.eval]
            go_simp
            all_goals first | omega | (intro hh; omega) | (simp only [IntKind.wrap_i64]; omega) | simp
          | 60, _ =>
            have p2 : fa.eval (.tmp 2) = .int .i64 (y : Nat) := (fr.out 2 (by decide)).trans rfl
            simp only [Act.eval] at p2
            refine ⟨_, _, rfl, rfl, .inl ⟨RV.wanted_at (d := 94) rfl fr (by rfl) (hp 57 94 _ (by kernel_rfl) rfl rfl) rfl, .inl ⟨fw, ?_, hG⟩⟩⟩
            simp only [execOp, Act.eval]
            go_simp
            all_goals first | omega | (intro hh; omega) | (simp only [IntKind.wrap_i64]; omega) | simp
          | 61, _ =>
            have p96 : fa.eval (.tmp 96) = .int .i64 (x : Nat) := hp 59 96 _ (by kernel_rfl) rfl rfl
            have p97 : fa.eval (.tmp 97) = .int .i64 (y : Nat) := hp 60 97 _ (by kernel_rfl) rfl rfl
            simp only [Act.eval] at p96 p97
            refine ⟨_, _, rfl, rfl, .inl ⟨RV.wanted_at (d := 94) rfl fr (by rfl) (hp 57 94 _ (by kernel_rfl) rfl rfl) rfl, .inl ⟨fw, ?_, hG⟩⟩⟩
            simp only [execOp, Act.eval]
            go_simp
            all_goals first | omega | (intro hh; omega) | (simp only [IntKind.wrap_i64]; omega) | simp
          | 62, _ =>
            have p95 : fa.eval (.tmp 95) = .string ⟨(kv).toArray⟩ := hp 58 95 _ (by kernel_rfl) rfl rfl
            have p98 : fa.eval (.tmp 98) = .int .i64 (j : Nat) := hp 61 98 _ (by kernel_rfl) rfl rfl
            simp only [Act.eval] at p95 p98
            refine ⟨_, _, rfl, rfl, .inl ⟨RV.wanted_at (d := 94) rfl fr (by rfl) (hp 57 94 _ (by kernel_rfl) rfl rfl) rfl, .inl ⟨fw, ?_, hG⟩⟩⟩
            simp only [execOp, Act.eval]
            go_simp
            all_goals first | omega | (intro hh; omega) | (simp only [IntKind.wrap_i64]; omega) | simp
          | 63, _ =>
            have p0 : fa.eval (.tmp 0) = .string ⟨(b0).toArray⟩ := (fr.out 0 (by decide)).trans rfl
            simp only [Act.eval] at p0
            refine ⟨_, _, rfl, rfl, .inl ⟨RV.wanted_at (d := 94) rfl fr (by rfl) (hp 57 94 _ (by kernel_rfl) rfl rfl) rfl, .inl ⟨fw, ?_, hG⟩⟩⟩
            simp only [execOp, Act.eval]
            go_simp
            all_goals first | omega | (intro hh; omega) | (simp only [IntKind.wrap_i64]; omega) | simp
          | 64, _ =>
            have p1 : fa.eval (.tmp 1) = .int .i64 (x : Nat) := (fr.out 1 (by decide)).trans rfl
            simp only [Act.eval] at p1
            refine ⟨_, _, rfl, rfl, .inl ⟨RV.wanted_at (d := 94) rfl fr (by rfl) (hp 57 94 _ (by kernel_rfl) rfl rfl) rfl, .inl ⟨fw, ?_, hG⟩⟩⟩
            simp only [execOp, Act.eval]
            go_simp
            all_goals first | omega | (intro hh; omega) | (simp only [IntKind.wrap_i64]; omega) | simp
          | 65, _ =>
            have p2 : fa.eval (.tmp 2) = .int .i64 (y : Nat) := (fr.out 2 (by decide)).trans rfl
            simp only [Act.eval] at p2
            refine ⟨_, _, rfl, rfl, .inl ⟨RV.wanted_at (d := 94) rfl fr (by rfl) (hp 57 94 _ (by kernel_rfl) rfl rfl) rfl, .inl ⟨fw, ?_, hG⟩⟩⟩
            simp only [execOp, Act.eval]
            go_simp
            all_goals first | omega | (intro hh; omega) | (simp only [IntKind.wrap_i64]; omega) | simp
          | 66, _ =>
            have p101 : fa.eval (.tmp 101) = .int .i64 (x : Nat) := hp 64 101 _ (by kernel_rfl) rfl rfl
            have p102 : fa.eval (.tmp 102) = .int .i64 (y : Nat) := hp 65 102 _ (by kernel_rfl) rfl rfl
            simp only [Act.eval] at p101 p102
            refine ⟨_, _, rfl, rfl, .inl ⟨RV.wanted_at (d := 94) rfl fr (by rfl) (hp 57 94 _ (by kernel_rfl) rfl rfl) rfl, .inl ⟨fw, ?_, hG⟩⟩⟩
            simp only [execOp, Act.eval]
            go_simp
            all_goals first | omega | (intro hh; omega) | (simp only [IntKind.wrap_i64]; omega) | simp
          | 67, _ =>
            have p100 : fa.eval (.tmp 100) = .string ⟨(b0).toArray⟩ := hp 63 100 _ (by kernel_rfl) rfl rfl
            have p103 : fa.eval (.tmp 103) = .int .i64 (j : Nat) := hp 66 103 _ (by kernel_rfl) rfl rfl
            simp only [Act.eval] at p100 p103
            refine ⟨_, _, rfl, rfl, .inl ⟨RV.wanted_at (d := 94) rfl fr (by rfl) (hp 57 94 _ (by kernel_rfl) rfl rfl) rfl, .inl ⟨fw, ?_, hG⟩⟩⟩
            simp only [execOp, Act.eval]
            go_simp
            all_goals first | omega | (intro hh; omega) | (simp only [IntKind.wrap_i64]; omega) | simp
          | 68, _ =>
            have p99 : fa.eval (.tmp 99) = .string ⟨(Q).toArray⟩ := hp 62 99 _ (by kernel_rfl) rfl rfl
            have p104 : fa.eval (.tmp 104) = .string ⟨(Q).toArray⟩ := hp 67 104 _ (by kernel_rfl) rfl rfl
            simp only [Act.eval] at p99 p104
            refine ⟨_, _, rfl, rfl, .inl ⟨RV.wanted_at (d := 94) rfl fr (by rfl) (hp 57 94 _ (by kernel_rfl) rfl rfl) rfl, .inl ⟨fw, ?_, hG⟩⟩⟩
            simp only [execOp, Act.eval]
            go_simp
            all_goals first | omega | (intro hh; omega) | (simp only [IntKind.wrap_i64]; omega) | simp
          | 69, _ =>
            have p94 : fa.eval (.tmp 94) = .bool false := hp 57 94 _ (by kernel_rfl) rfl rfl
            have p105 : fa.eval (.tmp 105) = .bool false := hp 68 105 _ (by kernel_rfl) rfl rfl
            simp only [Act.eval] at p94 p105
            refine ⟨_, _, rfl, rfl, .inl ⟨RV.wanted_at (d := 39) rfl fr (by rfl) (hp 2 39 _ (by kernel_rfl) rfl rfl) rfl, .inl ⟨fw, ?_, hG⟩⟩⟩
            simp only [execOp, Act.eval]
            go_simp
            all_goals first | omega | (intro hh; omega) | (simp only [IntKind.wrap_i64]; omega) | simp
          | 70, _ =>
            have p39 : fa.eval (.tmp 39) = .bool true := hp 2 39 _ (by kernel_rfl) rfl rfl
            have p106 : fa.eval (.tmp 106) = .bool false := hp 69 106 _ (by kernel_rfl) rfl rfl
            simp only [Act.eval] at p39 p106
            refine ⟨_, _, rfl, rfl, .inl ⟨RV.wanted_none rfl, .inl ⟨fw, ?_, hG⟩⟩⟩
            simp only [execOp, Act.eval]
            go_simp
            all_goals first | omega | (intro hh; omega) | (simp only [IntKind.wrap_i64]; omega) | simp
          | i + 71, hi => exact absurd hi (by show ¬ (i + 71 < 71); omega)
        · intro w2 hG
          simp only [RV.putAll, List.zip_cons_cons, List.zip_nil_left, List.zip_nil_right, List.foldl_cons, List.foldl_nil, Act.put, List.setIfInBounds_toArray, List.set_cons_zero, List.set_cons_succ]
          have HB3 := Lib.hid hG; clear HB; have HB := HB3; clear HB3 hG
          go_wp2_with (first
            | (go_at_call 13; refine (bawake _).mono ?_; rintro e w1 ⟨rfl, hb⟩; have HB2 := Lib.hid (HB.out.trans (hb.mono HB.out.size)); clear hb HB; have HB := HB2; clear HB2)
            | (go_at_call 28; refine (H3.out _).mono ?_; rintro e w1 ⟨rfl, hb⟩; have HB2 := Lib.hid (HB.out.trans (hb.mono HB.out.size)); clear hb HB; have HB := HB2; clear HB2))
          go_ret
          exact ⟨rfl, HB.out⟩
    · have c1 : cutV b0 a1 a2 = [] := by unfold cutV; rw [if_neg he]
      have c2 : clearV b0 a1 a2 = [] := by unfold clearV; rw [if_neg he]
      obtain ⟨ev, hee⟩ : ∃ e, partE b0 a1 a2 = e := ⟨_, rfl⟩
      rw [hee] at he
      have H1 := Lib.hid (fun W : World => show Calls Tryd.prog 24 #[.string ⟨b0.toArray⟩, .int .i64 a1, .int .i64 a2] W fun e w' => e = .returned (.tuple #[.string ⟨([]).toArray⟩, .int .i64 (ev)]) ∧ Below W.heap.size W w' from by
        have h := cut_any W b0 l0 a1 a2 w1 w2
        rwa [c1, hee] at h)
      have H2 := Lib.hid (fun W : World => show Calls Tryd.prog 26 #[.string ⟨b0.toArray⟩, .int .i64 a1, .int .i64 a2] W fun e w' => e = .returned (.tuple #[.string ⟨([]).toArray⟩, .int .i64 (ev)]) ∧ Below W.heap.size W w' from by
        have h := clear_any W b0 l0 a1 a2 w1 w2
        rwa [c2, hee] at h)
      have he0 : (ev == 0) = false := by simpa using he
      clear c1 c2 hee he
      by_cases hg : downE b0 a1 = 0
      · obtain ⟨gB, g1, g2, g3⟩ := downE_zero hg
        obtain ⟨x, rfl⟩ := Int.eq_ofNat_of_zero_le g1
        have hx : x < b0.length := by omega
        have g3 : b0.getD x 0 = 49 := g3
        have hv : downV b0 (x : Int) = downB b0 x := by unfold downV; rw [if_pos hg]; rfl
        obtain ⟨dB, dc, dl⟩ := down_less gB hx g3
        obtain ⟨dv, hdv⟩ : ∃ v, downB b0 x = v := ⟨_, rfl⟩
        rw [hdv] at hv dl dB
        have H3 := Lib.hid (fun W : World => show Calls Tryd.prog 28 #[.string ⟨b0.toArray⟩, .int .i64 (x : Int)] W fun e w' => e = .returned (.tuple #[.string ⟨(dv).toArray⟩, .int .i64 (0)]) ∧ Below W.heap.size W w' from by
          have h := down_any W b0 l0 (x : Int) w1
          rwa [hv, hg] at h)
        obtain ⟨P, hP⟩ : ∃ P, b0.take x = P := ⟨_, rfl⟩
        have hPl : P.length = x := by rw [← hP, List.length_take]; omega
        obtain ⟨k, hk⟩ : ∃ k, b0.length - x - 1 = k := ⟨_, rfl⟩
        obtain ⟨tl, htl⟩ : ∃ q : List UInt8, [48] ++ List.replicate k 49 = q := ⟨_, rfl⟩
        have hdv2 : dv = P ++ tl := by rw [← hdv, ← htl]; unfold downB; rw [hP, hk, List.append_assoc]
        have htll : tl.length = k + 1 := by rw [← htl]; simp
        have z1 : (⟨b0.toArray⟩ : ByteArray).extract 0 x = ⟨P.toArray⟩ := by rw [ext_to, hP]
        have z2 : (⟨dv.toArray⟩ : ByteArray).extract 0 x = ⟨P.toArray⟩ := by rw [ext_to, hdv2, List.take_left' hPl]
        have z3 : (⟨dv.toArray⟩ : ByteArray).extract x dv.length = ⟨tl.toArray⟩ := by rw [ext_from, hdv2, List.drop_left' hPl]
        have z3b : (⟨dv.toArray⟩ : ByteArray).extract x b0.length = ⟨tl.toArray⟩ := by rw [← dl]; exact z3
        have z4 : x ≤ b0.length := by omega
        have z5 : b0.length ≤ 1024 := (isB_iff.1 gB).1
        have z6 : ∀ W : World, (Instr.index 9 (.string ⟨b0.toArray⟩) (.int .i64 (x : Int))).run Tryd.prog W = .ok (.int .u8 49) W := fun W => by
          have := str_at b0 9 strU .i64 x hx W
          unfold str bat at this
          rw [g3] at this
          exact this
        have z7 : ((b0.length : Nat) : Int) - (x : Int) = ((k + 1 : Nat) : Int) := by omega
        have z8 : (((k + 1 : Nat) : Int)) - 1 = (k : Int) := by omega
        have HP2 := Lib.hid (fun W : World => lpart_yes W b0 l0 x 1 (Nat.le_refl _) (by omega))
        have htB : isB tl = true := by
          refine isB_iff.2 ⟨by omega, ?_⟩
          rw [← htl, bitsL_append, bitsL_rep _ (by decide)]; rfl
        have htn : numB tl + 1 = 2 ^ k := by
          have h0 := numB_ones k
          rw [← htl]
          show ((48 : UInt8).toNat - 48) * _ + numB _ + 1 = _
          have : (48 : UInt8).toNat - 48 = 0 := rfl
          rw [this, Nat.zero_mul, Nat.zero_add]; exact h0
        have mtl : tl.length ≤ maxLen := by unfold maxLen; omega
        clear hv hg hdv hdv2 dB dc gB g1 g2 g3 hP hPl htl
        by_cases hbig : 63 < k + 1
        · have hk63 : ((63 : Int) < ((k + 1 : Nat) : Int)) := by omega
          clear htn htB
          go_enter Tryd.func11, Tryd.ntmps11
          go_wp2_with (first
            | (go_at_call 13; refine (bawake _).mono ?_; rintro e w1 ⟨rfl, hb⟩; have HB2 := Lib.hid (HB.out.trans (hb.mono HB.out.size)); clear hb HB; have HB := HB2; clear HB2)
            | (go_at_call 24; refine (H1.out _).mono ?_; rintro e w1 ⟨rfl, hb⟩; have HB2 := Lib.hid (HB.out.trans (hb.mono HB.out.size)); clear hb HB; have HB := HB2; clear HB2)
            | (go_at_call 26; refine (H2.out _).mono ?_; rintro e w1 ⟨rfl, hb⟩; have HB2 := Lib.hid (HB.out.trans (hb.mono HB.out.size)); clear hb HB; have HB := HB2; clear HB2))
          refine RV.wp_region_g (by kernel_rfl) [37, 38, 39, 40, 41, 42, 43, 44, 45, 46, 47, 48, 49, 50, 51, 52, 53, 54, 55, 56, 57, 58, 59, 60, 61, 62, 63, 64, 65, 66, 67, 68, 69, 70, 71, 72, 73, 74, 75, 76, 77, 78, 79, 80, 81, 82, 83, 84, 85, 86, 87, 88, 89, 90, 91, 92, 93, 94, 95, 96, 97, 98, 99, 100, 101, 102, 103, 104, 105, 106, 107] [.int .i64 (ev), .bool false, .bool false, undef, undef, undef, undef, undef, undef, undef, undef, undef, undef, undef, undef, undef, undef, undef, undef, undef, undef, undef, undef, undef, undef, undef, undef, undef, undef, undef, undef, undef, undef, undef, undef, undef, undef, undef, undef, undef, undef, undef, undef, undef, undef, undef, undef, undef, undef, undef, undef, undef, undef, undef, undef, undef, undef, undef, undef, undef, undef, undef, undef, undef, undef, undef, undef, undef, undef, undef, .bool false] (fun W => Below w.heap.size w W) (by kernel_rfl) rfl (by decide) rfl (by kernel_rfl) (HB.out.drew) ?_ ?_
          · intro ii hii fa fw fr hp hG
            match ii, hii with
            | 0, _ =>
              have p8 : fa.eval (.tmp 8) = .int .i64 (ev) := (fr.out 8 (by decide)).trans rfl
              simp only [Act.eval] at p8
              refine ⟨_, _, rfl, rfl, .inl ⟨RV.wanted_none rfl, .inl ⟨fw, ?_, hG⟩⟩⟩
              simp only [execOp, Act.eval]
              go_simp
              all_goals first | omega | (intro hh; omega) | (simp only [IntKind.wrap_i64]; omega) | simp
            | 1, _ =>
              have p37 : fa.eval (.tmp 37) = .int .i64 (ev) := hp 0 37 _ (by kernel_rfl) rfl rfl
              simp only [Act.eval] at p37
              refine ⟨_, _, rfl, rfl, .inl ⟨RV.wanted_none rfl, .inl ⟨fw, ?_, hG⟩⟩⟩
              simp only [execOp, Act.eval]
              go_simp
              all_goals first | omega | (intro hh; omega) | (simp only [IntKind.wrap_i64]; omega) | simp
            | 2, _ =>
              have p38 : fa.eval (.tmp 38) = .bool false := hp 1 38 _ (by kernel_rfl) rfl rfl
              simp only [Act.eval] at p38
              refine ⟨_, _, rfl, rfl, .inl ⟨RV.wanted_none rfl, .inl ⟨fw, ?_, hG⟩⟩⟩
              simp only [execOp, Act.eval]
              go_simp
              all_goals first | omega | (intro hh; omega) | (simp only [IntKind.wrap_i64]; omega) | simp
            | 3, _ =>
              exact ⟨_, _, rfl, rfl, .inr ⟨RV.wanted_no (d := 39) rfl fr (by rfl) (hp 2 39 _ (by kernel_rfl) rfl rfl) (.inl rfl) rfl, rfl⟩⟩
            | 4, _ =>
              exact ⟨_, _, rfl, rfl, .inr ⟨RV.wanted_no (d := 39) rfl fr (by rfl) (hp 2 39 _ (by kernel_rfl) rfl rfl) (.inl rfl) rfl, rfl⟩⟩
            | 5, _ =>
              exact ⟨_, _, rfl, rfl, .inr ⟨RV.wanted_no (d := 39) rfl fr (by rfl) (hp 2 39 _ (by kernel_rfl) rfl rfl) (.inl rfl) rfl, rfl⟩⟩
            | 6, _ =>
              exact ⟨_, _, rfl, rfl, .inr ⟨RV.wanted_no (d := 42) rfl fr (by rfl) (hp 5 42 _ (by kernel_rfl) rfl rfl) (.inr rfl) rfl, rfl⟩⟩
            | 7, _ =>
              exact ⟨_, _, rfl, rfl, .inr ⟨RV.wanted_no (d := 42) rfl fr (by rfl) (hp 5 42 _ (by kernel_rfl) rfl rfl) (.inr rfl) rfl, rfl⟩⟩
            | 8, _ =>
              exact ⟨_, _, rfl, rfl, .inr ⟨RV.wanted_no (d := 42) rfl fr (by rfl) (hp 5 42 _ (by kernel_rfl) rfl rfl) (.inr rfl) rfl, rfl⟩⟩
            | 9, _ =>
              exact ⟨_, _, rfl, rfl, .inr ⟨RV.wanted_no (d := 42) rfl fr (by rfl) (hp 5 42 _ (by kernel_rfl) rfl rfl) (.inr rfl) rfl, rfl⟩⟩
            | 10, _ =>
              exact ⟨_, _, rfl, rfl, .inr ⟨RV.wanted_no (d := 42) rfl fr (by rfl) (hp 5 42 _ (by kernel_rfl) rfl rfl) (.inr rfl) rfl, rfl⟩⟩
            | 11, _ =>
              exact ⟨_, _, rfl, rfl, .inr ⟨RV.wanted_no (d := 39) rfl fr (by rfl) (hp 2 39 _ (by kernel_rfl) rfl rfl) (.inl rfl) rfl, rfl⟩⟩
            | 12, _ =>
              exact ⟨_, _, rfl, rfl, .inr ⟨RV.wanted_no (d := 39) rfl fr (by rfl) (hp 2 39 _ (by kernel_rfl) rfl rfl) (.inl rfl) rfl, rfl⟩⟩
            | 13, _ =>
              exact ⟨_, _, rfl, rfl, .inr ⟨RV.wanted_no (d := 49) rfl fr (by rfl) (hp 12 49 _ (by kernel_rfl) rfl rfl) (.inr rfl) rfl, rfl⟩⟩
            | 14, _ =>
              exact ⟨_, _, rfl, rfl, .inr ⟨RV.wanted_no (d := 49) rfl fr (by rfl) (hp 12 49 _ (by kernel_rfl) rfl rfl) (.inr rfl) rfl, rfl⟩⟩
            | 15, _ =>
              exact ⟨_, _, rfl, rfl, .inr ⟨RV.wanted_no (d := 49) rfl fr (by rfl) (hp 12 49 _ (by kernel_rfl) rfl rfl) (.inr rfl) rfl, rfl⟩⟩
            | 16, _ =>
              exact ⟨_, _, rfl, rfl, .inr ⟨RV.wanted_no (d := 49) rfl fr (by rfl) (hp 12 49 _ (by kernel_rfl) rfl rfl) (.inr rfl) rfl, rfl⟩⟩
            | 17, _ =>
              exact ⟨_, _, rfl, rfl, .inr ⟨RV.wanted_no (d := 49) rfl fr (by rfl) (hp 12 49 _ (by kernel_rfl) rfl rfl) (.inr rfl) rfl, rfl⟩⟩
            | 18, _ =>
              exact ⟨_, _, rfl, rfl, .inr ⟨RV.wanted_no (d := 49) rfl fr (by rfl) (hp 12 49 _ (by kernel_rfl) rfl rfl) (.inr rfl) rfl, rfl⟩⟩
            | 19, _ =>
              exact ⟨_, _, rfl, rfl, .inr ⟨RV.wanted_no (d := 49) rfl fr (by rfl) (hp 12 49 _ (by kernel_rfl) rfl rfl) (.inr rfl) rfl, rfl⟩⟩
            | 20, _ =>
              exact ⟨_, _, rfl, rfl, .inr ⟨RV.wanted_no (d := 39) rfl fr (by rfl) (hp 2 39 _ (by kernel_rfl) rfl rfl) (.inl rfl) rfl, rfl⟩⟩
            | 21, _ =>
              exact ⟨_, _, rfl, rfl, .inr ⟨RV.wanted_no (d := 39) rfl fr (by rfl) (hp 2 39 _ (by kernel_rfl) rfl rfl) (.inl rfl) rfl, rfl⟩⟩
            | 22, _ =>
              exact ⟨_, _, rfl, rfl, .inr ⟨RV.wanted_no (d := 58) rfl fr (by rfl) (hp 21 58 _ (by kernel_rfl) rfl rfl) (.inr rfl) rfl, rfl⟩⟩
            | 23, _ =>
              exact ⟨_, _, rfl, rfl, .inr ⟨RV.wanted_no (d := 58) rfl fr (by rfl) (hp 21 58 _ (by kernel_rfl) rfl rfl) (.inr rfl) rfl, rfl⟩⟩
            | 24, _ =>
              exact ⟨_, _, rfl, rfl, .inr ⟨RV.wanted_no (d := 58) rfl fr (by rfl) (hp 21 58 _ (by kernel_rfl) rfl rfl) (.inr rfl) rfl, rfl⟩⟩
            | 25, _ =>
              exact ⟨_, _, rfl, rfl, .inr ⟨RV.wanted_no (d := 58) rfl fr (by rfl) (hp 21 58 _ (by kernel_rfl) rfl rfl) (.inr rfl) rfl, rfl⟩⟩
            | 26, _ =>
              exact ⟨_, _, rfl, rfl, .inr ⟨RV.wanted_no (d := 58) rfl fr (by rfl) (hp 21 58 _ (by kernel_rfl) rfl rfl) (.inr rfl) rfl, rfl⟩⟩
            | 27, _ =>
              exact ⟨_, _, rfl, rfl, .inr ⟨RV.wanted_no (d := 39) rfl fr (by rfl) (hp 2 39 _ (by kernel_rfl) rfl rfl) (.inl rfl) rfl, rfl⟩⟩
            | 28, _ =>
              exact ⟨_, _, rfl, rfl, .inr ⟨RV.wanted_no (d := 39) rfl fr (by rfl) (hp 2 39 _ (by kernel_rfl) rfl rfl) (.inl rfl) rfl, rfl⟩⟩
            | 29, _ =>
              exact ⟨_, _, rfl, rfl, .inr ⟨RV.wanted_no (d := 65) rfl fr (by rfl) (hp 28 65 _ (by kernel_rfl) rfl rfl) (.inr rfl) rfl, rfl⟩⟩
            | 30, _ =>
              exact ⟨_, _, rfl, rfl, .inr ⟨RV.wanted_no (d := 65) rfl fr (by rfl) (hp 28 65 _ (by kernel_rfl) rfl rfl) (.inr rfl) rfl, rfl⟩⟩
            | 31, _ =>
              exact ⟨_, _, rfl, rfl, .inr ⟨RV.wanted_no (d := 65) rfl fr (by rfl) (hp 28 65 _ (by kernel_rfl) rfl rfl) (.inr rfl) rfl, rfl⟩⟩
            | 32, _ =>
              exact ⟨_, _, rfl, rfl, .inr ⟨RV.wanted_no (d := 65) rfl fr (by rfl) (hp 28 65 _ (by kernel_rfl) rfl rfl) (.inr rfl) rfl, rfl⟩⟩
            | 33, _ =>
              exact ⟨_, _, rfl, rfl, .inr ⟨RV.wanted_no (d := 65) rfl fr (by rfl) (hp 28 65 _ (by kernel_rfl) rfl rfl) (.inr rfl) rfl, rfl⟩⟩
            | 34, _ =>
              exact ⟨_, _, rfl, rfl, .inr ⟨RV.wanted_no (d := 65) rfl fr (by rfl) (hp 28 65 _ (by kernel_rfl) rfl rfl) (.inr rfl) rfl, rfl⟩⟩
            | 35, _ =>
              exact ⟨_, _, rfl, rfl, .inr ⟨RV.wanted_no (d := 65) rfl fr (by rfl) (hp 28 65 _ (by kernel_rfl) rfl rfl) (.inr rfl) rfl, rfl⟩⟩
            | 36, _ =>
              exact ⟨_, _, rfl, rfl, .inr ⟨RV.wanted_no (d := 39) rfl fr (by rfl) (hp 2 39 _ (by kernel_rfl) rfl rfl) (.inl rfl) rfl, rfl⟩⟩
            | 37, _ =>
              exact ⟨_, _, rfl, rfl, .inr ⟨RV.wanted_no (d := 39) rfl fr (by rfl) (hp 2 39 _ (by kernel_rfl) rfl rfl) (.inl rfl) rfl, rfl⟩⟩
            | 38, _ =>
              exact ⟨_, _, rfl, rfl, .inr ⟨RV.wanted_no (d := 74) rfl fr (by rfl) (hp 37 74 _ (by kernel_rfl) rfl rfl) (.inr rfl) rfl, rfl⟩⟩
            | 39, _ =>
              exact ⟨_, _, rfl, rfl, .inr ⟨RV.wanted_no (d := 74) rfl fr (by rfl) (hp 37 74 _ (by kernel_rfl) rfl rfl) (.inr rfl) rfl, rfl⟩⟩
            | 40, _ =>
              exact ⟨_, _, rfl, rfl, .inr ⟨RV.wanted_no (d := 74) rfl fr (by rfl) (hp 37 74 _ (by kernel_rfl) rfl rfl) (.inr rfl) rfl, rfl⟩⟩
            | 41, _ =>
              exact ⟨_, _, rfl, rfl, .inr ⟨RV.wanted_no (d := 74) rfl fr (by rfl) (hp 37 74 _ (by kernel_rfl) rfl rfl) (.inr rfl) rfl, rfl⟩⟩
            | 42, _ =>
              exact ⟨_, _, rfl, rfl, .inr ⟨RV.wanted_no (d := 74) rfl fr (by rfl) (hp 37 74 _ (by kernel_rfl) rfl rfl) (.inr rfl) rfl, rfl⟩⟩
            | 43, _ =>
              exact ⟨_, _, rfl, rfl, .inr ⟨RV.wanted_no (d := 74) rfl fr (by rfl) (hp 37 74 _ (by kernel_rfl) rfl rfl) (.inr rfl) rfl, rfl⟩⟩
            | 44, _ =>
              exact ⟨_, _, rfl, rfl, .inr ⟨RV.wanted_no (d := 74) rfl fr (by rfl) (hp 37 74 _ (by kernel_rfl) rfl rfl) (.inr rfl) rfl, rfl⟩⟩
            | 45, _ =>
              exact ⟨_, _, rfl, rfl, .inr ⟨RV.wanted_no (d := 74) rfl fr (by rfl) (hp 37 74 _ (by kernel_rfl) rfl rfl) (.inr rfl) rfl, rfl⟩⟩
            | 46, _ =>
              exact ⟨_, _, rfl, rfl, .inr ⟨RV.wanted_no (d := 74) rfl fr (by rfl) (hp 37 74 _ (by kernel_rfl) rfl rfl) (.inr rfl) rfl, rfl⟩⟩
            | 47, _ =>
              exact ⟨_, _, rfl, rfl, .inr ⟨RV.wanted_no (d := 39) rfl fr (by rfl) (hp 2 39 _ (by kernel_rfl) rfl rfl) (.inl rfl) rfl, rfl⟩⟩
            | 48, _ =>
              exact ⟨_, _, rfl, rfl, .inr ⟨RV.wanted_no (d := 39) rfl fr (by rfl) (hp 2 39 _ (by kernel_rfl) rfl rfl) (.inl rfl) rfl, rfl⟩⟩
            | 49, _ =>
              exact ⟨_, _, rfl, rfl, .inr ⟨RV.wanted_no (d := 85) rfl fr (by rfl) (hp 48 85 _ (by kernel_rfl) rfl rfl) (.inr rfl) rfl, rfl⟩⟩
            | 50, _ =>
              exact ⟨_, _, rfl, rfl, .inr ⟨RV.wanted_no (d := 85) rfl fr (by rfl) (hp 48 85 _ (by kernel_rfl) rfl rfl) (.inr rfl) rfl, rfl⟩⟩
            | 51, _ =>
              exact ⟨_, _, rfl, rfl, .inr ⟨RV.wanted_no (d := 85) rfl fr (by rfl) (hp 48 85 _ (by kernel_rfl) rfl rfl) (.inr rfl) rfl, rfl⟩⟩
            | 52, _ =>
              exact ⟨_, _, rfl, rfl, .inr ⟨RV.wanted_no (d := 85) rfl fr (by rfl) (hp 48 85 _ (by kernel_rfl) rfl rfl) (.inr rfl) rfl, rfl⟩⟩
            | 53, _ =>
              exact ⟨_, _, rfl, rfl, .inr ⟨RV.wanted_no (d := 85) rfl fr (by rfl) (hp 48 85 _ (by kernel_rfl) rfl rfl) (.inr rfl) rfl, rfl⟩⟩
            | 54, _ =>
              exact ⟨_, _, rfl, rfl, .inr ⟨RV.wanted_no (d := 85) rfl fr (by rfl) (hp 48 85 _ (by kernel_rfl) rfl rfl) (.inr rfl) rfl, rfl⟩⟩
            | 55, _ =>
              exact ⟨_, _, rfl, rfl, .inr ⟨RV.wanted_no (d := 85) rfl fr (by rfl) (hp 48 85 _ (by kernel_rfl) rfl rfl) (.inr rfl) rfl, rfl⟩⟩
            | 56, _ =>
              exact ⟨_, _, rfl, rfl, .inr ⟨RV.wanted_no (d := 39) rfl fr (by rfl) (hp 2 39 _ (by kernel_rfl) rfl rfl) (.inl rfl) rfl, rfl⟩⟩
            | 57, _ =>
              exact ⟨_, _, rfl, rfl, .inr ⟨RV.wanted_no (d := 39) rfl fr (by rfl) (hp 2 39 _ (by kernel_rfl) rfl rfl) (.inl rfl) rfl, rfl⟩⟩
            | 58, _ =>
              exact ⟨_, _, rfl, rfl, .inr ⟨RV.wanted_no (d := 94) rfl fr (by rfl) (hp 57 94 _ (by kernel_rfl) rfl rfl) (.inr rfl) rfl, rfl⟩⟩
            | 59, _ =>
              exact ⟨_, _, rfl, rfl, .inr ⟨RV.wanted_no (d := 94) rfl fr (by rfl) (hp 57 94 _ (by kernel_rfl) rfl rfl) (.inr rfl) rfl, rfl⟩⟩
            | 60, _ =>
              exact ⟨_, _, rfl, rfl, .inr ⟨RV.wanted_no (d := 94) rfl fr (by rfl) (hp 57 94 _ (by kernel_rfl) rfl rfl) (.inr rfl) rfl, rfl⟩⟩
            | 61, _ =>
              exact ⟨_, _, rfl, rfl, .inr ⟨RV.wanted_no (d := 94) rfl fr (by rfl) (hp 57 94 _ (by kernel_rfl) rfl rfl) (.inr rfl) rfl, rfl⟩⟩
            | 62, _ =>
              exact ⟨_, _, rfl, rfl, .inr ⟨RV.wanted_no (d := 94) rfl fr (by rfl) (hp 57 94 _ (by kernel_rfl) rfl rfl) (.inr rfl) rfl, rfl⟩⟩
            | 63, _ =>
              exact ⟨_, _, rfl, rfl, .inr ⟨RV.wanted_no (d := 94) rfl fr (by rfl) (hp 57 94 _ (by kernel_rfl) rfl rfl) (.inr rfl) rfl, rfl⟩⟩
            | 64, _ =>
              exact ⟨_, _, rfl, rfl, .inr ⟨RV.wanted_no (d := 94) rfl fr (by rfl) (hp 57 94 _ (by kernel_rfl) rfl rfl) (.inr rfl) rfl, rfl⟩⟩
            | 65, _ =>
              exact ⟨_, _, rfl, rfl, .inr ⟨RV.wanted_no (d := 94) rfl fr (by rfl) (hp 57 94 _ (by kernel_rfl) rfl rfl) (.inr rfl) rfl, rfl⟩⟩
            | 66, _ =>
              exact ⟨_, _, rfl, rfl, .inr ⟨RV.wanted_no (d := 94) rfl fr (by rfl) (hp 57 94 _ (by kernel_rfl) rfl rfl) (.inr rfl) rfl, rfl⟩⟩
            | 67, _ =>
              exact ⟨_, _, rfl, rfl, .inr ⟨RV.wanted_no (d := 94) rfl fr (by rfl) (hp 57 94 _ (by kernel_rfl) rfl rfl) (.inr rfl) rfl, rfl⟩⟩
            | 68, _ =>
              exact ⟨_, _, rfl, rfl, .inr ⟨RV.wanted_no (d := 94) rfl fr (by rfl) (hp 57 94 _ (by kernel_rfl) rfl rfl) (.inr rfl) rfl, rfl⟩⟩
            | 69, _ =>
              exact ⟨_, _, rfl, rfl, .inr ⟨RV.wanted_no (d := 39) rfl fr (by rfl) (hp 2 39 _ (by kernel_rfl) rfl rfl) (.inl rfl) rfl, rfl⟩⟩
            | 70, _ =>
              have p39 : fa.eval (.tmp 39) = .bool false := hp 2 39 _ (by kernel_rfl) rfl rfl
              have p106 : fa.eval (.tmp 106) = undef := hp 69 106 _ (by kernel_rfl) rfl rfl
              simp only [Act.eval] at p39 p106
              refine ⟨_, _, rfl, rfl, .inl ⟨RV.wanted_none rfl, .inl ⟨fw, ?_, hG⟩⟩⟩
              simp only [execOp, Act.eval]
              go_simp
              all_goals first | omega | (intro hh; omega) | (simp only [IntKind.wrap_i64]; omega) | simp
            | i + 71, hi => exact absurd hi (by show ¬ (i + 71 < 71); omega)
          · intro w2 hG
            simp only [RV.putAll, List.zip_cons_cons, List.zip_nil_left, List.zip_nil_right, List.foldl_cons, List.foldl_nil, Act.put, List.setIfInBounds_toArray, List.set_cons_zero, List.set_cons_succ]
            have HB3 := Lib.hid hG; clear HB; have HB := HB3; clear HB3 hG
            go_wp2_with (first
              | (go_at_call 13; refine (bawake _).mono ?_; rintro e w1 ⟨rfl, hb⟩; have HB2 := Lib.hid (HB.out.trans (hb.mono HB.out.size)); clear hb HB; have HB := HB2; clear HB2)
              | (go_at_call 28; refine (H3.out _).mono ?_; rintro e w1 ⟨rfl, hb⟩; have HB2 := Lib.hid (HB.out.trans (hb.mono HB.out.size)); clear hb HB; have HB := HB2; clear HB2))
            refine RV.wp_region_g (by kernel_rfl) [118, 119, 120, 121, 122, 123, 124, 125, 126, 127, 128, 129, 130, 131, 132, 133, 134, 135, 136, 137, 138, 139, 140, 141, 142, 143] [.string ⟨(b0).toArray⟩, .int .i64 (x : Nat), .bool true, .bool false, .bool false, .string ⟨(dv).toArray⟩, .int .i64 (b0.length : Nat), .string ⟨(b0).toArray⟩, .int .i64 (b0.length : Nat), .bool false, .bool false, .bool false, .string ⟨(dv).toArray⟩, .int .i64 (x : Nat), .string ⟨(P).toArray⟩, .string ⟨(b0).toArray⟩, .int .i64 (x : Nat), .string ⟨(P).toArray⟩, .bool false, .bool false, .bool false, .string ⟨(b0).toArray⟩, .int .i64 (x : Nat), .int .u8 49, .bool false, .bool false] (fun W => Below w.heap.size w W) (by kernel_rfl) rfl (by decide) rfl (by kernel_rfl) (HB.out.drew) ?_ ?_
            · intro ii hii fa fw fr hp hG
              match ii, hii with
              | 0, _ =>
                have p0 : fa.eval (.tmp 0) = .string ⟨(b0).toArray⟩ := (fr.out 0 (by decide)).trans rfl
                simp only [Act.eval] at p0
                refine ⟨_, _, rfl, rfl, .inl ⟨RV.wanted_none rfl, .inl ⟨fw, ?_, hG⟩⟩⟩
                simp only [execOp, Act.eval]
                go_simp
                all_goals first | omega | (intro hh; omega) | (simp only [IntKind.wrap_i64]; omega) | simp
              | 1, _ =>
                have p1 : fa.eval (.tmp 1) = .int .i64 (x : Nat) := (fr.out 1 (by decide)).trans rfl
                simp only [Act.eval] at p1
                refine ⟨_, _, rfl, rfl, .inl ⟨RV.wanted_none rfl, .inl ⟨fw, ?_, hG⟩⟩⟩
                simp only [execOp, Act.eval]
                go_simp
                all_goals first | omega | (intro hh; omega) | (simp only [IntKind.wrap_i64]; omega) | simp
              | 2, _ =>
                have p118 : fa.eval (.tmp 118) = .string ⟨(b0).toArray⟩ := hp 0 118 _ (by kernel_rfl) rfl rfl
                have p119 : fa.eval (.tmp 119) = .int .i64 (x : Nat) := hp 1 119 _ (by kernel_rfl) rfl rfl
                have hv : (#[Operand.tmp 118, Operand.tmp 119, Operand.const (Value.int IntKind.i64 1)] : Array Operand).map fa.eval = #[(.string ⟨(b0).toArray⟩), (.int .i64 (x : Nat)), (Value.int IntKind.i64 1)] := by simp only [List.map_toArray, List.map_cons, List.map_nil, p118, p119]; rfl
                exact ⟨_, _, rfl, rfl, .inl ⟨RV.wanted_none rfl, RV.yields_call_g hv Tryd.func32 (by kernel_rfl) rfl (HP2.out fw) (fun e w2 h => ⟨h.1, by have h2 := h.2; subst h2; exact hG⟩)⟩⟩
              | 3, _ =>
                have p120 : fa.eval (.tmp 120) = .bool true := hp 2 120 _ (by kernel_rfl) rfl rfl
                simp only [Act.eval] at p120
                refine ⟨_, _, rfl, rfl, .inl ⟨RV.wanted_none rfl, .inl ⟨fw, ?_, hG⟩⟩⟩
                simp only [execOp, Act.eval]
                go_simp
                all_goals first | omega | (intro hh; omega) | (simp only [IntKind.wrap_i64]; omega) | simp
              | 4, _ =>
                have p121 : fa.eval (.tmp 121) = .bool false := hp 3 121 _ (by kernel_rfl) rfl rfl
                simp only [Act.eval] at p121
                refine ⟨_, _, rfl, rfl, .inl ⟨RV.wanted_none rfl, .inl ⟨fw, ?_, hG⟩⟩⟩
                simp only [execOp, Act.eval]
                go_simp
                all_goals first | omega | (intro hh; omega) | (simp only [IntKind.wrap_i64]; omega) | simp
              | 5, _ =>
                have p11 : fa.eval (.tmp 11) = .string ⟨(dv).toArray⟩ := (fr.out 11 (by decide)).trans rfl
                simp only [Act.eval] at p11
                refine ⟨_, _, rfl, rfl, .inl ⟨RV.wanted_at (d := 122) rfl fr (by rfl) (hp 4 122 _ (by kernel_rfl) rfl rfl) rfl, .inl ⟨fw, ?_, hG⟩⟩⟩
                simp only [execOp, Act.eval]
                go_simp
                all_goals first | omega | (intro hh; omega) | (simp only [IntKind.wrap_i64]; omega) | simp
              | 6, _ =>
                have p123 : fa.eval (.tmp 123) = .string ⟨(dv).toArray⟩ := hp 5 123 _ (by kernel_rfl) rfl rfl
                simp only [Act.eval] at p123
                refine ⟨_, _, rfl, rfl, .inl ⟨RV.wanted_at (d := 122) rfl fr (by rfl) (hp 4 122 _ (by kernel_rfl) rfl rfl) rfl, .inl ⟨fw, ?_, hG⟩⟩⟩
                simp only [execOp, Act.eval]
                go_simp
                all_goals first | omega | exact dl | simp [dl]
              | 7, _ =>
                have p0 : fa.eval (.tmp 0) = .string ⟨(b0).toArray⟩ := (fr.out 0 (by decide)).trans rfl
                simp only [Act.eval] at p0
                refine ⟨_, _, rfl, rfl, .inl ⟨RV.wanted_at (d := 122) rfl fr (by rfl) (hp 4 122 _ (by kernel_rfl) rfl rfl) rfl, .inl ⟨fw, ?_, hG⟩⟩⟩
                simp only [execOp, Act.eval]
                go_simp
                all_goals first | omega | (intro hh; omega) | (simp only [IntKind.wrap_i64]; omega) | simp
              | 8, _ =>
                have p125 : fa.eval (.tmp 125) = .string ⟨(b0).toArray⟩ := hp 7 125 _ (by kernel_rfl) rfl rfl
                simp only [Act.eval] at p125
                refine ⟨_, _, rfl, rfl, .inl ⟨RV.wanted_at (d := 122) rfl fr (by rfl) (hp 4 122 _ (by kernel_rfl) rfl rfl) rfl, .inl ⟨fw, ?_, hG⟩⟩⟩
                simp only [execOp, Act.eval]
                go_simp
                all_goals first | omega | (intro hh; omega) | (simp only [IntKind.wrap_i64]; omega) | simp
              | 9, _ =>
                have p124 : fa.eval (.tmp 124) = .int .i64 (b0.length : Nat) := hp 6 124 _ (by kernel_rfl) rfl rfl
                have p126 : fa.eval (.tmp 126) = .int .i64 (b0.length : Nat) := hp 8 126 _ (by kernel_rfl) rfl rfl
                simp only [Act.eval] at p124 p126
                refine ⟨_, _, rfl, rfl, .inl ⟨RV.wanted_at (d := 122) rfl fr (by rfl) (hp 4 122 _ (by kernel_rfl) rfl rfl) rfl, .inl ⟨fw, ?_, hG⟩⟩⟩
                simp only [execOp, Act.eval]
                go_simp
                all_goals first | omega | (intro hh; omega) | (simp only [IntKind.wrap_i64]; omega) | simp
              | 10, _ =>
                have p122 : fa.eval (.tmp 122) = .bool false := hp 4 122 _ (by kernel_rfl) rfl rfl
                have p127 : fa.eval (.tmp 127) = .bool false := hp 9 127 _ (by kernel_rfl) rfl rfl
                simp only [Act.eval] at p122 p127
                refine ⟨_, _, rfl, rfl, .inl ⟨RV.wanted_none rfl, .inl ⟨fw, ?_, hG⟩⟩⟩
                simp only [execOp, Act.eval]
                go_simp
                all_goals first | omega | (intro hh; omega) | (simp only [IntKind.wrap_i64]; omega) | simp
              | 11, _ =>
                have p128 : fa.eval (.tmp 128) = .bool false := hp 10 128 _ (by kernel_rfl) rfl rfl
                simp only [Act.eval] at p128
                refine ⟨_, _, rfl, rfl, .inl ⟨RV.wanted_none rfl, .inl ⟨fw, ?_, hG⟩⟩⟩
                simp only [execOp, Act.eval]
                go_simp
                all_goals first | omega | (intro hh; omega) | (simp only [IntKind.wrap_i64]; omega) | simp
              | 12, _ =>
                have p11 : fa.eval (.tmp 11) = .string ⟨(dv).toArray⟩ := (fr.out 11 (by decide)).trans rfl
                simp only [Act.eval] at p11
                refine ⟨_, _, rfl, rfl, .inl ⟨RV.wanted_at (d := 129) rfl fr (by rfl) (hp 11 129 _ (by kernel_rfl) rfl rfl) rfl, .inl ⟨fw, ?_, hG⟩⟩⟩
                simp only [execOp, Act.eval]
                go_simp
                all_goals first | omega | (intro hh; omega) | (simp only [IntKind.wrap_i64]; omega) | simp
              | 13, _ =>
                have p1 : fa.eval (.tmp 1) = .int .i64 (x : Nat) := (fr.out 1 (by decide)).trans rfl
                simp only [Act.eval] at p1
                refine ⟨_, _, rfl, rfl, .inl ⟨RV.wanted_at (d := 129) rfl fr (by rfl) (hp 11 129 _ (by kernel_rfl) rfl rfl) rfl, .inl ⟨fw, ?_, hG⟩⟩⟩
                simp only [execOp, Act.eval]
                go_simp
                all_goals first | omega | (intro hh; omega) | (simp only [IntKind.wrap_i64]; omega) | simp
              | 14, _ =>
                have p130 : fa.eval (.tmp 130) = .string ⟨(dv).toArray⟩ := hp 12 130 _ (by kernel_rfl) rfl rfl
                have p131 : fa.eval (.tmp 131) = .int .i64 (x : Nat) := hp 13 131 _ (by kernel_rfl) rfl rfl
                simp only [Act.eval] at p130 p131
                refine ⟨_, _, rfl, rfl, .inl ⟨RV.wanted_at (d := 129) rfl fr (by rfl) (hp 11 129 _ (by kernel_rfl) rfl rfl) rfl, .inl ⟨fw, ?_, hG⟩⟩⟩
                simp only [execOp, Act.eval]
                go_simp
                all_goals first | omega | (intro hh; omega) | (simp only [IntKind.wrap_i64]; omega) | simp
              | 15, _ =>
                have p0 : fa.eval (.tmp 0) = .string ⟨(b0).toArray⟩ := (fr.out 0 (by decide)).trans rfl
                simp only [Act.eval] at p0
                refine ⟨_, _, rfl, rfl, .inl ⟨RV.wanted_at (d := 129) rfl fr (by rfl) (hp 11 129 _ (by kernel_rfl) rfl rfl) rfl, .inl ⟨fw, ?_, hG⟩⟩⟩
                simp only [execOp, Act.eval]
                go_simp
                all_goals first | omega | (intro hh; omega) | (simp only [IntKind.wrap_i64]; omega) | simp
              | 16, _ =>
                have p1 : fa.eval (.tmp 1) = .int .i64 (x : Nat) := (fr.out 1 (by decide)).trans rfl
                simp only [Act.eval] at p1
                refine ⟨_, _, rfl, rfl, .inl ⟨RV.wanted_at (d := 129) rfl fr (by rfl) (hp 11 129 _ (by kernel_rfl) rfl rfl) rfl, .inl ⟨fw, ?_, hG⟩⟩⟩
                simp only [execOp, Act.eval]
                go_simp
                all_goals first | omega | (intro hh; omega) | (simp only [IntKind.wrap_i64]; omega) | simp
              | 17, _ =>
                have p133 : fa.eval (.tmp 133) = .string ⟨(b0).toArray⟩ := hp 15 133 _ (by kernel_rfl) rfl rfl
                have p134 : fa.eval (.tmp 134) = .int .i64 (x : Nat) := hp 16 134 _ (by kernel_rfl) rfl rfl
                simp only [Act.eval] at p133 p134
                refine ⟨_, _, rfl, rfl, .inl ⟨RV.wanted_at (d := 129) rfl fr (by rfl) (hp 11 129 _ (by kernel_rfl) rfl rfl) rfl, .inl ⟨fw, ?_, hG⟩⟩⟩
                simp only [execOp, Act.eval]
                go_simp
                all_goals first | omega | (intro hh; omega) | (simp only [IntKind.wrap_i64]; omega) | simp
              | 18, _ =>
                have p132 : fa.eval (.tmp 132) = .string ⟨(P).toArray⟩ := hp 14 132 _ (by kernel_rfl) rfl rfl
                have p135 : fa.eval (.tmp 135) = .string ⟨(P).toArray⟩ := hp 17 135 _ (by kernel_rfl) rfl rfl
                simp only [Act.eval] at p132 p135
                refine ⟨_, _, rfl, rfl, .inl ⟨RV.wanted_at (d := 129) rfl fr (by rfl) (hp 11 129 _ (by kernel_rfl) rfl rfl) rfl, .inl ⟨fw, ?_, hG⟩⟩⟩
                simp only [execOp, Act.eval]
                go_simp
                all_goals first | omega | (intro hh; omega) | (simp only [IntKind.wrap_i64]; omega) | simp
              | 19, _ =>
                have p129 : fa.eval (.tmp 129) = .bool false := hp 11 129 _ (by kernel_rfl) rfl rfl
                have p136 : fa.eval (.tmp 136) = .bool false := hp 18 136 _ (by kernel_rfl) rfl rfl
                simp only [Act.eval] at p129 p136
                refine ⟨_, _, rfl, rfl, .inl ⟨RV.wanted_none rfl, .inl ⟨fw, ?_, hG⟩⟩⟩
                simp only [execOp, Act.eval]
                go_simp
                all_goals first | omega | (intro hh; omega) | (simp only [IntKind.wrap_i64]; omega) | simp
              | 20, _ =>
                have p137 : fa.eval (.tmp 137) = .bool false := hp 19 137 _ (by kernel_rfl) rfl rfl
                simp only [Act.eval] at p137
                refine ⟨_, _, rfl, rfl, .inl ⟨RV.wanted_none rfl, .inl ⟨fw, ?_, hG⟩⟩⟩
                simp only [execOp, Act.eval]
                go_simp
                all_goals first | omega | (intro hh; omega) | (simp only [IntKind.wrap_i64]; omega) | simp
              | 21, _ =>
                have p0 : fa.eval (.tmp 0) = .string ⟨(b0).toArray⟩ := (fr.out 0 (by decide)).trans rfl
                simp only [Act.eval] at p0
                refine ⟨_, _, rfl, rfl, .inl ⟨RV.wanted_at (d := 138) rfl fr (by rfl) (hp 20 138 _ (by kernel_rfl) rfl rfl) rfl, .inl ⟨fw, ?_, hG⟩⟩⟩
                simp only [execOp, Act.eval]
                go_simp
                all_goals first | omega | (intro hh; omega) | (simp only [IntKind.wrap_i64]; omega) | simp
              | 22, _ =>
                have p1 : fa.eval (.tmp 1) = .int .i64 (x : Nat) := (fr.out 1 (by decide)).trans rfl
                simp only [Act.eval] at p1
                refine ⟨_, _, rfl, rfl, .inl ⟨RV.wanted_at (d := 138) rfl fr (by rfl) (hp 20 138 _ (by kernel_rfl) rfl rfl) rfl, .inl ⟨fw, ?_, hG⟩⟩⟩
                simp only [execOp, Act.eval]
                go_simp
                all_goals first | omega | (intro hh; omega) | (simp only [IntKind.wrap_i64]; omega) | simp
              | 23, _ =>
                have p139 : fa.eval (.tmp 139) = .string ⟨(b0).toArray⟩ := hp 21 139 _ (by kernel_rfl) rfl rfl
                have p140 : fa.eval (.tmp 140) = .int .i64 (x : Nat) := hp 22 140 _ (by kernel_rfl) rfl rfl
                simp only [Act.eval] at p139 p140
                refine ⟨_, _, rfl, rfl, .inl ⟨RV.wanted_at (d := 138) rfl fr (by rfl) (hp 20 138 _ (by kernel_rfl) rfl rfl) rfl, .inl ⟨fw, ?_, hG⟩⟩⟩
                simp only [execOp, Act.eval]
                go_simp
                all_goals first | omega | (intro hh; omega) | (simp only [IntKind.wrap_i64]; omega) | simp
              | 24, _ =>
                have p141 : fa.eval (.tmp 141) = .int .u8 49 := hp 23 141 _ (by kernel_rfl) rfl rfl
                simp only [Act.eval] at p141
                refine ⟨_, _, rfl, rfl, .inl ⟨RV.wanted_at (d := 138) rfl fr (by rfl) (hp 20 138 _ (by kernel_rfl) rfl rfl) rfl, .inl ⟨fw, ?_, hG⟩⟩⟩
                simp only [execOp, Act.eval]
                go_simp
                all_goals first | omega | (intro hh; omega) | (simp only [IntKind.wrap_i64]; omega) | simp
              | 25, _ =>
                have p138 : fa.eval (.tmp 138) = .bool false := hp 20 138 _ (by kernel_rfl) rfl rfl
                have p142 : fa.eval (.tmp 142) = .bool false := hp 24 142 _ (by kernel_rfl) rfl rfl
                simp only [Act.eval] at p138 p142
                refine ⟨_, _, rfl, rfl, .inl ⟨RV.wanted_none rfl, .inl ⟨fw, ?_, hG⟩⟩⟩
                simp only [execOp, Act.eval]
                go_simp
                all_goals first | omega | (intro hh; omega) | (simp only [IntKind.wrap_i64]; omega) | simp
              | i + 26, hi => exact absurd hi (by show ¬ (i + 26 < 26); omega)
            · intro w2 hG
              simp only [RV.putAll, List.zip_cons_cons, List.zip_nil_left, List.zip_nil_right, List.foldl_cons, List.foldl_nil, Act.put, List.setIfInBounds_toArray, List.set_cons_zero, List.set_cons_succ]
              have HB3 := Lib.hid hG; clear HB; have HB := HB3; clear HB3 hG
              go_wp2
              go_ret
              exact ⟨rfl, HB.out⟩
        · have hk63 : ¬ ((63 : Int) < ((k + 1 : Nat) : Int)) := by omega
          obtain ⟨n1, n2⟩ := nu_of htB (by omega)
          obtain ⟨v, hvv⟩ : ∃ v, numB tl = v := ⟨_, rfl⟩
          rw [hvv] at n2 htn
          have H6 := Lib.hid (fun W : World => show Calls Tryd.prog 14 #[.string ⟨tl.toArray⟩] W fun e w' => e = .returned (.tuple #[.int .u64 (v : Int), .int .i64 0]) ∧ Below W.heap.size W w' from by
            have h := num_any W tl mtl
            rwa [n2, n1] at h)
          have hv63 : v + 1 ≤ 4611686018427387904 := by rw [htn]; exact Nat.le_trans (Nat.pow_le_pow_right (n := 2) (by decide) (show k ≤ 62 by omega)) (by decide)
          have hsh : IntKind.u64.wrap ((2 : Int) ^ k) = (v : Int) + 1 := by
            have h2 : ((2 : Int) ^ k) = ((2 ^ k : Nat) : Int) := (W.cast_pow k).symm
            rw [h2, ← htn, IntKind.wrap_u64]; omega
          clear n1 n2 hvv htn htB
          go_enter Tryd.func11, Tryd.ntmps11
          go_wp2_with (first
            | (go_at_call 13; refine (bawake _).mono ?_; rintro e w1 ⟨rfl, hb⟩; have HB2 := Lib.hid (HB.out.trans (hb.mono HB.out.size)); clear hb HB; have HB := HB2; clear HB2)
            | (go_at_call 24; refine (H1.out _).mono ?_; rintro e w1 ⟨rfl, hb⟩; have HB2 := Lib.hid (HB.out.trans (hb.mono HB.out.size)); clear hb HB; have HB := HB2; clear HB2)
            | (go_at_call 26; refine (H2.out _).mono ?_; rintro e w1 ⟨rfl, hb⟩; have HB2 := Lib.hid (HB.out.trans (hb.mono HB.out.size)); clear hb HB; have HB := HB2; clear HB2))
          refine RV.wp_region_g (by kernel_rfl) [37, 38, 39, 40, 41, 42, 43, 44, 45, 46, 47, 48, 49, 50, 51, 52, 53, 54, 55, 56, 57, 58, 59, 60, 61, 62, 63, 64, 65, 66, 67, 68, 69, 70, 71, 72, 73, 74, 75, 76, 77, 78, 79, 80, 81, 82, 83, 84, 85, 86, 87, 88, 89, 90, 91, 92, 93, 94, 95, 96, 97, 98, 99, 100, 101, 102, 103, 104, 105, 106, 107] [.int .i64 (ev), .bool false, .bool false, undef, undef, undef, undef, undef, undef, undef, undef, undef, undef, undef, undef, undef, undef, undef, undef, undef, undef, undef, undef, undef, undef, undef, undef, undef, undef, undef, undef, undef, undef, undef, undef, undef, undef, undef, undef, undef, undef, undef, undef, undef, undef, undef, undef, undef, undef, undef, undef, undef, undef, undef, undef, undef, undef, undef, undef, undef, undef, undef, undef, undef, undef, undef, undef, undef, undef, undef, .bool false] (fun W => Below w.heap.size w W) (by kernel_rfl) rfl (by decide) rfl (by kernel_rfl) (HB.out.drew) ?_ ?_
          · intro ii hii fa fw fr hp hG
            match ii, hii with
            | 0, _ =>
              have p8 : fa.eval (.tmp 8) = .int .i64 (ev) := (fr.out 8 (by decide)).trans rfl
              simp only [Act.eval] at p8
              refine ⟨_, _, rfl, rfl, .inl ⟨RV.wanted_none rfl, .inl ⟨fw, ?_, hG⟩⟩⟩
              simp only [execOp, Act.eval]
              go_simp
              all_goals first | omega | (intro hh; omega) | (simp only [IntKind.wrap_i64]; omega) | simp
            | 1, _ =>
              have p37 : fa.eval (.tmp 37) = .int .i64 (ev) := hp 0 37 _ (by kernel_rfl) rfl rfl
              simp only [Act.eval] at p37
              refine ⟨_, _, rfl, rfl, .inl ⟨RV.wanted_none rfl, .inl ⟨fw, ?_, hG⟩⟩⟩
              simp only [execOp, Act.eval]
              go_simp
              all_goals first | omega | (intro hh; omega) | (simp only [IntKind.wrap_i64]; omega) | simp
            | 2, _ =>
              have p38 : fa.eval (.tmp 38) = .bool false := hp 1 38 _ (by kernel_rfl) rfl rfl
              simp only [Act.eval] at p38
              refine ⟨_, _, rfl, rfl, .inl ⟨RV.wanted_none rfl, .inl ⟨fw, ?_, hG⟩⟩⟩
              simp only [execOp, Act.eval]
              go_simp
              all_goals first | omega | (intro hh; omega) | (simp only [IntKind.wrap_i64]; omega) | simp
            | 3, _ =>
              exact ⟨_, _, rfl, rfl, .inr ⟨RV.wanted_no (d := 39) rfl fr (by rfl) (hp 2 39 _ (by kernel_rfl) rfl rfl) (.inl rfl) rfl, rfl⟩⟩
            | 4, _ =>
              exact ⟨_, _, rfl, rfl, .inr ⟨RV.wanted_no (d := 39) rfl fr (by rfl) (hp 2 39 _ (by kernel_rfl) rfl rfl) (.inl rfl) rfl, rfl⟩⟩
            | 5, _ =>
              exact ⟨_, _, rfl, rfl, .inr ⟨RV.wanted_no (d := 39) rfl fr (by rfl) (hp 2 39 _ (by kernel_rfl) rfl rfl) (.inl rfl) rfl, rfl⟩⟩
            | 6, _ =>
              exact ⟨_, _, rfl, rfl, .inr ⟨RV.wanted_no (d := 42) rfl fr (by rfl) (hp 5 42 _ (by kernel_rfl) rfl rfl) (.inr rfl) rfl, rfl⟩⟩
            | 7, _ =>
              exact ⟨_, _, rfl, rfl, .inr ⟨RV.wanted_no (d := 42) rfl fr (by rfl) (hp 5 42 _ (by kernel_rfl) rfl rfl) (.inr rfl) rfl, rfl⟩⟩
            | 8, _ =>
              exact ⟨_, _, rfl, rfl, .inr ⟨RV.wanted_no (d := 42) rfl fr (by rfl) (hp 5 42 _ (by kernel_rfl) rfl rfl) (.inr rfl) rfl, rfl⟩⟩
            | 9, _ =>
              exact ⟨_, _, rfl, rfl, .inr ⟨RV.wanted_no (d := 42) rfl fr (by rfl) (hp 5 42 _ (by kernel_rfl) rfl rfl) (.inr rfl) rfl, rfl⟩⟩
            | 10, _ =>
              exact ⟨_, _, rfl, rfl, .inr ⟨RV.wanted_no (d := 42) rfl fr (by rfl) (hp 5 42 _ (by kernel_rfl) rfl rfl) (.inr rfl) rfl, rfl⟩⟩
            | 11, _ =>
              exact ⟨_, _, rfl, rfl, .inr ⟨RV.wanted_no (d := 39) rfl fr (by rfl) (hp 2 39 _ (by kernel_rfl) rfl rfl) (.inl rfl) rfl, rfl⟩⟩
            | 12, _ =>
              exact ⟨_, _, rfl, rfl, .inr ⟨RV.wanted_no (d := 39) rfl fr (by rfl) (hp 2 39 _ (by kernel_rfl) rfl rfl) (.inl rfl) rfl, rfl⟩⟩
            | 13, _ =>
              exact ⟨_, _, rfl, rfl, .inr ⟨RV.wanted_no (d := 49) rfl fr (by rfl) (hp 12 49 _ (by kernel_rfl) rfl rfl) (.inr rfl) rfl, rfl⟩⟩
            | 14, _ =>
              exact ⟨_, _, rfl, rfl, .inr ⟨RV.wanted_no (d := 49) rfl fr (by rfl) (hp 12 49 _ (by kernel_rfl) rfl rfl) (.inr rfl) rfl, rfl⟩⟩
            | 15, _ =>
              exact ⟨_, _, rfl, rfl, .inr ⟨RV.wanted_no (d := 49) rfl fr (by rfl) (hp 12 49 _ (by kernel_rfl) rfl rfl) (.inr rfl) rfl, rfl⟩⟩
            | 16, _ =>
              exact ⟨_, _, rfl, rfl, .inr ⟨RV.wanted_no (d := 49) rfl fr (by rfl) (hp 12 49 _ (by kernel_rfl) rfl rfl) (.inr rfl) rfl, rfl⟩⟩
            | 17, _ =>
              exact ⟨_, _, rfl, rfl, .inr ⟨RV.wanted_no (d := 49) rfl fr (by rfl) (hp 12 49 _ (by kernel_rfl) rfl rfl) (.inr rfl) rfl, rfl⟩⟩
            | 18, _ =>
              exact ⟨_, _, rfl, rfl, .inr ⟨RV.wanted_no (d := 49) rfl fr (by rfl) (hp 12 49 _ (by kernel_rfl) rfl rfl) (.inr rfl) rfl, rfl⟩⟩
            | 19, _ =>
              exact ⟨_, _, rfl, rfl, .inr ⟨RV.wanted_no (d := 49) rfl fr (by rfl) (hp 12 49 _ (by kernel_rfl) rfl rfl) (.inr rfl) rfl, rfl⟩⟩
            | 20, _ =>
              exact ⟨_, _, rfl, rfl, .inr ⟨RV.wanted_no (d := 39) rfl fr (by rfl) (hp 2 39 _ (by kernel_rfl) rfl rfl) (.inl rfl) rfl, rfl⟩⟩
            | 21, _ =>
              exact ⟨_, _, rfl, rfl, .inr ⟨RV.wanted_no (d := 39) rfl fr (by rfl) (hp 2 39 _ (by kernel_rfl) rfl rfl) (.inl rfl) rfl, rfl⟩⟩
            | 22, _ =>
              exact ⟨_, _, rfl, rfl, .inr ⟨RV.wanted_no (d := 58) rfl fr (by rfl) (hp 21 58 _ (by kernel_rfl) rfl rfl) (.inr rfl) rfl, rfl⟩⟩
            | 23, _ =>
              exact ⟨_, _, rfl, rfl, .inr ⟨RV.wanted_no (d := 58) rfl fr (by rfl) (hp 21 58 _ (by kernel_rfl) rfl rfl) (.inr rfl) rfl, rfl⟩⟩
            | 24, _ =>
              exact ⟨_, _, rfl, rfl, .inr ⟨RV.wanted_no (d := 58) rfl fr (by rfl) (hp 21 58 _ (by kernel_rfl) rfl rfl) (.inr rfl) rfl, rfl⟩⟩
            | 25, _ =>
              exact ⟨_, _, rfl, rfl, .inr ⟨RV.wanted_no (d := 58) rfl fr (by rfl) (hp 21 58 _ (by kernel_rfl) rfl rfl) (.inr rfl) rfl, rfl⟩⟩
            | 26, _ =>
              exact ⟨_, _, rfl, rfl, .inr ⟨RV.wanted_no (d := 58) rfl fr (by rfl) (hp 21 58 _ (by kernel_rfl) rfl rfl) (.inr rfl) rfl, rfl⟩⟩
            | 27, _ =>
              exact ⟨_, _, rfl, rfl, .inr ⟨RV.wanted_no (d := 39) rfl fr (by rfl) (hp 2 39 _ (by kernel_rfl) rfl rfl) (.inl rfl) rfl, rfl⟩⟩
            | 28, _ =>
              exact ⟨_, _, rfl, rfl, .inr ⟨RV.wanted_no (d := 39) rfl fr (by rfl) (hp 2 39 _ (by kernel_rfl) rfl rfl) (.inl rfl) rfl, rfl⟩⟩
            | 29, _ =>
              exact ⟨_, _, rfl, rfl, .inr ⟨RV.wanted_no (d := 65) rfl fr (by rfl) (hp 28 65 _ (by kernel_rfl) rfl rfl) (.inr rfl) rfl, rfl⟩⟩
            | 30, _ =>
              exact ⟨_, _, rfl, rfl, .inr ⟨RV.wanted_no (d := 65) rfl fr (by rfl) (hp 28 65 _ (by kernel_rfl) rfl rfl) (.inr rfl) rfl, rfl⟩⟩
            | 31, _ =>
              exact ⟨_, _, rfl, rfl, .inr ⟨RV.wanted_no (d := 65) rfl fr (by rfl) (hp 28 65 _ (by kernel_rfl) rfl rfl) (.inr rfl) rfl, rfl⟩⟩
            | 32, _ =>
              exact ⟨_, _, rfl, rfl, .inr ⟨RV.wanted_no (d := 65) rfl fr (by rfl) (hp 28 65 _ (by kernel_rfl) rfl rfl) (.inr rfl) rfl, rfl⟩⟩
            | 33, _ =>
              exact ⟨_, _, rfl, rfl, .inr ⟨RV.wanted_no (d := 65) rfl fr (by rfl) (hp 28 65 _ (by kernel_rfl) rfl rfl) (.inr rfl) rfl, rfl⟩⟩
            | 34, _ =>
              exact ⟨_, _, rfl, rfl, .inr ⟨RV.wanted_no (d := 65) rfl fr (by rfl) (hp 28 65 _ (by kernel_rfl) rfl rfl) (.inr rfl) rfl, rfl⟩⟩
            | 35, _ =>
              exact ⟨_, _, rfl, rfl, .inr ⟨RV.wanted_no (d := 65) rfl fr (by rfl) (hp 28 65 _ (by kernel_rfl) rfl rfl) (.inr rfl) rfl, rfl⟩⟩
            | 36, _ =>
              exact ⟨_, _, rfl, rfl, .inr ⟨RV.wanted_no (d := 39) rfl fr (by rfl) (hp 2 39 _ (by kernel_rfl) rfl rfl) (.inl rfl) rfl, rfl⟩⟩
            | 37, _ =>
              exact ⟨_, _, rfl, rfl, .inr ⟨RV.wanted_no (d := 39) rfl fr (by rfl) (hp 2 39 _ (by kernel_rfl) rfl rfl) (.inl rfl) rfl, rfl⟩⟩
            | 38, _ =>
              exact ⟨_, _, rfl, rfl, .inr ⟨RV.wanted_no (d := 74) rfl fr (by rfl) (hp 37 74 _ (by kernel_rfl) rfl rfl) (.inr rfl) rfl, rfl⟩⟩
            | 39, _ =>
              exact ⟨_, _, rfl, rfl, .inr ⟨RV.wanted_no (d := 74) rfl fr (by rfl) (hp 37 74 _ (by kernel_rfl) rfl rfl) (.inr rfl) rfl, rfl⟩⟩
            | 40, _ =>
              exact ⟨_, _, rfl, rfl, .inr ⟨RV.wanted_no (d := 74) rfl fr (by rfl) (hp 37 74 _ (by kernel_rfl) rfl rfl) (.inr rfl) rfl, rfl⟩⟩
            | 41, _ =>
              exact ⟨_, _, rfl, rfl, .inr ⟨RV.wanted_no (d := 74) rfl fr (by rfl) (hp 37 74 _ (by kernel_rfl) rfl rfl) (.inr rfl) rfl, rfl⟩⟩
            | 42, _ =>
              exact ⟨_, _, rfl, rfl, .inr ⟨RV.wanted_no (d := 74) rfl fr (by rfl) (hp 37 74 _ (by kernel_rfl) rfl rfl) (.inr rfl) rfl, rfl⟩⟩
            | 43, _ =>
              exact ⟨_, _, rfl, rfl, .inr ⟨RV.wanted_no (d := 74) rfl fr (by rfl) (hp 37 74 _ (by kernel_rfl) rfl rfl) (.inr rfl) rfl, rfl⟩⟩
            | 44, _ =>
              exact ⟨_, _, rfl, rfl, .inr ⟨RV.wanted_no (d := 74) rfl fr (by rfl) (hp 37 74 _ (by kernel_rfl) rfl rfl) (.inr rfl) rfl, rfl⟩⟩
            | 45, _ =>
              exact ⟨_, _, rfl, rfl, .inr ⟨RV.wanted_no (d := 74) rfl fr (by rfl) (hp 37 74 _ (by kernel_rfl) rfl rfl) (.inr rfl) rfl, rfl⟩⟩
            | 46, _ =>
              exact ⟨_, _, rfl, rfl, .inr ⟨RV.wanted_no (d := 74) rfl fr (by rfl) (hp 37 74 _ (by kernel_rfl) rfl rfl) (.inr rfl) rfl, rfl⟩⟩
            | 47, _ =>
              exact ⟨_, _, rfl, rfl, .inr ⟨RV.wanted_no (d := 39) rfl fr (by rfl) (hp 2 39 _ (by kernel_rfl) rfl rfl) (.inl rfl) rfl, rfl⟩⟩
            | 48, _ =>
              exact ⟨_, _, rfl, rfl, .inr ⟨RV.wanted_no (d := 39) rfl fr (by rfl) (hp 2 39 _ (by kernel_rfl) rfl rfl) (.inl rfl) rfl, rfl⟩⟩
            | 49, _ =>
              exact ⟨_, _, rfl, rfl, .inr ⟨RV.wanted_no (d := 85) rfl fr (by rfl) (hp 48 85 _ (by kernel_rfl) rfl rfl) (.inr rfl) rfl, rfl⟩⟩
            | 50, _ =>
              exact ⟨_, _, rfl, rfl, .inr ⟨RV.wanted_no (d := 85) rfl fr (by rfl) (hp 48 85 _ (by kernel_rfl) rfl rfl) (.inr rfl) rfl, rfl⟩⟩
            | 51, _ =>
              exact ⟨_, _, rfl, rfl, .inr ⟨RV.wanted_no (d := 85) rfl fr (by rfl) (hp 48 85 _ (by kernel_rfl) rfl rfl) (.inr rfl) rfl, rfl⟩⟩
            | 52, _ =>
              exact ⟨_, _, rfl, rfl, .inr ⟨RV.wanted_no (d := 85) rfl fr (by rfl) (hp 48 85 _ (by kernel_rfl) rfl rfl) (.inr rfl) rfl, rfl⟩⟩
            | 53, _ =>
              exact ⟨_, _, rfl, rfl, .inr ⟨RV.wanted_no (d := 85) rfl fr (by rfl) (hp 48 85 _ (by kernel_rfl) rfl rfl) (.inr rfl) rfl, rfl⟩⟩
            | 54, _ =>
              exact ⟨_, _, rfl, rfl, .inr ⟨RV.wanted_no (d := 85) rfl fr (by rfl) (hp 48 85 _ (by kernel_rfl) rfl rfl) (.inr rfl) rfl, rfl⟩⟩
            | 55, _ =>
              exact ⟨_, _, rfl, rfl, .inr ⟨RV.wanted_no (d := 85) rfl fr (by rfl) (hp 48 85 _ (by kernel_rfl) rfl rfl) (.inr rfl) rfl, rfl⟩⟩
            | 56, _ =>
              exact ⟨_, _, rfl, rfl, .inr ⟨RV.wanted_no (d := 39) rfl fr (by rfl) (hp 2 39 _ (by kernel_rfl) rfl rfl) (.inl rfl) rfl, rfl⟩⟩
            | 57, _ =>
              exact ⟨_, _, rfl, rfl, .inr ⟨RV.wanted_no (d := 39) rfl fr (by rfl) (hp 2 39 _ (by kernel_rfl) rfl rfl) (.inl rfl) rfl, rfl⟩⟩
            | 58, _ =>
              exact ⟨_, _, rfl, rfl, .inr ⟨RV.wanted_no (d := 94) rfl fr (by rfl) (hp 57 94 _ (by kernel_rfl) rfl rfl) (.inr rfl) rfl, rfl⟩⟩
            | 59, _ =>
              exact ⟨_, _, rfl, rfl, .inr ⟨RV.wanted_no (d := 94) rfl fr (by rfl) (hp 57 94 _ (by kernel_rfl) rfl rfl) (.inr rfl) rfl, rfl⟩⟩
            | 60, _ =>
              exact ⟨_, _, rfl, rfl, .inr ⟨RV.wanted_no (d := 94) rfl fr (by rfl) (hp 57 94 _ (by kernel_rfl) rfl rfl) (.inr rfl) rfl, rfl⟩⟩
            | 61, _ =>
              exact ⟨_, _, rfl, rfl, .inr ⟨RV.wanted_no (d := 94) rfl fr (by rfl) (hp 57 94 _ (by kernel_rfl) rfl rfl) (.inr rfl) rfl, rfl⟩⟩
            | 62, _ =>
              exact ⟨_, _, rfl, rfl, .inr ⟨RV.wanted_no (d := 94) rfl fr (by rfl) (hp 57 94 _ (by kernel_rfl) rfl rfl) (.inr rfl) rfl, rfl⟩⟩
            | 63, _ =>
              exact ⟨_, _, rfl, rfl, .inr ⟨RV.wanted_no (d := 94) rfl fr (by rfl) (hp 57 94 _ (by kernel_rfl) rfl rfl) (.inr rfl) rfl, rfl⟩⟩
            | 64, _ =>
              exact ⟨_, _, rfl, rfl, .inr ⟨RV.wanted_no (d := 94) rfl fr (by rfl) (hp 57 94 _ (by kernel_rfl) rfl rfl) (.inr rfl) rfl, rfl⟩⟩
            | 65, _ =>
              exact ⟨_, _, rfl, rfl, .inr ⟨RV.wanted_no (d := 94) rfl fr (by rfl) (hp 57 94 _ (by kernel_rfl) rfl rfl) (.inr rfl) rfl, rfl⟩⟩
            | 66, _ =>
              exact ⟨_, _, rfl, rfl, .inr ⟨RV.wanted_no (d := 94) rfl fr (by rfl) (hp 57 94 _ (by kernel_rfl) rfl rfl) (.inr rfl) rfl, rfl⟩⟩
            | 67, _ =>
              exact ⟨_, _, rfl, rfl, .inr ⟨RV.wanted_no (d := 94) rfl fr (by rfl) (hp 57 94 _ (by kernel_rfl) rfl rfl) (.inr rfl) rfl, rfl⟩⟩
            | 68, _ =>
              exact ⟨_, _, rfl, rfl, .inr ⟨RV.wanted_no (d := 94) rfl fr (by rfl) (hp 57 94 _ (by kernel_rfl) rfl rfl) (.inr rfl) rfl, rfl⟩⟩
            | 69, _ =>
              exact ⟨_, _, rfl, rfl, .inr ⟨RV.wanted_no (d := 39) rfl fr (by rfl) (hp 2 39 _ (by kernel_rfl) rfl rfl) (.inl rfl) rfl, rfl⟩⟩
            | 70, _ =>
              have p39 : fa.eval (.tmp 39) = .bool false := hp 2 39 _ (by kernel_rfl) rfl rfl
              have p106 : fa.eval (.tmp 106) = undef := hp 69 106 _ (by kernel_rfl) rfl rfl
              simp only [Act.eval] at p39 p106
              refine ⟨_, _, rfl, rfl, .inl ⟨RV.wanted_none rfl, .inl ⟨fw, ?_, hG⟩⟩⟩
              simp only [execOp, Act.eval]
              go_simp
              all_goals first | omega | (intro hh; omega) | (simp only [IntKind.wrap_i64]; omega) | simp
            | i + 71, hi => exact absurd hi (by show ¬ (i + 71 < 71); omega)
          · intro w2 hG
            simp only [RV.putAll, List.zip_cons_cons, List.zip_nil_left, List.zip_nil_right, List.foldl_cons, List.foldl_nil, Act.put, List.setIfInBounds_toArray, List.set_cons_zero, List.set_cons_succ]
            have HB3 := Lib.hid hG; clear HB; have HB := HB3; clear HB3 hG
            go_wp2_with (first
              | (go_at_call 13; refine (bawake _).mono ?_; rintro e w1 ⟨rfl, hb⟩; have HB2 := Lib.hid (HB.out.trans (hb.mono HB.out.size)); clear hb HB; have HB := HB2; clear HB2)
              | (go_at_call 28; refine (H3.out _).mono ?_; rintro e w1 ⟨rfl, hb⟩; have HB2 := Lib.hid (HB.out.trans (hb.mono HB.out.size)); clear hb HB; have HB := HB2; clear HB2))
            refine RV.wp_region_g (by kernel_rfl) [118, 119, 120, 121, 122, 123, 124, 125, 126, 127, 128, 129, 130, 131, 132, 133, 134, 135, 136, 137, 138, 139, 140, 141, 142, 143] [.string ⟨(b0).toArray⟩, .int .i64 (x : Nat), .bool true, .bool false, .bool false, .string ⟨(dv).toArray⟩, .int .i64 (b0.length : Nat), .string ⟨(b0).toArray⟩, .int .i64 (b0.length : Nat), .bool false, .bool false, .bool false, .string ⟨(dv).toArray⟩, .int .i64 (x : Nat), .string ⟨(P).toArray⟩, .string ⟨(b0).toArray⟩, .int .i64 (x : Nat), .string ⟨(P).toArray⟩, .bool false, .bool false, .bool false, .string ⟨(b0).toArray⟩, .int .i64 (x : Nat), .int .u8 49, .bool false, .bool false] (fun W => Below w.heap.size w W) (by kernel_rfl) rfl (by decide) rfl (by kernel_rfl) (HB.out.drew) ?_ ?_
            · intro ii hii fa fw fr hp hG
              match ii, hii with
              | 0, _ =>
                have p0 : fa.eval (.tmp 0) = .string ⟨(b0).toArray⟩ := (fr.out 0 (by decide)).trans rfl
                simp only [Act.eval] at p0
                refine ⟨_, _, rfl, rfl, .inl ⟨RV.wanted_none rfl, .inl ⟨fw, ?_, hG⟩⟩⟩
                simp only [execOp, Act.eval]
                go_simp
                all_goals first | omega | (intro hh; omega) | (simp only [IntKind.wrap_i64]; omega) | simp
              | 1, _ =>
                have p1 : fa.eval (.tmp 1) = .int .i64 (x : Nat) := (fr.out 1 (by decide)).trans rfl
                simp only [Act.eval] at p1
                refine ⟨_, _, rfl, rfl, .inl ⟨RV.wanted_none rfl, .inl ⟨fw, ?_, hG⟩⟩⟩
                simp only [execOp, Act.eval]
                go_simp
                all_goals first | omega | (intro hh; omega) | (simp only [IntKind.wrap_i64]; omega) | simp
              | 2, _ =>
                have p118 : fa.eval (.tmp 118) = .string ⟨(b0).toArray⟩ := hp 0 118 _ (by kernel_rfl) rfl rfl
                have p119 : fa.eval (.tmp 119) = .int .i64 (x : Nat) := hp 1 119 _ (by kernel_rfl) rfl rfl
                have hv : (#[Operand.tmp 118, Operand.tmp 119, Operand.const (Value.int IntKind.i64 1)] : Array Operand).map fa.eval = #[(.string ⟨(b0).toArray⟩), (.int .i64 (x : Nat)), (Value.int IntKind.i64 1)] := by simp only [List.map_toArray, List.map_cons, List.map_nil, p118, p119]; rfl
                exact ⟨_, _, rfl, rfl, .inl ⟨RV.wanted_none rfl, RV.yields_call_g hv Tryd.func32 (by kernel_rfl) rfl (HP2.out fw) (fun e w2 h => ⟨h.1, by have h2 := h.2; subst h2; exact hG⟩)⟩⟩
              | 3, _ =>
                have p120 : fa.eval (.tmp 120) = .bool true := hp 2 120 _ (by kernel_rfl) rfl rfl
                simp only [Act.eval] at p120
                refine ⟨_, _, rfl, rfl, .inl ⟨RV.wanted_none rfl, .inl ⟨fw, ?_, hG⟩⟩⟩
                simp only [execOp, Act.eval]
                go_simp
                all_goals first | omega | (intro hh; omega) | (simp only [IntKind.wrap_i64]; omega) | simp
              | 4, _ =>
                have p121 : fa.eval (.tmp 121) = .bool false := hp 3 121 _ (by kernel_rfl) rfl rfl
                simp only [Act.eval] at p121
                refine ⟨_, _, rfl, rfl, .inl ⟨RV.wanted_none rfl, .inl ⟨fw, ?_, hG⟩⟩⟩
                simp only [execOp, Act.eval]
                go_simp
                all_goals first | omega | (intro hh; omega) | (simp only [IntKind.wrap_i64]; omega) | simp
              | 5, _ =>
                have p11 : fa.eval (.tmp 11) = .string ⟨(dv).toArray⟩ := (fr.out 11 (by decide)).trans rfl
                simp only [Act.eval] at p11
                refine ⟨_, _, rfl, rfl, .inl ⟨RV.wanted_at (d := 122) rfl fr (by rfl) (hp 4 122 _ (by kernel_rfl) rfl rfl) rfl, .inl ⟨fw, ?_, hG⟩⟩⟩
                simp only [execOp, Act.eval]
                go_simp
                all_goals first | omega | (intro hh; omega) | (simp only [IntKind.wrap_i64]; omega) | simp
              | 6, _ =>
                have p123 : fa.eval (.tmp 123) = .string ⟨(dv).toArray⟩ := hp 5 123 _ (by kernel_rfl) rfl rfl
                simp only [Act.eval] at p123
                refine ⟨_, _, rfl, rfl, .inl ⟨RV.wanted_at (d := 122) rfl fr (by rfl) (hp 4 122 _ (by kernel_rfl) rfl rfl) rfl, .inl ⟨fw, ?_, hG⟩⟩⟩
                simp only [execOp, Act.eval]
                go_simp
                all_goals first | omega | exact dl | simp [dl]
              | 7, _ =>
                have p0 : fa.eval (.tmp 0) = .string ⟨(b0).toArray⟩ := (fr.out 0 (by decide)).trans rfl
                simp only [Act.eval] at p0
                refine ⟨_, _, rfl, rfl, .inl ⟨RV.wanted_at (d := 122) rfl fr (by rfl) (hp 4 122 _ (by kernel_rfl) rfl rfl) rfl, .inl ⟨fw, ?_, hG⟩⟩⟩
                simp only [execOp, Act.eval]
                go_simp
                all_goals first | omega | (intro hh; omega) | (simp only [IntKind.wrap_i64]; omega) | simp
              | 8, _ =>
                have p125 : fa.eval (.tmp 125) = .string ⟨(b0).toArray⟩ := hp 7 125 _ (by kernel_rfl) rfl rfl
                simp only [Act.eval] at p125
                refine ⟨_, _, rfl, rfl, .inl ⟨RV.wanted_at (d := 122) rfl fr (by rfl) (hp 4 122 _ (by kernel_rfl) rfl rfl) rfl, .inl ⟨fw, ?_, hG⟩⟩⟩
                simp only [execOp, Act.eval]
                go_simp
                all_goals first | omega | (intro hh; omega) | (simp only [IntKind.wrap_i64]; omega) | simp
              | 9, _ =>
                have p124 : fa.eval (.tmp 124) = .int .i64 (b0.length : Nat) := hp 6 124 _ (by kernel_rfl) rfl rfl
                have p126 : fa.eval (.tmp 126) = .int .i64 (b0.length : Nat) := hp 8 126 _ (by kernel_rfl) rfl rfl
                simp only [Act.eval] at p124 p126
                refine ⟨_, _, rfl, rfl, .inl ⟨RV.wanted_at (d := 122) rfl fr (by rfl) (hp 4 122 _ (by kernel_rfl) rfl rfl) rfl, .inl ⟨fw, ?_, hG⟩⟩⟩
                simp only [execOp, Act.eval]
                go_simp
                all_goals first | omega | (intro hh; omega) | (simp only [IntKind.wrap_i64]; omega) | simp
              | 10, _ =>
                have p122 : fa.eval (.tmp 122) = .bool false := hp 4 122 _ (by kernel_rfl) rfl rfl
                have p127 : fa.eval (.tmp 127) = .bool false := hp 9 127 _ (by kernel_rfl) rfl rfl
                simp only [Act.eval] at p122 p127
                refine ⟨_, _, rfl, rfl, .inl ⟨RV.wanted_none rfl, .inl ⟨fw, ?_, hG⟩⟩⟩
                simp only [execOp, Act.eval]
                go_simp
                all_goals first | omega | (intro hh; omega) | (simp only [IntKind.wrap_i64]; omega) | simp
              | 11, _ =>
                have p128 : fa.eval (.tmp 128) = .bool false := hp 10 128 _ (by kernel_rfl) rfl rfl
                simp only [Act.eval] at p128
                refine ⟨_, _, rfl, rfl, .inl ⟨RV.wanted_none rfl, .inl ⟨fw, ?_, hG⟩⟩⟩
                simp only [execOp, Act.eval]
                go_simp
                all_goals first | omega | (intro hh; omega) | (simp only [IntKind.wrap_i64]; omega) | simp
              | 12, _ =>
                have p11 : fa.eval (.tmp 11) = .string ⟨(dv).toArray⟩ := (fr.out 11 (by decide)).trans rfl
                simp only [Act.eval] at p11
                refine ⟨_, _, rfl, rfl, .inl ⟨RV.wanted_at (d := 129) rfl fr (by rfl) (hp 11 129 _ (by kernel_rfl) rfl rfl) rfl, .inl ⟨fw, ?_, hG⟩⟩⟩
                simp only [execOp, Act.eval]
                go_simp
                all_goals first | omega | (intro hh; omega) | (simp only [IntKind.wrap_i64]; omega) | simp
              | 13, _ =>
                have p1 : fa.eval (.tmp 1) = .int .i64 (x : Nat) := (fr.out 1 (by decide)).trans rfl
                simp only [Act.eval] at p1
                refine ⟨_, _, rfl, rfl, .inl ⟨RV.wanted_at (d := 129) rfl fr (by rfl) (hp 11 129 _ (by kernel_rfl) rfl rfl) rfl, .inl ⟨fw, ?_, hG⟩⟩⟩
                simp only [execOp, Act.eval]
                go_simp
                all_goals first | omega | (intro hh; omega) | (simp only [IntKind.wrap_i64]; omega) | simp
              | 14, _ =>
                have p130 : fa.eval (.tmp 130) = .string ⟨(dv).toArray⟩ := hp 12 130 _ (by kernel_rfl) rfl rfl
                have p131 : fa.eval (.tmp 131) = .int .i64 (x : Nat) := hp 13 131 _ (by kernel_rfl) rfl rfl
                simp only [Act.eval] at p130 p131
                refine ⟨_, _, rfl, rfl, .inl ⟨RV.wanted_at (d := 129) rfl fr (by rfl) (hp 11 129 _ (by kernel_rfl) rfl rfl) rfl, .inl ⟨fw, ?_, hG⟩⟩⟩
                simp only [execOp, Act.eval]
                go_simp
                all_goals first | omega | (intro hh; omega) | (simp only [IntKind.wrap_i64]; omega) | simp
              | 15, _ =>
                have p0 : fa.eval (.tmp 0) = .string ⟨(b0).toArray⟩ := (fr.out 0 (by decide)).trans rfl
                simp only [Act.eval] at p0
                refine ⟨_, _, rfl, rfl, .inl ⟨RV.wanted_at (d := 129) rfl fr (by rfl) (hp 11 129 _ (by kernel_rfl) rfl rfl) rfl, .inl ⟨fw, ?_, hG⟩⟩⟩
                simp only [execOp, Act.eval]
                go_simp
                all_goals first | omega | (intro hh; omega) | (simp only [IntKind.wrap_i64]; omega) | simp
              | 16, _ =>
                have p1 : fa.eval (.tmp 1) = .int .i64 (x : Nat) := (fr.out 1 (by decide)).trans rfl
                simp only [Act.eval] at p1
                refine ⟨_, _, rfl, rfl, .inl ⟨RV.wanted_at (d := 129) rfl fr (by rfl) (hp 11 129 _ (by kernel_rfl) rfl rfl) rfl, .inl ⟨fw, ?_, hG⟩⟩⟩
                simp only [execOp, Act.eval]
                go_simp
                all_goals first | omega | (intro hh; omega) | (simp only [IntKind.wrap_i64]; omega) | simp
              | 17, _ =>
                have p133 : fa.eval (.tmp 133) = .string ⟨(b0).toArray⟩ := hp 15 133 _ (by kernel_rfl) rfl rfl
                have p134 : fa.eval (.tmp 134) = .int .i64 (x : Nat) := hp 16 134 _ (by kernel_rfl) rfl rfl
                simp only [Act.eval] at p133 p134
                refine ⟨_, _, rfl, rfl, .inl ⟨RV.wanted_at (d := 129) rfl fr (by rfl) (hp 11 129 _ (by kernel_rfl) rfl rfl) rfl, .inl ⟨fw, ?_, hG⟩⟩⟩
                simp only [execOp, Act.eval]
                go_simp
                all_goals first | omega | (intro hh; omega) | (simp only [IntKind.wrap_i64]; omega) | simp
              | 18, _ =>
                have p132 : fa.eval (.tmp 132) = .string ⟨(P).toArray⟩ := hp 14 132 _ (by kernel_rfl) rfl rfl
                have p135 : fa.eval (.tmp 135) = .string ⟨(P).toArray⟩ := hp 17 135 _ (by kernel_rfl) rfl rfl
                simp only [Act.eval] at p132 p135
                refine ⟨_, _, rfl, rfl, .inl ⟨RV.wanted_at (d := 129) rfl fr (by rfl) (hp 11 129 _ (by kernel_rfl) rfl rfl) rfl, .inl ⟨fw, ?_, hG⟩⟩⟩
                simp only [execOp, Act.eval]
                go_simp
                all_goals first | omega | (intro hh; omega) | (simp only [IntKind.wrap_i64]; omega) | simp
              | 19, _ =>
                have p129 : fa.eval (.tmp 129) = .bool false := hp 11 129 _ (by kernel_rfl) rfl rfl
                have p136 : fa.eval (.tmp 136) = .bool false := hp 18 136 _ (by kernel_rfl) rfl rfl
                simp only [Act.eval] at p129 p136
                refine ⟨_, _, rfl, rfl, .inl ⟨RV.wanted_none rfl, .inl ⟨fw, ?_, hG⟩⟩⟩
                simp only [execOp, Act.eval]
                go_simp
                all_goals first | omega | (intro hh; omega) | (simp only [IntKind.wrap_i64]; omega) | simp
              | 20, _ =>
                have p137 : fa.eval (.tmp 137) = .bool false := hp 19 137 _ (by kernel_rfl) rfl rfl
                simp only [Act.eval] at p137
                refine ⟨_, _, rfl, rfl, .inl ⟨RV.wanted_none rfl, .inl ⟨fw, ?_, hG⟩⟩⟩
                simp only [execOp, Act.eval]
                go_simp
                all_goals first | omega | (intro hh; omega) | (simp only [IntKind.wrap_i64]; omega) | simp
              | 21, _ =>
                have p0 : fa.eval (.tmp 0) = .string ⟨(b0).toArray⟩ := (fr.out 0 (by decide)).trans rfl
                simp only [Act.eval] at p0
                refine ⟨_, _, rfl, rfl, .inl ⟨RV.wanted_at (d := 138) rfl fr (by rfl) (hp 20 138 _ (by kernel_rfl) rfl rfl) rfl, .inl ⟨fw, ?_, hG⟩⟩⟩
                simp only [execOp, Act.eval]
                go_simp
                all_goals first | omega | (intro hh; omega) | (simp only [IntKind.wrap_i64]; omega) | simp
              | 22, _ =>
                have p1 : fa.eval (.tmp 1) = .int .i64 (x : Nat) := (fr.out 1 (by decide)).trans rfl
                simp only [Act.eval] at p1
                refine ⟨_, _, rfl, rfl, .inl ⟨RV.wanted_at (d := 138) rfl fr (by rfl) (hp 20 138 _ (by kernel_rfl) rfl rfl) rfl, .inl ⟨fw, ?_, hG⟩⟩⟩
                simp only [execOp, Act.eval]
                go_simp
                all_goals first | omega | (intro hh; omega) | (simp only [IntKind.wrap_i64]; omega) | simp
              | 23, _ =>
                have p139 : fa.eval (.tmp 139) = .string ⟨(b0).toArray⟩ := hp 21 139 _ (by kernel_rfl) rfl rfl
                have p140 : fa.eval (.tmp 140) = .int .i64 (x : Nat) := hp 22 140 _ (by kernel_rfl) rfl rfl
                simp only [Act.eval] at p139 p140
                refine ⟨_, _, rfl, rfl, .inl ⟨RV.wanted_at (d := 138) rfl fr (by rfl) (hp 20 138 _ (by kernel_rfl) rfl rfl) rfl, .inl ⟨fw, ?_, hG⟩⟩⟩
                simp only [execOp, Act.eval]
                go_simp
                all_goals first | omega | (intro hh; omega) | (simp only [IntKind.wrap_i64]; omega) | simp
              | 24, _ =>
                have p141 : fa.eval (.tmp 141) = .int .u8 49 := hp 23 141 _ (by kernel_rfl) rfl rfl
                simp only [Act.eval] at p141
                refine ⟨_, _, rfl, rfl, .inl ⟨RV.wanted_at (d := 138) rfl fr (by rfl) (hp 20 138 _ (by kernel_rfl) rfl rfl) rfl, .inl ⟨fw, ?_, hG⟩⟩⟩
                simp only [execOp, Act.eval]
                go_simp
                all_goals first | omega | (intro hh; omega) | (simp only [IntKind.wrap_i64]; omega) | simp
              | 25, _ =>
                have p138 : fa.eval (.tmp 138) = .bool false := hp 20 138 _ (by kernel_rfl) rfl rfl
                have p142 : fa.eval (.tmp 142) = .bool false := hp 24 142 _ (by kernel_rfl) rfl rfl
                simp only [Act.eval] at p138 p142
                refine ⟨_, _, rfl, rfl, .inl ⟨RV.wanted_none rfl, .inl ⟨fw, ?_, hG⟩⟩⟩
                simp only [execOp, Act.eval]
                go_simp
                all_goals first | omega | (intro hh; omega) | (simp only [IntKind.wrap_i64]; omega) | simp
              | i + 26, hi => exact absurd hi (by show ¬ (i + 26 < 26); omega)
            · intro w2 hG
              simp only [RV.putAll, List.zip_cons_cons, List.zip_nil_left, List.zip_nil_right, List.foldl_cons, List.foldl_nil, Act.put, List.setIfInBounds_toArray, List.set_cons_zero, List.set_cons_succ]
              have HB3 := Lib.hid hG; clear HB; have HB := HB3; clear HB3 hG
              go_wp2_with (first | (go_at_call 14; refine (H6.out _).mono ?_; rintro e w1 ⟨rfl, hb⟩; have HB2 := Lib.hid (HB.out.trans (hb.mono HB.out.size)); clear hb HB; have HB := HB2; clear HB2))
              go_ret; exact ⟨rfl, HB.out⟩
      · have hv : downV b0 a1 = [] := by unfold downV; rw [if_neg hg]
        obtain ⟨g, hgg⟩ : ∃ g, downE b0 a1 = g := ⟨_, rfl⟩
        rw [hgg] at hg
        have H3 := Lib.hid (fun W : World => show Calls Tryd.prog 28 #[.string ⟨b0.toArray⟩, .int .i64 a1] W fun e w' => e = .returned (.tuple #[.string ⟨([]).toArray⟩, .int .i64 (g)]) ∧ Below W.heap.size W w' from by
          have h := down_any W b0 l0 a1 w1
          rwa [hv, hgg] at h)
        have hg0 : (g != 0) = true := by simpa using hg
        clear hv hgg hg
        go_enter Tryd.func11, Tryd.ntmps11
        go_wp2_with (first
          | (go_at_call 13; refine (bawake _).mono ?_; rintro e w1 ⟨rfl, hb⟩; have HB2 := Lib.hid (HB.out.trans (hb.mono HB.out.size)); clear hb HB; have HB := HB2; clear HB2)
          | (go_at_call 24; refine (H1.out _).mono ?_; rintro e w1 ⟨rfl, hb⟩; have HB2 := Lib.hid (HB.out.trans (hb.mono HB.out.size)); clear hb HB; have HB := HB2; clear HB2)
          | (go_at_call 26; refine (H2.out _).mono ?_; rintro e w1 ⟨rfl, hb⟩; have HB2 := Lib.hid (HB.out.trans (hb.mono HB.out.size)); clear hb HB; have HB := HB2; clear HB2))
        refine RV.wp_region_g (by kernel_rfl) [37, 38, 39, 40, 41, 42, 43, 44, 45, 46, 47, 48, 49, 50, 51, 52, 53, 54, 55, 56, 57, 58, 59, 60, 61, 62, 63, 64, 65, 66, 67, 68, 69, 70, 71, 72, 73, 74, 75, 76, 77, 78, 79, 80, 81, 82, 83, 84, 85, 86, 87, 88, 89, 90, 91, 92, 93, 94, 95, 96, 97, 98, 99, 100, 101, 102, 103, 104, 105, 106, 107] [.int .i64 (ev), .bool false, .bool false, undef, undef, undef, undef, undef, undef, undef, undef, undef, undef, undef, undef, undef, undef, undef, undef, undef, undef, undef, undef, undef, undef, undef, undef, undef, undef, undef, undef, undef, undef, undef, undef, undef, undef, undef, undef, undef, undef, undef, undef, undef, undef, undef, undef, undef, undef, undef, undef, undef, undef, undef, undef, undef, undef, undef, undef, undef, undef, undef, undef, undef, undef, undef, undef, undef, undef, undef, .bool false] (fun W => Below w.heap.size w W) (by kernel_rfl) rfl (by decide) rfl (by kernel_rfl) (HB.out.drew) ?_ ?_
        · intro ii hii fa fw fr hp hG
          match ii, hii with
          | 0, _ =>
            have p8 : fa.eval (.tmp 8) = .int .i64 (ev) := (fr.out 8 (by decide)).trans rfl
            simp only [Act.eval] at p8
            refine ⟨_, _, rfl, rfl, .inl ⟨RV.wanted_none rfl, .inl ⟨fw, ?_, hG⟩⟩⟩
            simp only [execOp, Act.eval]
            go_simp
            all_goals first | omega | (intro hh; omega) | (simp only [IntKind.wrap_i64]; omega) | simp
          | 1, _ =>
            have p37 : fa.eval (.tmp 37) = .int .i64 (ev) := hp 0 37 _ (by kernel_rfl) rfl rfl
            simp only [Act.eval] at p37
            refine ⟨_, _, rfl, rfl, .inl ⟨RV.wanted_none rfl, .inl ⟨fw, ?_, hG⟩⟩⟩
            simp only [execOp, Act.eval]
            go_simp
            all_goals first | omega | (intro hh; omega) | (simp only [IntKind.wrap_i64]; omega) | simp
          | 2, _ =>
            have p38 : fa.eval (.tmp 38) = .bool false := hp 1 38 _ (by kernel_rfl) rfl rfl
            simp only [Act.eval] at p38
            refine ⟨_, _, rfl, rfl, .inl ⟨RV.wanted_none rfl, .inl ⟨fw, ?_, hG⟩⟩⟩
            simp only [execOp, Act.eval]
            go_simp
            all_goals first | omega | (intro hh; omega) | (simp only [IntKind.wrap_i64]; omega) | simp
          | 3, _ =>
            exact ⟨_, _, rfl, rfl, .inr ⟨RV.wanted_no (d := 39) rfl fr (by rfl) (hp 2 39 _ (by kernel_rfl) rfl rfl) (.inl rfl) rfl, rfl⟩⟩
          | 4, _ =>
            exact ⟨_, _, rfl, rfl, .inr ⟨RV.wanted_no (d := 39) rfl fr (by rfl) (hp 2 39 _ (by kernel_rfl) rfl rfl) (.inl rfl) rfl, rfl⟩⟩
          | 5, _ =>
            exact ⟨_, _, rfl, rfl, .inr ⟨RV.wanted_no (d := 39) rfl fr (by rfl) (hp 2 39 _ (by kernel_rfl) rfl rfl) (.inl rfl) rfl, rfl⟩⟩
          | 6, _ =>
            exact ⟨_, _, rfl, rfl, .inr ⟨RV.wanted_no (d := 42) rfl fr (by rfl) (hp 5 42 _ (by kernel_rfl) rfl rfl) (.inr rfl) rfl, rfl⟩⟩
          | 7, _ =>
            exact ⟨_, _, rfl, rfl, .inr ⟨RV.wanted_no (d := 42) rfl fr (by rfl) (hp 5 42 _ (by kernel_rfl) rfl rfl) (.inr rfl) rfl, rfl⟩⟩
          | 8, _ =>
            exact ⟨_, _, rfl, rfl, .inr ⟨RV.wanted_no (d := 42) rfl fr (by rfl) (hp 5 42 _ (by kernel_rfl) rfl rfl) (.inr rfl) rfl, rfl⟩⟩
          | 9, _ =>
            exact ⟨_, _, rfl, rfl, .inr ⟨RV.wanted_no (d := 42) rfl fr (by rfl) (hp 5 42 _ (by kernel_rfl) rfl rfl) (.inr rfl) rfl, rfl⟩⟩
          | 10, _ =>
            exact ⟨_, _, rfl, rfl, .inr ⟨RV.wanted_no (d := 42) rfl fr (by rfl) (hp 5 42 _ (by kernel_rfl) rfl rfl) (.inr rfl) rfl, rfl⟩⟩
          | 11, _ =>
            exact ⟨_, _, rfl, rfl, .inr ⟨RV.wanted_no (d := 39) rfl fr (by rfl) (hp 2 39 _ (by kernel_rfl) rfl rfl) (.inl rfl) rfl, rfl⟩⟩
          | 12, _ =>
            exact ⟨_, _, rfl, rfl, .inr ⟨RV.wanted_no (d := 39) rfl fr (by rfl) (hp 2 39 _ (by kernel_rfl) rfl rfl) (.inl rfl) rfl, rfl⟩⟩
          | 13, _ =>
            exact ⟨_, _, rfl, rfl, .inr ⟨RV.wanted_no (d := 49) rfl fr (by rfl) (hp 12 49 _ (by kernel_rfl) rfl rfl) (.inr rfl) rfl, rfl⟩⟩
          | 14, _ =>
            exact ⟨_, _, rfl, rfl, .inr ⟨RV.wanted_no (d := 49) rfl fr (by rfl) (hp 12 49 _ (by kernel_rfl) rfl rfl) (.inr rfl) rfl, rfl⟩⟩
          | 15, _ =>
            exact ⟨_, _, rfl, rfl, .inr ⟨RV.wanted_no (d := 49) rfl fr (by rfl) (hp 12 49 _ (by kernel_rfl) rfl rfl) (.inr rfl) rfl, rfl⟩⟩
          | 16, _ =>
            exact ⟨_, _, rfl, rfl, .inr ⟨RV.wanted_no (d := 49) rfl fr (by rfl) (hp 12 49 _ (by kernel_rfl) rfl rfl) (.inr rfl) rfl, rfl⟩⟩
          | 17, _ =>
            exact ⟨_, _, rfl, rfl, .inr ⟨RV.wanted_no (d := 49) rfl fr (by rfl) (hp 12 49 _ (by kernel_rfl) rfl rfl) (.inr rfl) rfl, rfl⟩⟩
          | 18, _ =>
            exact ⟨_, _, rfl, rfl, .inr ⟨RV.wanted_no (d := 49) rfl fr (by rfl) (hp 12 49 _ (by kernel_rfl) rfl rfl) (.inr rfl) rfl, rfl⟩⟩
          | 19, _ =>
            exact ⟨_, _, rfl, rfl, .inr ⟨RV.wanted_no (d := 49) rfl fr (by rfl) (hp 12 49 _ (by kernel_rfl) rfl rfl) (.inr rfl) rfl, rfl⟩⟩
          | 20, _ =>
            exact ⟨_, _, rfl, rfl, .inr ⟨RV.wanted_no (d := 39) rfl fr (by rfl) (hp 2 39 _ (by kernel_rfl) rfl rfl) (.inl rfl) rfl, rfl⟩⟩
          | 21, _ =>
            exact ⟨_, _, rfl, rfl, .inr ⟨RV.wanted_no (d := 39) rfl fr (by rfl) (hp 2 39 _ (by kernel_rfl) rfl rfl) (.inl rfl) rfl, rfl⟩⟩
          | 22, _ =>
            exact ⟨_, _, rfl, rfl, .inr ⟨RV.wanted_no (d := 58) rfl fr (by rfl) (hp 21 58 _ (by kernel_rfl) rfl rfl) (.inr rfl) rfl, rfl⟩⟩
          | 23, _ =>
            exact ⟨_, _, rfl, rfl, .inr ⟨RV.wanted_no (d := 58) rfl fr (by rfl) (hp 21 58 _ (by kernel_rfl) rfl rfl) (.inr rfl) rfl, rfl⟩⟩
          | 24, _ =>
            exact ⟨_, _, rfl, rfl, .inr ⟨RV.wanted_no (d := 58) rfl fr (by rfl) (hp 21 58 _ (by kernel_rfl) rfl rfl) (.inr rfl) rfl, rfl⟩⟩
          | 25, _ =>
            exact ⟨_, _, rfl, rfl, .inr ⟨RV.wanted_no (d := 58) rfl fr (by rfl) (hp 21 58 _ (by kernel_rfl) rfl rfl) (.inr rfl) rfl, rfl⟩⟩
          | 26, _ =>
            exact ⟨_, _, rfl, rfl, .inr ⟨RV.wanted_no (d := 58) rfl fr (by rfl) (hp 21 58 _ (by kernel_rfl) rfl rfl) (.inr rfl) rfl, rfl⟩⟩
          | 27, _ =>
            exact ⟨_, _, rfl, rfl, .inr ⟨RV.wanted_no (d := 39) rfl fr (by rfl) (hp 2 39 _ (by kernel_rfl) rfl rfl) (.inl rfl) rfl, rfl⟩⟩
          | 28, _ =>
            exact ⟨_, _, rfl, rfl, .inr ⟨RV.wanted_no (d := 39) rfl fr (by rfl) (hp 2 39 _ (by kernel_rfl) rfl rfl) (.inl rfl) rfl, rfl⟩⟩
          | 29, _ =>
            exact ⟨_, _, rfl, rfl, .inr ⟨RV.wanted_no (d := 65) rfl fr (by rfl) (hp 28 65 _ (by kernel_rfl) rfl rfl) (.inr rfl) rfl, rfl⟩⟩
          | 30, _ =>
            exact ⟨_, _, rfl, rfl, .inr ⟨RV.wanted_no (d := 65) rfl fr (by rfl) (hp 28 65 _ (by kernel_rfl) rfl rfl) (.inr rfl) rfl, rfl⟩⟩
          | 31, _ =>
            exact ⟨_, _, rfl, rfl, .inr ⟨RV.wanted_no (d := 65) rfl fr (by rfl) (hp 28 65 _ (by kernel_rfl) rfl rfl) (.inr rfl) rfl, rfl⟩⟩
          | 32, _ =>
            exact ⟨_, _, rfl, rfl, .inr ⟨RV.wanted_no (d := 65) rfl fr (by rfl) (hp 28 65 _ (by kernel_rfl) rfl rfl) (.inr rfl) rfl, rfl⟩⟩
          | 33, _ =>
            exact ⟨_, _, rfl, rfl, .inr ⟨RV.wanted_no (d := 65) rfl fr (by rfl) (hp 28 65 _ (by kernel_rfl) rfl rfl) (.inr rfl) rfl, rfl⟩⟩
          | 34, _ =>
            exact ⟨_, _, rfl, rfl, .inr ⟨RV.wanted_no (d := 65) rfl fr (by rfl) (hp 28 65 _ (by kernel_rfl) rfl rfl) (.inr rfl) rfl, rfl⟩⟩
          | 35, _ =>
            exact ⟨_, _, rfl, rfl, .inr ⟨RV.wanted_no (d := 65) rfl fr (by rfl) (hp 28 65 _ (by kernel_rfl) rfl rfl) (.inr rfl) rfl, rfl⟩⟩
          | 36, _ =>
            exact ⟨_, _, rfl, rfl, .inr ⟨RV.wanted_no (d := 39) rfl fr (by rfl) (hp 2 39 _ (by kernel_rfl) rfl rfl) (.inl rfl) rfl, rfl⟩⟩
          | 37, _ =>
            exact ⟨_, _, rfl, rfl, .inr ⟨RV.wanted_no (d := 39) rfl fr (by rfl) (hp 2 39 _ (by kernel_rfl) rfl rfl) (.inl rfl) rfl, rfl⟩⟩
          | 38, _ =>
            exact ⟨_, _, rfl, rfl, .inr ⟨RV.wanted_no (d := 74) rfl fr (by rfl) (hp 37 74 _ (by kernel_rfl) rfl rfl) (.inr rfl) rfl, rfl⟩⟩
          | 39, _ =>
            exact ⟨_, _, rfl, rfl, .inr ⟨RV.wanted_no (d := 74) rfl fr (by rfl) (hp 37 74 _ (by kernel_rfl) rfl rfl) (.inr rfl) rfl, rfl⟩⟩
          | 40, _ =>
            exact ⟨_, _, rfl, rfl, .inr ⟨RV.wanted_no (d := 74) rfl fr (by rfl) (hp 37 74 _ (by kernel_rfl) rfl rfl) (.inr rfl) rfl, rfl⟩⟩
          | 41, _ =>
            exact ⟨_, _, rfl, rfl, .inr ⟨RV.wanted_no (d := 74) rfl fr (by rfl) (hp 37 74 _ (by kernel_rfl) rfl rfl) (.inr rfl) rfl, rfl⟩⟩
          | 42, _ =>
            exact ⟨_, _, rfl, rfl, .inr ⟨RV.wanted_no (d := 74) rfl fr (by rfl) (hp 37 74 _ (by kernel_rfl) rfl rfl) (.inr rfl) rfl, rfl⟩⟩
          | 43, _ =>
            exact ⟨_, _, rfl, rfl, .inr ⟨RV.wanted_no (d := 74) rfl fr (by rfl) (hp 37 74 _ (by kernel_rfl) rfl rfl) (.inr rfl) rfl, rfl⟩⟩
          | 44, _ =>
            exact ⟨_, _, rfl, rfl, .inr ⟨RV.wanted_no (d := 74) rfl fr (by rfl) (hp 37 74 _ (by kernel_rfl) rfl rfl) (.inr rfl) rfl, rfl⟩⟩
          | 45, _ =>
            exact ⟨_, _, rfl, rfl, .inr ⟨RV.wanted_no (d := 74) rfl fr (by rfl) (hp 37 74 _ (by kernel_rfl) rfl rfl) (.inr rfl) rfl, rfl⟩⟩
          | 46, _ =>
            exact ⟨_, _, rfl, rfl, .inr ⟨RV.wanted_no (d := 74) rfl fr (by rfl) (hp 37 74 _ (by kernel_rfl) rfl rfl) (.inr rfl) rfl, rfl⟩⟩
          | 47, _ =>
            exact ⟨_, _, rfl, rfl, .inr ⟨RV.wanted_no (d := 39) rfl fr (by rfl) (hp 2 39 _ (by kernel_rfl) rfl rfl) (.inl rfl) rfl, rfl⟩⟩
          | 48, _ =>
            exact ⟨_, _, rfl, rfl, .inr ⟨RV.wanted_no (d := 39) rfl fr (by rfl) (hp 2 39 _ (by kernel_rfl) rfl rfl) (.inl rfl) rfl, rfl⟩⟩
          | 49, _ =>
            exact ⟨_, _, rfl, rfl, .inr ⟨RV.wanted_no (d := 85) rfl fr (by rfl) (hp 48 85 _ (by kernel_rfl) rfl rfl) (.inr rfl) rfl, rfl⟩⟩
          | 50, _ =>
            exact ⟨_, _, rfl, rfl, .inr ⟨RV.wanted_no (d := 85) rfl fr (by rfl) (hp 48 85 _ (by kernel_rfl) rfl rfl) (.inr rfl) rfl, rfl⟩⟩
          | 51, _ =>
            exact ⟨_, _, rfl, rfl, .inr ⟨RV.wanted_no (d := 85) rfl fr (by rfl) (hp 48 85 _ (by kernel_rfl) rfl rfl) (.inr rfl) rfl, rfl⟩⟩
          | 52, _ =>
            exact ⟨_, _, rfl, rfl, .inr ⟨RV.wanted_no (d := 85) rfl fr (by rfl) (hp 48 85 _ (by kernel_rfl) rfl rfl) (.inr rfl) rfl, rfl⟩⟩
          | 53, _ =>
            exact ⟨_, _, rfl, rfl, .inr ⟨RV.wanted_no (d := 85) rfl fr (by rfl) (hp 48 85 _ (by kernel_rfl) rfl rfl) (.inr rfl) rfl, rfl⟩⟩
          | 54, _ =>
            exact ⟨_, _, rfl, rfl, .inr ⟨RV.wanted_no (d := 85) rfl fr (by rfl) (hp 48 85 _ (by kernel_rfl) rfl rfl) (.inr rfl) rfl, rfl⟩⟩
          | 55, _ =>
            exact ⟨_, _, rfl, rfl, .inr ⟨RV.wanted_no (d := 85) rfl fr (by rfl) (hp 48 85 _ (by kernel_rfl) rfl rfl) (.inr rfl) rfl, rfl⟩⟩
          | 56, _ =>
            exact ⟨_, _, rfl, rfl, .inr ⟨RV.wanted_no (d := 39) rfl fr (by rfl) (hp 2 39 _ (by kernel_rfl) rfl rfl) (.inl rfl) rfl, rfl⟩⟩
          | 57, _ =>
            exact ⟨_, _, rfl, rfl, .inr ⟨RV.wanted_no (d := 39) rfl fr (by rfl) (hp 2 39 _ (by kernel_rfl) rfl rfl) (.inl rfl) rfl, rfl⟩⟩
          | 58, _ =>
            exact ⟨_, _, rfl, rfl, .inr ⟨RV.wanted_no (d := 94) rfl fr (by rfl) (hp 57 94 _ (by kernel_rfl) rfl rfl) (.inr rfl) rfl, rfl⟩⟩
          | 59, _ =>
            exact ⟨_, _, rfl, rfl, .inr ⟨RV.wanted_no (d := 94) rfl fr (by rfl) (hp 57 94 _ (by kernel_rfl) rfl rfl) (.inr rfl) rfl, rfl⟩⟩
          | 60, _ =>
            exact ⟨_, _, rfl, rfl, .inr ⟨RV.wanted_no (d := 94) rfl fr (by rfl) (hp 57 94 _ (by kernel_rfl) rfl rfl) (.inr rfl) rfl, rfl⟩⟩
          | 61, _ =>
            exact ⟨_, _, rfl, rfl, .inr ⟨RV.wanted_no (d := 94) rfl fr (by rfl) (hp 57 94 _ (by kernel_rfl) rfl rfl) (.inr rfl) rfl, rfl⟩⟩
          | 62, _ =>
            exact ⟨_, _, rfl, rfl, .inr ⟨RV.wanted_no (d := 94) rfl fr (by rfl) (hp 57 94 _ (by kernel_rfl) rfl rfl) (.inr rfl) rfl, rfl⟩⟩
          | 63, _ =>
            exact ⟨_, _, rfl, rfl, .inr ⟨RV.wanted_no (d := 94) rfl fr (by rfl) (hp 57 94 _ (by kernel_rfl) rfl rfl) (.inr rfl) rfl, rfl⟩⟩
          | 64, _ =>
            exact ⟨_, _, rfl, rfl, .inr ⟨RV.wanted_no (d := 94) rfl fr (by rfl) (hp 57 94 _ (by kernel_rfl) rfl rfl) (.inr rfl) rfl, rfl⟩⟩
          | 65, _ =>
            exact ⟨_, _, rfl, rfl, .inr ⟨RV.wanted_no (d := 94) rfl fr (by rfl) (hp 57 94 _ (by kernel_rfl) rfl rfl) (.inr rfl) rfl, rfl⟩⟩
          | 66, _ =>
            exact ⟨_, _, rfl, rfl, .inr ⟨RV.wanted_no (d := 94) rfl fr (by rfl) (hp 57 94 _ (by kernel_rfl) rfl rfl) (.inr rfl) rfl, rfl⟩⟩
          | 67, _ =>
            exact ⟨_, _, rfl, rfl, .inr ⟨RV.wanted_no (d := 94) rfl fr (by rfl) (hp 57 94 _ (by kernel_rfl) rfl rfl) (.inr rfl) rfl, rfl⟩⟩
          | 68, _ =>
            exact ⟨_, _, rfl, rfl, .inr ⟨RV.wanted_no (d := 94) rfl fr (by rfl) (hp 57 94 _ (by kernel_rfl) rfl rfl) (.inr rfl) rfl, rfl⟩⟩
          | 69, _ =>
            exact ⟨_, _, rfl, rfl, .inr ⟨RV.wanted_no (d := 39) rfl fr (by rfl) (hp 2 39 _ (by kernel_rfl) rfl rfl) (.inl rfl) rfl, rfl⟩⟩
          | 70, _ =>
            have p39 : fa.eval (.tmp 39) = .bool false := hp 2 39 _ (by kernel_rfl) rfl rfl
            have p106 : fa.eval (.tmp 106) = undef := hp 69 106 _ (by kernel_rfl) rfl rfl
            simp only [Act.eval] at p39 p106
            refine ⟨_, _, rfl, rfl, .inl ⟨RV.wanted_none rfl, .inl ⟨fw, ?_, hG⟩⟩⟩
            simp only [execOp, Act.eval]
            go_simp
            all_goals first | omega | (intro hh; omega) | (simp only [IntKind.wrap_i64]; omega) | simp
          | i + 71, hi => exact absurd hi (by show ¬ (i + 71 < 71); omega)
        · intro w2 hG
          simp only [RV.putAll, List.zip_cons_cons, List.zip_nil_left, List.zip_nil_right, List.foldl_cons, List.foldl_nil, Act.put, List.setIfInBounds_toArray, List.set_cons_zero, List.set_cons_succ]
          have HB3 := Lib.hid hG; clear HB; have HB := HB3; clear HB3 hG
          go_wp2_with (first
            | (go_at_call 13; refine (bawake _).mono ?_; rintro e w1 ⟨rfl, hb⟩; have HB2 := Lib.hid (HB.out.trans (hb.mono HB.out.size)); clear hb HB; have HB := HB2; clear HB2)
            | (go_at_call 28; refine (H3.out _).mono ?_; rintro e w1 ⟨rfl, hb⟩; have HB2 := Lib.hid (HB.out.trans (hb.mono HB.out.size)); clear hb HB; have HB := HB2; clear HB2))
          go_ret
          exact ⟨rfl, HB.out⟩
  · have hl' : (3000 < b0.length) := by omega
    clear hl
    go_enter Tryd.func11, Tryd.ntmps11
    go_wp2_with (first
      | (go_at_call 13; refine (bawake _).mono ?_; rintro e w1 ⟨rfl, hb⟩; have HB2 := Lib.hid (HB.out.trans (hb.mono HB.out.size)); clear hb HB; have HB := HB2; clear HB2))
    go_ret
    first
      | exact ⟨rfl, HB.out⟩
      | (refine ⟨?_, HB.out⟩; simp)
set_option maxRecDepth 100000 in
theorem lifted (os : Os) (started : os.Started) (H : Type) (enc : TypeId × Value → H) :
    ReturnsInHanded {} Tryd.checked os 11 .any (fun w args => (Rows.bitsPlacesSpec.pre enc Tryd.prog Tryd.f11 Rows.bitsPlacesRow.domain false w args ∧ laidMetH Tryd.prog Rows.bitsPlacesRow.laid w) ∧ sizedMet enc Tryd.prog Tryd.f11 (OpenSpec.ofChange Rows.bitsPlacesSpec) false w args) (Rows.bitsPlacesSpec.post enc Tryd.prog Tryd.f11 false true false false) := by
  refine returnsInHanded_of_change_and (C := Tryd.checked) (X := fun w _ => laidMetH Tryd.prog Rows.bitsPlacesRow.laid w) (fun _ _ _ hh h => h.of_heap hh) own started (by kernel_rfl) Tryd.func11
    (ChangeSpec.witness_shaped (enc := enc) (C := Tryd.checked) (os := os) (X := fun w _ => laidMetH Tryd.prog Rows.bitsPlacesRow.laid w) false (World.laidAll Tryd.prog os Rows.bitsPlacesRow.laid) #[.string ByteArray.empty, .int .i64 0, .int .i64 0] 8 (World.laidAll_os _ _ _)
      (World.shaped_of_ZipB (by kernel_rfl) (by kernel_rfl)) (by kernel_rfl) (by kernel_rfl) (by kernel_rfl)
      (by rw [MakeChecks.laidMetH_plain _ _ _ (by kernel_rfl)]; exact laidMet_laidAll _ (by kernel_rfl) (by kernel_rfl))) ?_
  intro W base args ds gs before hval0 hW hcnd _ _ _
  have hval : ∀ (j : Nat) t v, Tryd.f11.params[j]? = some t → args[j]? = some v → Value.okWide Tryd.prog W .any base t v := hval0
  have hW' := hW
  obtain ⟨p, q, hA0, hV, hpq, hfz, hnd⟩ := hW
  have hA : DataW.TrodAll enc Tryd.prog W 0 (fun _ => true) true Tryd.f11.params.toList args.toList ds p := hA0
  rw [Tryd.params11] at hA hval
  obtain ⟨v0, vs0, d0, ds0, p0, q0, hargs, rfl, rfl, h0, r0⟩ := trodAll_cons hA
  obtain ⟨v1, vs1, d1, ds1, p1, q1, rfl, rfl, rfl, h1, r1⟩ := trodAll_cons r0
  obtain ⟨v2, vs2, d2, ds2, p2, q2, rfl, rfl, rfl, h2, r2⟩ := trodAll_cons r1
  obtain ⟨rfl, rfl, rfl⟩ := trodAll_nil r2
  obtain rfl : args = #[v0, v1, v2] := by cases args; simp_all
  obtain ⟨rfl, rfl⟩ := trodVars_none hV
  obtain ⟨y0, rfl, rfl, rfl, l0⟩ := Go.ChangeMaps.open_string Tryd.underlying9 (hval 0 9 v0 rfl rfl) h0
  obtain ⟨b0, rfl⟩ : ∃ b : List UInt8, y0 = ⟨b.toArray⟩ := ⟨y0.data.toList, by cases y0; simp⟩
  obtain ⟨a1, rfl, rfl, rfl, w1⟩ := open_int Tryd.underlying3 (hval 1 3 v1 rfl rfl) h1
  obtain ⟨a2, rfl, rfl, rfl, w2⟩ := open_int Tryd.underlying3 (hval 2 3 v2 rfl rfl) h2
  refine (walk W b0 l0 a1 w1 a2 w2).mono fun e W' ⟨he, hb⟩ => ?_
  subst he
  exact ⟨_, rfl, Frame.close laidOut hW' rfl rfl rfl Tryd.underlying4 (fun t ht => by rw [Tryd.params11] at ht; simp at ht; rcases ht with rfl | rfl <;> exact ⟨by kernel_rfl, of_decide_eq_true (by kernel_rfl)⟩) hb⟩
theorem over : Rows.bitsPlacesRow.holds Tryd.pinned (OpenSpec.ofChange Rows.bitsPlacesSpec) :=
  OpenClaim.holds_of_wide 11 Tryd.f11 rfl rfl rfl rfl rfl rfl rfl ⟨rfl, rfl, rfl, rfl, rfl⟩ rfl rfl rfl rfl rfl (by kernel_rfl) Tryd.func11 (by kernel_rfl)
    (of_decide_eq_true (by kernel_rfl)) (by unfold Func.isWrapper; first | (rw [if_pos (by decide +kernel)]; kernel_rfl) | (rw [if_neg (by decide +kernel)]; exact ⟨rfl, rfl⟩))
    (fun os started H enc _ => lifted os started H enc)
/-- the statement -/
theorem proved : Rows.BitsPlacesCardSaid :=
  Claim7.holds_tied_plain_at .later [] _ _ _ _ over (fun _ h => by cases h) (by kernel_rfl) (fun _ h => by cases h) bitsPlaces_row_tie rfl ⟨rfl, rfl⟩ (by kernel_rfl) rfl
    (fun f fn hf hfn => by
      obtain rfl : f = 11 := Option.some.inj ((show Tryd.prog.funcNamed "tombola/tombolalaw07.BitsPlaces" = some 11 by kernel_rfl).symm.trans hf) |>.symm
      obtain rfl : fn = Tryd.f11 := (Option.some.inj (Tryd.func11.symm.trans hfn)).symm
      exact ⟨by kernel_rfl, (fun j t ht => by
        rw [Tryd.params11] at ht
        have hm : t ∈ [9, 3, 3] := by simpa using Array.mem_of_getElem? ht
        have hall : ([9, 3, 3].all fun u => !Tryd.prog.wantsStandIn u) = true := by kernel_rfl
        exact (show Tryd.prog.wantsStandIn t = false by simpa using List.all_eq_true.1 hall t hm))⟩)
    (by kernel_rfl)
#print axioms proved
end Go.Proofs.YtcpkkceoobioiaaDoor.bitsPlaces
