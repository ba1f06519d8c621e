/-
  PROVED: the statement BitsLess (tombolalaw07.BitsLess) about the landed commit: for every input the law returns true and leaves its arguments as they were. Conditions: none beyond those that the given row itself prints.
-/
import Derived.Test.YtcpkkceoobioiaaDoorCards
import Derived.Test.YtcpkkceoobioiaaDoorTie
import Derived.LaidMore
import Derived.Lay
import Derived.SevenTiedAt
import Derived.Stop.Joined
import Derived.Test.YtcpkkceoobioiaaDoorRows
import Derived.WalkKit
import Derived.ProofKit
import Derived.OpenShut
import Derived.RowKit3
import Derived.Test.YtcpkkceoobioiaaDoorGFrame
import Derived.Test.YtcpkkceoobioiaaDoorBitAwake
import Derived.Test.YtcpkkceoobioiaaDoorBitMath3
namespace Go.Proofs.YtcpkkceoobioiaaDoor.bitsLess
open Go.ChangeShapes Go.WideShapes Go.ChangeAt Go.RowKit
set_option linter.unusedVariables false
set_option linter.unusedSimpArgs false
set_option maxRecDepth 20000
open N
theorem own : ownKnob Tryd.prog.godebug = none := by kernel_rfl
theorem downE_zero {l : List UInt8} {a : Int} (h : downE l a = 0) : isB l = true ∧ 0 ≤ a ∧ a < l.length ∧ l.getD a.toNat 0 = 49 := by
  unfold downE at h
  by_cases hB : isB l = true
  · rw [if_pos hB] at h
    by_cases hp : isOne l a
    · exact ⟨hB, hp⟩
    · rw [if_neg hp] at h; cases h
  · rw [if_neg hB] at h; cases h
set_option maxRecDepth 100000 in
set_option maxHeartbeats 40000000 in
theorem walk (w : World) (b0 : List UInt8) (l0 : b0.length ≤ maxLen) (a1 : Int) (w1 : (Lit.int .i64 a1).wf = true) (a2 : Int) (w2 : (Lit.int .i64 a2).wf = true) :
    Calls Tryd.prog 10 #[.string ⟨b0.toArray⟩, .int .i64 a1, .int .i64 a2] w fun e w' => e = .returned (.bool true) ∧ Below w.heap.size w w' := by
  have lm0 := l0
  unfold maxLen at lm0
  have HB := Lib.hid (Below.refl w.heap.size w)
  by_cases hl : b0.length ≤ 3000
  · by_cases hg : downE b0 a1 = 0
    · have hv : downV b0 a1 = downB b0 a1.toNat := by unfold downV; rw [if_pos hg]
      obtain ⟨gB, g1, g2, g3⟩ := downE_zero hg
      obtain ⟨dB, dc, dl⟩ := down_less gB (a := a1.toNat) (by omega) g3
      obtain ⟨dv, hdv⟩ : ∃ x, downB b0 a1.toNat = x := ⟨_, rfl⟩
      rw [hdv] at hv dB dc dl
      have mdv : dv.length ≤ maxLen := by unfold maxLen; omega
      have H3 := Lib.hid (fun W : World => show Calls Tryd.prog 28 #[.string ⟨b0.toArray⟩, .int .i64 a1] W fun e w' => e = .returned (.tuple #[.string ⟨(dv).toArray⟩, .int .i64 (0)]) ∧ Below W.heap.size W w' from by
        have h := down_any W b0 l0 a1 w1
        rwa [hv, hg] at h)
      clear hv hg hdv dl g1 g2 g3 gB
      by_cases he : partE b0 a1 a2 = 0
      · obtain ⟨hB, p1, p2, p3⟩ := partE_zero he
        obtain ⟨x, rfl⟩ := Int.eq_ofNat_of_zero_le p1
        obtain ⟨y, rfl⟩ := Int.eq_ofNat_of_zero_le (show 0 ≤ a2 by omega)
        have hxy : x + y ≤ b0.length := by omega
        have hy1 : 1 ≤ y := by omega
        have c1 : cutV b0 (x : Int) (y : Int) = cutB b0 x y := by unfold cutV; rw [if_pos he]; rfl
        have c2 : clearV b0 (x : Int) (y : Int) = clearB b0 x y := by unfold clearV; rw [if_pos he]; rfl
        obtain ⟨cB, cc, cl⟩ := cut_less hB hy1 hxy
        have kB := clear_isB (a := x) (n := y) hB hxy
        have kl := clear_len (l := b0) hxy
        have HK1 := Lib.hid (fun h => clear_one hB hxy h)
        have HK2 := Lib.hid (fun h => clear_same hB hxy h)
        obtain ⟨cv, hcv⟩ : ∃ v, cutB b0 x y = v := ⟨_, rfl⟩
        obtain ⟨kv, hkv⟩ : ∃ v, clearB b0 x y = v := ⟨_, rfl⟩
        rw [hcv] at c1 cB cc cl
        rw [hkv] at c2 kB kl HK1 HK2
        have hl1024 := (isB_iff.1 hB).1
        have mcv : cv.length ≤ maxLen := by unfold maxLen; omega
        have mkv : kv.length ≤ maxLen := by unfold maxLen; omega
        have H1 := Lib.hid (fun W : World => show Calls Tryd.prog 24 #[.string ⟨b0.toArray⟩, .int .i64 (x : Int), .int .i64 (y : Int)] W fun e w' => e = .returned (.tuple #[.string ⟨(cv).toArray⟩, .int .i64 (0)]) ∧ Below W.heap.size W w' from by
          have h := cut_any W b0 l0 (x : Int) (y : Int) w1 w2
          rwa [c1, he] at h)
        have H2 := Lib.hid (fun W : World => show Calls Tryd.prog 26 #[.string ⟨b0.toArray⟩, .int .i64 (x : Int), .int .i64 (y : Int)] W fun e w' => e = .returned (.tuple #[.string ⟨(kv).toArray⟩, .int .i64 (0)]) ∧ Below W.heap.size W w' from by
          have h := clear_any W b0 l0 (x : Int) (y : Int) w1 w2
          rwa [c2, he] at h)
        have HP := Lib.hid (fun W : World => lpart_yes W b0 l0 x y hy1 hxy)
        have hidx : ∀ (k : Nat), k < b0.length → ∀ W : World, (Instr.index 9 (.string ⟨b0.toArray⟩) (.int .i64 (k : Int))).run Tryd.prog W = .ok (.int .u8 (bat b0 k)) W := fun k hk W => str_at b0 9 strU .i64 k hk W
        have HX := Lib.hid hidx
        clear hidx c1 c2 hcv hkv he p1 p2 p3 kl cl hB
        go_enter Tryd.func10, Tryd.ntmps10
        go_wp2_with (first
          | (go_at_call 13; refine (bawake _).mono ?_; rintro e w1 ⟨rfl, hb⟩; have HB2 := Lib.hid (HB.out.trans (hb.mono HB.out.size)); clear hb HB; have HB := HB2; clear HB2)
          | (go_at_call 24; refine (H1.out _).mono ?_; rintro e w1 ⟨rfl, hb⟩; have HB2 := Lib.hid (HB.out.trans (hb.mono HB.out.size)); clear hb HB; have HB := HB2; clear HB2)
          | (go_at_call 26; refine (H2.out _).mono ?_; rintro e w1 ⟨rfl, hb⟩; have HB2 := Lib.hid (HB.out.trans (hb.mono HB.out.size)); clear hb HB; have HB := HB2; clear HB2)
          | (go_at_call 28; refine (H3.out _).mono ?_; rintro e w1 ⟨rfl, hb⟩; have HB2 := Lib.hid (HB.out.trans (hb.mono HB.out.size)); clear hb HB; have HB := HB2; clear HB2)
          | (go_at_call 18; refine (is_any _ _ (by assumption)).mono ?_; rintro e w1 ⟨rfl, hb⟩; have HB2 := Lib.hid (HB.out.trans (hb.mono HB.out.size)); clear hb HB; have HB := HB2; clear HB2)
          | (go_at_call 20; refine (cmp_any _ _ _ (by assumption) (by assumption)).mono ?_; rintro e w1 ⟨rfl, rfl⟩)
          | (go_at_call 32; refine (HP.out _).mono ?_; rintro e w1 ⟨rfl, rfl⟩))
        go_loop [13, 14] (fun one i => ∃ k : Nat, k ≤ y ∧ i = .int .i64 ((x + k : Nat) : Int) ∧ one = .bool (decide ((49 : UInt8) ∈ ((b0.drop x).take k)))) (fun _ i => x + y - (intOf i).toNat)
        case atStart => exact ⟨0, by omega, rfl, by simp⟩
        case round =>
          obtain ⟨k, hk, rfl, rfl⟩ := hrel
          obtain ⟨p, hp⟩ : ∃ p, decide ((49 : UInt8) ∈ ((b0.drop x).take k)) = p := ⟨_, rfl⟩
          rw [hp]
          by_cases hlt : k < y
          · have hm := mem_take_succ (b0.drop x) k (by rw [List.length_drop]; omega) 49
            have hgd : (b0.drop x).getD k 0 = b0.getD (x + k) 0 := by rw [List.getD_eq_getElem?_getD, List.getD_eq_getElem?_getD, List.getElem?_drop]
            obtain ⟨q, hq⟩ : ∃ q, (b0.getD (x + k) 0 == 49) = q := ⟨_, rfl⟩
            rw [hp, hgd, hq] at hm
            have hb49 : (bat b0 (x + k) == 49) = q := by
              rw [← hq]
              unfold bat
              generalize b0.getD (x + k) 0 = c
              rw [Bool.eq_iff_iff]
              simp only [beq_iff_eq]
              exact ⟨fun e => UInt8.toNat_inj.1 (by show c.toNat = 49; omega), fun e => by rw [e]; rfl⟩
            have hx := HX.out (x + k) (by omega)
            have hcast : ((x + k : Nat) : Int) < (x : Int) + (y : Int) := by omega
            have HM := Lib.hid hm
            obtain ⟨j, hj⟩ : ∃ j, x + k = j := ⟨_, rfl⟩
            rw [hj] at hx hb49 hcast ⊢
            have hjk : j + 1 = x + (k + 1) := by omega
            clear hm hq hp hgd
            cases p
            · go_wp2
              go_round
              case rel => exact ⟨k + 1, by omega, by go_num, by rw [HM.out]; simp [hb49]⟩
              case measure => simp [intOf]; omega
            · go_wp2
              go_round
              case rel => exact ⟨k + 1, by omega, by go_num, by rw [HM.out]; rfl⟩
              case measure => simp [intOf]; omega
          · obtain rfl : k = y := by omega
            cases p
            · have hkk := HK2.out (by simpa using hp)
              have hbe : (kv == b0) = true := by rw [hkk]; exact beq_self_eq_true b0
              clear hp hkk
              go_wp2_with (first | (go_at_call 20; refine (cmp_any _ _ _ (by assumption) (by assumption)).mono ?_; rintro e w1 ⟨rfl, rfl⟩))
              go_ret
              exact ⟨rfl, HB.out⟩
            · have hkc := HK1.out (by simpa using hp)
              clear hp
              go_wp2_with (first | (go_at_call 20; refine (cmp_any _ _ _ (by assumption) (by assumption)).mono ?_; rintro e w1 ⟨rfl, rfl⟩))
              go_ret
              exact ⟨rfl, HB.out⟩
      · have c1 : cutV b0 a1 a2 = [] := by unfold cutV; rw [if_neg he]
        have c2 : clearV b0 a1 a2 = [] := by unfold clearV; rw [if_neg he]
        obtain ⟨ev, hee⟩ : ∃ e, partE b0 a1 a2 = e := ⟨_, rfl⟩
        rw [hee] at he
        have H1 := Lib.hid (fun W : World => show Calls Tryd.prog 24 #[.string ⟨b0.toArray⟩, .int .i64 a1, .int .i64 a2] W fun e w' => e = .returned (.tuple #[.string ⟨([]).toArray⟩, .int .i64 (ev)]) ∧ Below W.heap.size W w' from by
          have h := cut_any W b0 l0 a1 a2 w1 w2
          rwa [c1, hee] at h)
        have H2 := Lib.hid (fun W : World => show Calls Tryd.prog 26 #[.string ⟨b0.toArray⟩, .int .i64 a1, .int .i64 a2] W fun e w' => e = .returned (.tuple #[.string ⟨([]).toArray⟩, .int .i64 (ev)]) ∧ Below W.heap.size W w' from by
          have h := clear_any W b0 l0 a1 a2 w1 w2
          rwa [c2, hee] at h)
        have he0 : (ev == 0) = false := by simpa using he
        have he1 : (ev != 0) = true := by simpa using he
        clear c1 c2 hee he
        go_enter Tryd.func10, Tryd.ntmps10
        go_wp2_with (first
          | (go_at_call 13; refine (bawake _).mono ?_; rintro e w1 ⟨rfl, hb⟩; have HB2 := Lib.hid (HB.out.trans (hb.mono HB.out.size)); clear hb HB; have HB := HB2; clear HB2)
          | (go_at_call 24; refine (H1.out _).mono ?_; rintro e w1 ⟨rfl, hb⟩; have HB2 := Lib.hid (HB.out.trans (hb.mono HB.out.size)); clear hb HB; have HB := HB2; clear HB2)
          | (go_at_call 26; refine (H2.out _).mono ?_; rintro e w1 ⟨rfl, hb⟩; have HB2 := Lib.hid (HB.out.trans (hb.mono HB.out.size)); clear hb HB; have HB := HB2; clear HB2)
          | (go_at_call 28; refine (H3.out _).mono ?_; rintro e w1 ⟨rfl, hb⟩; have HB2 := Lib.hid (HB.out.trans (hb.mono HB.out.size)); clear hb HB; have HB := HB2; clear HB2)
          | (go_at_call 18; refine (is_any _ _ (by assumption)).mono ?_; rintro e w1 ⟨rfl, hb⟩; have HB2 := Lib.hid (HB.out.trans (hb.mono HB.out.size)); clear hb HB; have HB := HB2; clear HB2)
          | (go_at_call 20; refine (cmp_any _ _ _ (by assumption) (by assumption)).mono ?_; rintro e w1 ⟨rfl, rfl⟩))
        go_ret
        first
          | exact ⟨rfl, HB.out⟩
          | (refine ⟨?_, HB.out⟩; simp)
    · have hv : downV b0 a1 = [] := by unfold downV; rw [if_neg hg]
      obtain ⟨g, hgg⟩ : ∃ g, downE b0 a1 = g := ⟨_, rfl⟩
      rw [hgg] at hg
      have H3 := Lib.hid (fun W : World => show Calls Tryd.prog 28 #[.string ⟨b0.toArray⟩, .int .i64 a1] W fun e w' => e = .returned (.tuple #[.string ⟨([]).toArray⟩, .int .i64 (g)]) ∧ Below W.heap.size W w' from by
        have h := down_any W b0 l0 a1 w1
        rwa [hv, hgg] at h)
      have hg0 : (g == 0) = false := by simpa using hg
      clear hv hgg hg
      by_cases he : partE b0 a1 a2 = 0
      · obtain ⟨hB, p1, p2, p3⟩ := partE_zero he
        obtain ⟨x, rfl⟩ := Int.eq_ofNat_of_zero_le p1
        obtain ⟨y, rfl⟩ := Int.eq_ofNat_of_zero_le (show 0 ≤ a2 by omega)
        have hxy : x + y ≤ b0.length := by omega
        have hy1 : 1 ≤ y := by omega
        have c1 : cutV b0 (x : Int) (y : Int) = cutB b0 x y := by unfold cutV; rw [if_pos he]; rfl
        have c2 : clearV b0 (x : Int) (y : Int) = clearB b0 x y := by unfold clearV; rw [if_pos he]; rfl
        obtain ⟨cB, cc, cl⟩ := cut_less hB hy1 hxy
        have kB := clear_isB (a := x) (n := y) hB hxy
        have kl := clear_len (l := b0) hxy
        have HK1 := Lib.hid (fun h => clear_one hB hxy h)
        have HK2 := Lib.hid (fun h => clear_same hB hxy h)
        obtain ⟨cv, hcv⟩ : ∃ v, cutB b0 x y = v := ⟨_, rfl⟩
        obtain ⟨kv, hkv⟩ : ∃ v, clearB b0 x y = v := ⟨_, rfl⟩
        rw [hcv] at c1 cB cc cl
        rw [hkv] at c2 kB kl HK1 HK2
        have hl1024 := (isB_iff.1 hB).1
        have mcv : cv.length ≤ maxLen := by unfold maxLen; omega
        have mkv : kv.length ≤ maxLen := by unfold maxLen; omega
        have H1 := Lib.hid (fun W : World => show Calls Tryd.prog 24 #[.string ⟨b0.toArray⟩, .int .i64 (x : Int), .int .i64 (y : Int)] W fun e w' => e = .returned (.tuple #[.string ⟨(cv).toArray⟩, .int .i64 (0)]) ∧ Below W.heap.size W w' from by
          have h := cut_any W b0 l0 (x : Int) (y : Int) w1 w2
          rwa [c1, he] at h)
        have H2 := Lib.hid (fun W : World => show Calls Tryd.prog 26 #[.string ⟨b0.toArray⟩, .int .i64 (x : Int), .int .i64 (y : Int)] W fun e w' => e = .returned (.tuple #[.string ⟨(kv).toArray⟩, .int .i64 (0)]) ∧ Below W.heap.size W w' from by
          have h := clear_any W b0 l0 (x : Int) (y : Int) w1 w2
          rwa [c2, he] at h)
        have HP := Lib.hid (fun W : World => lpart_yes W b0 l0 x y hy1 hxy)
        have hidx : ∀ (k : Nat), k < b0.length → ∀ W : World, (Instr.index 9 (.string ⟨b0.toArray⟩) (.int .i64 (k : Int))).run Tryd.prog W = .ok (.int .u8 (bat b0 k)) W := fun k hk W => str_at b0 9 strU .i64 k hk W
        have HX := Lib.hid hidx
        clear hidx c1 c2 hcv hkv he p1 p2 p3 kl cl hB
        go_enter Tryd.func10, Tryd.ntmps10
        go_wp2_with (first
          | (go_at_call 13; refine (bawake _).mono ?_; rintro e w1 ⟨rfl, hb⟩; have HB2 := Lib.hid (HB.out.trans (hb.mono HB.out.size)); clear hb HB; have HB := HB2; clear HB2)
          | (go_at_call 24; refine (H1.out _).mono ?_; rintro e w1 ⟨rfl, hb⟩; have HB2 := Lib.hid (HB.out.trans (hb.mono HB.out.size)); clear hb HB; have HB := HB2; clear HB2)
          | (go_at_call 26; refine (H2.out _).mono ?_; rintro e w1 ⟨rfl, hb⟩; have HB2 := Lib.hid (HB.out.trans (hb.mono HB.out.size)); clear hb HB; have HB := HB2; clear HB2)
          | (go_at_call 28; refine (H3.out _).mono ?_; rintro e w1 ⟨rfl, hb⟩; have HB2 := Lib.hid (HB.out.trans (hb.mono HB.out.size)); clear hb HB; have HB := HB2; clear HB2)
          | (go_at_call 18; refine (is_any _ _ (by assumption)).mono ?_; rintro e w1 ⟨rfl, hb⟩; have HB2 := Lib.hid (HB.out.trans (hb.mono HB.out.size)); clear hb HB; have HB := HB2; clear HB2)
          | (go_at_call 20; refine (cmp_any _ _ _ (by assumption) (by assumption)).mono ?_; rintro e w1 ⟨rfl, rfl⟩)
          | (go_at_call 32; refine (HP.out _).mono ?_; rintro e w1 ⟨rfl, rfl⟩))
        go_loop [13, 14] (fun one i => ∃ k : Nat, k ≤ y ∧ i = .int .i64 ((x + k : Nat) : Int) ∧ one = .bool (decide ((49 : UInt8) ∈ ((b0.drop x).take k)))) (fun _ i => x + y - (intOf i).toNat)
        case atStart => exact ⟨0, by omega, rfl, by simp⟩
        case round =>
          obtain ⟨k, hk, rfl, rfl⟩ := hrel
          obtain ⟨p, hp⟩ : ∃ p, decide ((49 : UInt8) ∈ ((b0.drop x).take k)) = p := ⟨_, rfl⟩
          rw [hp]
          by_cases hlt : k < y
          · have hm := mem_take_succ (b0.drop x) k (by rw [List.length_drop]; omega) 49
            have hgd : (b0.drop x).getD k 0 = b0.getD (x + k) 0 := by rw [List.getD_eq_getElem?_getD, List.getD_eq_getElem?_getD, List.getElem?_drop]
            obtain ⟨q, hq⟩ : ∃ q, (b0.getD (x + k) 0 == 49) = q := ⟨_, rfl⟩
            rw [hp, hgd, hq] at hm
            have hb49 : (bat b0 (x + k) == 49) = q := by
              rw [← hq]
              unfold bat
              generalize b0.getD (x + k) 0 = c
              rw [Bool.eq_iff_iff]
              simp only [beq_iff_eq]
              exact ⟨fun e => UInt8.toNat_inj.1 (by show c.toNat = 49; omega), fun e => by rw [e]; rfl⟩
            have hx := HX.out (x + k) (by omega)
            have hcast : ((x + k : Nat) : Int) < (x : Int) + (y : Int) := by omega
            have HM := Lib.hid hm
            obtain ⟨j, hj⟩ : ∃ j, x + k = j := ⟨_, rfl⟩
            rw [hj] at hx hb49 hcast ⊢
            have hjk : j + 1 = x + (k + 1) := by omega
            clear hm hq hp hgd
            cases p
            · go_wp2
              go_round
              case rel => exact ⟨k + 1, by omega, by go_num, by rw [HM.out]; simp [hb49]⟩
              case measure => simp [intOf]; omega
            · go_wp2
              go_round
              case rel => exact ⟨k + 1, by omega, by go_num, by rw [HM.out]; rfl⟩
              case measure => simp [intOf]; omega
          · obtain rfl : k = y := by omega
            cases p
            · have hkk := HK2.out (by simpa using hp)
              have hbe : (kv == b0) = true := by rw [hkk]; exact beq_self_eq_true b0
              clear hp hkk
              go_wp2_with (first | (go_at_call 20; refine (cmp_any _ _ _ (by assumption) (by assumption)).mono ?_; rintro e w1 ⟨rfl, rfl⟩))
              go_ret
              exact ⟨rfl, HB.out⟩
            · have hkc := HK1.out (by simpa using hp)
              clear hp
              go_wp2_with (first | (go_at_call 20; refine (cmp_any _ _ _ (by assumption) (by assumption)).mono ?_; rintro e w1 ⟨rfl, rfl⟩))
              go_ret
              exact ⟨rfl, HB.out⟩
      · have c1 : cutV b0 a1 a2 = [] := by unfold cutV; rw [if_neg he]
        have c2 : clearV b0 a1 a2 = [] := by unfold clearV; rw [if_neg he]
        obtain ⟨ev, hee⟩ : ∃ e, partE b0 a1 a2 = e := ⟨_, rfl⟩
        rw [hee] at he
        have H1 := Lib.hid (fun W : World => show Calls Tryd.prog 24 #[.string ⟨b0.toArray⟩, .int .i64 a1, .int .i64 a2] W fun e w' => e = .returned (.tuple #[.string ⟨([]).toArray⟩, .int .i64 (ev)]) ∧ Below W.heap.size W w' from by
          have h := cut_any W b0 l0 a1 a2 w1 w2
          rwa [c1, hee] at h)
        have H2 := Lib.hid (fun W : World => show Calls Tryd.prog 26 #[.string ⟨b0.toArray⟩, .int .i64 a1, .int .i64 a2] W fun e w' => e = .returned (.tuple #[.string ⟨([]).toArray⟩, .int .i64 (ev)]) ∧ Below W.heap.size W w' from by
          have h := clear_any W b0 l0 a1 a2 w1 w2
          rwa [c2, hee] at h)
        have he0 : (ev == 0) = false := by simpa using he
        have he1 : (ev != 0) = true := by simpa using he
        clear c1 c2 hee he
        go_enter Tryd.func10, Tryd.ntmps10
        go_wp2_with (first
          | (go_at_call 13; refine (bawake _).mono ?_; rintro e w1 ⟨rfl, hb⟩; have HB2 := Lib.hid (HB.out.trans (hb.mono HB.out.size)); clear hb HB; have HB := HB2; clear HB2)
          | (go_at_call 24; refine (H1.out _).mono ?_; rintro e w1 ⟨rfl, hb⟩; have HB2 := Lib.hid (HB.out.trans (hb.mono HB.out.size)); clear hb HB; have HB := HB2; clear HB2)
          | (go_at_call 26; refine (H2.out _).mono ?_; rintro e w1 ⟨rfl, hb⟩; have HB2 := Lib.hid (HB.out.trans (hb.mono HB.out.size)); clear hb HB; have HB := HB2; clear HB2)
          | (go_at_call 28; refine (H3.out _).mono ?_; rintro e w1 ⟨rfl, hb⟩; have HB2 := Lib.hid (HB.out.trans (hb.mono HB.out.size)); clear hb HB; have HB := HB2; clear HB2)
          | (go_at_call 18; refine (is_any _ _ (by assumption)).mono ?_; rintro e w1 ⟨rfl, hb⟩; have HB2 := Lib.hid (HB.out.trans (hb.mono HB.out.size)); clear hb HB; have HB := HB2; clear HB2)
          | (go_at_call 20; refine (cmp_any _ _ _ (by assumption) (by assumption)).mono ?_; rintro e w1 ⟨rfl, rfl⟩))
        go_ret
        first
          | exact ⟨rfl, HB.out⟩
          | (refine ⟨?_, HB.out⟩; simp)
  · have hl' : (3000 < b0.length) := by omega
    clear hl
    go_enter Tryd.func10, Tryd.ntmps10
    go_wp2_with (first
      | (go_at_call 13; refine (bawake _).mono ?_; rintro e w1 ⟨rfl, hb⟩; have HB2 := Lib.hid (HB.out.trans (hb.mono HB.out.size)); clear hb HB; have HB := HB2; clear HB2))
    go_ret
    first
      | exact ⟨rfl, HB.out⟩
      | (refine ⟨?_, HB.out⟩; simp)
set_option maxRecDepth 100000 in
theorem lifted (os : Os) (started : os.Started) (H : Type) (enc : TypeId × Value → H) :
    ReturnsInHanded {} Tryd.checked os 10 .any (fun w args => (Rows.bitsLessSpec.pre enc Tryd.prog Tryd.f10 Rows.bitsLessRow.domain false w args ∧ laidMetH Tryd.prog Rows.bitsLessRow.laid w) ∧ sizedMet enc Tryd.prog Tryd.f10 (OpenSpec.ofChange Rows.bitsLessSpec) false w args) (Rows.bitsLessSpec.post enc Tryd.prog Tryd.f10 false true false false) := by
  refine returnsInHanded_of_change_and (C := Tryd.checked) (X := fun w _ => laidMetH Tryd.prog Rows.bitsLessRow.laid w) (fun _ _ _ hh h => h.of_heap hh) own started (by kernel_rfl) Tryd.func10
    (ChangeSpec.witness_shaped (enc := enc) (C := Tryd.checked) (os := os) (X := fun w _ => laidMetH Tryd.prog Rows.bitsLessRow.laid w) false (World.laidAll Tryd.prog os Rows.bitsLessRow.laid) #[.string ByteArray.empty, .int .i64 0, .int .i64 0] 8 (World.laidAll_os _ _ _)
      (World.shaped_of_ZipB (by kernel_rfl) (by kernel_rfl)) (by kernel_rfl) (by kernel_rfl) (by kernel_rfl)
      (by rw [MakeChecks.laidMetH_plain _ _ _ (by kernel_rfl)]; exact laidMet_laidAll _ (by kernel_rfl) (by kernel_rfl))) ?_
  intro W base args ds gs before hval0 hW hcnd _ _ _
  have hval : ∀ (j : Nat) t v, Tryd.f10.params[j]? = some t → args[j]? = some v → Value.okWide Tryd.prog W .any base t v := hval0
  have hW' := hW
  obtain ⟨p, q, hA0, hV, hpq, hfz, hnd⟩ := hW
  have hA : DataW.TrodAll enc Tryd.prog W 0 (fun _ => true) true Tryd.f10.params.toList args.toList ds p := hA0
  rw [Tryd.params10] at hA hval
  obtain ⟨v0, vs0, d0, ds0, p0, q0, hargs, rfl, rfl, h0, r0⟩ := trodAll_cons hA
  obtain ⟨v1, vs1, d1, ds1, p1, q1, rfl, rfl, rfl, h1, r1⟩ := trodAll_cons r0
  obtain ⟨v2, vs2, d2, ds2, p2, q2, rfl, rfl, rfl, h2, r2⟩ := trodAll_cons r1
  obtain ⟨rfl, rfl, rfl⟩ := trodAll_nil r2
  obtain rfl : args = #[v0, v1, v2] := by cases args; simp_all
  obtain ⟨rfl, rfl⟩ := trodVars_none hV
  obtain ⟨y0, rfl, rfl, rfl, l0⟩ := Go.ChangeMaps.open_string Tryd.underlying9 (hval 0 9 v0 rfl rfl) h0
  obtain ⟨b0, rfl⟩ : ∃ b : List UInt8, y0 = ⟨b.toArray⟩ := ⟨y0.data.toList, by cases y0; simp⟩
  obtain ⟨a1, rfl, rfl, rfl, w1⟩ := open_int Tryd.underlying3 (hval 1 3 v1 rfl rfl) h1
  obtain ⟨a2, rfl, rfl, rfl, w2⟩ := open_int Tryd.underlying3 (hval 2 3 v2 rfl rfl) h2
  refine (walk W b0 l0 a1 w1 a2 w2).mono fun e W' ⟨he, hb⟩ => ?_
  subst he
  exact ⟨_, rfl, Frame.close laidOut hW' rfl rfl rfl Tryd.underlying4 (fun t ht => by rw [Tryd.params10] at ht; simp at ht; rcases ht with rfl | rfl <;> exact ⟨by kernel_rfl, of_decide_eq_true (by kernel_rfl)⟩) hb⟩
theorem over : Rows.bitsLessRow.holds Tryd.pinned (OpenSpec.ofChange Rows.bitsLessSpec) :=
  OpenClaim.holds_of_wide 10 Tryd.f10 rfl rfl rfl rfl rfl rfl rfl ⟨rfl, rfl, rfl, rfl, rfl⟩ rfl rfl rfl rfl rfl (by kernel_rfl) Tryd.func10 (by kernel_rfl)
    (of_decide_eq_true (by kernel_rfl)) (by unfold Func.isWrapper; first | (rw [if_pos (by decide +kernel)]; kernel_rfl) | (rw [if_neg (by decide +kernel)]; exact ⟨rfl, rfl⟩))
    (fun os started H enc _ => lifted os started H enc)
/-- the statement -/
theorem proved : Rows.BitsLessCardSaid :=
  Claim7.holds_tied_plain_at .later [] _ _ _ _ over (fun _ h => by cases h) (by kernel_rfl) (fun _ h => by cases h) bitsLess_row_tie rfl ⟨rfl, rfl⟩ (by kernel_rfl) rfl
    (fun f fn hf hfn => by
      obtain rfl : f = 10 := Option.some.inj ((show Tryd.prog.funcNamed "tombola/tombolalaw07.BitsLess" = some 10 by kernel_rfl).symm.trans hf) |>.symm
      obtain rfl : fn = Tryd.f10 := (Option.some.inj (Tryd.func10.symm.trans hfn)).symm
      exact ⟨by kernel_rfl, (fun j t ht => by
        rw [Tryd.params10] at ht
        have hm : t ∈ [9, 3, 3] := by simpa using Array.mem_of_getElem? ht
        have hall : ([9, 3, 3].all fun u => !Tryd.prog.wantsStandIn u) = true := by kernel_rfl
        exact (show Tryd.prog.wantsStandIn t = false by simpa using List.all_eq_true.1 hall t hm))⟩)
    (by kernel_rfl)
#print axioms proved
end Go.Proofs.YtcpkkceoobioiaaDoor.bitsLess
