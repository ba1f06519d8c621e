/- What Number, Of, Next, Cut, Clear, Down of the document's layer 7 answer, over this translation (mk_bref.py). -/
import Derived.Test.YtcpkkceoobioiaaDoorBitRef
namespace Go.Proofs.YtcpkkceoobioiaaDoor
open Go.RowKit Go.Shelf
set_option linter.unusedVariables false
set_option linter.unusedSimpArgs false
set_option maxRecDepth 20000
open N
theorem rnum_ok (w : World) (l : List UInt8) (hb : bitsL l = true) (hl : l.length ≤ 64) :
    Calls Tryd.prog 15 #[.string ⟨l.toArray⟩] w fun e w' => e = .returned (.tuple #[.int .u64 (numB l : Nat), .int .i64 0]) ∧ w' = w := by
  have HI := Lib.hid (ris_any w l (by unfold maxLen; omega))
  have hB : isB l = true := by unfold isB; rw [hb]; simp; omega
  rw [hB] at HI
  clear hB
  have HBB := Lib.hid hb
  clear hb
  go_enter Tryd.func15, Tryd.ntmps15
  go_wp2_with (go_at_call 19; refine HI.out.mono ?_; rintro e w1 ⟨rfl, rfl⟩)
  go_loop [4, 5] (fun n i => ∃ k : Nat, k ≤ l.length ∧ i = .int .i64 k ∧ n = .int .u64 (numB (l.take k) : Nat)) (fun _ i => l.length - (intOf i).toNat)
  case atStart => exact ⟨0, by omega, rfl, rfl⟩
  case round =>
    obtain ⟨k, hk, rfl, rfl⟩ := hrel
    by_cases hlt : k < l.length
    · have hx := idx_run l k hlt
      have HT := Lib.hid (numB_take l k hlt)
      have h63 : numB (l.take k) < 9223372036854775808 := by
        have := numB_lt (bitsL_take HBB.out k)
        rw [List.length_take] at this
        exact Nat.lt_of_lt_of_le this (Nat.pow_le_pow_right (by decide) (show min k l.length ≤ 63 by omega))
      obtain ⟨n, hn⟩ : ∃ n, numB (l.take k) = n := ⟨_, rfl⟩
      rw [hn] at HT h63 ⊢
      clear hn
      rcases bit_at HBB.out k hlt with ⟨e, e'⟩ | ⟨e, e'⟩
      · rw [e] at hx
        rw [e'] at HT
        clear e e'
        go_wp2
        go_round
        case rel => exact ⟨k + 1, by omega, by go_num, by rw [HT.out]; congr 1; (try simp only [IntKind.wrap_u64, IntKind.wrap_u8]); (try simp); (try omega)⟩
        case measure => simp [intOf]; omega
      · rw [e] at hx
        rw [e'] at HT
        clear e e'
        go_wp2
        go_round
        case rel => exact ⟨k + 1, by omega, by go_num, by rw [HT.out]; congr 1; (try simp only [IntKind.wrap_u64, IntKind.wrap_u8]); (try simp); (try omega)⟩
        case measure => simp [intOf]; omega
    · obtain rfl : k = l.length := by omega
      rw [List.take_length]
      go_wp2
      go_ret2
      exact ⟨rfl, rfl⟩
theorem rnum_any (w : World) (l : List UInt8) (hl : l.length ≤ maxLen) :
    Calls Tryd.prog 15 #[.string ⟨l.toArray⟩] w fun e w' => e = .returned (.tuple #[.int .u64 (nuV l), .int .i64 (nuE l)]) ∧ w' = w := by
  have hm : l.length ≤ 9223372036854775807 := by unfold maxLen at hl; omega
  unfold nuV nuE
  by_cases h : isB l = true
  · by_cases h1 : l.length ≤ 64
    · rw [if_pos ⟨h, h1⟩, if_pos h, if_pos h1]
      exact rnum_ok w l (isB_iff.1 h).2 h1
    · rw [if_neg (fun e => h1 e.2), if_pos h, if_neg h1]
      have HI := Lib.hid (ris_any w l hl)
      rw [h] at HI
      clear h
      go_enter Tryd.func15, Tryd.ntmps15
      go_wp2_with (go_at_call 19; refine HI.out.mono ?_; rintro e w1 ⟨rfl, rfl⟩)
      go_ret2
      exact ⟨rfl, rfl⟩
  · rw [if_neg (fun e => h e.1), if_neg h]
    have h' : isB l = false := by simpa using h
    have HI := Lib.hid (ris_any w l hl)
    rw [h'] at HI
    clear h h'
    go_enter Tryd.func15, Tryd.ntmps15
    go_wp2_with (go_at_call 19; refine HI.out.mono ?_; rintro e w1 ⟨rfl, rfl⟩)
    go_ret2
    exact ⟨rfl, rfl⟩
theorem rzeros_any (w : World) (n : Nat) (hn : n ≤ 1099511627776) :
    Calls Tryd.prog 38 #[.int .i64 n] w fun e w' => e = .returned (.string ⟨(List.replicate n 48).toArray⟩) ∧ w' = w := by
  go_enter Tryd.func38, Tryd.ntmps38
  go_wp2
  go_loop [3, 4] (fun s i => ∃ k : Nat, k ≤ n ∧ i = .int .i64 k ∧ s = .string ⟨(List.replicate k (48 : UInt8)).toArray⟩) (fun _ i => n - (intOf i).toNat)
  case atStart => exact ⟨0, by omega, rfl, rfl⟩
  case round =>
    obtain ⟨k, hk, rfl, rfl⟩ := hrel
    by_cases hlt : k < n
    · have hap : (⟨(List.replicate k (48 : UInt8)).toArray⟩ : ByteArray) ++ ⟨#[48]⟩ = ⟨(List.replicate (k + 1) (48 : UInt8)).toArray⟩ := by
        rw [← rep_snoc]; exact ByteArray.mk_append_mk _ [48]
      obtain ⟨r, hr⟩ : ∃ r, List.replicate k (48 : UInt8) = r := ⟨_, rfl⟩
      have hrl : r.length = k := by rw [← hr, List.length_replicate]
      rw [hr] at hap ⊢
      obtain ⟨r2, hr2⟩ : ∃ r2, List.replicate (k + 1) (48 : UInt8) = r2 := ⟨_, rfl⟩
      rw [hr2] at hap
      have HR2 := Lib.hid hr2
      clear hr hr2
      have hsz : ¬ (9223372036854775807 < k + 1) := by omega
      go_wp2
      go_round
      case rel => exact ⟨k + 1, by omega, by go_num, by rw [HR2.out]⟩
      case measure => simp [intOf]; omega
    · obtain rfl : k = n := by omega
      go_wp2
      go_ret
      exact ⟨rfl, rfl⟩
theorem rpart_any (w : World) (l : List UInt8) (hl : l.length ≤ maxLen) (a n : Int) (wa : (Lit.int .i64 a).wf = true) (wn : (Lit.int .i64 n).wf = true) :
    Calls Tryd.prog 41 #[.string ⟨l.toArray⟩, .int .i64 a, .int .i64 n] w fun e w' => e = .returned (.bool (decide (isPart l a n))) ∧ w' = w := by
  have hl' : l.length ≤ 9223372036854775807 := by unfold maxLen at hl; omega
  have ba := bounds_i64 wa
  have bn := bounds_i64 wn
  by_cases h1 : 1 ≤ n
  · by_cases h2 : n ≤ (l.length : Int)
    · have hs : IntKind.i64.wrap ((l.length : Int) - n) = (l.length : Int) - n := by rw [IntKind.wrap_i64]; omega
      by_cases h3 : 0 ≤ a
      · by_cases h4 : a ≤ (l.length : Int) - n
        · rw [decide_eq_true (show isPart l a n by unfold isPart; omega)]
          go_enter Tryd.func41, Tryd.ntmps41
          go_wp2
          go_ret
          exact ⟨rfl, rfl⟩
        · rw [decide_eq_false (show ¬ isPart l a n by unfold isPart; omega)]
          go_enter Tryd.func41, Tryd.ntmps41
          go_wp2
          go_ret
          exact ⟨rfl, rfl⟩
      · rw [decide_eq_false (show ¬ isPart l a n by unfold isPart; omega)]
        go_enter Tryd.func41, Tryd.ntmps41
        go_wp2
        go_ret
        exact ⟨rfl, rfl⟩
    · rw [decide_eq_false (show ¬ isPart l a n by unfold isPart; omega)]
      go_enter Tryd.func41, Tryd.ntmps41
      go_wp2
      go_ret
      exact ⟨rfl, rfl⟩
  · rw [decide_eq_false (show ¬ isPart l a n by unfold isPart; omega)]
    go_enter Tryd.func41, Tryd.ntmps41
    go_wp2
    go_ret
    exact ⟨rfl, rfl⟩
set_option maxHeartbeats 4000000 in
theorem rcut_ok (w : World) (l : List UInt8) (hB : isB l = true) (a n : Nat) (hn : 1 ≤ n) (ha : a + n ≤ l.length) :
    Calls Tryd.prog 25 #[.string ⟨l.toArray⟩, .int .i64 a, .int .i64 n] w fun e w' => e = .returned (.tuple #[.string ⟨(cutB l a n).toArray⟩, .int .i64 0]) ∧ Below w.heap.size w w' := by
  have hl := (isB_iff.1 hB).1
  have HI := Lib.hid (ris_any w l (by unfold maxLen; omega))
  rw [hB] at HI
  have hp := rpart_any w l (by unfold maxLen; omega) a n (wf_small a (by omega)) (wf_small n (by omega))
  rw [decide_eq_true (show isPart l (a : Int) (n : Int) by unfold isPart; omega)] at hp
  have HP := Lib.hid hp
  obtain ⟨p, hpp⟩ : ∃ p, l.take a = p := ⟨_, rfl⟩
  have hpl : p.length = a := by rw [← hpp, List.length_take]; omega
  obtain ⟨j, hj⟩ : ∃ j : Nat, a + n = j := ⟨_, rfl⟩
  have hj' : (a : Int) + (n : Int) = (j : Int) := by omega
  have hjl : j ≤ l.length := by omega
  obtain ⟨s, hs⟩ : ∃ s, l.drop j = s := ⟨_, rfl⟩
  have hsl : s.length = l.length - j := by rw [← hs, List.length_drop]
  have he : (⟨l.toArray⟩ : ByteArray).extract 0 a = ⟨p.toArray⟩ := by rw [ext_to, hpp]
  have he2 : (⟨l.toArray⟩ : ByteArray).extract j l.length = ⟨s.toArray⟩ := by rw [ext_from, hs]
  obtain ⟨r2, hr2⟩ : ∃ r2, p ++ s = r2 := ⟨_, rfl⟩
  have hD : cutB l a n = r2 := by unfold cutB; rw [hpp, hj, hs, hr2]
  rw [hD]
  have hap : (⟨p.toArray⟩ : ByteArray) ++ ⟨s.toArray⟩ = ⟨r2.toArray⟩ := by rw [← hr2]; exact ByteArray.mk_append_mk p s
  clear hr2 hp hB hD hpp hs
  go_enter Tryd.func25, Tryd.ntmps25
  go_wp2_with (first
    | (go_at_call 19; refine HI.out.mono ?_; rintro e w1 ⟨rfl, rfl⟩)
    | (go_at_call 41; refine HP.out.mono ?_; rintro e w2 ⟨rfl, rfl⟩))
  refine RV.wp_region_v (by kernel_rfl) [16, 17, 18, 19, 20, 21, 22, 23, 24, 6, 7] [.string ⟨(l).toArray⟩, .int .i64 (a : Nat), .string ⟨(p).toArray⟩, .string ⟨(l).toArray⟩, .int .i64 (a : Nat), .int .i64 (n : Nat), .int .i64 (j : Nat), .string ⟨(s).toArray⟩, .string ⟨(r2).toArray⟩, .string ⟨(r2).toArray⟩, .int .i64 (0)] (fun W => Below w2.heap.size w2 W) (by kernel_rfl) rfl (by decide) rfl (by kernel_rfl) ((Below.refl _ _).drew) ?_ ?_
  · intro ii hii fa fw fr hp hG
    match ii, hii with
    | 0, _ =>
      have p0 : fa.eval (.tmp 0) = .string ⟨(l).toArray⟩ := (fr.out 0 (by decide)).trans rfl
      simp only [Act.eval] at p0
      refine ⟨_, _, rfl, rfl, .inl ⟨fw, ?_, hG⟩⟩
      simp only [execOp, Act.eval]
      go_simp
      all_goals first | omega | (intro hh; omega) | (rw [IntKind.wrap_i64]; omega)
    | 1, _ =>
      have p1 : fa.eval (.tmp 1) = .int .i64 (a : Nat) := (fr.out 1 (by decide)).trans rfl
      simp only [Act.eval] at p1
      refine ⟨_, _, rfl, rfl, .inl ⟨fw, ?_, hG⟩⟩
      simp only [execOp, Act.eval]
      go_simp
      all_goals first | omega | (intro hh; omega) | (rw [IntKind.wrap_i64]; omega)
    | 2, _ =>
      have p16 : fa.eval (.tmp 16) = .string ⟨(l).toArray⟩ := hp 0 16 _ (by kernel_rfl) rfl rfl
      have p17 : fa.eval (.tmp 17) = .int .i64 (a : Nat) := hp 1 17 _ (by kernel_rfl) rfl rfl
      simp only [Act.eval] at p16 p17
      refine ⟨_, _, rfl, rfl, .inl ⟨fw, ?_, hG⟩⟩
      simp only [execOp, Act.eval]
      go_simp
      all_goals first | omega | (intro hh; omega) | (rw [IntKind.wrap_i64]; omega)
    | 3, _ =>
      have p0 : fa.eval (.tmp 0) = .string ⟨(l).toArray⟩ := (fr.out 0 (by decide)).trans rfl
      simp only [Act.eval] at p0
      refine ⟨_, _, rfl, rfl, .inl ⟨fw, ?_, hG⟩⟩
      simp only [execOp, Act.eval]
      go_simp
      all_goals first | omega | (intro hh; omega) | (rw [IntKind.wrap_i64]; omega)
    | 4, _ =>
      have p1 : fa.eval (.tmp 1) = .int .i64 (a : Nat) := (fr.out 1 (by decide)).trans rfl
      simp only [Act.eval] at p1
      refine ⟨_, _, rfl, rfl, .inl ⟨fw, ?_, hG⟩⟩
      simp only [execOp, Act.eval]
      go_simp
      all_goals first | omega | (intro hh; omega) | (rw [IntKind.wrap_i64]; omega)
    | 5, _ =>
      have p2 : fa.eval (.tmp 2) = .int .i64 (n : Nat) := (fr.out 2 (by decide)).trans rfl
      simp only [Act.eval] at p2
      refine ⟨_, _, rfl, rfl, .inl ⟨fw, ?_, hG⟩⟩
      simp only [execOp, Act.eval]
      go_simp
      all_goals first | omega | (intro hh; omega) | (rw [IntKind.wrap_i64]; omega)
    | 6, _ =>
      have p20 : fa.eval (.tmp 20) = .int .i64 (a : Nat) := hp 4 20 _ (by kernel_rfl) rfl rfl
      have p21 : fa.eval (.tmp 21) = .int .i64 (n : Nat) := hp 5 21 _ (by kernel_rfl) rfl rfl
      simp only [Act.eval] at p20 p21
      refine ⟨_, _, rfl, rfl, .inl ⟨fw, ?_, hG⟩⟩
      simp only [execOp, Act.eval]
      go_simp
      all_goals first | omega | (intro hh; omega) | (rw [IntKind.wrap_i64]; omega)
    | 7, _ =>
      have p19 : fa.eval (.tmp 19) = .string ⟨(l).toArray⟩ := hp 3 19 _ (by kernel_rfl) rfl rfl
      have p22 : fa.eval (.tmp 22) = .int .i64 (j : Nat) := hp 6 22 _ (by kernel_rfl) rfl rfl
      simp only [Act.eval] at p19 p22
      refine ⟨_, _, rfl, rfl, .inl ⟨fw, ?_, hG⟩⟩
      simp only [execOp, Act.eval]
      go_simp
      all_goals first | omega | (intro hh; omega) | (rw [IntKind.wrap_i64]; omega)
    | 8, _ =>
      have p18 : fa.eval (.tmp 18) = .string ⟨(p).toArray⟩ := hp 2 18 _ (by kernel_rfl) rfl rfl
      have p23 : fa.eval (.tmp 23) = .string ⟨(s).toArray⟩ := hp 7 23 _ (by kernel_rfl) rfl rfl
      simp only [Act.eval] at p18 p23
      refine ⟨_, _, rfl, rfl, .inl ⟨fw, ?_, hG⟩⟩
      simp only [execOp, Act.eval]
      go_simp
      all_goals first | omega | (intro hh; omega) | (rw [IntKind.wrap_i64]; omega)
    | 9, _ =>
      have p24 : fa.eval (.tmp 24) = .string ⟨(r2).toArray⟩ := hp 8 24 _ (by kernel_rfl) rfl rfl
      simp only [Act.eval] at p24
      refine ⟨_, _, rfl, rfl, .inl ⟨fw, ?_, hG⟩⟩
      simp only [execOp, Act.eval]
      go_simp
      all_goals first | omega | (intro hh; omega) | (rw [IntKind.wrap_i64]; omega)
    | 10, _ =>
      refine ⟨_, _, rfl, rfl, .inl ⟨fw, ?_, hG⟩⟩
      simp only [execOp, Act.eval]
      go_simp
      all_goals first | omega | (intro hh; omega) | (rw [IntKind.wrap_i64]; omega)
    | i + 11, hi => exact absurd hi (by show ¬ (i + 11 < 11); omega)
  · intro w2 hG
    simp only [RV.putAll, List.zip_cons_cons, List.zip_nil_left, List.zip_nil_right, List.foldl_cons, List.foldl_nil, Act.put, List.setIfInBounds_toArray, List.set_cons_zero, List.set_cons_succ]
    go_wp2
    go_ret2
    exact ⟨rfl, hG⟩
set_option maxHeartbeats 4000000 in
theorem rclear_ok (w : World) (l : List UInt8) (hB : isB l = true) (a n : Nat) (hn : 1 ≤ n) (ha : a + n ≤ l.length) :
    Calls Tryd.prog 27 #[.string ⟨l.toArray⟩, .int .i64 a, .int .i64 n] w fun e w' => e = .returned (.tuple #[.string ⟨(clearB l a n).toArray⟩, .int .i64 0]) ∧ Below w.heap.size w w' := by
  have hl := (isB_iff.1 hB).1
  have HI := Lib.hid (ris_any w l (by unfold maxLen; omega))
  rw [hB] at HI
  have hp := rpart_any w l (by unfold maxLen; omega) a n (wf_small a (by omega)) (wf_small n (by omega))
  rw [decide_eq_true (show isPart l (a : Int) (n : Int) by unfold isPart; omega)] at hp
  have HP := Lib.hid hp
  obtain ⟨p, hpp⟩ : ∃ p, l.take a = p := ⟨_, rfl⟩
  have hpl : p.length = a := by rw [← hpp, List.length_take]; omega
  obtain ⟨j, hj⟩ : ∃ j : Nat, a + n = j := ⟨_, rfl⟩
  have hj' : (a : Int) + (n : Int) = (j : Int) := by omega
  have hjl : j ≤ l.length := by omega
  obtain ⟨s, hs⟩ : ∃ s, l.drop j = s := ⟨_, rfl⟩
  have hsl : s.length = l.length - j := by rw [← hs, List.length_drop]
  have he : (⟨l.toArray⟩ : ByteArray).extract 0 a = ⟨p.toArray⟩ := by rw [ext_to, hpp]
  have he2 : (⟨l.toArray⟩ : ByteArray).extract j l.length = ⟨s.toArray⟩ := by rw [ext_from, hs]
  obtain ⟨q, hq⟩ : ∃ q, List.replicate n (48 : UInt8) = q := ⟨_, rfl⟩
  have hql : q.length = n := by rw [← hq, List.length_replicate]
  have HR := Lib.hid (fun W : World => rzeros_any W n (by omega))
  rw [hq] at HR
  obtain ⟨r1, hr1⟩ : ∃ r1, p ++ q = r1 := ⟨_, rfl⟩
  have hr1l : r1.length = j := by rw [← hr1, List.length_append, hpl, hql]; exact hj
  obtain ⟨r2, hr2⟩ : ∃ r2, r1 ++ s = r2 := ⟨_, rfl⟩
  have hD : clearB l a n = r2 := by unfold clearB; rw [hpp, hj, hs, hq, hr1, hr2]
  rw [hD]
  have hap : (⟨p.toArray⟩ : ByteArray) ++ ⟨q.toArray⟩ = ⟨r1.toArray⟩ := by rw [← hr1]; exact ByteArray.mk_append_mk p q
  have hap2 : (⟨r1.toArray⟩ : ByteArray) ++ ⟨s.toArray⟩ = ⟨r2.toArray⟩ := by rw [← hr2]; exact ByteArray.mk_append_mk _ _
  clear hr1 hr2 hq hp hB hD hpp hs
  go_enter Tryd.func27, Tryd.ntmps27
  go_wp2_with (first
    | (go_at_call 19; refine HI.out.mono ?_; rintro e w1 ⟨rfl, rfl⟩)
    | (go_at_call 41; refine HP.out.mono ?_; rintro e w2 ⟨rfl, rfl⟩))
  refine RV.wp_region_v (by kernel_rfl) [16, 17, 18, 19, 20, 21, 22, 23, 24, 25, 26, 27, 6, 7] [.string ⟨(l).toArray⟩, .int .i64 (a : Nat), .string ⟨(p).toArray⟩, .int .i64 (n : Nat), .string ⟨(q).toArray⟩, .string ⟨(r1).toArray⟩, .string ⟨(l).toArray⟩, .int .i64 (a : Nat), .int .i64 (n : Nat), .int .i64 (j : Nat), .string ⟨(s).toArray⟩, .string ⟨(r2).toArray⟩, .string ⟨(r2).toArray⟩, .int .i64 (0)] (fun W => Below w2.heap.size w2 W) (by kernel_rfl) rfl (by decide) rfl (by kernel_rfl) ((Below.refl _ _).drew) ?_ ?_
  · intro ii hii fa fw fr hp hG
    match ii, hii with
    | 0, _ =>
      have p0 : fa.eval (.tmp 0) = .string ⟨(l).toArray⟩ := (fr.out 0 (by decide)).trans rfl
      simp only [Act.eval] at p0
      refine ⟨_, _, rfl, rfl, .inl ⟨fw, ?_, hG⟩⟩
      simp only [execOp, Act.eval]
      go_simp
      all_goals first | omega | (intro hh; omega) | (rw [IntKind.wrap_i64]; omega)
    | 1, _ =>
      have p1 : fa.eval (.tmp 1) = .int .i64 (a : Nat) := (fr.out 1 (by decide)).trans rfl
      simp only [Act.eval] at p1
      refine ⟨_, _, rfl, rfl, .inl ⟨fw, ?_, hG⟩⟩
      simp only [execOp, Act.eval]
      go_simp
      all_goals first | omega | (intro hh; omega) | (rw [IntKind.wrap_i64]; omega)
    | 2, _ =>
      have p16 : fa.eval (.tmp 16) = .string ⟨(l).toArray⟩ := hp 0 16 _ (by kernel_rfl) rfl rfl
      have p17 : fa.eval (.tmp 17) = .int .i64 (a : Nat) := hp 1 17 _ (by kernel_rfl) rfl rfl
      simp only [Act.eval] at p16 p17
      refine ⟨_, _, rfl, rfl, .inl ⟨fw, ?_, hG⟩⟩
      simp only [execOp, Act.eval]
      go_simp
      all_goals first | omega | (intro hh; omega) | (rw [IntKind.wrap_i64]; omega)
    | 3, _ =>
      have p2 : fa.eval (.tmp 2) = .int .i64 (n : Nat) := (fr.out 2 (by decide)).trans rfl
      simp only [Act.eval] at p2
      refine ⟨_, _, rfl, rfl, .inl ⟨fw, ?_, hG⟩⟩
      simp only [execOp, Act.eval]
      go_simp
      all_goals first | omega | (intro hh; omega) | (rw [IntKind.wrap_i64]; omega)
    | 4, _ =>
      have p19 : fa.eval (.tmp 19) = .int .i64 (n : Nat) := hp 3 19 _ (by kernel_rfl) rfl rfl
      have hv : (#[Operand.tmp 19] : Array Operand).map fa.eval = #[(.int .i64 (n : Nat))] := by simp only [List.map_toArray, List.map_cons, List.map_nil, p19]
      exact ⟨_, _, rfl, rfl, RV.yields_call hv Tryd.func38 (by kernel_rfl) rfl (HR.out fw) (fun e w2 h => ⟨h.1, h.2 ▸ hG⟩)⟩
    | 5, _ =>
      have p18 : fa.eval (.tmp 18) = .string ⟨(p).toArray⟩ := hp 2 18 _ (by kernel_rfl) rfl rfl
      have p20 : fa.eval (.tmp 20) = .string ⟨(q).toArray⟩ := hp 4 20 _ (by kernel_rfl) rfl rfl
      simp only [Act.eval] at p18 p20
      refine ⟨_, _, rfl, rfl, .inl ⟨fw, ?_, hG⟩⟩
      simp only [execOp, Act.eval]
      go_simp
      all_goals first | omega | (intro hh; omega) | (rw [IntKind.wrap_i64]; omega)
    | 6, _ =>
      have p0 : fa.eval (.tmp 0) = .string ⟨(l).toArray⟩ := (fr.out 0 (by decide)).trans rfl
      simp only [Act.eval] at p0
      refine ⟨_, _, rfl, rfl, .inl ⟨fw, ?_, hG⟩⟩
      simp only [execOp, Act.eval]
      go_simp
      all_goals first | omega | (intro hh; omega) | (rw [IntKind.wrap_i64]; omega)
    | 7, _ =>
      have p1 : fa.eval (.tmp 1) = .int .i64 (a : Nat) := (fr.out 1 (by decide)).trans rfl
      simp only [Act.eval] at p1
      refine ⟨_, _, rfl, rfl, .inl ⟨fw, ?_, hG⟩⟩
      simp only [execOp, Act.eval]
      go_simp
      all_goals first | omega | (intro hh; omega) | (rw [IntKind.wrap_i64]; omega)
    | 8, _ =>
      have p2 : fa.eval (.tmp 2) = .int .i64 (n : Nat) := (fr.out 2 (by decide)).trans rfl
      simp only [Act.eval] at p2
      refine ⟨_, _, rfl, rfl, .inl ⟨fw, ?_, hG⟩⟩
      simp only [execOp, Act.eval]
      go_simp
      all_goals first | omega | (intro hh; omega) | (rw [IntKind.wrap_i64]; omega)
    | 9, _ =>
      have p23 : fa.eval (.tmp 23) = .int .i64 (a : Nat) := hp 7 23 _ (by kernel_rfl) rfl rfl
      have p24 : fa.eval (.tmp 24) = .int .i64 (n : Nat) := hp 8 24 _ (by kernel_rfl) rfl rfl
      simp only [Act.eval] at p23 p24
      refine ⟨_, _, rfl, rfl, .inl ⟨fw, ?_, hG⟩⟩
      simp only [execOp, Act.eval]
      go_simp
      all_goals first | omega | (intro hh; omega) | (rw [IntKind.wrap_i64]; omega)
    | 10, _ =>
      have p22 : fa.eval (.tmp 22) = .string ⟨(l).toArray⟩ := hp 6 22 _ (by kernel_rfl) rfl rfl
      have p25 : fa.eval (.tmp 25) = .int .i64 (j : Nat) := hp 9 25 _ (by kernel_rfl) rfl rfl
      simp only [Act.eval] at p22 p25
      refine ⟨_, _, rfl, rfl, .inl ⟨fw, ?_, hG⟩⟩
      simp only [execOp, Act.eval]
      go_simp
      all_goals first | omega | (intro hh; omega) | (rw [IntKind.wrap_i64]; omega)
    | 11, _ =>
      have p21 : fa.eval (.tmp 21) = .string ⟨(r1).toArray⟩ := hp 5 21 _ (by kernel_rfl) rfl rfl
      have p26 : fa.eval (.tmp 26) = .string ⟨(s).toArray⟩ := hp 10 26 _ (by kernel_rfl) rfl rfl
      simp only [Act.eval] at p21 p26
      refine ⟨_, _, rfl, rfl, .inl ⟨fw, ?_, hG⟩⟩
      simp only [execOp, Act.eval]
      go_simp
      all_goals first | omega | (intro hh; omega) | (rw [IntKind.wrap_i64]; omega)
    | 12, _ =>
      have p27 : fa.eval (.tmp 27) = .string ⟨(r2).toArray⟩ := hp 11 27 _ (by kernel_rfl) rfl rfl
      simp only [Act.eval] at p27
      refine ⟨_, _, rfl, rfl, .inl ⟨fw, ?_, hG⟩⟩
      simp only [execOp, Act.eval]
      go_simp
      all_goals first | omega | (intro hh; omega) | (rw [IntKind.wrap_i64]; omega)
    | 13, _ =>
      refine ⟨_, _, rfl, rfl, .inl ⟨fw, ?_, hG⟩⟩
      simp only [execOp, Act.eval]
      go_simp
      all_goals first | omega | (intro hh; omega) | (rw [IntKind.wrap_i64]; omega)
    | i + 14, hi => exact absurd hi (by show ¬ (i + 14 < 14); omega)
  · intro w2 hG
    simp only [RV.putAll, List.zip_cons_cons, List.zip_nil_left, List.zip_nil_right, List.foldl_cons, List.foldl_nil, Act.put, List.setIfInBounds_toArray, List.set_cons_zero, List.set_cons_succ]
    go_wp2
    go_ret2
    exact ⟨rfl, hG⟩
theorem rpart_no (w : World) (l : List UInt8) (hl : l.length ≤ maxLen) (a n : Int) (wa : (Lit.int .i64 a).wf = true) (wn : (Lit.int .i64 n).wf = true) (h : partE l a n ≠ 0) :
    Calls Tryd.prog 25 #[.string ⟨l.toArray⟩, .int .i64 a, .int .i64 n] w (fun e w' => e = .returned (.tuple #[.string ⟨#[]⟩, .int .i64 (partE l a n)]) ∧ Below w.heap.size w w') ∧
    Calls Tryd.prog 27 #[.string ⟨l.toArray⟩, .int .i64 a, .int .i64 n] w (fun e w' => e = .returned (.tuple #[.string ⟨#[]⟩, .int .i64 (partE l a n)]) ∧ Below w.heap.size w w') := by
  by_cases hB : isB l = true
  · have hp : ¬ isPart l a n := fun hp => h (partE_ok hB hp)
    have hE : partE l a n = 1 := by unfold partE; rw [if_pos hB, if_neg hp]
    rw [hE]
    have HI := Lib.hid (ris_any w l hl)
    rw [hB] at HI
    have HP := Lib.hid (rpart_any w l hl a n wa wn)
    rw [decide_eq_false hp] at HP
    clear h hB hp hE
    constructor
    · go_enter Tryd.func25, Tryd.ntmps25
      go_wp2_with (first
        | (go_at_call 19; refine HI.out.mono ?_; rintro e w1 ⟨rfl, rfl⟩)
        | (go_at_call 41; refine HP.out.mono ?_; rintro e w2 ⟨rfl, rfl⟩))
      go_ret2
      exact ⟨rfl, Below.refl _ _⟩
    · go_enter Tryd.func27, Tryd.ntmps27
      go_wp2_with (first
        | (go_at_call 19; refine HI.out.mono ?_; rintro e w1 ⟨rfl, rfl⟩)
        | (go_at_call 41; refine HP.out.mono ?_; rintro e w2 ⟨rfl, rfl⟩))
      go_ret2
      exact ⟨rfl, Below.refl _ _⟩
  · have hE : partE l a n = 3 := by unfold partE; rw [if_neg hB]
    rw [hE]
    have hB' : isB l = false := by simpa using hB
    have HI := Lib.hid (ris_any w l hl)
    rw [hB'] at HI
    clear h hB hB' hE
    constructor
    · go_enter Tryd.func25, Tryd.ntmps25
      go_wp2_with (go_at_call 19; refine HI.out.mono ?_; rintro e w1 ⟨rfl, rfl⟩)
      go_ret2
      exact ⟨rfl, Below.refl _ _⟩
    · go_enter Tryd.func27, Tryd.ntmps27
      go_wp2_with (go_at_call 19; refine HI.out.mono ?_; rintro e w1 ⟨rfl, rfl⟩)
      go_ret2
      exact ⟨rfl, Below.refl _ _⟩
theorem rcut_any (w : World) (l : List UInt8) (hl : l.length ≤ maxLen) (a n : Int) (wa : (Lit.int .i64 a).wf = true) (wn : (Lit.int .i64 n).wf = true) :
    Calls Tryd.prog 25 #[.string ⟨l.toArray⟩, .int .i64 a, .int .i64 n] w fun e w' => e = .returned (.tuple #[.string ⟨(cutV l a n).toArray⟩, .int .i64 (partE l a n)]) ∧ Below w.heap.size w w' := by
  unfold cutV
  by_cases h : partE l a n = 0
  · rw [if_pos h, h]
    obtain ⟨hB, h1, h2, h3⟩ := partE_zero h
    obtain ⟨x, rfl⟩ := Int.eq_ofNat_of_zero_le h1
    obtain ⟨y, rfl⟩ := Int.eq_ofNat_of_zero_le (show 0 ≤ n by omega)
    exact rcut_ok w l hB x y (by omega) (by omega)
  · rw [if_neg h]
    exact (rpart_no w l hl a n wa wn h).1
theorem rclear_any (w : World) (l : List UInt8) (hl : l.length ≤ maxLen) (a n : Int) (wa : (Lit.int .i64 a).wf = true) (wn : (Lit.int .i64 n).wf = true) :
    Calls Tryd.prog 27 #[.string ⟨l.toArray⟩, .int .i64 a, .int .i64 n] w fun e w' => e = .returned (.tuple #[.string ⟨(clearV l a n).toArray⟩, .int .i64 (partE l a n)]) ∧ Below w.heap.size w w' := by
  unfold clearV
  by_cases h : partE l a n = 0
  · rw [if_pos h, h]
    obtain ⟨hB, h1, h2, h3⟩ := partE_zero h
    obtain ⟨x, rfl⟩ := Int.eq_ofNat_of_zero_le h1
    obtain ⟨y, rfl⟩ := Int.eq_ofNat_of_zero_le (show 0 ≤ n by omega)
    exact rclear_ok w l hB x y (by omega) (by omega)
  · rw [if_neg h]
    exact (rpart_no w l hl a n wa wn h).2
end Go.Proofs.YtcpkkceoobioiaaDoor
