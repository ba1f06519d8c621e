/- What Of, Next, Down of the document's layer 7 answer, over this translation (mk_bref.py). -/
import Derived.Test.YtcpkkceoobioiaaDoorBitRef2
namespace Go.Proofs.YtcpkkceoobioiaaDoor
open Go.RowKit Go.Shelf
set_option linter.unusedVariables false
set_option linter.unusedSimpArgs false
set_option maxRecDepth 20000
open N
theorem retsb {a a' : List UInt8} {b b' : Bool} (h1 : a = a') (h2 : b = b') : Ending.returned (.tuple #[.string ⟨a.toArray⟩, .bool b]) = .returned (.tuple #[.string ⟨a'.toArray⟩, .bool b']) := by rw [h1, h2]
/-- how long a text that a slot holds is -/
def sLenV : Value → Nat
  | .string b => b.size
  | _ => 0
theorem retse {a a' : List UInt8} {b b' : Int} (h1 : a = a') (h2 : b = b') : Ending.returned (.tuple #[.string ⟨a.toArray⟩, .int .i64 b]) = .returned (.tuple #[.string ⟨a'.toArray⟩, .int .i64 b']) := by rw [h1, h2]
theorem rof_any (w : World) (x n : Int) (wx : (Lit.int .u64 x).wf = true) (wn : (Lit.int .i64 n).wf = true) :
    Calls Tryd.prog 17 #[.int .u64 x, .int .i64 n] w fun e w' => e = .returned (.tuple #[.string ⟨(ofV x n).toArray⟩, .int .i64 (ofE x n)]) ∧ Below w.heap.size w w' := by
  have bx := bounds_u64 wx
  by_cases h : 0 ≤ n ∧ n ≤ 64
  · obtain ⟨h0, h1⟩ := h
    obtain ⟨m, rfl⟩ := Int.eq_ofNat_of_zero_le h0
    obtain ⟨y, rfl⟩ := Int.eq_ofNat_of_zero_le bx.1
    have hy : y < 18446744073709551616 := by omega
    have hm : m ≤ 64 := by omega
    have hc : ((y : Int) < 2 ^ ((m : Int)).toNat) ↔ y < 2 ^ m := by
      rw [Int.toNat_natCast, ← W.cast_pow]; omega
    have HV := Lib.hid (show ofV (y : Int) (m : Int) = if y < 2 ^ m then ofB m y else [] by
      unfold ofV
      by_cases hf : y < 2 ^ m
      · rw [if_pos ⟨h0, h1, hc.2 hf⟩, if_pos hf]; rfl
      · rw [if_neg (fun e : ofFits _ _ => hf (hc.1 e.2.2)), if_neg hf])
    have HE := Lib.hid (show ofE (y : Int) (m : Int) = if y < 2 ^ m then 0 else 1 by
      unfold ofE
      by_cases hf : y < 2 ^ m
      · rw [if_pos ⟨h0, h1, hc.2 hf⟩, if_pos hf]
      · rw [if_neg (fun e : ofFits _ _ => hf (hc.1 e.2.2)), if_neg hf])
    obtain ⟨v, hv⟩ : ∃ v, ofV (y : Int) (m : Int) = v := ⟨_, rfl⟩
    obtain ⟨er, her⟩ : ∃ er, ofE (y : Int) (m : Int) = er := ⟨_, rfl⟩
    rw [hv] at HV ⊢
    rw [her] at HE ⊢
    clear hv her hc h0 h1 wx wn bx
    go_enter Tryd.func17, Tryd.ntmps17
    go_wp2
    go_loopw [6, 0, 7] (fun s nn i wr => ∃ k : Nat, k ≤ m ∧ i = .int .i64 k ∧ nn = .int .u64 ((y / 2 ^ k : Nat) : Int) ∧ s = .string ⟨(ofB k y).toArray⟩ ∧ Below w.heap.size w wr) (fun _ _ i _ => m - (intOf i).toNat)
    case atStart => exact ⟨0, by omega, rfl, by simp, rfl, Below.refl _ _⟩
    case round =>
      obtain ⟨k, hk, rfl, rfl, rfl, hb⟩ := hrel
      have HB := Lib.hid hb
      clear hb
      have hu1 : y / 2 ^ k ≤ y := Nat.div_le_self _ _
      obtain ⟨u, hu⟩ : ∃ u, y / 2 ^ k = u := ⟨_, rfl⟩
      by_cases hlt : k < m
      · have HN := Lib.hid (show y / 2 ^ (k + 1) = u / 2 by rw [Nat.pow_succ, ← Nat.div_div_eq_div_mul, hu])
        have HF := Lib.hid (show ofB (k + 1) y = bitOf u :: ofB k y by rw [ofB_front, hu])
        rw [hu] at hu1 ⊢
        have hol := ofB_length k y
        obtain ⟨T, hT⟩ : ∃ T, ofB k y = T := ⟨_, rfl⟩
        rw [hT] at hol HF ⊢
        have hbn := bitOf_nat u
        obtain ⟨dg, hdg⟩ : ∃ dg, bitOf u = dg := ⟨_, rfl⟩
        rw [hdg] at hbn HF
        have hap : (⟨#[dg]⟩ : ByteArray) ++ ⟨T.toArray⟩ = ⟨(dg :: T).toArray⟩ := ByteArray.mk_append_mk [dg] T
        have hsz : (⟨#[dg]⟩ : ByteArray).size + (⟨T.toArray⟩ : ByteArray).size ≤ 9223372036854775807 := by
          show 1 + T.length ≤ _
          omega
        have hr9 : u % 2 < 2 := Nat.mod_lt _ (by omega)
        have hcv : ∀ W : World, (convert 51 9 (.slice (some ⟨W.heap.size, 0, none⟩) 1 1)).run Tryd.prog (W.alloc (.cells #[.int .u8 (48 + (u : Int) % 2)] 5)) = .ok (.string ⟨#[dg]⟩) (W.alloc (.cells #[.int .u8 (48 + (u : Int) % 2)] 5)) := fun W => by
          refine str_back [dg] _ 1 1 _ ((ArrB.lit W [dg] #[.int .u8 (48 + (u : Int) % 2)] ?_).sl rfl (by unfold maxLen; omega))
          show #[Value.int .u8 (48 + (u : Int) % 2)] = #[Value.int .u8 ((dg.toNat : Nat) : Int)]
          rw [hbn]
          rfl
        have hw8 : IntKind.u8.wrap (48 + (u : Int) % 2) = 48 + (u : Int) % 2 := by rw [IntKind.wrap_u8]; omega
        have hw64 : IntKind.u64.wrap (48 + (u : Int) % 2) = 48 + (u : Int) % 2 := by rw [IntKind.wrap_u64]; omega
        have hwd : IntKind.u64.wrap ((u : Int) / 2) = (u : Int) / 2 := by rw [IntKind.wrap_u64]; omega
        have hba := HB.out.alloc HB.out.size (.cells #[.int .u8 (48 + (u : Int) % 2)] 5)
        have HBA := Lib.hid hba
        clear hu hT hdg hbn hba hr9
        go_wp2
        go_round
        case rel =>
          refine ⟨k + 1, by omega, by go_num, ?_, ?_, HBA.out⟩
          · rw [HN.out]; congr 1
          · rw [HF.out]
        case measure => simp [intOf]; omega
      · obtain rfl : k = m := by omega
        rw [hu] at hu1 ⊢
        have hol := ofB_length k y
        obtain ⟨T, hT⟩ : ∃ T, ofB k y = T := ⟨_, rfl⟩
        rw [hT] at hol HV ⊢
        by_cases hf : y < 2 ^ k
        · have hv2 := HV.out
          have he2 := HE.out
          rw [if_pos hf] at hv2 he2
          have hu0 : u = 0 := by rw [← hu, Nat.div_eq_of_lt hf]
          have HV2 := Lib.hid hv2.symm
          have HE2 := Lib.hid he2.symm
          subst hu0
          clear hv2 he2 hf hu hT HV HE
          go_wp2
          go_ret2
          exact ⟨retse HV2.out HE2.out, HB.out⟩
        · have hv2 := HV.out
          have he2 := HE.out
          rw [if_neg hf] at hv2 he2
          have hu0 : 0 < u := by rw [← hu]; exact Nat.div_pos (by omega) (Nat.pow_pos (by decide))
          have HV2 := Lib.hid hv2.symm
          have HE2 := Lib.hid he2.symm
          clear hv2 he2 hf hu hT HV HE
          go_wp2
          go_ret2
          exact ⟨retse HV2.out HE2.out, HB.out⟩
  · have hnf : ¬ ofFits x n := fun e => h ⟨e.1, e.2.1⟩
    unfold ofV ofE
    rw [if_neg hnf, if_neg hnf]
    have bn := bounds_i64 wn
    clear hnf
    by_cases h0 : n < 0
    · go_enter Tryd.func17, Tryd.ntmps17
      go_wp2
      go_ret2
      exact ⟨rfl, Below.refl _ _⟩
    · have h1 : 64 < n := by omega
      go_enter Tryd.func17, Tryd.ntmps17
      go_wp2
      go_ret2
      exact ⟨rfl, Below.refl _ _⟩
set_option maxHeartbeats 4000000 in
theorem rnext_any (w : World) (l : List UInt8) (hl : l.length ≤ maxLen) :
    Calls Tryd.prog 23 #[.string ⟨l.toArray⟩] w fun e w' => e = .returned (.tuple #[.string ⟨(nextB l).1.toArray⟩, .bool (nextB l).2]) ∧ Below w.heap.size w w' := by
  have hm : l.length ≤ 9223372036854775807 := by unfold maxLen at hl; omega
  by_cases hB : isB l = true
  · have h1024 := (isB_iff.1 hB).1
    have HI := Lib.hid (ris_any w l hl)
    rw [hB] at HI
    obtain ⟨nv, hnv⟩ : ∃ v, (nextB l).1 = v := ⟨_, rfl⟩
    obtain ⟨nb, hnb⟩ : ∃ v, (nextB l).2 = v := ⟨_, rfl⟩
    have HNX := Lib.hid (show nextB l = (nv, nb) by rw [← hnv, ← hnb])
    rw [hnv, hnb]
    have HBB := Lib.hid hB
    clear hnv hnb hB
    go_enter Tryd.func23, Tryd.ntmps23
    go_wp2_with (go_at_call 19; refine HI.out.mono ?_; rintro e w1 ⟨rfl, rfl⟩)
    go_loop [4] (fun i => ∃ z : Int, i = .int .i64 z ∧ -1 ≤ z ∧ z < l.length ∧ ∀ c ∈ l.drop (z + 1).toNat, c ≠ 48) (fun i => (intOf i + 1).toNat)
    case atStart => exact ⟨(l.length : Int) - 1, rfl, by omega, by omega, fun c hc => by rw [show ((l.length : Int) - 1 + 1).toNat = l.length by omega, List.drop_length] at hc; cases hc⟩
    case round =>
      obtain ⟨z, rfl, hz1, hz2, hq⟩ := hrel
      have HQ := Lib.hid hq
      clear hq
      by_cases hz : 0 ≤ z
      · obtain ⟨k, rfl⟩ := Int.eq_ofNat_of_zero_le hz
        have hk : k < l.length := by omega
        have hx := idx_run l k hk
        obtain ⟨c, hc⟩ : ∃ c, l.getD k 0 = c := ⟨_, rfl⟩
        have hbc : (bat l k == 48) = (c == 48) := by
          unfold bat
          rw [hc, Bool.eq_iff_iff]
          simp only [beq_iff_eq]
          exact ⟨fun e => UInt8.toNat_inj.1 (by show c.toNat = 48; omega), fun e => by rw [e]; rfl⟩
        obtain ⟨v, hv⟩ : ∃ v, bat l k = v := ⟨_, rfl⟩
        rw [hv] at hx hbc
        clear hv
        by_cases c48 : c = 48
        · have hb1 : (v == 48) = true := by rw [hbc, c48]; rfl
          have hsplit : l = l.take k ++ 48 :: l.drop (k + 1) := by
            have e1 : l = l.take k ++ l[k] :: l.drop (k + 1) := by rw [← List.drop_eq_getElem_cons hk, List.take_append_drop]
            have e2 : l[k] = 48 := by rw [← c48, ← hc, List.getD_eq_getElem?_getD, List.getElem?_eq_getElem hk]; rfl
            rw [e2] at e1
            exact e1
          have hnx : nxt l = some (l.take k ++ 49 :: List.replicate (l.length - k - 1) 48) := by
            have := nxt_split (l.take k) (l.drop (k + 1)) (by have := HQ.out; rwa [show ((k : Int) + 1).toNat = k + 1 by omega] at this)
            rw [← hsplit, List.length_drop] at this
            rw [this, show l.length - (k + 1) = l.length - k - 1 by omega]
          have h2 := HNX.out
          rw [nextB_in HBB.out hnx] at h2
          obtain ⟨p, hpp⟩ : ∃ p, l.take k = p := ⟨_, rfl⟩
          have hpl : p.length = k := by rw [← hpp, List.length_take]; omega
          have he : (⟨l.toArray⟩ : ByteArray).extract 0 k = ⟨p.toArray⟩ := by rw [ext_to, hpp]
          obtain ⟨j, hj⟩ : ∃ j : Nat, l.length - k - 1 = j := ⟨_, rfl⟩
          have hj' : (l.length : Int) - k - 1 = (j : Int) := by omega
          obtain ⟨q, hq⟩ : ∃ q, List.replicate j (48 : UInt8) = q := ⟨_, rfl⟩
          have hql : q.length = j := by rw [← hq, List.length_replicate]
          have HR := Lib.hid (fun W : World => rzeros_any W j (by omega))
          rw [hq] at HR
          obtain ⟨r1, hr1⟩ : ∃ r1, p ++ [49] = r1 := ⟨_, rfl⟩
          have hr1l : r1.length = k + 1 := by rw [← hr1, List.length_append, hpl]; rfl
          obtain ⟨r2, hr2⟩ : ∃ r2, r1 ++ q = r2 := ⟨_, rfl⟩
          rw [hpp, hj, hq, show p ++ 49 :: q = r2 by rw [← hr2, ← hr1, List.append_assoc]; rfl] at h2
          have hap : (⟨p.toArray⟩ : ByteArray) ++ ⟨#[49]⟩ = ⟨r1.toArray⟩ := by rw [← hr1]; exact ByteArray.mk_append_mk p [49]
          have hap2 : (⟨r1.toArray⟩ : ByteArray) ++ ⟨q.toArray⟩ = ⟨r2.toArray⟩ := by rw [← hr2]; exact ByteArray.mk_append_mk _ _
          have hsz2 : ¬ (9223372036854775807 < k + 1 + j) := by omega
          have HV1 := Lib.hid (congrArg Prod.fst h2)
          have HV2 := Lib.hid (congrArg Prod.snd h2)
          clear hr1 hr2 hq h2 hnx hpp hj hsplit hc hbc c48
          go_wp2
          refine RV.wp_region_v (by kernel_rfl) [19, 20, 21, 22, 23, 24, 25, 26, 27, 28, 29, 2, 3] [.string ⟨(l).toArray⟩, .int .i64 (k : Nat), .string ⟨(p).toArray⟩, .string ⟨(r1).toArray⟩, .string ⟨(l).toArray⟩, .int .i64 (l.length : Nat), .int .i64 (k : Nat), .int .i64 ((l.length : Int) - k), .int .i64 (j : Nat), .string ⟨(q).toArray⟩, .string ⟨(r2).toArray⟩, .string ⟨(r2).toArray⟩, .bool true] (fun W => Below w1.heap.size w1 W) (by kernel_rfl) rfl (by decide) rfl (by kernel_rfl) ((Below.refl _ _).drew) ?_ ?_
          · intro ii hii fa fw fr hp hG
            match ii, hii with
            | 0, _ =>
              have p0 : fa.eval (.tmp 0) = .string ⟨(l).toArray⟩ := (fr.out 0 (by decide)).trans rfl
              simp only [Act.eval] at p0
              refine ⟨_, _, rfl, rfl, .inl ⟨fw, ?_, hG⟩⟩
              simp only [execOp, Act.eval]
              go_simp
              all_goals first | omega | (intro hh; omega) | (rw [IntKind.wrap_i64]; omega)
            | 1, _ =>
              have p4 : fa.eval (.tmp 4) = .int .i64 (k : Nat) := (fr.out 4 (by decide)).trans rfl
              simp only [Act.eval] at p4
              refine ⟨_, _, rfl, rfl, .inl ⟨fw, ?_, hG⟩⟩
              simp only [execOp, Act.eval]
              go_simp
              all_goals first | omega | (intro hh; omega) | (rw [IntKind.wrap_i64]; omega)
            | 2, _ =>
              have p19 : fa.eval (.tmp 19) = .string ⟨(l).toArray⟩ := hp 0 19 _ (by kernel_rfl) rfl rfl
              have p20 : fa.eval (.tmp 20) = .int .i64 (k : Nat) := hp 1 20 _ (by kernel_rfl) rfl rfl
              simp only [Act.eval] at p19 p20
              refine ⟨_, _, rfl, rfl, .inl ⟨fw, ?_, hG⟩⟩
              simp only [execOp, Act.eval]
              go_simp
              all_goals first | omega | (intro hh; omega) | (rw [IntKind.wrap_i64]; omega)
            | 3, _ =>
              have p21 : fa.eval (.tmp 21) = .string ⟨(p).toArray⟩ := hp 2 21 _ (by kernel_rfl) rfl rfl
              simp only [Act.eval] at p21
              refine ⟨_, _, rfl, rfl, .inl ⟨fw, ?_, hG⟩⟩
              simp only [execOp, Act.eval]
              go_simp
              all_goals first | omega | (intro hh; omega) | (rw [IntKind.wrap_i64]; omega)
            | 4, _ =>
              have p0 : fa.eval (.tmp 0) = .string ⟨(l).toArray⟩ := (fr.out 0 (by decide)).trans rfl
              simp only [Act.eval] at p0
              refine ⟨_, _, rfl, rfl, .inl ⟨fw, ?_, hG⟩⟩
              simp only [execOp, Act.eval]
              go_simp
              all_goals first | omega | (intro hh; omega) | (rw [IntKind.wrap_i64]; omega)
            | 5, _ =>
              have p23 : fa.eval (.tmp 23) = .string ⟨(l).toArray⟩ := hp 4 23 _ (by kernel_rfl) rfl rfl
              simp only [Act.eval] at p23
              refine ⟨_, _, rfl, rfl, .inl ⟨fw, ?_, hG⟩⟩
              simp only [execOp, Act.eval]
              go_simp
              all_goals first | omega | (intro hh; omega) | (rw [IntKind.wrap_i64]; omega)
            | 6, _ =>
              have p4 : fa.eval (.tmp 4) = .int .i64 (k : Nat) := (fr.out 4 (by decide)).trans rfl
              simp only [Act.eval] at p4
              refine ⟨_, _, rfl, rfl, .inl ⟨fw, ?_, hG⟩⟩
              simp only [execOp, Act.eval]
              go_simp
              all_goals first | omega | (intro hh; omega) | (rw [IntKind.wrap_i64]; omega)
            | 7, _ =>
              have p24 : fa.eval (.tmp 24) = .int .i64 (l.length : Nat) := hp 5 24 _ (by kernel_rfl) rfl rfl
              have p25 : fa.eval (.tmp 25) = .int .i64 (k : Nat) := hp 6 25 _ (by kernel_rfl) rfl rfl
              simp only [Act.eval] at p24 p25
              refine ⟨_, _, rfl, rfl, .inl ⟨fw, ?_, hG⟩⟩
              simp only [execOp, Act.eval]
              go_simp
              all_goals first | omega | (intro hh; omega) | (rw [IntKind.wrap_i64]; omega)
            | 8, _ =>
              have p26 : fa.eval (.tmp 26) = .int .i64 ((l.length : Int) - k) := hp 7 26 _ (by kernel_rfl) rfl rfl
              simp only [Act.eval] at p26
              refine ⟨_, _, rfl, rfl, .inl ⟨fw, ?_, hG⟩⟩
              simp only [execOp, Act.eval]
              go_simp
              all_goals first | omega | (intro hh; omega) | (rw [IntKind.wrap_i64]; omega)
            | 9, _ =>
              have p27 : fa.eval (.tmp 27) = .int .i64 (j : Nat) := hp 8 27 _ (by kernel_rfl) rfl rfl
              have hv : (#[Operand.tmp 27] : Array Operand).map fa.eval = #[(.int .i64 (j : Nat))] := by simp only [List.map_toArray, List.map_cons, List.map_nil, p27]
              exact ⟨_, _, rfl, rfl, RV.yields_call hv Tryd.func38 (by kernel_rfl) rfl (HR.out fw) (fun e w2 h => ⟨h.1, h.2 ▸ hG⟩)⟩
            | 10, _ =>
              have p22 : fa.eval (.tmp 22) = .string ⟨(r1).toArray⟩ := hp 3 22 _ (by kernel_rfl) rfl rfl
              have p28 : fa.eval (.tmp 28) = .string ⟨(q).toArray⟩ := hp 9 28 _ (by kernel_rfl) rfl rfl
              simp only [Act.eval] at p22 p28
              refine ⟨_, _, rfl, rfl, .inl ⟨fw, ?_, hG⟩⟩
              simp only [execOp, Act.eval]
              go_simp
              all_goals first | omega | (intro hh; omega) | (rw [IntKind.wrap_i64]; omega)
            | 11, _ =>
              have p29 : fa.eval (.tmp 29) = .string ⟨(r2).toArray⟩ := hp 10 29 _ (by kernel_rfl) rfl rfl
              simp only [Act.eval] at p29
              refine ⟨_, _, rfl, rfl, .inl ⟨fw, ?_, hG⟩⟩
              simp only [execOp, Act.eval]
              go_simp
              all_goals first | omega | (intro hh; omega) | (rw [IntKind.wrap_i64]; omega)
            | 12, _ =>
              refine ⟨_, _, rfl, rfl, .inl ⟨fw, ?_, hG⟩⟩
              simp only [execOp, Act.eval]
              go_simp
              all_goals first | omega | (intro hh; omega) | (rw [IntKind.wrap_i64]; omega)
            | i + 13, hi => exact absurd hi (by show ¬ (i + 13 < 13); omega)
          · intro w2 hG
            simp only [RV.putAll, List.zip_cons_cons, List.zip_nil_left, List.zip_nil_right, List.foldl_cons, List.foldl_nil, Act.put, List.setIfInBounds_toArray, List.set_cons_zero, List.set_cons_succ]
            go_wp2
            go_ret2
            exact ⟨retsb HV1.out HV2.out, hG⟩
        · have hb1 : (v == 48) = false := by rw [hbc]; simpa using c48
          have HQ2 := Lib.hid (fun d (hd : d ∈ l.drop k) => show d ≠ 48 by
            rw [List.drop_eq_getElem_cons hk] at hd
            rcases List.mem_cons.1 hd with e | e
            · rw [e]
              rw [List.getD_eq_getElem?_getD, List.getElem?_eq_getElem hk] at hc
              exact fun e2 => c48 (hc.symm.trans e2)
            · exact HQ.out d (by rwa [show ((k : Int) + 1).toNat = k + 1 by omega]))
          clear hc hbc c48
          go_wp2
          go_round
          case rel => exact ⟨(k : Int) - 1, by go_num, by omega, by omega, fun d hd => HQ2.out d (by rwa [show ((k : Int) - 1 + 1).toNat = k by omega] at hd)⟩
          case measure => simp [intOf]
      · obtain rfl : z = -1 := by omega
        have hn := nxt_none (q := l) (by have := HQ.out; simpa using this)
        have h2 := HNX.out
        by_cases hlt : l.length < 1024
        · rw [nextB_up HBB.out hn hlt] at h2
          have HV1 := Lib.hid (congrArg Prod.fst h2)
          have HV2 := Lib.hid (congrArg Prod.snd h2)
          have HR := Lib.hid (fun W : World => rzeros_any W (l.length + 1) (by omega))
          have hne : (((l.length : Nat) : Int) == 1024) = false := by simp; omega
          clear h2 hn
          go_wp2_with (go_at_call 38; refine (HR.out _).mono ?_; rintro e w2 ⟨rfl, rfl⟩)
          go_ret2
          exact ⟨retsb HV1.out HV2.out, Below.refl _ _⟩
        · rw [nextB_top HBB.out hn hlt] at h2
          have HV1 := Lib.hid (congrArg Prod.fst h2)
          have HV2 := Lib.hid (congrArg Prod.snd h2)
          have hne : (((l.length : Nat) : Int) == 1024) = true := by simp; omega
          clear h2 hn
          go_wp2
          go_ret2
          exact ⟨retsb HV1.out HV2.out, Below.refl _ _⟩
  · have hB' : isB l = false := by simpa using hB
    rw [nextB_no hB']
    have HI := Lib.hid (ris_any w l hl)
    rw [hB'] at HI
    clear hB hB'
    go_enter Tryd.func23, Tryd.ntmps23
    go_wp2_with (go_at_call 19; refine HI.out.mono ?_; rintro e w1 ⟨rfl, rfl⟩)
    go_ret2
    exact ⟨rfl, Below.refl _ _⟩
theorem rdown_any (w : World) (l : List UInt8) (hl : l.length ≤ maxLen) (a : Int) (wa : (Lit.int .i64 a).wf = true) :
    Calls Tryd.prog 29 #[.string ⟨l.toArray⟩, .int .i64 a] w fun e w' => e = .returned (.tuple #[.string ⟨(downV l a).toArray⟩, .int .i64 (downE l a)]) ∧ Below w.heap.size w w' := by
  have hm : l.length ≤ 9223372036854775807 := by unfold maxLen at hl; omega
  have ba := bounds_i64 wa
  have HI := Lib.hid (ris_any w l hl)
  by_cases hB : isB l = true
  · rw [hB] at HI
    by_cases h0 : a < 0
    · have hE : downE l a = 1 := by unfold downE; rw [if_pos hB, if_neg (fun e : isOne l a => by have := e.1; omega)]
      unfold downV
      rw [if_neg (by rw [hE]; decide), hE]
      clear hE hB
      go_enter Tryd.func29, Tryd.ntmps29
      go_wp2_with (go_at_call 19; refine HI.out.mono ?_; rintro e w1 ⟨rfl, rfl⟩)
      go_ret2
      exact ⟨rfl, Below.refl _ _⟩
    · obtain ⟨x, rfl⟩ := Int.eq_ofNat_of_zero_le (show 0 ≤ a by omega)
      by_cases hx : x < l.length
      · have hi := idx_run l x hx
        have h49 : (bat l x != 49) = (l.getD x 0 != 49) := bat_ne l x 49
        by_cases h1 : l.getD x 0 = 49
        · have hE : downE l x = 0 := by unfold downE; rw [if_pos hB, if_pos ⟨by omega, by omega, h1⟩]
          unfold downV
          rw [if_pos hE, hE]
          have h5 : (bat l x != 49) = false := by rw [h49, h1]; rfl
          obtain ⟨v, hv⟩ : ∃ v, bat l x = v := ⟨_, rfl⟩
          rw [hv] at hi h5
          have hl2 := (isB_iff.1 hB).1
          obtain ⟨p, hpp⟩ : ∃ p, l.take x = p := ⟨_, rfl⟩
          have hpl : p.length = x := by rw [← hpp, List.length_take]; omega
          have he : (⟨l.toArray⟩ : ByteArray).extract 0 x = ⟨p.toArray⟩ := by rw [ext_to, hpp]
          obtain ⟨r1, hr1⟩ : ∃ r1, p ++ [48] = r1 := ⟨_, rfl⟩
          have hr1l : r1.length = x + 1 := by rw [← hr1, List.length_append, hpl]; rfl
          have hap : (⟨p.toArray⟩ : ByteArray) ++ ⟨#[48]⟩ = ⟨r1.toArray⟩ := by rw [← hr1]; exact ByteArray.mk_append_mk p [48]
          obtain ⟨o, ho⟩ : ∃ o, downB l ((x : Int)).toNat = o := ⟨_, rfl⟩
          have HO := Lib.hid (show r1 ++ List.replicate (l.length - x - 1) 49 = o by rw [← ho, ← hr1, ← hpp]; rfl)
          rw [ho]
          clear ho hr1 hpp hv h49 h1 hE hB
          go_enter Tryd.func29, Tryd.ntmps29
          go_wp2_with (go_at_call 19; refine HI.out.mono ?_; rintro e w1 ⟨rfl, rfl⟩)
          go_loop [6] (fun s => ∃ k : Nat, x + 1 + k ≤ l.length ∧ s = .string ⟨(r1 ++ List.replicate k 49).toArray⟩) (fun s => l.length - sLenV s)
          case atStart => exact ⟨0, by omega, by simp⟩
          case round =>
            obtain ⟨k, hk, rfl⟩ := hrel
            have hrl : (r1 ++ List.replicate k (49 : UInt8)).length = x + 1 + k := by rw [List.length_append, List.length_replicate, hr1l]
            by_cases hlt : x + 1 + k < l.length
            · have HR2 := Lib.hid (show (r1 ++ List.replicate k (49 : UInt8)) ++ [49] = r1 ++ List.replicate (k + 1) 49 by rw [List.append_assoc, rep_snoc])
              obtain ⟨r, hr⟩ : ∃ r, r1 ++ List.replicate k (49 : UInt8) = r := ⟨_, rfl⟩
              rw [hr] at hrl HR2 ⊢
              have hap3 : (⟨r.toArray⟩ : ByteArray) ++ ⟨#[49]⟩ = ⟨(r ++ [49]).toArray⟩ := ByteArray.mk_append_mk r [49]
              clear hr
              have hsz2 : ¬ (9223372036854775807 < x + 1 + k + 1) := by omega
              go_wp2
              go_round
              case rel => exact ⟨k + 1, by omega, by rw [← HR2.out]⟩
              case measure =>
                show l.length - (r ++ [49]).length < l.length - r.length
                rw [List.length_append, hrl]
                show l.length - (x + 1 + k + 1) < _
                omega
            · obtain rfl : k = l.length - x - 1 := by omega
              rw [HO.out] at hrl ⊢
              go_wp2
              go_ret2
              exact ⟨rfl, Below.refl _ _⟩
        · have hE : downE l x = 1 := by unfold downE; rw [if_pos hB, if_neg (fun e => h1 e.2.2)]
          unfold downV
          rw [if_neg (by rw [hE]; decide), hE]
          have h5 : (bat l x != 49) = true := by rw [h49]; simpa using h1
          obtain ⟨v, hv⟩ : ∃ v, bat l x = v := ⟨_, rfl⟩
          rw [hv] at hi h5
          clear hv h49 h1 hE hB
          go_enter Tryd.func29, Tryd.ntmps29
          go_wp2_with (go_at_call 19; refine HI.out.mono ?_; rintro e w1 ⟨rfl, rfl⟩)
          go_ret2
          exact ⟨rfl, Below.refl _ _⟩
      · have hE : downE l x = 1 := by unfold downE; rw [if_pos hB, if_neg (fun e : isOne l x => by have := e.2.1; omega)]
        unfold downV
        rw [if_neg (by rw [hE]; decide), hE]
        clear hE hB
        go_enter Tryd.func29, Tryd.ntmps29
        go_wp2_with (go_at_call 19; refine HI.out.mono ?_; rintro e w1 ⟨rfl, rfl⟩)
        go_ret2
        exact ⟨rfl, Below.refl _ _⟩
  · have hB' : isB l = false := by simpa using hB
    have hE : downE l a = 3 := by unfold downE; rw [if_neg hB]
    unfold downV
    rw [if_neg (by rw [hE]; decide), hE]
    rw [hB'] at HI
    clear hE hB hB'
    go_enter Tryd.func29, Tryd.ntmps29
    go_wp2_with (go_at_call 19; refine HI.out.mono ?_; rintro e w1 ⟨rfl, rfl⟩)
    go_ret2
    exact ⟨rfl, Below.refl _ _⟩
end Go.Proofs.YtcpkkceoobioiaaDoor
