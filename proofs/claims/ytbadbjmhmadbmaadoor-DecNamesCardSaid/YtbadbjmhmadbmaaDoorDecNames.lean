/-
  PROVED: the statement DecNames (tombolalaw04.DecNames) about the landed commit: for every input the law returns true and leaves its arguments as they were. Conditions: none beyond those that the given row itself prints.
-/
import Derived.Test.YtbadbjmhmadbmaaDoorCards
import Derived.Test.YtbadbjmhmadbmaaDoorTie
import Derived.LaidMore
import Derived.Lay
import Derived.SevenTiedAt
import Derived.Stop.Joined
import Derived.Test.YtbadbjmhmadbmaaDoorRows
import Derived.WalkKit
import Derived.ProofKit
import Derived.OpenShut
import Derived.RowKit3
import Derived.Test.YtbadbjmhmadbmaaDoorLawFrame
import Derived.Test.YtbadbjmhmadbmaaDoorNatOpen
import Derived.Test.YtbadbjmhmadbmaaDoorDecAwake
namespace Go.Proofs.YtbadbjmhmadbmaaDoor.decNames
open Go.ChangeShapes Go.WideShapes Go.ChangeAt Go.RowKit
set_option linter.unusedVariables false
set_option maxRecDepth 20000
open N
theorem own : ownKnob Tryd.prog.godebug = none := by kernel_rfl
open Go.Lib (decDigits nDigits decDigits_length nDigits_pos)
attribute [local go_sem] Oper.semAt_some
theorem wrap_u8_c {c : Nat} (h : c < 256) : IntKind.u8.wrap (c : Int) = ((UInt8.ofNat c).toNat : Int) := by
  rw [IntKind.wrap_u8, UInt8.toNat_ofNat']; omega
theorem one_dig {c : Nat} (h0 : 48 ≤ c) (h1 : c ≤ 57) : rdE [UInt8.ofNat c] = 0 ∧ rdV [UInt8.ofNat c] = (c : Int) - 48 ∧ decDigits ((c : Int) - 48).toNat = [UInt8.ofNat c] := by
  have e : (UInt8.ofNat c).toNat = c := by rw [UInt8.toNat_ofNat']; omega
  have r : rdE [UInt8.ofNat c] = 0 := by
    refine rdE_ok (by simp) ?_ (by simp) (by simp)
    rw [List.all_cons, List.all_nil, Bool.and_true, isDb_iff]; unfold IsD; omega
  have v : rdV [UInt8.ofNat c] = (c : Int) - 48 := by
    unfold rdV; rw [if_pos r, dv_one, e]; omega
  exact ⟨r, v, dd_lit r v⟩
theorem one_not {c : Nat} (h : c < 256) (h0 : ¬ (48 ≤ c ∧ c ≤ 57)) : rdE [UInt8.ofNat c] = 3 := by
  have e : (UInt8.ofNat c).toNat = c := by rw [UInt8.toNat_ofNat']; omega
  refine rdE_form (k := 0) (by simp) ?_
  show ¬ IsD (UInt8.ofNat c)
  unfold IsD; omega
theorem rd_zeros : rdE (List.replicate 20001 48) = 3 := by
  refine rdE_zero ?_ rfl (by rw [List.length_replicate]; omega)
  rw [List.all_eq_true]; intro b hb; rw [(List.mem_replicate.1 hb).2]; rfl
theorem rd_ones : rdE (List.replicate 20001 49) = 5 := by
  refine rdE_long ?_ (fun h => absurd h.1 (by decide)) (by rw [List.length_replicate]; omega)
  rw [List.all_eq_true]; intro b hb; rw [(List.mem_replicate.1 hb).2]; rfl
theorem strs_cell (w : World) (L : List (List UInt8)) (cs : Array Value) (h : cs = (L.map fun t => Value.string ⟨t.toArray⟩).toArray) (k : Nat) (hk : k < L.length) :
    (w.alloc (.cells cs 9)).cell? ⟨w.heap.size, k, none⟩ = some (.string ⟨(L.getD k []).toArray⟩) := by
  rw [World.cell?_alloc_new, h]
  simp [hk]
theorem St_lit3 {w0 w : World} {S : List Ent} (h : St w0 w S) (x y z : Int) (hx : 0 ≤ x ∧ x < 18446744073709551616) (hy : 0 ≤ y ∧ y < 18446744073709551616) (hz : 0 ≤ z ∧ z < 18446744073709551616) :
    St w0 (w.alloc (.cells #[.int .u64 x, .int .u64 y, .int .u64 z] 33)) (⟨some ⟨w.heap.size, 0, none⟩, 3, 3, 3, [x, y, z], val B [x, y, z]⟩ :: S) :=
  h.lit [x, y, z] (Dg.cons hx.1 hx.2 (Dg.cons hy.1 hy.2 (Dg.one hz.1 hz.2))) (by simp)
theorem rd_x (T : List UInt8) (h : T.length = 20000) : rdE (T ++ [120]) = 3 := by
  refine rdE_form (k := 20000) (by simp [h]) ?_
  rw [List.getD_eq_getElem?_getD, List.getElem?_append_right (by omega), h]
  decide
theorem rd_a (T : List UInt8) (n : Nat) (h : T = List.replicate (n + 1) 97) : rdE (49 :: T) = 3 := by
  subst h
  refine rdE_form (k := 1) (by simp) ?_
  show ¬ IsD 97
  decide
set_option maxRecDepth 100000 in
set_option maxHeartbeats 4000000 in
theorem walk (w : World)  :
    Calls Tryd.prog 5 #[] w fun e w' => e = .returned (.bool true) ∧ Below w.heap.size w w' := by
  have hS := Lib.hid (St.nil_ w)
  go_enter Tryd.func5, Tryd.ntmps5
  go_wp2_with fail
  go_at_call 13
  refine (dawake_s hS.out).mono ?_
  rintro e w' ⟨rfl, h1⟩
  clear hS; have hS := Lib.hid h1; clear h1
  go_wp2_with fail
  go_loopw [1] (fun i wr => ∃ c : Nat, c ≤ 256 ∧ i = .int .i64 (c : Int) ∧ Below w.heap.size w wr) (fun i _ => 256 - (intOf i).toNat)
  case atStart => exact ⟨0, by omega, rfl, hS.out.1⟩
  case round =>
    obtain ⟨c, hc, rfl, hs⟩ := hrel
    obtain ⟨wi, rfl⟩ : ∃ wi : World, wi = wr := ⟨_, rfl⟩
    clear hS
    have hS := Lib.hid ((St.nil_ w).below hs)
    clear hs
    by_cases hlt : c < 256
    · obtain ⟨b, hb⟩ : ∃ b, UInt8.ofNat c = b := ⟨_, rfl⟩
      have hw := wrap_u8_c hlt
      rw [hb] at hw
      have hcv : ∀ W : World, (convert 35 9 (.slice (some ⟨W.heap.size, 0, none⟩) 1 1)).run Tryd.prog (W.alloc (.cells #[.int .u8 (b.toNat : Int)] 5)) = .ok (.string ⟨#[b]⟩) (W.alloc (.cells #[.int .u8 (b.toNat : Int)] 5)) := fun W =>
        str_back [b] _ 1 1 _ ((ArrB.lit W [b] #[.int .u8 (b.toNat : Int)] rfl).sl rfl (by unfold maxLen; omega))
      by_cases hd : 48 ≤ c ∧ c ≤ 57
      · obtain ⟨hd0, hd1⟩ := hd
        obtain ⟨r1, r2, r3⟩ := one_dig hd0 hd1
        rw [hb] at r1 r2 r3
        have HR1 := Lib.hid r1
        have HR2 := Lib.hid r2
        have HR3 := Lib.hid r3
        have hwi : IntKind.i64.wrap ((c : Int) - 48) = (c : Int) - 48 := by rw [IntKind.wrap_i64]; omega
        clear r1 r2 r3 hb
        go_wp2_with fail
        go_at_call 19
        refine (read_t (hS.out.alloc _) [b] 0 ((c : Int) - 48) (by simp [maxLen]) HR1.out HR2.out).mono ?_
        rintro e w' ⟨A2, n2, c2, rfl, h1⟩
        clear hS; have hS := Lib.hid h1; clear h1
        go_wp2_with fail
        go_at_call 21
        refine (small_s hS.out List.mem_cons_self (by omega)).mono ?_
        rintro e w' ⟨rfl, h1⟩
        clear hS; have hS := Lib.hid h1; clear h1
        go_wp2_with fail
        go_at_call 14
        refine (show_t hS.out List.mem_cons_self (by omega) [b] HR3.out).mono ?_
        rintro e w' ⟨rfl, h1⟩
        clear hS; have hS := Lib.hid h1; clear h1
        have hb2 := hS.out.1
        go_wp2
        go_roundw
        case rel => exact ⟨c + 1, by omega, by go_num, hb2⟩
        case measure => simp [intOf]; omega
      · have r1 := one_not hlt hd
        rw [hb] at r1
        have HR1 := Lib.hid r1
        clear r1 hb
        by_cases hd0 : 48 ≤ c
        · have hd1 : 57 < c := by omega
          clear hd
          go_wp2_with fail
          go_at_call 19
          refine (read_t (hS.out.alloc _) [b] 3 _ (by simp [maxLen]) HR1.out rfl).mono ?_
          rintro e w' ⟨A2, n2, c2, rfl, h1⟩
          clear hS; have hS := Lib.hid h1; clear h1
          have hb2 := hS.out.1
          go_wp2
          go_roundw
          case rel => exact ⟨c + 1, by omega, by go_num, hb2⟩
          case measure => simp [intOf]; omega
        · clear hd
          go_wp2_with fail
          go_at_call 19
          refine (read_t (hS.out.alloc _) [b] 3 _ (by simp [maxLen]) HR1.out rfl).mono ?_
          rintro e w' ⟨A2, n2, c2, rfl, h1⟩
          clear hS; have hS := Lib.hid h1; clear h1
          have hb2 := hS.out.1
          go_wp2
          go_roundw
          case rel => exact ⟨c + 1, by omega, by go_num, hb2⟩
          case measure => simp [intOf]; omega
    · obtain rfl : c = 256 := by omega
      obtain ⟨T0, hT0⟩ : ∃ T : List UInt8, List.replicate 20001 48 = T := ⟨_, rfl⟩
      obtain ⟨T1, hT1⟩ : ∃ T : List UInt8, List.replicate 20000 49 = T := ⟨_, rfl⟩
      obtain ⟨Ta, hTa⟩ : ∃ T : List UInt8, List.replicate 20005 97 = T := ⟨_, rfl⟩
      have e1 : T1.length = 20000 := by rw [← hT1, List.length_replicate]
      have ea : Ta.length = 20005 := by rw [← hTa, List.length_replicate]
      have p1 : (⟨T1.toArray⟩ : ByteArray) ++ ⟨#[120]⟩ = ⟨(T1 ++ [120]).toArray⟩ := ByteArray.mk_append_mk T1 [120]
      have pa : (⟨#[49]⟩ : ByteArray) ++ ⟨Ta.toArray⟩ = ⟨(49 :: Ta).toArray⟩ := ByteArray.mk_append_mk [49] Ta
      have R0 := Lib.hid (show rdE T0 = 3 by rw [← hT0]; exact rd_zeros)
      have R1 := Lib.hid (rd_x T1 e1)
      have Ra := Lib.hid (rd_a Ta 20004 hTa.symm)
      have HT0 := Lib.hid hT0
      have HT1 := Lib.hid hT1
      have HTa := Lib.hid hTa
      have E0 := Lib.hid (show T0.length = 20001 by rw [← hT0, List.length_replicate])
      have E1 := Lib.hid e1
      have Ea := Lib.hid ea
      clear hT0 hT1 hTa
      go_wp2_with fail
      go_at_call 22
      refine (many_s hS.out 48 20001 rfl rfl (by omega)).mono ?_
      rw [HT0.out]
      rintro e w' ⟨rfl, h1⟩
      clear hS; have hS := Lib.hid h1; clear h1
      go_wp2_with fail
      go_at_call 22
      refine (many_s hS.out 49 20000 rfl rfl (by omega)).mono ?_
      rw [HT1.out]
      rintro e w' ⟨rfl, h1⟩
      clear hS; have hS := Lib.hid h1; clear h1
      go_wp2_with fail
      go_at_call 22
      refine (many_s hS.out 97 20005 rfl rfl (by omega)).mono ?_
      rw [HTa.out]
      rintro e w' ⟨rfl, h1⟩
      clear hS; have hS := Lib.hid h1; clear h1
      go_wp2_with fail
      obtain ⟨TX, hTX⟩ : ∃ TX : List (List UInt8), [[48, 48], [43, 53], [45, 49], [32, 49], [49, 32], [48, 120, 49], [49, 46, 48], [48, 49], T0, T1 ++ [120], 49 :: Ta] = TX := ⟨_, rfl⟩
      have hall : ∀ j, j < 11 → rdE (TX.getD j []) = 3 ∧ (TX.getD j []).length ≤ maxLen := by
        intro j hj
        rw [← hTX]
        have : j = 0 ∨ j = 1 ∨ j = 2 ∨ j = 3 ∨ j = 4 ∨ j = 5 ∨ j = 6 ∨ j = 7 ∨ j = 8 ∨ j = 9 ∨ j = 10 := by omega
        rcases this with rfl | rfl | rfl | rfl | rfl | rfl | rfl | rfl | rfl | rfl | rfl
        · exact ⟨(by decide +kernel : rdE [48, 48] = 3), (by decide : [(48 : UInt8), 48].length ≤ 2 ^ 63 - 1)⟩
        · exact ⟨(by decide +kernel : rdE [43, 53] = 3), (by decide : [(43 : UInt8), 53].length ≤ 2 ^ 63 - 1)⟩
        · exact ⟨(by decide +kernel : rdE [45, 49] = 3), (by decide : [(45 : UInt8), 49].length ≤ 2 ^ 63 - 1)⟩
        · exact ⟨(by decide +kernel : rdE [32, 49] = 3), (by decide : [(32 : UInt8), 49].length ≤ 2 ^ 63 - 1)⟩
        · exact ⟨(by decide +kernel : rdE [49, 32] = 3), (by decide : [(49 : UInt8), 32].length ≤ 2 ^ 63 - 1)⟩
        · exact ⟨(by decide +kernel : rdE [48, 120, 49] = 3), (by decide : [(48 : UInt8), 120, 49].length ≤ 2 ^ 63 - 1)⟩
        · exact ⟨(by decide +kernel : rdE [49, 46, 48] = 3), (by decide : [(49 : UInt8), 46, 48].length ≤ 2 ^ 63 - 1)⟩
        · exact ⟨(by decide +kernel : rdE [48, 49] = 3), (by decide : [(48 : UInt8), 49].length ≤ 2 ^ 63 - 1)⟩
        · exact ⟨R0.out, (by show T0.length ≤ 2 ^ 63 - 1; rw [E0.out]; omega)⟩
        · exact ⟨R1.out, (by show (T1 ++ [120]).length ≤ 2 ^ 63 - 1; rw [List.length_append, E1.out]; decide)⟩
        · exact ⟨Ra.out, (by show (49 :: Ta).length ≤ 2 ^ 63 - 1; rw [List.length_cons, Ea.out]; decide)⟩
      have hcs := fun k (hk : k < 11) => strs_cell w' TX #[.string ⟨#[48, 48]⟩, .string ⟨#[43, 53]⟩, .string ⟨#[45, 49]⟩, .string ⟨#[32, 49]⟩, .string ⟨#[49, 32]⟩, .string ⟨#[48, 120, 49]⟩, .string ⟨#[49, 46, 48]⟩, .string ⟨#[48, 49]⟩, .string ⟨T0.toArray⟩, .string ⟨(T1 ++ [120]).toArray⟩, .string ⟨(49 :: Ta).toArray⟩] (by rw [← hTX]; rfl) k (by rw [← hTX]; exact hk)
      have hb0 := hS.out.1
      have HCS := Lib.hid hcs
      have HALL := Lib.hid hall
      clear hcs hall hTX p1 pa e1 ea hS
      go_loopw [71] (fun i wr => ∃ k : Nat, k ≤ 11 ∧ i = .int .i64 (k : Int) ∧ Below w.heap.size w wr ∧ w'.heap.size < wr.heap.size ∧ ∀ j, j < 11 → wr.cell? ⟨w'.heap.size, j, none⟩ = some (.string ⟨(TX.getD j []).toArray⟩)) (fun i _ => 11 - (intOf i).toNat)
      case atStart => exact ⟨0, by omega, rfl, hb0.alloc hb0.size _, by simp, HCS.out⟩
      case round =>
        obtain ⟨k, hk, rfl, hb, hg, hc⟩ := hrel
        obtain ⟨wi, rfl⟩ : ∃ wi : World, wi = wr := ⟨_, rfl⟩
        have hS := Lib.hid ((St.nil_ w).below hb)
        have HG := Lib.hid hg
        have HC := Lib.hid hc
        clear hb hg hc hb0
        by_cases hlt : k < 11
        · obtain ⟨t, ht⟩ : ∃ t, TX.getD k [] = t := ⟨_, rfl⟩
          have hcell := HC.out k hlt
          obtain ⟨t1, t2⟩ := HALL.out k hlt
          rw [ht] at hcell t1 t2
          have HT1 := Lib.hid t1
          have HT2 := Lib.hid t2
          clear t1 t2 ht
          go_wp2_with fail
          go_at_call 19
          refine (pread_any _ t HT2.out).mono ?_
          rw [HT1.out]
          rintro e w2 ⟨A2, n2, c2, rfl, hn2, ho2, hb2⟩
          have hb3 := hS.out.1.trans (hb2.mono hS.out.1.size)
          have hg3 : w'.heap.size < w2.heap.size := Nat.lt_of_lt_of_le HG.out hb2.size
          have hc3 : ∀ j, j < 11 → w2.cell? ⟨w'.heap.size, j, none⟩ = some (.string ⟨(TX.getD j []).toArray⟩) := fun j hj => by rw [hb2.cell HG.out]; exact HC.out j hj
          have HC3 := Lib.hid hc3
          clear hc3 ho2 hb2 hcell
          go_wp2
          go_roundw
          case rel => exact ⟨k + 1, by omega, by go_num, hb3, hg3, HC3.out⟩
          case measure => simp [intOf]; omega
        · obtain rfl : k = 11 := by omega
          obtain ⟨To, hTo⟩ : ∃ T : List UInt8, List.replicate 20001 49 = T := ⟨_, rfl⟩
          have Ro := Lib.hid (show rdE To = 5 by rw [← hTo]; exact rd_ones)
          have Eo := Lib.hid (show To.length ≤ maxLen by rw [← hTo, List.length_replicate]; unfold maxLen; omega)
          have HTo := Lib.hid hTo
          clear hTo
          go_wp2_with fail
          go_at_call 22
          refine (many_s hS.out 49 20001 rfl rfl (by omega)).mono ?_
          rw [HTo.out]
          rintro e w' ⟨rfl, h1⟩
          clear hS; have hS := Lib.hid h1; clear h1
          go_wp2_with fail
          go_at_call 19
          refine (read_t hS.out To 5 _ Eo.out Ro.out rfl).mono ?_
          rintro e w' ⟨A3, n3, c3, rfl, h1⟩
          clear hS; have hS := Lib.hid h1; clear h1
          go_wp2_with fail
          go_at_call 19
          refine (read_t hS.out [49, 56, 52, 52, 54, 55, 52, 52, 48, 55, 51, 55, 48, 57, 53, 53, 49, 54, 49, 53] 0 18446744073709551615 (by decide) (by decide +kernel) (by decide +kernel)).mono ?_
          rintro e w' ⟨A4, n4, c4, rfl, h1⟩
          clear hS; have hS := Lib.hid h1; clear h1
          go_wp2_with fail
          go_at_call 20
          refine (same_s (hS.out.lit1 18446744073709551615 (by omega)) (A := A4) (xs := limbs 18446744073709551615) (by repeat (first | exact List.mem_cons_self | apply List.mem_cons_of_mem)) List.mem_cons_self (limbs_is _ (by decide +kernel) (by unfold Dg B; decide +kernel) (by decide +kernel))).mono ?_
          rintro e w' ⟨rfl, h1⟩
          clear hS; have hS := Lib.hid h1; clear h1
          go_wp2_with fail
          go_at_call 14
          refine (show_t (St_lit3 hS.out 5 0 0 (by omega) (by omega) (by omega)) List.mem_cons_self (by omega) [53] (dd_lit (by decide +kernel) (by decide +kernel))).mono ?_
          rintro e w' ⟨rfl, h1⟩
          clear hS; have hS := Lib.hid h1; clear h1
          go_wp2_with fail
          go_at_call 16
          refine (manyd_t hS.out.zero List.mem_cons_self (by omega) 1 (nd_lit (bs := [48]) (by decide +kernel) (by decide +kernel))).mono ?_
          rintro e w' ⟨rfl, h1⟩
          clear hS; have hS := Lib.hid h1; clear h1
          go_wp2_with fail
          go_at_call 23
          refine (power_s hS.out 19 rfl (by omega)).mono ?_
          rintro e w' ⟨A5, n5, c5, xs5, rfl, h1⟩
          clear hS; have hS := Lib.hid h1; clear h1
          go_wp2_with fail
          go_at_call 16
          refine (manyd_t hS.out List.mem_cons_self (by omega) 20 (nd_lit (bs := 49 :: List.replicate 19 48) (by decide +kernel) (by decide +kernel))).mono ?_
          rintro e w' ⟨rfl, h1⟩
          clear hS; have hS := Lib.hid h1; clear h1
          go_wp2_with fail
          go_at_call 14
          refine (show_t (St_lit3 hS.out 0 0 1 (by omega) (by omega) (by omega)) List.mem_cons_self (by omega) [51, 52, 48, 50, 56, 50, 51, 54, 54, 57, 50, 48, 57, 51, 56, 52, 54, 51, 52, 54, 51, 51, 55, 52, 54, 48, 55, 52, 51, 49, 55, 54, 56, 50, 49, 49, 52, 53, 54] (dd_lit (by decide +kernel) (by decide +kernel))).mono ?_
          rintro e w' ⟨rfl, h1⟩
          clear hS; have hS := Lib.hid h1; clear h1
          go_wp2
          go_ret
          exact ⟨rfl, hS.out.1⟩
set_option maxRecDepth 100000 in
theorem lifted (os : Os) (started : os.Started) (H : Type) (enc : TypeId × Value → H) :
    ReturnsInHanded {} Tryd.checked os 5 .any (fun w args => (Rows.decNamesSpec.pre enc Tryd.prog Tryd.f5 Rows.decNamesRow.domain false w args ∧ laidMetH Tryd.prog Rows.decNamesRow.laid w) ∧ sizedMet enc Tryd.prog Tryd.f5 (OpenSpec.ofChange Rows.decNamesSpec) false w args) (Rows.decNamesSpec.post enc Tryd.prog Tryd.f5 false true false false) := by
  refine returnsInHanded_of_change_and (C := Tryd.checked) (X := fun w _ => laidMetH Tryd.prog Rows.decNamesRow.laid w) (fun _ _ _ hh h => h.of_heap hh) own started (by kernel_rfl) Tryd.func5
    (ChangeSpec.witness_shaped (enc := enc) (C := Tryd.checked) (os := os) (X := fun w _ => laidMetH Tryd.prog Rows.decNamesRow.laid w) false (World.laidAll Tryd.prog os Rows.decNamesRow.laid) #[] 8 (World.laidAll_os _ _ _)
      (World.shaped_of_ZipB (by kernel_rfl) (by kernel_rfl)) (by kernel_rfl) (by kernel_rfl) (by kernel_rfl)
      (by rw [MakeChecks.laidMetH_plain _ _ _ (by kernel_rfl)]; exact laidMet_laidAll _ (by kernel_rfl) (by kernel_rfl))) ?_
  intro W base args ds gs before hval0 hW hcnd _ _ _
  have hval : ∀ (j : Nat) t v, Tryd.f5.params[j]? = some t → args[j]? = some v → Value.okWide Tryd.prog W .any base t v := hval0
  have hW' := hW
  obtain ⟨p, q, hA0, hV, hpq, hfz, hnd⟩ := hW
  have hA : DataW.TrodAll enc Tryd.prog W 0 (fun _ => true) true Tryd.f5.params.toList args.toList ds p := hA0
  rw [Tryd.params5] at hA hval
  obtain ⟨hargs, rfl, rfl⟩ := trodAll_nil hA
  obtain rfl : args = #[] := by cases args; simp_all
  obtain ⟨rfl, rfl⟩ := trodVars_none hV
  refine (walk W ).mono fun e W' ⟨he, hb⟩ => ?_
  subst he
  exact ⟨_, rfl, Frame.close laidOut hW' rfl rfl rfl Tryd.underlying4 (fun t ht => by rw [Tryd.params5] at ht; cases ht) hb⟩
theorem over : Rows.decNamesRow.holds Tryd.pinned (OpenSpec.ofChange Rows.decNamesSpec) :=
  OpenClaim.holds_of_wide 5 Tryd.f5 rfl rfl rfl rfl rfl rfl rfl ⟨rfl, rfl, rfl, rfl, rfl⟩ rfl rfl rfl rfl rfl (by kernel_rfl) Tryd.func5 (by kernel_rfl)
    (of_decide_eq_true (by kernel_rfl)) (by unfold Func.isWrapper; first | (rw [if_pos (by decide +kernel)]; kernel_rfl) | (rw [if_neg (by decide +kernel)]; exact ⟨rfl, rfl⟩))
    (fun os started H enc _ => lifted os started H enc)
/-- the statement -/
theorem proved : Rows.DecNamesCardSaid :=
  Claim7.holds_tied_plain_at .later [] _ _ _ _ over (fun _ h => by cases h) (by kernel_rfl) (fun _ h => by cases h) decNames_row_tie rfl ⟨rfl, rfl⟩ (by kernel_rfl) rfl
    (fun f fn hf hfn => by
      obtain rfl : f = 5 := Option.some.inj ((show Tryd.prog.funcNamed "tombola/tombolalaw04.DecNames" = some 5 by kernel_rfl).symm.trans hf) |>.symm
      obtain rfl : fn = Tryd.f5 := (Option.some.inj (Tryd.func5.symm.trans hfn)).symm
      exact ⟨by kernel_rfl, (fun j t ht => by rw [Tryd.params5] at ht; cases ht)⟩)
    (by kernel_rfl)
#print axioms proved
end Go.Proofs.YtbadbjmhmadbmaaDoor.decNames
