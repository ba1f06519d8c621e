/- RatField, its last statement: from the region of the answer on, whatever the other slots hold (mk_rfield2.py). -/
import Derived.Test.YtnebeffpidlgmaaGreatDoorRows
import Derived.WalkKit
import Derived.ProofKit
import Derived.OpenShut
import Derived.RowKit3
import Derived.Test.YtnebeffpidlgmaaGreatDoorGFrame
import Derived.Test.YtnebeffpidlgmaaGreatDoorRatOpen
import Derived.Test.YtnebeffpidlgmaaGreatDoorRatH
import Derived.Test.YtnebeffpidlgmaaGreatDoorRatL
import Derived.Test.YtnebeffpidlgmaaGreatDoorRatL2
import Derived.Deep.RegionHeld3
namespace Go.Proofs.YtnebeffpidlgmaaGreatDoor.ratField
open Go.ChangeShapes Go.WideShapes Go.ChangeAt Go.RowKit
set_option linter.unusedVariables false
set_option linter.unusedSimpArgs false
set_option maxRecDepth 20000
open N
open RC
open Go.Lib (decDigits nDigits decDigits_length nDigits_pos)
def findReg (n : Nat) : Code → Option Code
  | .region id ops b => if id = n then some (.region id ops b) else none
  | .seq a b => match findReg n a with
    | some c => some c
    | none => findReg n b
  | .cond _ a b => match findReg n a with
    | some c => some c
    | none => findReg n b
  | .block _ c => findReg n c
  | .loop c => findReg n c
  | .scope c => findReg n c
  | _ => none
noncomputable def reg11 : Code := ((Tryz.f6.body.bind (findReg 11)).getD .skip)
set_option maxRecDepth 1000000 in
set_option maxHeartbeats 40000000 in
theorem tail_y {w wx : World} {K : Act → World → Prop} {ga gb gc gz gu go_ : Nat} {Ao Ao' : Option Addr} {no co no' co' : Nat} {Au Au' : Option Addr} {nu cu nu' cu' : Nat} {Az Az' : Option Addr} {nz cz nz' cz' : Nat} {A0 A0' : Option Addr} {n0 c0 n0' c0' : Nat} {A1 A1' : Option Addr} {n1 c1 n1' c1' : Nat} {A2 A2' : Option Addr} {n2 c2 n2' c2' : Nat} {b0 b1 b2 : Bool} {xs0 xs1 xs2 ys0 ys1 ys2 : List Int} {ra rb rc rz ru ro : Rat} {s0 s1 s2 s6 s11 s12 s13 s14 s15 s16 s17 s18 s19 s20 s21 s22 s23 s24 s25 s26 s27 s28 s29 s30 s31 s32 s33 s34 s35 s36 s37 s38 s39 s40 s41 s42 s43 s44 s45 s46 s47 s48 s49 s50 s51 s52 s53 s54 s55 s56 s57 s58 s59 s60 s61 s62 s63 s64 s65 s66 s67 s68 s69 s70 s71 s72 s73 s74 s75 s76 s77 s78 s79 s80 s81 s82 s83 s84 s85 s86 s87 s88 s89 s90 s91 s92 s93 s94 s95 s96 s97 s98 s99 s100 s101 s102 s103 s104 s105 s106 s107 s108 s109 s110 s111 s112 s113 s114 s115 s116 s117 s118 s119 s120 s121 s122 s123 s124 s125 s126 s127 s128 s129 s130 s131 s132 s133 s134 s135 s136 s137 s138 s139 s140 s141 s142 s143 s144 s145 s146 s147 s148 s149 s150 s151 s152 s153 s154 s155 s156 s157 s158 s159 s160 s161 s162 s163 s164 s165 s166 s167 s168 s169 s170 s171 s172 s173 s174 s175 s176 s177 s178 s179 s180 : Value}
    (hK : ∀ a w', Code.wp Tryz.prog Code.ret (bodyPost Tryz.prog Tryz.f6 fun e w' => e = .returned (.bool true) ∧ Below w.heap.size w w') a w' → K a w') (hS : Hid (SC w w wx [⟨Ao, no, co, 60 * (6 + 1), limbs (mg ro.num), mg ro.num⟩, ⟨Ao', no', co', 60 * (6 + 1), limbs ro.den, ro.den⟩, ⟨Au, nu, cu, 1, limbs (mg ru.num), mg ru.num⟩, ⟨Au', nu', cu', 1, limbs ru.den, ru.den⟩, ⟨Az, nz, cz, 1, limbs (mg rz.num), mg rz.num⟩, ⟨Az', nz', cz', 1, limbs rz.den, rz.den⟩, ⟨A2, n2, c2, 6, xs2, val B xs2⟩, ⟨A2', n2', c2', 6, ys2, val B ys2⟩, ⟨A1, n1, c1, 6, xs1, val B xs1⟩, ⟨A1', n1', c1', 6, ys1, val B ys1⟩, ⟨A0, n0, c0, 6, xs0, val B xs0⟩, ⟨A0', n0', c0', 6, ys0, val B ys0⟩] [⟨go_, [.bool (sg (ro).num), .slice Ao no co, .slice Ao' no' co'], 27⟩, ⟨gu, [.bool (sg (ru).num), .slice Au nu cu, .slice Au' nu' cu'], 27⟩, ⟨gz, [.bool (sg (rz).num), .slice Az nz cz, .slice Az' nz' cz'], 27⟩, ⟨gc, [.bool b2, .slice A2 n2 c2, .slice A2' n2' c2'], 27⟩, ⟨gb, [.bool b1, .slice A1 n1 c1, .slice A1' n1' c1'], 27⟩, ⟨ga, [.bool b0, .slice A0 n0 c0, .slice A0' n0' c0'], 27⟩] []))
    (HZ0 : Hid (rv b0 (val B xs0) (val B ys0) = ra)) (HZ1 : Hid (rv b1 (val B xs1) (val B ys1) = rb)) (HZ2 : Hid (rv b2 (val B xs2) (val B ys2) = rc))
    (HZE : Hid (rz = 0)) (HON : Hid (ru = 1)) (HOW : Hid (ro = ra)) (HMAY : Hid (mayR b0 xs0 ys0 = true)) (HB0 : Hid (b0 = sg ra.num)) (HB1 : Hid (xs0 = limbs (mg ra.num))) (HB2 : Hid (ys0 = limbs ra.den)) :
    Code.wp Tryz.prog reg11 (Exit.then K (bodyPost Tryz.prog Tryz.f6 fun e w' => e = .returned (.bool true) ∧ Below w.heap.size w w')) ⟨#[s0, s1, s2, .pointer (some ⟨ga, 0, none⟩), .pointer (some ⟨gb, 0, none⟩), .pointer (some ⟨gc, 0, none⟩), s6, .func (.func 16) #[] #[], .pointer (some ⟨gz, 0, none⟩), .pointer (some ⟨gu, 0, none⟩), .pointer (some ⟨go_, 0, none⟩), s11, s12, s13, s14, s15, s16, s17, s18, s19, s20, s21, s22, s23, s24, s25, s26, s27, s28, s29, s30, s31, s32, s33, s34, s35, s36, s37, s38, s39, s40, s41, s42, s43, s44, s45, s46, s47, s48, s49, s50, s51, s52, s53, s54, s55, s56, s57, s58, s59, s60, s61, s62, s63, s64, s65, s66, s67, s68, s69, s70, s71, s72, s73, s74, s75, s76, s77, s78, s79, s80, s81, s82, s83, s84, s85, s86, s87, s88, s89, s90, s91, s92, s93, s94, s95, s96, s97, s98, s99, s100, s101, s102, s103, s104, s105, s106, s107, s108, s109, s110, s111, s112, s113, s114, s115, s116, s117, s118, s119, s120, s121, s122, s123, s124, s125, s126, s127, s128, s129, s130, s131, s132, s133, s134, s135, s136, s137, s138, s139, s140, s141, s142, s143, s144, s145, s146, s147, s148, s149, s150, s151, s152, s153, s154, s155, s156, s157, s158, s159, s160, s161, s162, s163, s164, s165, s166, s167, s168, s169, s170, s171, s172, s173, s174, s175, s176, s177, s178, s179, s180], []⟩ wx := by
  conv => arg 2; whnf
  obtain ⟨x0_0, x1_0, x2_0⟩ := hS.out.cs3 0 rfl
  obtain ⟨x0_1, x1_1, x2_1⟩ := hS.out.cs3 1 rfl
  obtain ⟨x0_2, x1_2, x2_2⟩ := hS.out.cs3 2 rfl
  obtain ⟨x0_3, x1_3, x2_3⟩ := hS.out.cs3 3 rfl
  obtain ⟨x0_4, x1_4, x2_4⟩ := hS.out.cs3 4 rfl
  obtain ⟨x0_5, x1_5, x2_5⟩ := hS.out.cs3 5 rfl
  clear x0_0 x1_0 x2_0 x0_1 x1_1 x2_1 x0_2 x1_2 x2_2 x0_3 x1_3 x2_3 x0_4 x1_4 x2_4 x0_5 x1_5 x2_5
  have h1 := hS.out.drew
  clear hS; have hS := Lib.hid h1; clear h1
  try simp only [List.append_eq, List.cons_append, List.nil_append]
  go_region_held3 (fun W => (W.cell? ⟨go_, 0, none⟩ = some (.bool (sg (ro).num)) ∧ W.cell? ⟨go_, 1, none⟩ = some (.slice Ao no co) ∧ W.cell? ⟨go_, 2, none⟩ = some (.slice Ao' no' co')) ∧ (W.cell? ⟨gu, 0, none⟩ = some (.bool (sg (ru).num)) ∧ W.cell? ⟨gu, 1, none⟩ = some (.slice Au nu cu) ∧ W.cell? ⟨gu, 2, none⟩ = some (.slice Au' nu' cu')) ∧ (W.cell? ⟨gz, 0, none⟩ = some (.bool (sg (rz).num)) ∧ W.cell? ⟨gz, 1, none⟩ = some (.slice Az nz cz) ∧ W.cell? ⟨gz, 2, none⟩ = some (.slice Az' nz' cz')) ∧ (W.cell? ⟨gc, 0, none⟩ = some (.bool b2) ∧ W.cell? ⟨gc, 1, none⟩ = some (.slice A2 n2 c2) ∧ W.cell? ⟨gc, 2, none⟩ = some (.slice A2' n2' c2')) ∧ (W.cell? ⟨gb, 0, none⟩ = some (.bool b1) ∧ W.cell? ⟨gb, 1, none⟩ = some (.slice A1 n1 c1) ∧ W.cell? ⟨gb, 2, none⟩ = some (.slice A1' n1' c1')) ∧ (W.cell? ⟨ga, 0, none⟩ = some (.bool b0) ∧ W.cell? ⟨ga, 1, none⟩ = some (.slice A0 n0 c0) ∧ W.cell? ⟨ga, 2, none⟩ = some (.slice A0' n0' c0'))) (first | with_reducible exact ⟨hS.out.cs3 0 rfl, hS.out.cs3 1 rfl, hS.out.cs3 2 rfl, hS.out.cs3 3 rfl, hS.out.cs3 4 rfl, hS.out.cs3 5 rfl⟩ | with_reducible exact ⟨hS.out.drew.cs3 0 rfl, hS.out.drew.cs3 1 rfl, hS.out.drew.cs3 2 rfl, hS.out.drew.cs3 3 rfl, hS.out.drew.cs3 4 rfl, hS.out.drew.cs3 5 rfl⟩ | with_reducible exact ⟨(hS.out.alloc _).cs3 0 rfl, (hS.out.alloc _).cs3 1 rfl, (hS.out.alloc _).cs3 2 rfl, (hS.out.alloc _).cs3 3 rfl, (hS.out.alloc _).cs3 4 rfl, (hS.out.alloc _).cs3 5 rfl⟩ | with_reducible exact ⟨((hS.out.alloc _).alloc _).cs3 0 rfl, ((hS.out.alloc _).alloc _).cs3 1 rfl, ((hS.out.alloc _).alloc _).cs3 2 rfl, ((hS.out.alloc _).alloc _).cs3 3 rfl, ((hS.out.alloc _).alloc _).cs3 4 rfl, ((hS.out.alloc _).alloc _).cs3 5 rfl⟩) (first
    | (go_at_call 19; (with_reducible refine (fmay_s (q := true) hS.out (by repeat (first | exact List.mem_cons_self | apply List.mem_cons_of_mem)) (by repeat (first | exact List.mem_cons_self | apply List.mem_cons_of_mem)) (by decide) (mayR_told _)).mono ?_); rintro e w' ⟨rfl, h1⟩; clear hS; have hS := Lib.hid h1; clear h1)
    | (go_at_call 19; (with_reducible refine (fmay_s (q := true) hS.out (by repeat (first | exact List.mem_cons_self | apply List.mem_cons_of_mem)) (by repeat (first | exact List.mem_cons_self | apply List.mem_cons_of_mem)) (by decide) HMAY.out).mono ?_); rintro e w' ⟨rfl, h1⟩; clear hS; have hS := Lib.hid h1; clear h1)
    | (go_at_call 28; (with_reducible refine (fsame_s (q := true) hS.out (by repeat (first | exact List.mem_cons_self | apply List.mem_cons_of_mem)) (by repeat (first | exact List.mem_cons_self | apply List.mem_cons_of_mem)) (by repeat (first | exact List.mem_cons_self | apply List.mem_cons_of_mem)) (by repeat (first | exact List.mem_cons_self | apply List.mem_cons_of_mem)) (by decide) (by decide) (rv_self _) HZ0.out (by rw [HOW.out, Rat.sub_self]; decide +kernel)).mono ?_); rintro e w' ⟨rfl, h1⟩; clear hS; have hS := Lib.hid h1; clear h1)
    | (go_at_call 16; (with_reducible refine (is_v hS.out (by repeat (first | exact List.mem_cons_self | apply List.mem_cons_of_mem)) (by repeat (first | exact List.mem_cons_self | apply List.mem_cons_of_mem)) (by repeat (first | exact List.mem_cons_self | apply List.mem_cons_of_mem)) (by repeat (first | exact List.mem_cons_self | apply List.mem_cons_of_mem)) (by subst_vars; first | rfl | ((try simp only [HZE.out, HON.out, HOW.out]); grind) | (have hnz := HNZ.out; ((try simp only [HZE.out, HON.out, HOW.out, ← HRq.out]); grind)))).mono ?_); rintro e w' ⟨rfl, h1⟩; clear hS; have hS := Lib.hid h1; clear h1)
    | (go_at_call 31; (with_reducible refine (fmul_s hS.out (by repeat (first | exact List.mem_cons_self | apply List.mem_cons_of_mem)) (by repeat (first | exact List.mem_cons_self | apply List.mem_cons_of_mem)) (by repeat (first | exact List.mem_cons_self | apply List.mem_cons_of_mem)) (by repeat (first | exact List.mem_cons_self | apply List.mem_cons_of_mem)) (by decide) (by decide) (by first | exact rv_self _ | exact HZ0.out | exact HZ1.out | exact HZ2.out) (by first | exact rv_self _ | exact HZ0.out | exact HZ1.out | exact HZ2.out)).mono ?_); rintro e w' ⟨r, Ai, ni, ci, Ai', ni', ci', hr, rfl, h1⟩; clear hS; have hS := Lib.hid h1; clear h1)
    | (go_at_call 34; (with_reducible refine (fneg_s hS.out (by repeat (first | exact List.mem_cons_self | apply List.mem_cons_of_mem)) (by repeat (first | exact List.mem_cons_self | apply List.mem_cons_of_mem)) (by decide) (by first | exact rv_self _ | exact HZ0.out | exact HZ1.out | exact HZ2.out)).mono ?_); rintro e w' ⟨r, Ai, ni, ci, Ai', ni', ci', hr, rfl, h1⟩; clear hS; have hS := Lib.hid h1; clear h1)
    | (go_at_call 30; (with_reducible refine (fadd_s hS.out (by repeat (first | exact List.mem_cons_self | apply List.mem_cons_of_mem)) (by repeat (first | exact List.mem_cons_self | apply List.mem_cons_of_mem)) (by repeat (first | exact List.mem_cons_self | apply List.mem_cons_of_mem)) (by repeat (first | exact List.mem_cons_self | apply List.mem_cons_of_mem)) (by decide) (by decide) (by first | exact rv_self _ | exact HZ0.out | exact HZ1.out | exact HZ2.out) (by first | exact rv_self _ | exact HZ0.out | exact HZ1.out | exact HZ2.out)).mono ?_); rintro e w' ⟨r, Ai, ni, ci, Ai', ni', ci', hr, rfl, h1⟩; clear hS; have hS := Lib.hid h1; clear h1)
    | (go_at_call 35; (with_reducible refine (fsub_s hS.out (by repeat (first | exact List.mem_cons_self | apply List.mem_cons_of_mem)) (by repeat (first | exact List.mem_cons_self | apply List.mem_cons_of_mem)) (by repeat (first | exact List.mem_cons_self | apply List.mem_cons_of_mem)) (by repeat (first | exact List.mem_cons_self | apply List.mem_cons_of_mem)) (by decide) (by decide) (by first | exact rv_self _ | exact HZ0.out | exact HZ1.out | exact HZ2.out) (by first | exact rv_self _ | exact HZ0.out | exact HZ1.out | exact HZ2.out)).mono ?_); rintro e w' ⟨r, Ai, ni, ci, Ai', ni', ci', hr, rfl, h1⟩; clear hS; have hS := Lib.hid h1; clear h1)
    | (go_at_call 29; (with_reducible refine (fsum3_s hS.out (by repeat (first | exact List.mem_cons_self | apply List.mem_cons_of_mem)) (by repeat (first | exact List.mem_cons_self | apply List.mem_cons_of_mem)) (by decide) HZ0.out (by repeat (first | exact List.mem_cons_self | apply List.mem_cons_of_mem)) (by repeat (first | exact List.mem_cons_self | apply List.mem_cons_of_mem)) (by decide) HZ1.out (by repeat (first | exact List.mem_cons_self | apply List.mem_cons_of_mem)) (by repeat (first | exact List.mem_cons_self | apply List.mem_cons_of_mem)) (by decide) HZ2.out).mono ?_); rintro e w' ⟨r, Ai, ni, ci, Ai', ni', ci', hr, rfl, h1⟩; clear hS; have hS := Lib.hid h1; clear h1)
    | (go_at_call 16; (with_reducible refine (is_s hS.out (by repeat (first | exact List.mem_cons_self | apply List.mem_cons_of_mem)) (by repeat (first | exact List.mem_cons_self | apply List.mem_cons_of_mem)) (by repeat (first | exact List.mem_cons_self | apply List.mem_cons_of_mem)) (by repeat (first | exact List.mem_cons_self | apply List.mem_cons_of_mem)) (by rw [HOW.out]; exact HB0.out.symm) (by rw [HOW.out]; exact HB1.out.symm) (by rw [HOW.out]; exact HB2.out.symm)).mono ?_); rintro e w' ⟨rfl, h1⟩; clear hS; have hS := Lib.hid h1; clear h1))
  obtain ⟨x0_0, x1_0, x2_0⟩ := hS.out.cs3 0 rfl
  obtain ⟨x0_1, x1_1, x2_1⟩ := hS.out.cs3 1 rfl
  obtain ⟨x0_2, x1_2, x2_2⟩ := hS.out.cs3 2 rfl
  obtain ⟨x0_3, x1_3, x2_3⟩ := hS.out.cs3 3 rfl
  obtain ⟨x0_4, x1_4, x2_4⟩ := hS.out.cs3 4 rfl
  obtain ⟨x0_5, x1_5, x2_5⟩ := hS.out.cs3 5 rfl
  go_wp2
  go_ret
  exact ⟨rfl, hS.out.st.1⟩
set_option maxRecDepth 1000000 in
set_option maxHeartbeats 40000000 in
theorem tail_n {w wx : World} {K : Act → World → Prop} {ga gb gc gz gu go_ : Nat} {Ao Ao' : Option Addr} {no co no' co' : Nat} {Au Au' : Option Addr} {nu cu nu' cu' : Nat} {Az Az' : Option Addr} {nz cz nz' cz' : Nat} {A0 A0' : Option Addr} {n0 c0 n0' c0' : Nat} {A1 A1' : Option Addr} {n1 c1 n1' c1' : Nat} {A2 A2' : Option Addr} {n2 c2 n2' c2' : Nat} {b0 b1 b2 : Bool} {xs0 xs1 xs2 ys0 ys1 ys2 : List Int} {ra rb rc rz ru ro : Rat} {s0 s1 s2 s6 s11 s12 s13 s14 s15 s16 s17 s18 s19 s20 s21 s22 s23 s24 s25 s26 s27 s28 s29 s30 s31 s32 s33 s34 s35 s36 s37 s38 s39 s40 s41 s42 s43 s44 s45 s46 s47 s48 s49 s50 s51 s52 s53 s54 s55 s56 s57 s58 s59 s60 s61 s62 s63 s64 s65 s66 s67 s68 s69 s70 s71 s72 s73 s74 s75 s76 s77 s78 s79 s80 s81 s82 s83 s84 s85 s86 s87 s88 s89 s90 s91 s92 s93 s94 s95 s96 s97 s98 s99 s100 s101 s102 s103 s104 s105 s106 s107 s108 s109 s110 s111 s112 s113 s114 s115 s116 s117 s118 s119 s120 s121 s122 s123 s124 s125 s126 s127 s128 s129 s130 s131 s132 s133 s134 s135 s136 s137 s138 s139 s140 s141 s142 s143 s144 s145 s146 s147 s148 s149 s150 s151 s152 s153 s154 s155 s156 s157 s158 s159 s160 s161 s162 s163 s164 s165 s166 s167 s168 s169 s170 s171 s172 s173 s174 s175 s176 s177 s178 s179 s180 : Value}
    (hK : ∀ a w', Code.wp Tryz.prog Code.ret (bodyPost Tryz.prog Tryz.f6 fun e w' => e = .returned (.bool true) ∧ Below w.heap.size w w') a w' → K a w') (hS : Hid (SC w w wx [⟨Ao, no, co, 60 * (6 + 1), limbs (mg ro.num), mg ro.num⟩, ⟨Ao', no', co', 60 * (6 + 1), limbs ro.den, ro.den⟩, ⟨Au, nu, cu, 1, limbs (mg ru.num), mg ru.num⟩, ⟨Au', nu', cu', 1, limbs ru.den, ru.den⟩, ⟨Az, nz, cz, 1, limbs (mg rz.num), mg rz.num⟩, ⟨Az', nz', cz', 1, limbs rz.den, rz.den⟩, ⟨A2, n2, c2, 6, xs2, val B xs2⟩, ⟨A2', n2', c2', 6, ys2, val B ys2⟩, ⟨A1, n1, c1, 6, xs1, val B xs1⟩, ⟨A1', n1', c1', 6, ys1, val B ys1⟩, ⟨A0, n0, c0, 6, xs0, val B xs0⟩, ⟨A0', n0', c0', 6, ys0, val B ys0⟩] [⟨go_, [.bool (sg (ro).num), .slice Ao no co, .slice Ao' no' co'], 27⟩, ⟨gu, [.bool (sg (ru).num), .slice Au nu cu, .slice Au' nu' cu'], 27⟩, ⟨gz, [.bool (sg (rz).num), .slice Az nz cz, .slice Az' nz' cz'], 27⟩, ⟨gc, [.bool b2, .slice A2 n2 c2, .slice A2' n2' c2'], 27⟩, ⟨gb, [.bool b1, .slice A1 n1 c1, .slice A1' n1' c1'], 27⟩, ⟨ga, [.bool b0, .slice A0 n0 c0, .slice A0' n0' c0'], 27⟩] []))
    (HZ0 : Hid (rv b0 (val B xs0) (val B ys0) = ra)) (HZ1 : Hid (rv b1 (val B xs1) (val B ys1) = rb)) (HZ2 : Hid (rv b2 (val B xs2) (val B ys2) = rc))
    (HZE : Hid (rz = 0)) (HON : Hid (ru = 1)) (HOW : Hid (ro = ra)) (HMAY : Hid (mayR b0 xs0 ys0 = false)) :
    Code.wp Tryz.prog reg11 (Exit.then K (bodyPost Tryz.prog Tryz.f6 fun e w' => e = .returned (.bool true) ∧ Below w.heap.size w w')) ⟨#[s0, s1, s2, .pointer (some ⟨ga, 0, none⟩), .pointer (some ⟨gb, 0, none⟩), .pointer (some ⟨gc, 0, none⟩), s6, .func (.func 16) #[] #[], .pointer (some ⟨gz, 0, none⟩), .pointer (some ⟨gu, 0, none⟩), .pointer (some ⟨go_, 0, none⟩), s11, s12, s13, s14, s15, s16, s17, s18, s19, s20, s21, s22, s23, s24, s25, s26, s27, s28, s29, s30, s31, s32, s33, s34, s35, s36, s37, s38, s39, s40, s41, s42, s43, s44, s45, s46, s47, s48, s49, s50, s51, s52, s53, s54, s55, s56, s57, s58, s59, s60, s61, s62, s63, s64, s65, s66, s67, s68, s69, s70, s71, s72, s73, s74, s75, s76, s77, s78, s79, s80, s81, s82, s83, s84, s85, s86, s87, s88, s89, s90, s91, s92, s93, s94, s95, s96, s97, s98, s99, s100, s101, s102, s103, s104, s105, s106, s107, s108, s109, s110, s111, s112, s113, s114, s115, s116, s117, s118, s119, s120, s121, s122, s123, s124, s125, s126, s127, s128, s129, s130, s131, s132, s133, s134, s135, s136, s137, s138, s139, s140, s141, s142, s143, s144, s145, s146, s147, s148, s149, s150, s151, s152, s153, s154, s155, s156, s157, s158, s159, s160, s161, s162, s163, s164, s165, s166, s167, s168, s169, s170, s171, s172, s173, s174, s175, s176, s177, s178, s179, s180], []⟩ wx := by
  conv => arg 2; whnf
  obtain ⟨x0_0, x1_0, x2_0⟩ := hS.out.cs3 0 rfl
  obtain ⟨x0_1, x1_1, x2_1⟩ := hS.out.cs3 1 rfl
  obtain ⟨x0_2, x1_2, x2_2⟩ := hS.out.cs3 2 rfl
  obtain ⟨x0_3, x1_3, x2_3⟩ := hS.out.cs3 3 rfl
  obtain ⟨x0_4, x1_4, x2_4⟩ := hS.out.cs3 4 rfl
  obtain ⟨x0_5, x1_5, x2_5⟩ := hS.out.cs3 5 rfl
  clear x0_0 x1_0 x2_0 x0_1 x1_1 x2_1 x0_2 x1_2 x2_2 x0_3 x1_3 x2_3 x0_4 x1_4 x2_4 x0_5 x1_5 x2_5
  have h1 := hS.out.drew
  clear hS; have hS := Lib.hid h1; clear h1
  refine wp_region_held_drew (S := (fun W => (W.cell? ⟨go_, 0, none⟩ = some (.bool (sg (ro).num)) ∧ W.cell? ⟨go_, 1, none⟩ = some (.slice Ao no co) ∧ W.cell? ⟨go_, 2, none⟩ = some (.slice Ao' no' co')) ∧ (W.cell? ⟨gu, 0, none⟩ = some (.bool (sg (ru).num)) ∧ W.cell? ⟨gu, 1, none⟩ = some (.slice Au nu cu) ∧ W.cell? ⟨gu, 2, none⟩ = some (.slice Au' nu' cu')) ∧ (W.cell? ⟨gz, 0, none⟩ = some (.bool (sg (rz).num)) ∧ W.cell? ⟨gz, 1, none⟩ = some (.slice Az nz cz) ∧ W.cell? ⟨gz, 2, none⟩ = some (.slice Az' nz' cz')) ∧ (W.cell? ⟨gc, 0, none⟩ = some (.bool b2) ∧ W.cell? ⟨gc, 1, none⟩ = some (.slice A2 n2 c2) ∧ W.cell? ⟨gc, 2, none⟩ = some (.slice A2' n2' c2')) ∧ (W.cell? ⟨gb, 0, none⟩ = some (.bool b1) ∧ W.cell? ⟨gb, 1, none⟩ = some (.slice A1 n1 c1) ∧ W.cell? ⟨gb, 2, none⟩ = some (.slice A1' n1' c1')) ∧ (W.cell? ⟨ga, 0, none⟩ = some (.bool b0) ∧ W.cell? ⟨ga, 1, none⟩ = some (.slice A0 n0 c0) ∧ W.cell? ⟨ga, 2, none⟩ = some (.slice A0' n0' c0')))) (by kernel_rfl) ?_ (fun hHeld => ?_)
  · (first | with_reducible exact ⟨hS.out.cs3 0 rfl, hS.out.cs3 1 rfl, hS.out.cs3 2 rfl, hS.out.cs3 3 rfl, hS.out.cs3 4 rfl, hS.out.cs3 5 rfl⟩ | with_reducible exact ⟨hS.out.drew.cs3 0 rfl, hS.out.drew.cs3 1 rfl, hS.out.drew.cs3 2 rfl, hS.out.drew.cs3 3 rfl, hS.out.drew.cs3 4 rfl, hS.out.drew.cs3 5 rfl⟩ | with_reducible exact ⟨(hS.out.alloc _).cs3 0 rfl, (hS.out.alloc _).cs3 1 rfl, (hS.out.alloc _).cs3 2 rfl, (hS.out.alloc _).cs3 3 rfl, (hS.out.alloc _).cs3 4 rfl, (hS.out.alloc _).cs3 5 rfl⟩ | with_reducible exact ⟨((hS.out.alloc _).alloc _).cs3 0 rfl, ((hS.out.alloc _).alloc _).cs3 1 rfl, ((hS.out.alloc _).alloc _).cs3 2 rfl, ((hS.out.alloc _).alloc _).cs3 3 rfl, ((hS.out.alloc _).alloc _).cs3 4 rfl, ((hS.out.alloc _).alloc _).cs3 5 rfl⟩)
  refine wpAnyH_take (i := 0) (oi := { dst := some 121, op := Op.load 27 (Operand.tmp 10), type := 27, pos := "outright.go:91", after := #[], guard := none }) (v := ?_) rfl (by kernel_rfl) (by kernel_rfl) (by kernel_rfl) (fun _ _ _ h => h) (Or.inl ⟨by rfl, ?_⟩) (by assumption) ?_
  rotate_left
  · intro w hSw
    try dsimp only at hSw
    go_simp
    try with_reducible rfl
  try simp only [Act.put, List.setIfInBounds_toArray, List.set_cons_zero, List.set_cons_succ]
  refine wpAnyH_ready (rs := [1]) (by kernel_rfl) (by simp) ?_
  refine AllReadyH.cons (o := { dst := some 122, op := Op.call { callee := Callee.value (Operand.func 19), args := #[Operand.tmp 121], argTypes := #[27] }, type := 4, pos := "outright.go:91", after := #[{ on := 0, ground := Ground.data }], guard := none }) rfl (fun K hK => ?_) AllReadyH.nil
  go_simp
  (go_at_call 19; (with_reducible refine (fmay_s (q := true) hS.out (by repeat (first | exact List.mem_cons_self | apply List.mem_cons_of_mem)) (by repeat (first | exact List.mem_cons_self | apply List.mem_cons_of_mem)) (by decide) (mayR_told _)).mono ?_); rintro e w' ⟨rfl, h1⟩; clear hS; have hS := Lib.hid h1; clear h1)
  try go_wp2_with fail
  refine hK.out _ _ ?_ (fun hHeld => ?_)
  · try dsimp only
    (first | with_reducible exact ⟨hS.out.cs3 0 rfl, hS.out.cs3 1 rfl, hS.out.cs3 2 rfl, hS.out.cs3 3 rfl, hS.out.cs3 4 rfl, hS.out.cs3 5 rfl⟩ | with_reducible exact ⟨hS.out.drew.cs3 0 rfl, hS.out.drew.cs3 1 rfl, hS.out.drew.cs3 2 rfl, hS.out.drew.cs3 3 rfl, hS.out.drew.cs3 4 rfl, hS.out.drew.cs3 5 rfl⟩ | with_reducible exact ⟨(hS.out.alloc _).cs3 0 rfl, (hS.out.alloc _).cs3 1 rfl, (hS.out.alloc _).cs3 2 rfl, (hS.out.alloc _).cs3 3 rfl, (hS.out.alloc _).cs3 4 rfl, (hS.out.alloc _).cs3 5 rfl⟩ | with_reducible exact ⟨((hS.out.alloc _).alloc _).cs3 0 rfl, ((hS.out.alloc _).alloc _).cs3 1 rfl, ((hS.out.alloc _).alloc _).cs3 2 rfl, ((hS.out.alloc _).alloc _).cs3 3 rfl, ((hS.out.alloc _).alloc _).cs3 4 rfl, ((hS.out.alloc _).alloc _).cs3 5 rfl⟩)
  clear hK K
  try simp only [Act.put, List.setIfInBounds_toArray, List.set_cons_zero, List.set_cons_succ]
  refine wpAnyH_take (i := 2) (oi := { dst := some 123, op := Op.move (Operand.tmp 122), type := 4, pos := "outright.go:91", after := #[{ on := 1, ground := Ground.data }, { on := 1, ground := Ground.chain }], guard := none }) (v := ?_) rfl (by kernel_rfl) (by kernel_rfl) (by kernel_rfl) (fun _ _ _ h => h) (Or.inl ⟨by rfl, ?_⟩) (by assumption) ?_
  rotate_left
  · intro w hSw
    try dsimp only at hSw
    go_simp
    try with_reducible rfl
  try simp only [Act.put, List.setIfInBounds_toArray, List.set_cons_zero, List.set_cons_succ]
  refine wpAnyH_take (i := 3) (oi := { dst := some 124, op := Op.load 27 (Operand.tmp 10), type := 27, pos := "outright.go:91", after := #[{ on := 2, ground := Ground.guard }], guard := some (2, true) }) (v := ?_) rfl (by kernel_rfl) (by kernel_rfl) (by kernel_rfl) (fun _ _ _ h => h) (Or.inl ⟨by rfl, ?_⟩) (by assumption) ?_
  rotate_left
  · intro w hSw
    try dsimp only at hSw
    go_simp
    try with_reducible rfl
  try simp only [Act.put, List.setIfInBounds_toArray, List.set_cons_zero, List.set_cons_succ]
  refine wpAnyH_take (i := 4) (oi := { dst := some 125, op := Op.load 27 (Operand.tmp 3), type := 27, pos := "outright.go:91", after := #[{ on := 2, ground := Ground.guard }], guard := some (2, true) }) (v := ?_) rfl (by kernel_rfl) (by kernel_rfl) (by kernel_rfl) (fun _ _ _ h => h) (Or.inl ⟨by rfl, ?_⟩) (by assumption) ?_
  rotate_left
  · intro w hSw
    try dsimp only at hSw
    go_simp
    try with_reducible rfl
  try simp only [Act.put, List.setIfInBounds_toArray, List.set_cons_zero, List.set_cons_succ]
  refine wpAnyH_ready (rs := [5]) (by kernel_rfl) (by simp) ?_
  refine AllReadyH.cons (o := { dst := some 126, op := Op.call { callee := Callee.value (Operand.func 28), args := #[Operand.tmp 124, Operand.tmp 125], argTypes := #[27, 27] }, type := 4, pos := "outright.go:91", after := #[{ on := 3, ground := Ground.data }, { on := 4, ground := Ground.data }, { on := 2, ground := Ground.chain }, { on := 2, ground := Ground.guard }], guard := some (2, true) }) rfl (fun K hK => ?_) AllReadyH.nil
  go_simp
  (go_at_call 28; (with_reducible refine (fsame_s (q := true) hS.out (by repeat (first | exact List.mem_cons_self | apply List.mem_cons_of_mem)) (by repeat (first | exact List.mem_cons_self | apply List.mem_cons_of_mem)) (by repeat (first | exact List.mem_cons_self | apply List.mem_cons_of_mem)) (by repeat (first | exact List.mem_cons_self | apply List.mem_cons_of_mem)) (by decide) (by decide) (rv_self _) HZ0.out (by rw [HOW.out, Rat.sub_self]; decide +kernel)).mono ?_); rintro e w' ⟨rfl, h1⟩; clear hS; have hS := Lib.hid h1; clear h1)
  try go_wp2_with fail
  refine hK.out _ _ ?_ (fun hHeld => ?_)
  · try dsimp only
    (first | with_reducible exact ⟨hS.out.cs3 0 rfl, hS.out.cs3 1 rfl, hS.out.cs3 2 rfl, hS.out.cs3 3 rfl, hS.out.cs3 4 rfl, hS.out.cs3 5 rfl⟩ | with_reducible exact ⟨hS.out.drew.cs3 0 rfl, hS.out.drew.cs3 1 rfl, hS.out.drew.cs3 2 rfl, hS.out.drew.cs3 3 rfl, hS.out.drew.cs3 4 rfl, hS.out.drew.cs3 5 rfl⟩ | with_reducible exact ⟨(hS.out.alloc _).cs3 0 rfl, (hS.out.alloc _).cs3 1 rfl, (hS.out.alloc _).cs3 2 rfl, (hS.out.alloc _).cs3 3 rfl, (hS.out.alloc _).cs3 4 rfl, (hS.out.alloc _).cs3 5 rfl⟩ | with_reducible exact ⟨((hS.out.alloc _).alloc _).cs3 0 rfl, ((hS.out.alloc _).alloc _).cs3 1 rfl, ((hS.out.alloc _).alloc _).cs3 2 rfl, ((hS.out.alloc _).alloc _).cs3 3 rfl, ((hS.out.alloc _).alloc _).cs3 4 rfl, ((hS.out.alloc _).alloc _).cs3 5 rfl⟩)
  clear hK K
  try simp only [Act.put, List.setIfInBounds_toArray, List.set_cons_zero, List.set_cons_succ]
  refine wpAnyH_take (i := 6) (oi := { dst := some 127, op := Op.pick (Operand.tmp 123) (Operand.tmp 126) (Operand.const (Value.bool false)), type := 4, pos := "outright.go:91", after := #[{ on := 2, ground := Ground.data }, { on := 5, ground := Ground.data }], guard := none }) (v := ?_) rfl (by kernel_rfl) (by kernel_rfl) (by kernel_rfl) (fun _ _ _ h => h) (Or.inl ⟨by rfl, ?_⟩) (by assumption) ?_
  rotate_left
  · intro w hSw
    try dsimp only at hSw
    go_simp
    try with_reducible rfl
  try simp only [Act.put, List.setIfInBounds_toArray, List.set_cons_zero, List.set_cons_succ]
  refine wpAnyH_take (i := 7) (oi := { dst := some 128, op := Op.move (Operand.tmp 127), type := 4, pos := "outright.go:91", after := #[{ on := 6, ground := Ground.data }, { on := 5, ground := Ground.chain }], guard := none }) (v := ?_) rfl (by kernel_rfl) (by kernel_rfl) (by kernel_rfl) (fun _ _ _ h => h) (Or.inl ⟨by rfl, ?_⟩) (by assumption) ?_
  rotate_left
  · intro w hSw
    try dsimp only at hSw
    go_simp
    try with_reducible rfl
  try simp only [Act.put, List.setIfInBounds_toArray, List.set_cons_zero, List.set_cons_succ]
  refine wpAnyH_take (i := 8) (oi := { dst := some 129, op := Op.move (Operand.tmp 7), type := 36, pos := "outright.go:91", after := #[{ on := 7, ground := Ground.guard }], guard := some (7, true) }) (v := ?_) rfl (by kernel_rfl) (by kernel_rfl) (by kernel_rfl) (fun _ _ _ h => h) (Or.inl ⟨by rfl, ?_⟩) (by assumption) ?_
  rotate_left
  · intro w hSw
    try dsimp only at hSw
    go_simp
    try with_reducible rfl
  try simp only [Act.put, List.setIfInBounds_toArray, List.set_cons_zero, List.set_cons_succ]
  refine wpAnyH_take (i := 9) (oi := { dst := some 130, op := Op.load 27 (Operand.tmp 3), type := 27, pos := "outright.go:91", after := #[{ on := 7, ground := Ground.guard }], guard := some (7, true) }) (v := ?_) rfl (by kernel_rfl) (by kernel_rfl) (by kernel_rfl) (fun _ _ _ h => h) (Or.inl ⟨by rfl, ?_⟩) (by assumption) ?_
  rotate_left
  · intro w hSw
    try dsimp only at hSw
    go_simp
    try with_reducible rfl
  try simp only [Act.put, List.setIfInBounds_toArray, List.set_cons_zero, List.set_cons_succ]
  refine wpAnyH_take (i := 10) (oi := { dst := some 131, op := Op.load 27 (Operand.tmp 9), type := 27, pos := "outright.go:91", after := #[{ on := 7, ground := Ground.guard }], guard := some (7, true) }) (v := ?_) rfl (by kernel_rfl) (by kernel_rfl) (by kernel_rfl) (fun _ _ _ h => h) (Or.inl ⟨by rfl, ?_⟩) (by assumption) ?_
  rotate_left
  · intro w hSw
    try dsimp only at hSw
    go_simp
    try with_reducible rfl
  try simp only [Act.put, List.setIfInBounds_toArray, List.set_cons_zero, List.set_cons_succ]
  refine wpAnyH_take (i := 12) (oi := { dst := some 133, op := Op.load 27 (Operand.tmp 10), type := 27, pos := "outright.go:91", after := #[{ on := 7, ground := Ground.guard }], guard := some (7, true) }) (v := ?_) rfl (by kernel_rfl) (by kernel_rfl) (by kernel_rfl) (fun _ _ _ h => h) (Or.inl ⟨by rfl, ?_⟩) (by assumption) ?_
  rotate_left
  · intro w hSw
    try dsimp only at hSw
    go_simp
    try with_reducible rfl
  try simp only [Act.put, List.setIfInBounds_toArray, List.set_cons_zero, List.set_cons_succ]
  refine wpAnyH_ready (rs := [11]) (by kernel_rfl) (by simp) ?_
  refine AllReadyH.cons (o := { dst := some 132, op := Op.call { callee := Callee.value (Operand.func 31), args := #[Operand.tmp 130, Operand.tmp 131], argTypes := #[27, 27] }, type := 27, pos := "outright.go:91", after := #[{ on := 9, ground := Ground.data }, { on := 10, ground := Ground.data }, { on := 7, ground := Ground.chain }, { on := 7, ground := Ground.guard }], guard := some (7, true) }) rfl (fun K hK => ?_) AllReadyH.nil
  go_simp
  (go_at_call 31; (with_reducible refine (fmul_s hS.out (by repeat (first | exact List.mem_cons_self | apply List.mem_cons_of_mem)) (by repeat (first | exact List.mem_cons_self | apply List.mem_cons_of_mem)) (by repeat (first | exact List.mem_cons_self | apply List.mem_cons_of_mem)) (by repeat (first | exact List.mem_cons_self | apply List.mem_cons_of_mem)) (by decide) (by decide) (by first | exact rv_self _ | exact HZ0.out | exact HZ1.out | exact HZ2.out) (by first | exact rv_self _ | exact HZ0.out | exact HZ1.out | exact HZ2.out)).mono ?_); rintro e w' ⟨r, Ai, ni, ci, Ai', ni', ci', hr, rfl, h1⟩; clear hS; have hS := Lib.hid h1; clear h1)
  try go_wp2_with fail
  refine hK.out _ _ ?_ (fun hHeld => ?_)
  · try dsimp only
    (first | with_reducible exact ⟨hS.out.cs3 0 rfl, hS.out.cs3 1 rfl, hS.out.cs3 2 rfl, hS.out.cs3 3 rfl, hS.out.cs3 4 rfl, hS.out.cs3 5 rfl⟩ | with_reducible exact ⟨hS.out.drew.cs3 0 rfl, hS.out.drew.cs3 1 rfl, hS.out.drew.cs3 2 rfl, hS.out.drew.cs3 3 rfl, hS.out.drew.cs3 4 rfl, hS.out.drew.cs3 5 rfl⟩ | with_reducible exact ⟨(hS.out.alloc _).cs3 0 rfl, (hS.out.alloc _).cs3 1 rfl, (hS.out.alloc _).cs3 2 rfl, (hS.out.alloc _).cs3 3 rfl, (hS.out.alloc _).cs3 4 rfl, (hS.out.alloc _).cs3 5 rfl⟩ | with_reducible exact ⟨((hS.out.alloc _).alloc _).cs3 0 rfl, ((hS.out.alloc _).alloc _).cs3 1 rfl, ((hS.out.alloc _).alloc _).cs3 2 rfl, ((hS.out.alloc _).alloc _).cs3 3 rfl, ((hS.out.alloc _).alloc _).cs3 4 rfl, ((hS.out.alloc _).alloc _).cs3 5 rfl⟩)
  clear hK K
  try simp only [Act.put, List.setIfInBounds_toArray, List.set_cons_zero, List.set_cons_succ]
  refine wpAnyH_ready (rs := [13]) (by kernel_rfl) (by simp) ?_
  refine AllReadyH.cons (o := { dst := some 134, op := Op.call { callee := Callee.value (Operand.tmp 129), args := #[Operand.tmp 132, Operand.tmp 133], argTypes := #[27, 27] }, type := 4, pos := "outright.go:91", after := #[{ on := 8, ground := Ground.data }, { on := 11, ground := Ground.data }, { on := 12, ground := Ground.data }, { on := 11, ground := Ground.chain }, { on := 7, ground := Ground.guard }], guard := some (7, true) }) rfl (fun K hK => ?_) AllReadyH.nil
  go_simp
  (go_at_call 16; (with_reducible refine (is_v hS.out (by repeat (first | exact List.mem_cons_self | apply List.mem_cons_of_mem)) (by repeat (first | exact List.mem_cons_self | apply List.mem_cons_of_mem)) (by repeat (first | exact List.mem_cons_self | apply List.mem_cons_of_mem)) (by repeat (first | exact List.mem_cons_self | apply List.mem_cons_of_mem)) (by subst_vars; first | rfl | ((try simp only [HZE.out, HON.out, HOW.out]); grind) | (have hnz := HNZ.out; ((try simp only [HZE.out, HON.out, HOW.out, ← HRq.out]); grind)))).mono ?_); rintro e w' ⟨rfl, h1⟩; clear hS; have hS := Lib.hid h1; clear h1)
  try go_wp2_with fail
  refine hK.out _ _ ?_ (fun hHeld => ?_)
  · try dsimp only
    (first | with_reducible exact ⟨hS.out.cs3 0 rfl, hS.out.cs3 1 rfl, hS.out.cs3 2 rfl, hS.out.cs3 3 rfl, hS.out.cs3 4 rfl, hS.out.cs3 5 rfl⟩ | with_reducible exact ⟨hS.out.drew.cs3 0 rfl, hS.out.drew.cs3 1 rfl, hS.out.drew.cs3 2 rfl, hS.out.drew.cs3 3 rfl, hS.out.drew.cs3 4 rfl, hS.out.drew.cs3 5 rfl⟩ | with_reducible exact ⟨(hS.out.alloc _).cs3 0 rfl, (hS.out.alloc _).cs3 1 rfl, (hS.out.alloc _).cs3 2 rfl, (hS.out.alloc _).cs3 3 rfl, (hS.out.alloc _).cs3 4 rfl, (hS.out.alloc _).cs3 5 rfl⟩ | with_reducible exact ⟨((hS.out.alloc _).alloc _).cs3 0 rfl, ((hS.out.alloc _).alloc _).cs3 1 rfl, ((hS.out.alloc _).alloc _).cs3 2 rfl, ((hS.out.alloc _).alloc _).cs3 3 rfl, ((hS.out.alloc _).alloc _).cs3 4 rfl, ((hS.out.alloc _).alloc _).cs3 5 rfl⟩)
  clear hK K
  try simp only [Act.put, List.setIfInBounds_toArray, List.set_cons_zero, List.set_cons_succ]
  refine wpAnyH_take (i := 14) (oi := { dst := some 135, op := Op.pick (Operand.tmp 128) (Operand.tmp 134) (Operand.const (Value.bool false)), type := 4, pos := "outright.go:91", after := #[{ on := 7, ground := Ground.data }, { on := 13, ground := Ground.data }], guard := none }) (v := ?_) rfl (by kernel_rfl) (by kernel_rfl) (by kernel_rfl) (fun _ _ _ h => h) (Or.inl ⟨by rfl, ?_⟩) (by assumption) ?_
  rotate_left
  · intro w hSw
    try dsimp only at hSw
    go_simp
    try with_reducible rfl
  try simp only [Act.put, List.setIfInBounds_toArray, List.set_cons_zero, List.set_cons_succ]
  refine wpAnyH_take (i := 15) (oi := { dst := some 136, op := Op.move (Operand.tmp 135), type := 4, pos := "outright.go:91", after := #[{ on := 14, ground := Ground.data }, { on := 13, ground := Ground.chain }], guard := none }) (v := ?_) rfl (by kernel_rfl) (by kernel_rfl) (by kernel_rfl) (fun _ _ _ h => h) (Or.inl ⟨by rfl, ?_⟩) (by assumption) ?_
  rotate_left
  · intro w hSw
    try dsimp only at hSw
    go_simp
    try with_reducible rfl
  try simp only [Act.put, List.setIfInBounds_toArray, List.set_cons_zero, List.set_cons_succ]
  refine wpAnyH_take (i := 16) (oi := { dst := some 137, op := Op.move (Operand.tmp 7), type := 36, pos := "outright.go:91", after := #[{ on := 15, ground := Ground.guard }], guard := some (15, true) }) (v := ?_) rfl (by kernel_rfl) (by kernel_rfl) (by kernel_rfl) (fun _ _ _ h => h) (Or.inl ⟨by rfl, ?_⟩) (by assumption) ?_
  rotate_left
  · intro w hSw
    try dsimp only at hSw
    go_simp
    try with_reducible rfl
  try simp only [Act.put, List.setIfInBounds_toArray, List.set_cons_zero, List.set_cons_succ]
  refine wpAnyH_take (i := 17) (oi := { dst := some 138, op := Op.load 27 (Operand.tmp 3), type := 27, pos := "outright.go:91", after := #[{ on := 15, ground := Ground.guard }], guard := some (15, true) }) (v := ?_) rfl (by kernel_rfl) (by kernel_rfl) (by kernel_rfl) (fun _ _ _ h => h) (Or.inl ⟨by rfl, ?_⟩) (by assumption) ?_
  rotate_left
  · intro w hSw
    try dsimp only at hSw
    go_simp
    try with_reducible rfl
  try simp only [Act.put, List.setIfInBounds_toArray, List.set_cons_zero, List.set_cons_succ]
  refine wpAnyH_take (i := 18) (oi := { dst := some 139, op := Op.load 27 (Operand.tmp 3), type := 27, pos := "outright.go:91", after := #[{ on := 15, ground := Ground.guard }], guard := some (15, true) }) (v := ?_) rfl (by kernel_rfl) (by kernel_rfl) (by kernel_rfl) (fun _ _ _ h => h) (Or.inl ⟨by rfl, ?_⟩) (by assumption) ?_
  rotate_left
  · intro w hSw
    try dsimp only at hSw
    go_simp
    try with_reducible rfl
  try simp only [Act.put, List.setIfInBounds_toArray, List.set_cons_zero, List.set_cons_succ]
  refine wpAnyH_take (i := 21) (oi := { dst := some 142, op := Op.load 27 (Operand.tmp 8), type := 27, pos := "outright.go:91", after := #[{ on := 15, ground := Ground.guard }], guard := some (15, true) }) (v := ?_) rfl (by kernel_rfl) (by kernel_rfl) (by kernel_rfl) (fun _ _ _ h => h) (Or.inl ⟨by rfl, ?_⟩) (by assumption) ?_
  rotate_left
  · intro w hSw
    try dsimp only at hSw
    go_simp
    try with_reducible rfl
  try simp only [Act.put, List.setIfInBounds_toArray, List.set_cons_zero, List.set_cons_succ]
  refine wpAnyH_ready (rs := [19]) (by kernel_rfl) (by simp) ?_
  refine AllReadyH.cons (o := { dst := some 140, op := Op.call { callee := Callee.value (Operand.func 34), args := #[Operand.tmp 139], argTypes := #[27] }, type := 27, pos := "outright.go:91", after := #[{ on := 18, ground := Ground.data }, { on := 15, ground := Ground.chain }, { on := 15, ground := Ground.guard }], guard := some (15, true) }) rfl (fun K hK => ?_) AllReadyH.nil
  go_simp
  (go_at_call 34; (with_reducible refine (fneg_s hS.out (by repeat (first | exact List.mem_cons_self | apply List.mem_cons_of_mem)) (by repeat (first | exact List.mem_cons_self | apply List.mem_cons_of_mem)) (by decide) (by first | exact rv_self _ | exact HZ0.out | exact HZ1.out | exact HZ2.out)).mono ?_); rintro e w' ⟨r, Ai, ni, ci, Ai', ni', ci', hr, rfl, h1⟩; clear hS; have hS := Lib.hid h1; clear h1)
  try go_wp2_with fail
  refine hK.out _ _ ?_ (fun hHeld => ?_)
  · try dsimp only
    (first | with_reducible exact ⟨hS.out.cs3 0 rfl, hS.out.cs3 1 rfl, hS.out.cs3 2 rfl, hS.out.cs3 3 rfl, hS.out.cs3 4 rfl, hS.out.cs3 5 rfl⟩ | with_reducible exact ⟨hS.out.drew.cs3 0 rfl, hS.out.drew.cs3 1 rfl, hS.out.drew.cs3 2 rfl, hS.out.drew.cs3 3 rfl, hS.out.drew.cs3 4 rfl, hS.out.drew.cs3 5 rfl⟩ | with_reducible exact ⟨(hS.out.alloc _).cs3 0 rfl, (hS.out.alloc _).cs3 1 rfl, (hS.out.alloc _).cs3 2 rfl, (hS.out.alloc _).cs3 3 rfl, (hS.out.alloc _).cs3 4 rfl, (hS.out.alloc _).cs3 5 rfl⟩ | with_reducible exact ⟨((hS.out.alloc _).alloc _).cs3 0 rfl, ((hS.out.alloc _).alloc _).cs3 1 rfl, ((hS.out.alloc _).alloc _).cs3 2 rfl, ((hS.out.alloc _).alloc _).cs3 3 rfl, ((hS.out.alloc _).alloc _).cs3 4 rfl, ((hS.out.alloc _).alloc _).cs3 5 rfl⟩)
  clear hK K
  try simp only [Act.put, List.setIfInBounds_toArray, List.set_cons_zero, List.set_cons_succ]
  refine wpAnyH_ready (rs := [20]) (by kernel_rfl) (by simp) ?_
  refine AllReadyH.cons (o := { dst := some 141, op := Op.call { callee := Callee.value (Operand.func 30), args := #[Operand.tmp 138, Operand.tmp 140], argTypes := #[27, 27] }, type := 27, pos := "outright.go:91", after := #[{ on := 17, ground := Ground.data }, { on := 19, ground := Ground.data }, { on := 19, ground := Ground.chain }, { on := 15, ground := Ground.guard }], guard := some (15, true) }) rfl (fun K hK => ?_) AllReadyH.nil
  go_simp
  (go_at_call 30; (with_reducible refine (fadd_s hS.out (by repeat (first | exact List.mem_cons_self | apply List.mem_cons_of_mem)) (by repeat (first | exact List.mem_cons_self | apply List.mem_cons_of_mem)) (by repeat (first | exact List.mem_cons_self | apply List.mem_cons_of_mem)) (by repeat (first | exact List.mem_cons_self | apply List.mem_cons_of_mem)) (by decide) (by decide) (by first | exact rv_self _ | exact HZ0.out | exact HZ1.out | exact HZ2.out) (by first | exact rv_self _ | exact HZ0.out | exact HZ1.out | exact HZ2.out)).mono ?_); rintro e w' ⟨r, Ai, ni, ci, Ai', ni', ci', hr, rfl, h1⟩; clear hS; have hS := Lib.hid h1; clear h1)
  try go_wp2_with fail
  refine hK.out _ _ ?_ (fun hHeld => ?_)
  · try dsimp only
    (first | with_reducible exact ⟨hS.out.cs3 0 rfl, hS.out.cs3 1 rfl, hS.out.cs3 2 rfl, hS.out.cs3 3 rfl, hS.out.cs3 4 rfl, hS.out.cs3 5 rfl⟩ | with_reducible exact ⟨hS.out.drew.cs3 0 rfl, hS.out.drew.cs3 1 rfl, hS.out.drew.cs3 2 rfl, hS.out.drew.cs3 3 rfl, hS.out.drew.cs3 4 rfl, hS.out.drew.cs3 5 rfl⟩ | with_reducible exact ⟨(hS.out.alloc _).cs3 0 rfl, (hS.out.alloc _).cs3 1 rfl, (hS.out.alloc _).cs3 2 rfl, (hS.out.alloc _).cs3 3 rfl, (hS.out.alloc _).cs3 4 rfl, (hS.out.alloc _).cs3 5 rfl⟩ | with_reducible exact ⟨((hS.out.alloc _).alloc _).cs3 0 rfl, ((hS.out.alloc _).alloc _).cs3 1 rfl, ((hS.out.alloc _).alloc _).cs3 2 rfl, ((hS.out.alloc _).alloc _).cs3 3 rfl, ((hS.out.alloc _).alloc _).cs3 4 rfl, ((hS.out.alloc _).alloc _).cs3 5 rfl⟩)
  clear hK K
  try simp only [Act.put, List.setIfInBounds_toArray, List.set_cons_zero, List.set_cons_succ]
  refine wpAnyH_ready (rs := [22]) (by kernel_rfl) (by simp) ?_
  refine AllReadyH.cons (o := { dst := some 143, op := Op.call { callee := Callee.value (Operand.tmp 137), args := #[Operand.tmp 141, Operand.tmp 142], argTypes := #[27, 27] }, type := 4, pos := "outright.go:91", after := #[{ on := 16, ground := Ground.data }, { on := 20, ground := Ground.data }, { on := 21, ground := Ground.data }, { on := 20, ground := Ground.chain }, { on := 15, ground := Ground.guard }], guard := some (15, true) }) rfl (fun K hK => ?_) AllReadyH.nil
  go_simp
  (go_at_call 16; (with_reducible refine (is_v hS.out (by repeat (first | exact List.mem_cons_self | apply List.mem_cons_of_mem)) (by repeat (first | exact List.mem_cons_self | apply List.mem_cons_of_mem)) (by repeat (first | exact List.mem_cons_self | apply List.mem_cons_of_mem)) (by repeat (first | exact List.mem_cons_self | apply List.mem_cons_of_mem)) (by subst_vars; first | rfl | ((try simp only [HZE.out, HON.out, HOW.out]); grind) | (have hnz := HNZ.out; ((try simp only [HZE.out, HON.out, HOW.out, ← HRq.out]); grind)))).mono ?_); rintro e w' ⟨rfl, h1⟩; clear hS; have hS := Lib.hid h1; clear h1)
  try go_wp2_with fail
  refine hK.out _ _ ?_ (fun hHeld => ?_)
  · try dsimp only
    (first | with_reducible exact ⟨hS.out.cs3 0 rfl, hS.out.cs3 1 rfl, hS.out.cs3 2 rfl, hS.out.cs3 3 rfl, hS.out.cs3 4 rfl, hS.out.cs3 5 rfl⟩ | with_reducible exact ⟨hS.out.drew.cs3 0 rfl, hS.out.drew.cs3 1 rfl, hS.out.drew.cs3 2 rfl, hS.out.drew.cs3 3 rfl, hS.out.drew.cs3 4 rfl, hS.out.drew.cs3 5 rfl⟩ | with_reducible exact ⟨(hS.out.alloc _).cs3 0 rfl, (hS.out.alloc _).cs3 1 rfl, (hS.out.alloc _).cs3 2 rfl, (hS.out.alloc _).cs3 3 rfl, (hS.out.alloc _).cs3 4 rfl, (hS.out.alloc _).cs3 5 rfl⟩ | with_reducible exact ⟨((hS.out.alloc _).alloc _).cs3 0 rfl, ((hS.out.alloc _).alloc _).cs3 1 rfl, ((hS.out.alloc _).alloc _).cs3 2 rfl, ((hS.out.alloc _).alloc _).cs3 3 rfl, ((hS.out.alloc _).alloc _).cs3 4 rfl, ((hS.out.alloc _).alloc _).cs3 5 rfl⟩)
  clear hK K
  try simp only [Act.put, List.setIfInBounds_toArray, List.set_cons_zero, List.set_cons_succ]
  refine wpAnyH_take (i := 23) (oi := { dst := some 144, op := Op.pick (Operand.tmp 136) (Operand.tmp 143) (Operand.const (Value.bool false)), type := 4, pos := "outright.go:91", after := #[{ on := 15, ground := Ground.data }, { on := 22, ground := Ground.data }], guard := none }) (v := ?_) rfl (by kernel_rfl) (by kernel_rfl) (by kernel_rfl) (fun _ _ _ h => h) (Or.inl ⟨by rfl, ?_⟩) (by assumption) ?_
  rotate_left
  · intro w hSw
    try dsimp only at hSw
    go_simp
    try with_reducible rfl
  try simp only [Act.put, List.setIfInBounds_toArray, List.set_cons_zero, List.set_cons_succ]
  refine wpAnyH_take (i := 24) (oi := { dst := some 145, op := Op.move (Operand.tmp 144), type := 4, pos := "outright.go:91", after := #[{ on := 23, ground := Ground.data }, { on := 22, ground := Ground.chain }], guard := none }) (v := ?_) rfl (by kernel_rfl) (by kernel_rfl) (by kernel_rfl) (fun _ _ _ h => h) (Or.inl ⟨by rfl, ?_⟩) (by assumption) ?_
  rotate_left
  · intro w hSw
    try dsimp only at hSw
    go_simp
    try with_reducible rfl
  try simp only [Act.put, List.setIfInBounds_toArray, List.set_cons_zero, List.set_cons_succ]
  refine wpAnyH_take (i := 25) (oi := { dst := some 146, op := Op.move (Operand.tmp 7), type := 36, pos := "outright.go:91", after := #[{ on := 24, ground := Ground.guard }], guard := some (24, true) }) (v := ?_) rfl (by kernel_rfl) (by kernel_rfl) (by kernel_rfl) (fun _ _ _ h => h) (Or.inl ⟨by rfl, ?_⟩) (by assumption) ?_
  rotate_left
  · intro w hSw
    try dsimp only at hSw
    go_simp
    try with_reducible rfl
  try simp only [Act.put, List.setIfInBounds_toArray, List.set_cons_zero, List.set_cons_succ]
  refine wpAnyH_take (i := 26) (oi := { dst := some 147, op := Op.load 27 (Operand.tmp 3), type := 27, pos := "outright.go:91", after := #[{ on := 24, ground := Ground.guard }], guard := some (24, true) }) (v := ?_) rfl (by kernel_rfl) (by kernel_rfl) (by kernel_rfl) (fun _ _ _ h => h) (Or.inl ⟨by rfl, ?_⟩) (by assumption) ?_
  rotate_left
  · intro w hSw
    try dsimp only at hSw
    go_simp
    try with_reducible rfl
  try simp only [Act.put, List.setIfInBounds_toArray, List.set_cons_zero, List.set_cons_succ]
  refine wpAnyH_take (i := 27) (oi := { dst := some 148, op := Op.load 27 (Operand.tmp 4), type := 27, pos := "outright.go:91", after := #[{ on := 24, ground := Ground.guard }], guard := some (24, true) }) (v := ?_) rfl (by kernel_rfl) (by kernel_rfl) (by kernel_rfl) (fun _ _ _ h => h) (Or.inl ⟨by rfl, ?_⟩) (by assumption) ?_
  rotate_left
  · intro w hSw
    try dsimp only at hSw
    go_simp
    try with_reducible rfl
  try simp only [Act.put, List.setIfInBounds_toArray, List.set_cons_zero, List.set_cons_succ]
  refine wpAnyH_take (i := 29) (oi := { dst := some 150, op := Op.load 27 (Operand.tmp 3), type := 27, pos := "outright.go:91", after := #[{ on := 24, ground := Ground.guard }], guard := some (24, true) }) (v := ?_) rfl (by kernel_rfl) (by kernel_rfl) (by kernel_rfl) (fun _ _ _ h => h) (Or.inl ⟨by rfl, ?_⟩) (by assumption) ?_
  rotate_left
  · intro w hSw
    try dsimp only at hSw
    go_simp
    try with_reducible rfl
  try simp only [Act.put, List.setIfInBounds_toArray, List.set_cons_zero, List.set_cons_succ]
  refine wpAnyH_take (i := 30) (oi := { dst := some 151, op := Op.load 27 (Operand.tmp 4), type := 27, pos := "outright.go:91", after := #[{ on := 24, ground := Ground.guard }], guard := some (24, true) }) (v := ?_) rfl (by kernel_rfl) (by kernel_rfl) (by kernel_rfl) (fun _ _ _ h => h) (Or.inl ⟨by rfl, ?_⟩) (by assumption) ?_
  rotate_left
  · intro w hSw
    try dsimp only at hSw
    go_simp
    try with_reducible rfl
  try simp only [Act.put, List.setIfInBounds_toArray, List.set_cons_zero, List.set_cons_succ]
  refine wpAnyH_ready (rs := [28]) (by kernel_rfl) (by simp) ?_
  refine AllReadyH.cons (o := { dst := some 149, op := Op.call { callee := Callee.value (Operand.func 35), args := #[Operand.tmp 147, Operand.tmp 148], argTypes := #[27, 27] }, type := 27, pos := "outright.go:91", after := #[{ on := 26, ground := Ground.data }, { on := 27, ground := Ground.data }, { on := 24, ground := Ground.chain }, { on := 24, ground := Ground.guard }], guard := some (24, true) }) rfl (fun K hK => ?_) AllReadyH.nil
  go_simp
  (go_at_call 35; (with_reducible refine (fsub_s hS.out (by repeat (first | exact List.mem_cons_self | apply List.mem_cons_of_mem)) (by repeat (first | exact List.mem_cons_self | apply List.mem_cons_of_mem)) (by repeat (first | exact List.mem_cons_self | apply List.mem_cons_of_mem)) (by repeat (first | exact List.mem_cons_self | apply List.mem_cons_of_mem)) (by decide) (by decide) (by first | exact rv_self _ | exact HZ0.out | exact HZ1.out | exact HZ2.out) (by first | exact rv_self _ | exact HZ0.out | exact HZ1.out | exact HZ2.out)).mono ?_); rintro e w' ⟨r, Ai, ni, ci, Ai', ni', ci', hr, rfl, h1⟩; clear hS; have hS := Lib.hid h1; clear h1)
  try go_wp2_with fail
  refine hK.out _ _ ?_ (fun hHeld => ?_)
  · try dsimp only
    (first | with_reducible exact ⟨hS.out.cs3 0 rfl, hS.out.cs3 1 rfl, hS.out.cs3 2 rfl, hS.out.cs3 3 rfl, hS.out.cs3 4 rfl, hS.out.cs3 5 rfl⟩ | with_reducible exact ⟨hS.out.drew.cs3 0 rfl, hS.out.drew.cs3 1 rfl, hS.out.drew.cs3 2 rfl, hS.out.drew.cs3 3 rfl, hS.out.drew.cs3 4 rfl, hS.out.drew.cs3 5 rfl⟩ | with_reducible exact ⟨(hS.out.alloc _).cs3 0 rfl, (hS.out.alloc _).cs3 1 rfl, (hS.out.alloc _).cs3 2 rfl, (hS.out.alloc _).cs3 3 rfl, (hS.out.alloc _).cs3 4 rfl, (hS.out.alloc _).cs3 5 rfl⟩ | with_reducible exact ⟨((hS.out.alloc _).alloc _).cs3 0 rfl, ((hS.out.alloc _).alloc _).cs3 1 rfl, ((hS.out.alloc _).alloc _).cs3 2 rfl, ((hS.out.alloc _).alloc _).cs3 3 rfl, ((hS.out.alloc _).alloc _).cs3 4 rfl, ((hS.out.alloc _).alloc _).cs3 5 rfl⟩)
  clear hK K
  try simp only [Act.put, List.setIfInBounds_toArray, List.set_cons_zero, List.set_cons_succ]
  refine wpAnyH_ready (rs := [31]) (by kernel_rfl) (by simp) ?_
  refine AllReadyH.cons (o := { dst := some 152, op := Op.call { callee := Callee.value (Operand.func 34), args := #[Operand.tmp 151], argTypes := #[27] }, type := 27, pos := "outright.go:91", after := #[{ on := 30, ground := Ground.data }, { on := 28, ground := Ground.chain }, { on := 24, ground := Ground.guard }], guard := some (24, true) }) rfl (fun K hK => ?_) AllReadyH.nil
  go_simp
  (go_at_call 34; (with_reducible refine (fneg_s hS.out (by repeat (first | exact List.mem_cons_self | apply List.mem_cons_of_mem)) (by repeat (first | exact List.mem_cons_self | apply List.mem_cons_of_mem)) (by decide) (by first | exact rv_self _ | exact HZ0.out | exact HZ1.out | exact HZ2.out)).mono ?_); rintro e w' ⟨r, Ai, ni, ci, Ai', ni', ci', hr, rfl, h1⟩; clear hS; have hS := Lib.hid h1; clear h1)
  try go_wp2_with fail
  refine hK.out _ _ ?_ (fun hHeld => ?_)
  · try dsimp only
    (first | with_reducible exact ⟨hS.out.cs3 0 rfl, hS.out.cs3 1 rfl, hS.out.cs3 2 rfl, hS.out.cs3 3 rfl, hS.out.cs3 4 rfl, hS.out.cs3 5 rfl⟩ | with_reducible exact ⟨hS.out.drew.cs3 0 rfl, hS.out.drew.cs3 1 rfl, hS.out.drew.cs3 2 rfl, hS.out.drew.cs3 3 rfl, hS.out.drew.cs3 4 rfl, hS.out.drew.cs3 5 rfl⟩ | with_reducible exact ⟨(hS.out.alloc _).cs3 0 rfl, (hS.out.alloc _).cs3 1 rfl, (hS.out.alloc _).cs3 2 rfl, (hS.out.alloc _).cs3 3 rfl, (hS.out.alloc _).cs3 4 rfl, (hS.out.alloc _).cs3 5 rfl⟩ | with_reducible exact ⟨((hS.out.alloc _).alloc _).cs3 0 rfl, ((hS.out.alloc _).alloc _).cs3 1 rfl, ((hS.out.alloc _).alloc _).cs3 2 rfl, ((hS.out.alloc _).alloc _).cs3 3 rfl, ((hS.out.alloc _).alloc _).cs3 4 rfl, ((hS.out.alloc _).alloc _).cs3 5 rfl⟩)
  clear hK K
  try simp only [Act.put, List.setIfInBounds_toArray, List.set_cons_zero, List.set_cons_succ]
  refine wpAnyH_ready (rs := [32]) (by kernel_rfl) (by simp) ?_
  refine AllReadyH.cons (o := { dst := some 153, op := Op.call { callee := Callee.value (Operand.func 30), args := #[Operand.tmp 150, Operand.tmp 152], argTypes := #[27, 27] }, type := 27, pos := "outright.go:91", after := #[{ on := 29, ground := Ground.data }, { on := 31, ground := Ground.data }, { on := 31, ground := Ground.chain }, { on := 24, ground := Ground.guard }], guard := some (24, true) }) rfl (fun K hK => ?_) AllReadyH.nil
  go_simp
  (go_at_call 30; (with_reducible refine (fadd_s hS.out (by repeat (first | exact List.mem_cons_self | apply List.mem_cons_of_mem)) (by repeat (first | exact List.mem_cons_self | apply List.mem_cons_of_mem)) (by repeat (first | exact List.mem_cons_self | apply List.mem_cons_of_mem)) (by repeat (first | exact List.mem_cons_self | apply List.mem_cons_of_mem)) (by decide) (by decide) (by first | exact rv_self _ | exact HZ0.out | exact HZ1.out | exact HZ2.out) (by first | exact rv_self _ | exact HZ0.out | exact HZ1.out | exact HZ2.out)).mono ?_); rintro e w' ⟨r, Ai, ni, ci, Ai', ni', ci', hr, rfl, h1⟩; clear hS; have hS := Lib.hid h1; clear h1)
  try go_wp2_with fail
  refine hK.out _ _ ?_ (fun hHeld => ?_)
  · try dsimp only
    (first | with_reducible exact ⟨hS.out.cs3 0 rfl, hS.out.cs3 1 rfl, hS.out.cs3 2 rfl, hS.out.cs3 3 rfl, hS.out.cs3 4 rfl, hS.out.cs3 5 rfl⟩ | with_reducible exact ⟨hS.out.drew.cs3 0 rfl, hS.out.drew.cs3 1 rfl, hS.out.drew.cs3 2 rfl, hS.out.drew.cs3 3 rfl, hS.out.drew.cs3 4 rfl, hS.out.drew.cs3 5 rfl⟩ | with_reducible exact ⟨(hS.out.alloc _).cs3 0 rfl, (hS.out.alloc _).cs3 1 rfl, (hS.out.alloc _).cs3 2 rfl, (hS.out.alloc _).cs3 3 rfl, (hS.out.alloc _).cs3 4 rfl, (hS.out.alloc _).cs3 5 rfl⟩ | with_reducible exact ⟨((hS.out.alloc _).alloc _).cs3 0 rfl, ((hS.out.alloc _).alloc _).cs3 1 rfl, ((hS.out.alloc _).alloc _).cs3 2 rfl, ((hS.out.alloc _).alloc _).cs3 3 rfl, ((hS.out.alloc _).alloc _).cs3 4 rfl, ((hS.out.alloc _).alloc _).cs3 5 rfl⟩)
  clear hK K
  try simp only [Act.put, List.setIfInBounds_toArray, List.set_cons_zero, List.set_cons_succ]
  refine wpAnyH_ready (rs := [33]) (by kernel_rfl) (by simp) ?_
  refine AllReadyH.cons (o := { dst := some 154, op := Op.call { callee := Callee.value (Operand.tmp 146), args := #[Operand.tmp 149, Operand.tmp 153], argTypes := #[27, 27] }, type := 4, pos := "outright.go:91", after := #[{ on := 25, ground := Ground.data }, { on := 28, ground := Ground.data }, { on := 32, ground := Ground.data }, { on := 32, ground := Ground.chain }, { on := 24, ground := Ground.guard }], guard := some (24, true) }) rfl (fun K hK => ?_) AllReadyH.nil
  go_simp
  (go_at_call 16; (with_reducible refine (is_v hS.out (by repeat (first | exact List.mem_cons_self | apply List.mem_cons_of_mem)) (by repeat (first | exact List.mem_cons_self | apply List.mem_cons_of_mem)) (by repeat (first | exact List.mem_cons_self | apply List.mem_cons_of_mem)) (by repeat (first | exact List.mem_cons_self | apply List.mem_cons_of_mem)) (by subst_vars; first | rfl | ((try simp only [HZE.out, HON.out, HOW.out]); grind) | (have hnz := HNZ.out; ((try simp only [HZE.out, HON.out, HOW.out, ← HRq.out]); grind)))).mono ?_); rintro e w' ⟨rfl, h1⟩; clear hS; have hS := Lib.hid h1; clear h1)
  try go_wp2_with fail
  refine hK.out _ _ ?_ (fun hHeld => ?_)
  · try dsimp only
    (first | with_reducible exact ⟨hS.out.cs3 0 rfl, hS.out.cs3 1 rfl, hS.out.cs3 2 rfl, hS.out.cs3 3 rfl, hS.out.cs3 4 rfl, hS.out.cs3 5 rfl⟩ | with_reducible exact ⟨hS.out.drew.cs3 0 rfl, hS.out.drew.cs3 1 rfl, hS.out.drew.cs3 2 rfl, hS.out.drew.cs3 3 rfl, hS.out.drew.cs3 4 rfl, hS.out.drew.cs3 5 rfl⟩ | with_reducible exact ⟨(hS.out.alloc _).cs3 0 rfl, (hS.out.alloc _).cs3 1 rfl, (hS.out.alloc _).cs3 2 rfl, (hS.out.alloc _).cs3 3 rfl, (hS.out.alloc _).cs3 4 rfl, (hS.out.alloc _).cs3 5 rfl⟩ | with_reducible exact ⟨((hS.out.alloc _).alloc _).cs3 0 rfl, ((hS.out.alloc _).alloc _).cs3 1 rfl, ((hS.out.alloc _).alloc _).cs3 2 rfl, ((hS.out.alloc _).alloc _).cs3 3 rfl, ((hS.out.alloc _).alloc _).cs3 4 rfl, ((hS.out.alloc _).alloc _).cs3 5 rfl⟩)
  clear hK K
  try simp only [Act.put, List.setIfInBounds_toArray, List.set_cons_zero, List.set_cons_succ]
  refine wpAnyH_take (i := 34) (oi := { dst := some 155, op := Op.pick (Operand.tmp 145) (Operand.tmp 154) (Operand.const (Value.bool false)), type := 4, pos := "outright.go:91", after := #[{ on := 24, ground := Ground.data }, { on := 33, ground := Ground.data }], guard := none }) (v := ?_) rfl (by kernel_rfl) (by kernel_rfl) (by kernel_rfl) (fun _ _ _ h => h) (Or.inl ⟨by rfl, ?_⟩) (by assumption) ?_
  rotate_left
  · intro w hSw
    try dsimp only at hSw
    go_simp
    try with_reducible rfl
  try simp only [Act.put, List.setIfInBounds_toArray, List.set_cons_zero, List.set_cons_succ]
  refine wpAnyH_take (i := 35) (oi := { dst := some 156, op := Op.move (Operand.tmp 155), type := 4, pos := "outright.go:91", after := #[{ on := 34, ground := Ground.data }, { on := 33, ground := Ground.chain }], guard := none }) (v := ?_) rfl (by kernel_rfl) (by kernel_rfl) (by kernel_rfl) (fun _ _ _ h => h) (Or.inl ⟨by rfl, ?_⟩) (by assumption) ?_
  rotate_left
  · intro w hSw
    try dsimp only at hSw
    go_simp
    try with_reducible rfl
  try simp only [Act.put, List.setIfInBounds_toArray, List.set_cons_zero, List.set_cons_succ]
  refine wpAnyH_take (i := 36) (oi := { dst := some 157, op := Op.move (Operand.tmp 7), type := 36, pos := "outright.go:91", after := #[{ on := 35, ground := Ground.guard }], guard := some (35, true) }) (v := ?_) rfl (by kernel_rfl) (by kernel_rfl) (by kernel_rfl) (fun _ _ _ h => h) (Or.inl ⟨by rfl, ?_⟩) (by assumption) ?_
  rotate_left
  · intro w hSw
    try dsimp only at hSw
    go_simp
    try with_reducible rfl
  try simp only [Act.put, List.setIfInBounds_toArray, List.set_cons_zero, List.set_cons_succ]
  refine wpAnyH_take (i := 37) (oi := { dst := some 158, op := Op.load 27 (Operand.tmp 3), type := 27, pos := "outright.go:91", after := #[{ on := 35, ground := Ground.guard }], guard := some (35, true) }) (v := ?_) rfl (by kernel_rfl) (by kernel_rfl) (by kernel_rfl) (fun _ _ _ h => h) (Or.inl ⟨by rfl, ?_⟩) (by assumption) ?_
  rotate_left
  · intro w hSw
    try dsimp only at hSw
    go_simp
    try with_reducible rfl
  try simp only [Act.put, List.setIfInBounds_toArray, List.set_cons_zero, List.set_cons_succ]
  refine wpAnyH_take (i := 38) (oi := { dst := some 159, op := Op.load 27 (Operand.tmp 4), type := 27, pos := "outright.go:91", after := #[{ on := 35, ground := Ground.guard }], guard := some (35, true) }) (v := ?_) rfl (by kernel_rfl) (by kernel_rfl) (by kernel_rfl) (fun _ _ _ h => h) (Or.inl ⟨by rfl, ?_⟩) (by assumption) ?_
  rotate_left
  · intro w hSw
    try dsimp only at hSw
    go_simp
    try with_reducible rfl
  try simp only [Act.put, List.setIfInBounds_toArray, List.set_cons_zero, List.set_cons_succ]
  refine wpAnyH_take (i := 39) (oi := { dst := some 160, op := Op.load 27 (Operand.tmp 5), type := 27, pos := "outright.go:91", after := #[{ on := 35, ground := Ground.guard }], guard := some (35, true) }) (v := ?_) rfl (by kernel_rfl) (by kernel_rfl) (by kernel_rfl) (fun _ _ _ h => h) (Or.inl ⟨by rfl, ?_⟩) (by assumption) ?_
  rotate_left
  · intro w hSw
    try dsimp only at hSw
    go_simp
    try with_reducible rfl
  try simp only [Act.put, List.setIfInBounds_toArray, List.set_cons_zero, List.set_cons_succ]
  refine wpAnyH_take (i := 42) (oi := { dst := some 163, op := Op.load 27 (Operand.tmp 3), type := 27, pos := "outright.go:91", after := #[{ on := 35, ground := Ground.guard }], guard := some (35, true) }) (v := ?_) rfl (by kernel_rfl) (by kernel_rfl) (by kernel_rfl) (fun _ _ _ h => h) (Or.inl ⟨by rfl, ?_⟩) (by assumption) ?_
  rotate_left
  · intro w hSw
    try dsimp only at hSw
    go_simp
    try with_reducible rfl
  try simp only [Act.put, List.setIfInBounds_toArray, List.set_cons_zero, List.set_cons_succ]
  refine wpAnyH_take (i := 43) (oi := { dst := some 164, op := Op.load 27 (Operand.tmp 4), type := 27, pos := "outright.go:91", after := #[{ on := 35, ground := Ground.guard }], guard := some (35, true) }) (v := ?_) rfl (by kernel_rfl) (by kernel_rfl) (by kernel_rfl) (fun _ _ _ h => h) (Or.inl ⟨by rfl, ?_⟩) (by assumption) ?_
  rotate_left
  · intro w hSw
    try dsimp only at hSw
    go_simp
    try with_reducible rfl
  try simp only [Act.put, List.setIfInBounds_toArray, List.set_cons_zero, List.set_cons_succ]
  refine wpAnyH_take (i := 45) (oi := { dst := some 166, op := Op.load 27 (Operand.tmp 5), type := 27, pos := "outright.go:91", after := #[{ on := 35, ground := Ground.guard }], guard := some (35, true) }) (v := ?_) rfl (by kernel_rfl) (by kernel_rfl) (by kernel_rfl) (fun _ _ _ h => h) (Or.inl ⟨by rfl, ?_⟩) (by assumption) ?_
  rotate_left
  · intro w hSw
    try dsimp only at hSw
    go_simp
    try with_reducible rfl
  try simp only [Act.put, List.setIfInBounds_toArray, List.set_cons_zero, List.set_cons_succ]
  refine wpAnyH_ready (rs := [40]) (by kernel_rfl) (by simp) ?_
  refine AllReadyH.cons (o := { dst := some 161, op := Op.buildSlice 55 3 #[(0, Operand.tmp 158), (1, Operand.tmp 159), (2, Operand.tmp 160)], type := 55, pos := "outright.go:91", after := #[{ on := 37, ground := Ground.data }, { on := 38, ground := Ground.data }, { on := 39, ground := Ground.data }, { on := 35, ground := Ground.guard }], guard := some (35, true) }) rfl (fun K hK => ?_) AllReadyH.nil
  go_simp
  refine hK.out _ _ ?_ (fun hHeld => ?_)
  · try dsimp only
    (first | with_reducible exact ⟨hS.out.cs3 0 rfl, hS.out.cs3 1 rfl, hS.out.cs3 2 rfl, hS.out.cs3 3 rfl, hS.out.cs3 4 rfl, hS.out.cs3 5 rfl⟩ | with_reducible exact ⟨hS.out.drew.cs3 0 rfl, hS.out.drew.cs3 1 rfl, hS.out.drew.cs3 2 rfl, hS.out.drew.cs3 3 rfl, hS.out.drew.cs3 4 rfl, hS.out.drew.cs3 5 rfl⟩ | with_reducible exact ⟨(hS.out.alloc _).cs3 0 rfl, (hS.out.alloc _).cs3 1 rfl, (hS.out.alloc _).cs3 2 rfl, (hS.out.alloc _).cs3 3 rfl, (hS.out.alloc _).cs3 4 rfl, (hS.out.alloc _).cs3 5 rfl⟩ | with_reducible exact ⟨((hS.out.alloc _).alloc _).cs3 0 rfl, ((hS.out.alloc _).alloc _).cs3 1 rfl, ((hS.out.alloc _).alloc _).cs3 2 rfl, ((hS.out.alloc _).alloc _).cs3 3 rfl, ((hS.out.alloc _).alloc _).cs3 4 rfl, ((hS.out.alloc _).alloc _).cs3 5 rfl⟩)
  clear hK K
  try simp only [Act.put, List.setIfInBounds_toArray, List.set_cons_zero, List.set_cons_succ]
  refine wpAnyH_ready (rs := [41]) (by kernel_rfl) (by simp) ?_
  refine AllReadyH.cons (o := { dst := some 162, op := Op.call { callee := Callee.value (Operand.func 29), args := #[Operand.tmp 161], argTypes := #[55] }, type := 27, pos := "outright.go:91", after := #[{ on := 40, ground := Ground.data }, { on := 35, ground := Ground.chain }, { on := 35, ground := Ground.guard }], guard := some (35, true) }) rfl (fun K hK => ?_) AllReadyH.nil
  go_simp
  (go_at_call 29; (with_reducible refine (fsum3_s hS.out (by repeat (first | exact List.mem_cons_self | apply List.mem_cons_of_mem)) (by repeat (first | exact List.mem_cons_self | apply List.mem_cons_of_mem)) (by decide) HZ0.out (by repeat (first | exact List.mem_cons_self | apply List.mem_cons_of_mem)) (by repeat (first | exact List.mem_cons_self | apply List.mem_cons_of_mem)) (by decide) HZ1.out (by repeat (first | exact List.mem_cons_self | apply List.mem_cons_of_mem)) (by repeat (first | exact List.mem_cons_self | apply List.mem_cons_of_mem)) (by decide) HZ2.out).mono ?_); rintro e w' ⟨r, Ai, ni, ci, Ai', ni', ci', hr, rfl, h1⟩; clear hS; have hS := Lib.hid h1; clear h1)
  try go_wp2_with fail
  refine hK.out _ _ ?_ (fun hHeld => ?_)
  · try dsimp only
    (first | with_reducible exact ⟨hS.out.cs3 0 rfl, hS.out.cs3 1 rfl, hS.out.cs3 2 rfl, hS.out.cs3 3 rfl, hS.out.cs3 4 rfl, hS.out.cs3 5 rfl⟩ | with_reducible exact ⟨hS.out.drew.cs3 0 rfl, hS.out.drew.cs3 1 rfl, hS.out.drew.cs3 2 rfl, hS.out.drew.cs3 3 rfl, hS.out.drew.cs3 4 rfl, hS.out.drew.cs3 5 rfl⟩ | with_reducible exact ⟨(hS.out.alloc _).cs3 0 rfl, (hS.out.alloc _).cs3 1 rfl, (hS.out.alloc _).cs3 2 rfl, (hS.out.alloc _).cs3 3 rfl, (hS.out.alloc _).cs3 4 rfl, (hS.out.alloc _).cs3 5 rfl⟩ | with_reducible exact ⟨((hS.out.alloc _).alloc _).cs3 0 rfl, ((hS.out.alloc _).alloc _).cs3 1 rfl, ((hS.out.alloc _).alloc _).cs3 2 rfl, ((hS.out.alloc _).alloc _).cs3 3 rfl, ((hS.out.alloc _).alloc _).cs3 4 rfl, ((hS.out.alloc _).alloc _).cs3 5 rfl⟩)
  clear hK K
  try simp only [Act.put, List.setIfInBounds_toArray, List.set_cons_zero, List.set_cons_succ]
  refine wpAnyH_ready (rs := [44]) (by kernel_rfl) (by simp) ?_
  refine AllReadyH.cons (o := { dst := some 165, op := Op.call { callee := Callee.value (Operand.func 30), args := #[Operand.tmp 163, Operand.tmp 164], argTypes := #[27, 27] }, type := 27, pos := "outright.go:91", after := #[{ on := 42, ground := Ground.data }, { on := 43, ground := Ground.data }, { on := 41, ground := Ground.chain }, { on := 35, ground := Ground.guard }], guard := some (35, true) }) rfl (fun K hK => ?_) AllReadyH.nil
  go_simp
  (go_at_call 30; (with_reducible refine (fadd_s hS.out (by repeat (first | exact List.mem_cons_self | apply List.mem_cons_of_mem)) (by repeat (first | exact List.mem_cons_self | apply List.mem_cons_of_mem)) (by repeat (first | exact List.mem_cons_self | apply List.mem_cons_of_mem)) (by repeat (first | exact List.mem_cons_self | apply List.mem_cons_of_mem)) (by decide) (by decide) (by first | exact rv_self _ | exact HZ0.out | exact HZ1.out | exact HZ2.out) (by first | exact rv_self _ | exact HZ0.out | exact HZ1.out | exact HZ2.out)).mono ?_); rintro e w' ⟨r, Ai, ni, ci, Ai', ni', ci', hr, rfl, h1⟩; clear hS; have hS := Lib.hid h1; clear h1)
  try go_wp2_with fail
  refine hK.out _ _ ?_ (fun hHeld => ?_)
  · try dsimp only
    (first | with_reducible exact ⟨hS.out.cs3 0 rfl, hS.out.cs3 1 rfl, hS.out.cs3 2 rfl, hS.out.cs3 3 rfl, hS.out.cs3 4 rfl, hS.out.cs3 5 rfl⟩ | with_reducible exact ⟨hS.out.drew.cs3 0 rfl, hS.out.drew.cs3 1 rfl, hS.out.drew.cs3 2 rfl, hS.out.drew.cs3 3 rfl, hS.out.drew.cs3 4 rfl, hS.out.drew.cs3 5 rfl⟩ | with_reducible exact ⟨(hS.out.alloc _).cs3 0 rfl, (hS.out.alloc _).cs3 1 rfl, (hS.out.alloc _).cs3 2 rfl, (hS.out.alloc _).cs3 3 rfl, (hS.out.alloc _).cs3 4 rfl, (hS.out.alloc _).cs3 5 rfl⟩ | with_reducible exact ⟨((hS.out.alloc _).alloc _).cs3 0 rfl, ((hS.out.alloc _).alloc _).cs3 1 rfl, ((hS.out.alloc _).alloc _).cs3 2 rfl, ((hS.out.alloc _).alloc _).cs3 3 rfl, ((hS.out.alloc _).alloc _).cs3 4 rfl, ((hS.out.alloc _).alloc _).cs3 5 rfl⟩)
  clear hK K
  try simp only [Act.put, List.setIfInBounds_toArray, List.set_cons_zero, List.set_cons_succ]
  refine wpAnyH_ready (rs := [46]) (by kernel_rfl) (by simp) ?_
  refine AllReadyH.cons (o := { dst := some 167, op := Op.call { callee := Callee.value (Operand.func 30), args := #[Operand.tmp 165, Operand.tmp 166], argTypes := #[27, 27] }, type := 27, pos := "outright.go:91", after := #[{ on := 44, ground := Ground.data }, { on := 45, ground := Ground.data }, { on := 44, ground := Ground.chain }, { on := 35, ground := Ground.guard }], guard := some (35, true) }) rfl (fun K hK => ?_) AllReadyH.nil
  go_simp
  (go_at_call 30; (with_reducible refine (fadd_s hS.out (by repeat (first | exact List.mem_cons_self | apply List.mem_cons_of_mem)) (by repeat (first | exact List.mem_cons_self | apply List.mem_cons_of_mem)) (by repeat (first | exact List.mem_cons_self | apply List.mem_cons_of_mem)) (by repeat (first | exact List.mem_cons_self | apply List.mem_cons_of_mem)) (by decide) (by decide) (by first | exact rv_self _ | exact HZ0.out | exact HZ1.out | exact HZ2.out) (by first | exact rv_self _ | exact HZ0.out | exact HZ1.out | exact HZ2.out)).mono ?_); rintro e w' ⟨r, Ai, ni, ci, Ai', ni', ci', hr, rfl, h1⟩; clear hS; have hS := Lib.hid h1; clear h1)
  try go_wp2_with fail
  refine hK.out _ _ ?_ (fun hHeld => ?_)
  · try dsimp only
    (first | with_reducible exact ⟨hS.out.cs3 0 rfl, hS.out.cs3 1 rfl, hS.out.cs3 2 rfl, hS.out.cs3 3 rfl, hS.out.cs3 4 rfl, hS.out.cs3 5 rfl⟩ | with_reducible exact ⟨hS.out.drew.cs3 0 rfl, hS.out.drew.cs3 1 rfl, hS.out.drew.cs3 2 rfl, hS.out.drew.cs3 3 rfl, hS.out.drew.cs3 4 rfl, hS.out.drew.cs3 5 rfl⟩ | with_reducible exact ⟨(hS.out.alloc _).cs3 0 rfl, (hS.out.alloc _).cs3 1 rfl, (hS.out.alloc _).cs3 2 rfl, (hS.out.alloc _).cs3 3 rfl, (hS.out.alloc _).cs3 4 rfl, (hS.out.alloc _).cs3 5 rfl⟩ | with_reducible exact ⟨((hS.out.alloc _).alloc _).cs3 0 rfl, ((hS.out.alloc _).alloc _).cs3 1 rfl, ((hS.out.alloc _).alloc _).cs3 2 rfl, ((hS.out.alloc _).alloc _).cs3 3 rfl, ((hS.out.alloc _).alloc _).cs3 4 rfl, ((hS.out.alloc _).alloc _).cs3 5 rfl⟩)
  clear hK K
  try simp only [Act.put, List.setIfInBounds_toArray, List.set_cons_zero, List.set_cons_succ]
  refine wpAnyH_ready (rs := [47]) (by kernel_rfl) (by simp) ?_
  refine AllReadyH.cons (o := { dst := some 168, op := Op.call { callee := Callee.value (Operand.tmp 157), args := #[Operand.tmp 162, Operand.tmp 167], argTypes := #[27, 27] }, type := 4, pos := "outright.go:91", after := #[{ on := 36, ground := Ground.data }, { on := 41, ground := Ground.data }, { on := 46, ground := Ground.data }, { on := 46, ground := Ground.chain }, { on := 35, ground := Ground.guard }], guard := some (35, true) }) rfl (fun K hK => ?_) AllReadyH.nil
  go_simp
  (go_at_call 16; (with_reducible refine (is_v hS.out (by repeat (first | exact List.mem_cons_self | apply List.mem_cons_of_mem)) (by repeat (first | exact List.mem_cons_self | apply List.mem_cons_of_mem)) (by repeat (first | exact List.mem_cons_self | apply List.mem_cons_of_mem)) (by repeat (first | exact List.mem_cons_self | apply List.mem_cons_of_mem)) (by subst_vars; first | rfl | ((try simp only [HZE.out, HON.out, HOW.out]); grind) | (have hnz := HNZ.out; ((try simp only [HZE.out, HON.out, HOW.out, ← HRq.out]); grind)))).mono ?_); rintro e w' ⟨rfl, h1⟩; clear hS; have hS := Lib.hid h1; clear h1)
  try go_wp2_with fail
  refine hK.out _ _ ?_ (fun hHeld => ?_)
  · try dsimp only
    (first | with_reducible exact ⟨hS.out.cs3 0 rfl, hS.out.cs3 1 rfl, hS.out.cs3 2 rfl, hS.out.cs3 3 rfl, hS.out.cs3 4 rfl, hS.out.cs3 5 rfl⟩ | with_reducible exact ⟨hS.out.drew.cs3 0 rfl, hS.out.drew.cs3 1 rfl, hS.out.drew.cs3 2 rfl, hS.out.drew.cs3 3 rfl, hS.out.drew.cs3 4 rfl, hS.out.drew.cs3 5 rfl⟩ | with_reducible exact ⟨(hS.out.alloc _).cs3 0 rfl, (hS.out.alloc _).cs3 1 rfl, (hS.out.alloc _).cs3 2 rfl, (hS.out.alloc _).cs3 3 rfl, (hS.out.alloc _).cs3 4 rfl, (hS.out.alloc _).cs3 5 rfl⟩ | with_reducible exact ⟨((hS.out.alloc _).alloc _).cs3 0 rfl, ((hS.out.alloc _).alloc _).cs3 1 rfl, ((hS.out.alloc _).alloc _).cs3 2 rfl, ((hS.out.alloc _).alloc _).cs3 3 rfl, ((hS.out.alloc _).alloc _).cs3 4 rfl, ((hS.out.alloc _).alloc _).cs3 5 rfl⟩)
  clear hK K
  try simp only [Act.put, List.setIfInBounds_toArray, List.set_cons_zero, List.set_cons_succ]
  refine wpAnyH_take (i := 48) (oi := { dst := some 169, op := Op.pick (Operand.tmp 156) (Operand.tmp 168) (Operand.const (Value.bool false)), type := 4, pos := "outright.go:91", after := #[{ on := 35, ground := Ground.data }, { on := 47, ground := Ground.data }], guard := none }) (v := ?_) rfl (by kernel_rfl) (by kernel_rfl) (by kernel_rfl) (fun _ _ _ h => h) (Or.inl ⟨by rfl, ?_⟩) (by assumption) ?_
  rotate_left
  · intro w hSw
    try dsimp only at hSw
    go_simp
    try with_reducible rfl
  try simp only [Act.put, List.setIfInBounds_toArray, List.set_cons_zero, List.set_cons_succ]
  refine wpAnyH_take (i := 49) (oi := { dst := some 170, op := Op.move (Operand.tmp 169), type := 4, pos := "outright.go:91", after := #[{ on := 48, ground := Ground.data }, { on := 47, ground := Ground.chain }], guard := none }) (v := ?_) rfl (by kernel_rfl) (by kernel_rfl) (by kernel_rfl) (fun _ _ _ h => h) (Or.inl ⟨by rfl, ?_⟩) (by assumption) ?_
  rotate_left
  · intro w hSw
    try dsimp only at hSw
    go_simp
    try with_reducible rfl
  try simp only [Act.put, List.setIfInBounds_toArray, List.set_cons_zero, List.set_cons_succ]
  refine wpAnyH_take (i := 50) (oi := { dst := some 171, op := Op.load 27 (Operand.tmp 3), type := 27, pos := "outright.go:91", after := #[{ on := 49, ground := Ground.guard }], guard := some (49, true) }) (v := ?_) rfl (by kernel_rfl) (by kernel_rfl) (by kernel_rfl) (fun _ _ _ h => h) (Or.inl ⟨by rfl, ?_⟩) (by assumption) ?_
  rotate_left
  · intro w hSw
    try dsimp only at hSw
    go_simp
    try with_reducible rfl
  try simp only [Act.put, List.setIfInBounds_toArray, List.set_cons_zero, List.set_cons_succ]
  refine wpAnyH_ready (rs := [51]) (by kernel_rfl) (by simp) ?_
  refine AllReadyH.cons (o := { dst := some 172, op := Op.call { callee := Callee.value (Operand.func 19), args := #[Operand.tmp 171], argTypes := #[27] }, type := 4, pos := "outright.go:91", after := #[{ on := 50, ground := Ground.data }, { on := 49, ground := Ground.chain }, { on := 49, ground := Ground.guard }], guard := some (49, true) }) rfl (fun K hK => ?_) AllReadyH.nil
  go_simp
  (go_at_call 19; (with_reducible refine (fmay_s (q := false) hS.out (by repeat (first | exact List.mem_cons_self | apply List.mem_cons_of_mem)) (by repeat (first | exact List.mem_cons_self | apply List.mem_cons_of_mem)) (by decide) HMAY.out).mono ?_); rintro e w' ⟨rfl, h1⟩; clear hS; have hS := Lib.hid h1; clear h1)
  try go_wp2_with fail
  refine hK.out _ _ ?_ (fun hHeld => ?_)
  · try dsimp only
    (first | with_reducible exact ⟨hS.out.cs3 0 rfl, hS.out.cs3 1 rfl, hS.out.cs3 2 rfl, hS.out.cs3 3 rfl, hS.out.cs3 4 rfl, hS.out.cs3 5 rfl⟩ | with_reducible exact ⟨hS.out.drew.cs3 0 rfl, hS.out.drew.cs3 1 rfl, hS.out.drew.cs3 2 rfl, hS.out.drew.cs3 3 rfl, hS.out.drew.cs3 4 rfl, hS.out.drew.cs3 5 rfl⟩ | with_reducible exact ⟨(hS.out.alloc _).cs3 0 rfl, (hS.out.alloc _).cs3 1 rfl, (hS.out.alloc _).cs3 2 rfl, (hS.out.alloc _).cs3 3 rfl, (hS.out.alloc _).cs3 4 rfl, (hS.out.alloc _).cs3 5 rfl⟩ | with_reducible exact ⟨((hS.out.alloc _).alloc _).cs3 0 rfl, ((hS.out.alloc _).alloc _).cs3 1 rfl, ((hS.out.alloc _).alloc _).cs3 2 rfl, ((hS.out.alloc _).alloc _).cs3 3 rfl, ((hS.out.alloc _).alloc _).cs3 4 rfl, ((hS.out.alloc _).alloc _).cs3 5 rfl⟩)
  clear hK K
  try simp only [Act.put, List.setIfInBounds_toArray, List.set_cons_zero, List.set_cons_succ]
  refine wpAnyH_take (i := 52) (oi := { dst := some 173, op := Op.unOp UnOp.not 4 (Operand.tmp 172), type := 4, pos := "outright.go:91", after := #[{ on := 51, ground := Ground.data }, { on := 49, ground := Ground.guard }], guard := some (49, true) }) (v := ?_) rfl (by kernel_rfl) (by kernel_rfl) (by kernel_rfl) (fun _ _ _ h => h) (Or.inl ⟨by rfl, ?_⟩) (by assumption) ?_
  rotate_left
  · intro w hSw
    try dsimp only at hSw
    go_simp
    try with_reducible rfl
  try simp only [Act.put, List.setIfInBounds_toArray, List.set_cons_zero, List.set_cons_succ]
  refine wpAnyH_take (i := 53) (oi := { dst := some 174, op := Op.move (Operand.tmp 173), type := 4, pos := "outright.go:91", after := #[{ on := 52, ground := Ground.data }, { on := 51, ground := Ground.chain }, { on := 49, ground := Ground.guard }], guard := some (49, true) }) (v := ?_) rfl (by kernel_rfl) (by kernel_rfl) (by kernel_rfl) (fun _ _ _ h => h) (Or.inl ⟨by rfl, ?_⟩) (by assumption) ?_
  rotate_left
  · intro w hSw
    try dsimp only at hSw
    go_simp
    try with_reducible rfl
  try simp only [Act.put, List.setIfInBounds_toArray, List.set_cons_zero, List.set_cons_succ]
  refine wpAnyH_take (i := 54) (oi := { dst := some 175, op := Op.move (Operand.tmp 7), type := 36, pos := "outright.go:91", after := #[{ on := 53, ground := Ground.guard }], guard := some (53, false) }) (v := undef) rfl (by kernel_rfl) (by kernel_rfl) (by kernel_rfl) (fun _ _ _ h => h) (Or.inr ⟨by rfl, rfl⟩) (by assumption) ?_
  try simp only [Act.put, List.setIfInBounds_toArray, List.set_cons_zero, List.set_cons_succ]
  refine wpAnyH_take (i := 55) (oi := { dst := some 176, op := Op.load 27 (Operand.tmp 10), type := 27, pos := "outright.go:91", after := #[{ on := 53, ground := Ground.guard }], guard := some (53, false) }) (v := undef) rfl (by kernel_rfl) (by kernel_rfl) (by kernel_rfl) (fun _ _ _ h => h) (Or.inr ⟨by rfl, rfl⟩) (by assumption) ?_
  try simp only [Act.put, List.setIfInBounds_toArray, List.set_cons_zero, List.set_cons_succ]
  refine wpAnyH_take (i := 56) (oi := { dst := some 177, op := Op.load 27 (Operand.tmp 3), type := 27, pos := "outright.go:91", after := #[{ on := 53, ground := Ground.guard }], guard := some (53, false) }) (v := undef) rfl (by kernel_rfl) (by kernel_rfl) (by kernel_rfl) (fun _ _ _ h => h) (Or.inr ⟨by rfl, rfl⟩) (by assumption) ?_
  try simp only [Act.put, List.setIfInBounds_toArray, List.set_cons_zero, List.set_cons_succ]
  refine wpAnyH_ready (rs := [57]) (by kernel_rfl) (by simp) ?_
  refine AllReadyH.cons (o := { dst := some 178, op := Op.call { callee := Callee.value (Operand.tmp 175), args := #[Operand.tmp 176, Operand.tmp 177], argTypes := #[27, 27] }, type := 4, pos := "outright.go:91", after := #[{ on := 54, ground := Ground.data }, { on := 55, ground := Ground.data }, { on := 56, ground := Ground.data }, { on := 53, ground := Ground.chain }, { on := 53, ground := Ground.guard }], guard := some (53, false) }) rfl (fun K hK => ?_) AllReadyH.nil
  go_simp
  refine hK.out _ _ ?_ (fun hHeld => ?_)
  · try dsimp only
    (first | with_reducible exact ⟨hS.out.cs3 0 rfl, hS.out.cs3 1 rfl, hS.out.cs3 2 rfl, hS.out.cs3 3 rfl, hS.out.cs3 4 rfl, hS.out.cs3 5 rfl⟩ | with_reducible exact ⟨hS.out.drew.cs3 0 rfl, hS.out.drew.cs3 1 rfl, hS.out.drew.cs3 2 rfl, hS.out.drew.cs3 3 rfl, hS.out.drew.cs3 4 rfl, hS.out.drew.cs3 5 rfl⟩ | with_reducible exact ⟨(hS.out.alloc _).cs3 0 rfl, (hS.out.alloc _).cs3 1 rfl, (hS.out.alloc _).cs3 2 rfl, (hS.out.alloc _).cs3 3 rfl, (hS.out.alloc _).cs3 4 rfl, (hS.out.alloc _).cs3 5 rfl⟩ | with_reducible exact ⟨((hS.out.alloc _).alloc _).cs3 0 rfl, ((hS.out.alloc _).alloc _).cs3 1 rfl, ((hS.out.alloc _).alloc _).cs3 2 rfl, ((hS.out.alloc _).alloc _).cs3 3 rfl, ((hS.out.alloc _).alloc _).cs3 4 rfl, ((hS.out.alloc _).alloc _).cs3 5 rfl⟩)
  clear hK K
  try simp only [Act.put, List.setIfInBounds_toArray, List.set_cons_zero, List.set_cons_succ]
  refine wpAnyH_take (i := 58) (oi := { dst := some 179, op := Op.pick (Operand.tmp 174) (Operand.const (Value.bool true)) (Operand.tmp 178), type := 4, pos := "outright.go:91", after := #[{ on := 53, ground := Ground.data }, { on := 57, ground := Ground.data }, { on := 49, ground := Ground.guard }], guard := some (49, true) }) (v := ?_) rfl (by kernel_rfl) (by kernel_rfl) (by kernel_rfl) (fun _ _ _ h => h) (Or.inl ⟨by rfl, ?_⟩) (by assumption) ?_
  rotate_left
  · intro w hSw
    try dsimp only at hSw
    go_simp
    try with_reducible rfl
  try simp only [Act.put, List.setIfInBounds_toArray, List.set_cons_zero, List.set_cons_succ]
  refine wpAnyH_take (i := 59) (oi := { dst := some 180, op := Op.pick (Operand.tmp 170) (Operand.tmp 179) (Operand.const (Value.bool false)), type := 4, pos := "outright.go:91", after := #[{ on := 49, ground := Ground.data }, { on := 58, ground := Ground.data }], guard := none }) (v := ?_) rfl (by kernel_rfl) (by kernel_rfl) (by kernel_rfl) (fun _ _ _ h => h) (Or.inl ⟨by rfl, ?_⟩) (by assumption) ?_
  rotate_left
  · intro w hSw
    try dsimp only at hSw
    go_simp
    try with_reducible rfl
  try simp only [Act.put, List.setIfInBounds_toArray, List.set_cons_zero, List.set_cons_succ]
  refine wpAnyH_take (i := 60) (oi := { dst := some 6, op := Op.assign (Operand.tmp 180), type := 4, pos := "outright.go:91", after := #[{ on := 59, ground := Ground.data }, { on := 57, ground := Ground.chain }, { on := 0, ground := Ground.phase }, { on := 1, ground := Ground.phase }, { on := 2, ground := Ground.phase }, { on := 3, ground := Ground.phase }, { on := 4, ground := Ground.phase }, { on := 5, ground := Ground.phase }, { on := 6, ground := Ground.phase }, { on := 7, ground := Ground.phase }, { on := 8, ground := Ground.phase }, { on := 9, ground := Ground.phase }, { on := 10, ground := Ground.phase }, { on := 11, ground := Ground.phase }, { on := 12, ground := Ground.phase }, { on := 13, ground := Ground.phase }, { on := 14, ground := Ground.phase }, { on := 15, ground := Ground.phase }, { on := 16, ground := Ground.phase }, { on := 17, ground := Ground.phase }, { on := 18, ground := Ground.phase }, { on := 19, ground := Ground.phase }, { on := 20, ground := Ground.phase }, { on := 21, ground := Ground.phase }, { on := 22, ground := Ground.phase }, { on := 23, ground := Ground.phase }, { on := 24, ground := Ground.phase }, { on := 25, ground := Ground.phase }, { on := 26, ground := Ground.phase }, { on := 27, ground := Ground.phase }, { on := 28, ground := Ground.phase }, { on := 29, ground := Ground.phase }, { on := 30, ground := Ground.phase }, { on := 31, ground := Ground.phase }, { on := 32, ground := Ground.phase }, { on := 33, ground := Ground.phase }, { on := 34, ground := Ground.phase }, { on := 35, ground := Ground.phase }, { on := 36, ground := Ground.phase }, { on := 37, ground := Ground.phase }, { on := 38, ground := Ground.phase }, { on := 39, ground := Ground.phase }, { on := 40, ground := Ground.phase }, { on := 41, ground := Ground.phase }, { on := 42, ground := Ground.phase }, { on := 43, ground := Ground.phase }, { on := 44, ground := Ground.phase }, { on := 45, ground := Ground.phase }, { on := 46, ground := Ground.phase }, { on := 47, ground := Ground.phase }, { on := 48, ground := Ground.phase }, { on := 49, ground := Ground.phase }, { on := 50, ground := Ground.phase }, { on := 51, ground := Ground.phase }, { on := 52, ground := Ground.phase }, { on := 53, ground := Ground.phase }, { on := 54, ground := Ground.phase }, { on := 55, ground := Ground.phase }, { on := 56, ground := Ground.phase }, { on := 57, ground := Ground.phase }, { on := 58, ground := Ground.phase }, { on := 59, ground := Ground.phase }], guard := none }) (v := ?_) rfl (by kernel_rfl) (by kernel_rfl) (by kernel_rfl) (fun _ _ _ h => h) (Or.inl ⟨by rfl, ?_⟩) (by assumption) ?_
  rotate_left
  · intro w hSw
    try dsimp only at hSw
    go_simp
    try with_reducible rfl
  try simp only [Act.put, List.setIfInBounds_toArray, List.set_cons_zero, List.set_cons_succ]
  refine wpAnyH_done (by kernel_rfl) ?_ _
  obtain ⟨x0_0, x1_0, x2_0⟩ := hS.out.cs3 0 rfl
  obtain ⟨x0_1, x1_1, x2_1⟩ := hS.out.cs3 1 rfl
  obtain ⟨x0_2, x1_2, x2_2⟩ := hS.out.cs3 2 rfl
  obtain ⟨x0_3, x1_3, x2_3⟩ := hS.out.cs3 3 rfl
  obtain ⟨x0_4, x1_4, x2_4⟩ := hS.out.cs3 4 rfl
  obtain ⟨x0_5, x1_5, x2_5⟩ := hS.out.cs3 5 rfl
  go_wp2
  go_ret
  exact ⟨rfl, hS.out.st.1⟩
end Go.Proofs.YtnebeffpidlgmaaGreatDoor.ratField
