/- What All of the document's layer 7 answers, over this translation: a row of strings of its own (mk_brall.py). -/
import Derived.Test.YtcpkkceoobioiaaDoorBitProg
import Derived.Test.YtcpkkceoobioiaaDoorRegP
import Derived.Maps.AppendAt
namespace Go.Proofs.YtcpkkceoobioiaaDoor
open Go.RowKit Go.Shelf
set_option linter.unusedVariables false
set_option linter.unusedSimpArgs false
set_option maxRecDepth 20000
open N
theorem infoStr : (Tryd.prog.info? 9).map (fun i => (i.zero, i.size, i.bytes)) = some (some (.string ⟨#[]⟩), 1, 16) := by kernel_rfl
theorem slS : Tryd.prog.underlying 38 = some (.slice 9) := Tryd.underlying38
namespace N
/-- each with a 0 and a 1 behind -/
def dblL (L : List (List UInt8)) : List (List UInt8) := L.flatMap fun s => [s ++ [48], s ++ [49]]
/-- a row of strings as values -/
def sv (L : List (List UInt8)) : List Value := L.map fun s => Value.string ⟨s.toArray⟩
theorem sv_length (L : List (List UInt8)) : (sv L).length = L.length := by simp [sv]
theorem sv_append (L M : List (List UInt8)) : sv (L ++ M) = sv L ++ sv M := by simp [sv]
theorem sv_get (L : List (List UInt8)) (j : Nat) (x : List UInt8) (h : L[j]? = some x) : (sv L)[j]? = some (.string ⟨x.toArray⟩) := by
  unfold sv; rw [List.getElem?_map, h]; rfl
theorem sv_one (L : List (List UInt8)) : ∀ u ∈ sv L, u.oneCell' = true := by
  intro u hu; unfold sv at hu
  obtain ⟨x, _, rfl⟩ := List.mem_map.1 hu; rfl
/-- a slice of the call's own, from block B on, that reads as the strings L -/
def OwnS (w : World) (B : Nat) (v : Value) (n : Nat) (L : List (List UInt8)) : Prop := w.ownsRow B 9 1 v n (sv L)
section
variable {w w' : World} {B : Nat} {v : Value} {n : Nat} {L : List (List UInt8)}
theorem OwnS.len (h : OwnS w B v n L) : L.length = n := by have := h.1; rwa [sv_length, Nat.mul_one] at this
theorem OwnS.form (h : OwnS w B v n L) (hn : 0 < n) : ∃ g c, v = .slice (some ⟨g, 0, none⟩) n c ∧ B ≤ g ∧ g < w.heap.size ∧ n ≤ c := by
  rcases h.2 with ⟨_, e⟩ | ⟨g, c, cur, e, hb, hh, hnc, _⟩
  · omega
  · exact ⟨g, c, e, hb, (Array.getElem?_eq_some_iff.1 hh).1, hnc⟩
theorem OwnS.at' {g c : Nat} (h : OwnS w B (.slice (some ⟨g, 0, none⟩) n c) n L) {j : Nat} {x : List UInt8} (hx : L[j]? = some x) : w.cell? ⟨g, j, none⟩ = some (.string ⟨x.toArray⟩) := by
  have hj : j < n := by rw [← h.len]; exact (List.getElem?_eq_some_iff.1 hx).1
  rw [World.ownsRow.cellAt h j (by omega)]
  exact sv_get L j x hx
theorem OwnS.below (h : OwnS w B v n L) (hb : Below w.heap.size w w') : OwnS w' B v n L := by
  refine World.ownsRow.kept (row := Option.none) h ⟨hb.os, hb.tape, hb.output, hb.size, fun k hk _ => hb.block k hk⟩ ?_
  cases v.ownBlock with
  | none => exact .inl rfl
  | some k => exact .inr (by simp)
theorem dbl_take (L : List (List UInt8)) (j : Nat) (x : List UInt8) (h : L[j]? = some x) : dblL (L.take (j + 1)) = dblL (L.take j) ++ [x ++ [48], x ++ [49]] := by
  obtain ⟨hj, e⟩ := List.getElem?_eq_some_iff.1 h
  rw [List.take_succ_eq_append_getElem hj, e]
  unfold dblL; rw [List.flatMap_append]; simp
end
end N
/-- the world in the midst of the region -/
def allI (B : Nat) (wb : World) (vl : Value) (nl : Nat) (Ll : List (List UInt8)) (v5 : Value) (n5 : Nat) (L5 : List (List UInt8)) (L : Array Bool) (W : World) : Prop :=
  Below B wb W ∧ OwnS W B vl nl Ll ∧ (L.getD 12 false = false → OwnS W B v5 n5 L5)
theorem allI.set {B : Nat} {wb : World} {vl : Value} {nl : Nat} {Ll : List (List UInt8)} {v5 : Value} {n5 : Nat} {L5 : List (List UInt8)} {L : Array Bool} {W : World} (h : allI B wb vl nl Ll v5 n5 L5 L W) (i : Nat) (hi : i ≠ 12) : allI B wb vl nl Ll v5 n5 L5 (L.setIfInBounds i true) W :=
  ⟨h.1, h.2.1, fun e => h.2.2 (by rwa [getD_set_ne false hi] at e)⟩
theorem run_appS {W : World} {B : Nat} {v : Value} {n : Nat} {L : List (List UInt8)} (h : OwnS W B v n L) (hn : n ≤ 8192) (hB : B ≤ W.heap.size) (ty : TypeId) (g : Nat) (x y : List UInt8) (hg : W.heap[g]? = some (.cells #[.string ⟨x.toArray⟩, .string ⟨y.toArray⟩] 9 (0, 0))) :
    ∃ v' w', (Builtin.append_ #[38, 38] ty #[v, .slice (some ⟨g, 0, none⟩) 2 2]).run Tryd.prog W = .ok v' w' ∧ OwnS w' B v' (n + 2) (L ++ [x, y]) ∧ W.grownBy w' v.ownBlock ∧ (v'.ownBlock = v.ownBlock ∨ v'.ownBlock = some W.heap.size) := by
  obtain ⟨i0, hi, hz0, hz1, hz2⟩ := info_parts infoStr
  obtain ⟨v', w', h1, h2, h3, _, h5⟩ := run_append_own_at (P := Tryd.prog) (w := W) B 38 ty 9 i0 (.string ⟨#[]⟩) 1 16 slS hi hz0 hz1 hz2 rfl (by omega) v n (sv L) h ⟨g, 0, none⟩ 2 2 (sv [x, y]) rfl (by
      intro j u hu
      rw [add_plain, Nat.zero_add, cell_of_row W g j _ _ _ hg]
      rw [← hu]
      simp [sv]) (sv_one _) (by unfold maxLen; omega) (by omega) hB
  exact ⟨v', w', h1, by unfold OwnS; rw [sv_append]; exact h2, h3, h5⟩
theorem getD_set_self {L : Array Bool} {i : Nat} (h : i < L.size) : (L.setIfInBounds i true).getD i false = true := by simp [h]
theorem allS_dbl (k : Nat) : allS (k + 1) = dblL (allS k) := rfl
set_option maxHeartbeats 4000000 in
theorem rall_ok (w : World) (n : Nat) (hn : n ≤ 12) :
    Calls Tryd.prog 30 #[.int .i64 n] w fun e w' => ∃ g c, e = .returned (.slice (some ⟨g, 0, none⟩) (2 ^ n) c) ∧ OwnS w' w.heap.size (.slice (some ⟨g, 0, none⟩) (2 ^ n) c) (2 ^ n) (allS n) ∧ Below w.heap.size w w' := by
  go_enter Tryd.func30, Tryd.ntmps30
  go_wp2
  go_loopw [3, 4] (fun l i wr => ∃ (k g c : Nat), k ≤ n ∧ i = .int .i64 k ∧ l = .slice (some ⟨g, 0, none⟩) (2 ^ k) c ∧ OwnS wr w.heap.size (.slice (some ⟨g, 0, none⟩) (2 ^ k) c) (2 ^ k) (allS k) ∧ Below w.heap.size w wr) (fun _ i _ => n - (intOf i).toNat)
  case atStart =>
    refine ⟨0, _, _, by omega, rfl, rfl, ?_, (Below.refl _ w).alloc (Nat.le_refl _) _⟩
    exact ⟨rfl, .inr ⟨w.heap.size, 1, _, rfl, Nat.le_refl _, heap_alloc_new w _, by decide, by decide, rfl, rfl⟩⟩
  case round =>
    obtain ⟨k, gl, cl, hk, rfl, rfl, hO, hb⟩ := hrel
    have h2k : 2 ^ k ≤ 4096 := Nat.pow_le_pow_right (n := 2) (by decide) (show k ≤ 12 by omega)
    have hpos : 0 < 2 ^ k := Nat.pow_pos (by decide)
    by_cases hlt : k < n
    · have HO := Lib.hid hO
      have HB := Lib.hid hb
      have HD := Lib.hid (show allS (k + 1) = dblL ((allS k).take (2 ^ k)) by rw [← allS_length k, List.take_length]; exact allS_dbl k)
      have HL := Lib.hid (allS_length k)
      have HN := Lib.hid (show 2 ^ (k + 1) = 2 * 2 ^ k by rw [Nat.pow_succ]; omega)
      obtain ⟨Ll, hLl⟩ : ∃ Ll, allS k = Ll := ⟨_, rfl⟩
      obtain ⟨nl, hnl⟩ : ∃ nl, 2 ^ k = nl := ⟨_, rfl⟩
      rw [hLl, hnl] at HO
      rw [hLl] at HL
      rw [hLl, hnl] at HD
      rw [hnl] at HL HN h2k hpos
      rw [hnl]
      have HL0 := Lib.hid hLl
      clear hO hb hLl
      go_wp2
      go_loopw [5, 6] (fun m i wr2 => ∃ (j : Nat) (v5 : Value), j ≤ nl ∧ i = .int .i64 j ∧ v5 = m ∧ OwnS wr2 w.heap.size v5 (2 * j) (dblL (Ll.take j)) ∧ v5.ownBlock ≠ some gl ∧ OwnS wr2 w.heap.size (.slice (some ⟨gl, 0, none⟩) nl cl) nl Ll ∧ Below w.heap.size w wr2) (fun _ i _ => nl - (intOf i).toNat)
      case atStart => exact ⟨0, _, by omega, rfl, rfl, World.ownsRow_nil _ _ _ 1, by simp [Value.ownBlock], HO.out, HB.out⟩
      case round =>
        obtain ⟨j, v5, hj, rfl, rfl, hO5, hne5, hOl, hb⟩ := hrel
        by_cases hlj : j < nl
        · obtain ⟨x, hx⟩ : ∃ x, Ll[j]? = some x := ⟨_, List.getElem?_eq_getElem (by rw [HL.out]; exact hlj)⟩
          have HS := Lib.hid (dbl_take Ll j x hx)
          obtain ⟨L5, hL5⟩ : ∃ L5, dblL (Ll.take j) = L5 := ⟨_, rfl⟩
          rw [hL5] at HS hO5
          obtain ⟨n5, hn5e⟩ : ∃ n5, 2 * j = n5 := ⟨_, rfl⟩
          rw [hn5e] at hO5
          have hn5 : n5 ≤ 8192 := by omega
          obtain ⟨r1, hr1⟩ : ∃ r1, x ++ [48] = r1 := ⟨_, rfl⟩
          obtain ⟨r2, hr2⟩ : ∃ r2, x ++ [49] = r2 := ⟨_, rfl⟩
          have hap1 : (⟨x.toArray⟩ : ByteArray) ++ ⟨#[48]⟩ = ⟨r1.toArray⟩ := by rw [← hr1]; exact ByteArray.mk_append_mk x [48]
          have hap2 : (⟨x.toArray⟩ : ByteArray) ++ ⟨#[49]⟩ = ⟨r2.toArray⟩ := by rw [← hr2]; exact ByteArray.mk_append_mk x [49]
          have hxl : x.length = k := by
            rw [← HL0.out] at hx
            rw [allS_range] at hx
            rw [List.getElem?_map] at hx
            cases e : (List.range (2 ^ k))[j]? with
            | none => rw [e] at hx; cases hx
            | some y => rw [e] at hx; cases hx; exact ofB_length _ _
          have hsz1 : ¬ (9223372036854775807 < k + 1) := by omega
          rw [hr1, hr2] at HS
          have hI0 : allI w.heap.size w (.slice (some ⟨gl, 0, none⟩) nl cl) nl Ll v5 n5 L5 (Array.replicate 14 false) wr.drew := ⟨hb.drew, hOl, fun _ => hO5⟩
          have HSX := Lib.hid HS
          clear hb hOl hO5 hr1 hr2 HS
          go_wp2
          refine RV.wp_region_p (by kernel_rfl) [25, 26, 27, 28, 29, 30, 31, 32, 33, 34, 35, 36, 37, 5] [RV.is (v5), RV.is (.slice (some ⟨gl, 0, none⟩) nl cl), RV.is (.int .i64 (j : Nat)), RV.is (.pointer (some ⟨gl, j, none⟩)), RV.is (.string ⟨(x).toArray⟩), RV.is (.string ⟨(r1).toArray⟩), RV.is (.slice (some ⟨gl, 0, none⟩) nl cl), RV.is (.int .i64 (j : Nat)), RV.is (.pointer (some ⟨gl, j, none⟩)), RV.is (.string ⟨(x).toArray⟩), RV.is (.string ⟨(r2).toArray⟩), (fun v W => ∃ g, v = .slice (some ⟨g, 0, none⟩) 2 2 ∧ W.heap[g]? = some (.cells #[.string ⟨r1.toArray⟩, .string ⟨r2.toArray⟩] 9 (0, 0)) ∧ v5.ownBlock ≠ some g), (fun v W => OwnS W w.heap.size v (n5 + 2) (L5 ++ [r1, r2]) ∧ v.ownBlock ≠ some gl), (fun v W => OwnS W w.heap.size v (n5 + 2) (L5 ++ [r1, r2]) ∧ v.ownBlock ≠ some gl)] (allI w.heap.size w (.slice (some ⟨gl, 0, none⟩) nl cl) nl Ll v5 n5 L5) (by kernel_rfl) rfl (by decide) rfl (by kernel_rfl) hI0 ?_ ?_
          · intro ii hii L fa fw hLs hout hold hp hno hoff hI
            match ii, hii with
            | 0, _ =>
              have p5 : fa.eval (.tmp 5) = v5 := (hold 13 5 rfl (hno 13 (by kernel_rfl))).trans rfl
              simp only [Act.eval] at p5
              refine ⟨_, _, v5, fw, rfl, rfl, ?_, rfl, hI.set 0 (by decide), fun _ _ _ _ _ h => h⟩
              simp only [execOp, Act.eval]
              go_simp
              all_goals first | omega | (intro hh; omega) | (rw [IntKind.wrap_i64]; omega)
            | 1, _ =>
              have p3 : fa.eval (.tmp 3) = .slice (some ⟨gl, 0, none⟩) nl cl := (hout 3 (by decide)).trans rfl
              simp only [Act.eval] at p3
              refine ⟨_, _, .slice (some ⟨gl, 0, none⟩) nl cl, fw, rfl, rfl, ?_, rfl, hI.set 1 (by decide), fun _ _ _ _ _ h => h⟩
              simp only [execOp, Act.eval]
              go_simp
              all_goals first | omega | (intro hh; omega) | (rw [IntKind.wrap_i64]; omega)
            | 2, _ =>
              have p6 : fa.eval (.tmp 6) = .int .i64 (j : Nat) := (hout 6 (by decide)).trans rfl
              simp only [Act.eval] at p6
              refine ⟨_, _, .int .i64 (j : Nat), fw, rfl, rfl, ?_, rfl, hI.set 2 (by decide), fun _ _ _ _ _ h => h⟩
              simp only [execOp, Act.eval]
              go_simp
              all_goals first | omega | (intro hh; omega) | (rw [IntKind.wrap_i64]; omega)
            | 3, _ =>
              have p26 : fa.eval (.tmp 26) = .slice (some ⟨gl, 0, none⟩) nl cl := hp 1 26 _ (by kernel_rfl) rfl rfl
              have p27 : fa.eval (.tmp 27) = .int .i64 (j : Nat) := hp 2 27 _ (by kernel_rfl) rfl rfl
              simp only [Act.eval] at p26 p27
              refine ⟨_, _, .pointer (some ⟨gl, j, none⟩), fw, rfl, rfl, ?_, rfl, hI.set 3 (by decide), fun _ _ _ _ _ h => h⟩
              simp only [execOp, Act.eval]
              go_simp
              all_goals first | omega | (intro hh; omega) | (rw [IntKind.wrap_i64]; omega)
            | 4, _ =>
              have p28 : fa.eval (.tmp 28) = .pointer (some ⟨gl, j, none⟩) := hp 3 28 _ (by kernel_rfl) rfl rfl
              simp only [Act.eval] at p28
              have hcell := hI.2.1.at' hx
              refine ⟨_, _, .string ⟨(x).toArray⟩, fw, rfl, rfl, ?_, rfl, hI.set 4 (by decide), fun _ _ _ _ _ h => h⟩
              simp only [execOp, Act.eval]
              go_simp
              all_goals first | omega | (intro hh; omega) | (rw [IntKind.wrap_i64]; omega)
            | 5, _ =>
              have p29 : fa.eval (.tmp 29) = .string ⟨(x).toArray⟩ := hp 4 29 _ (by kernel_rfl) rfl rfl
              simp only [Act.eval] at p29
              refine ⟨_, _, .string ⟨(r1).toArray⟩, fw, rfl, rfl, ?_, rfl, hI.set 5 (by decide), fun _ _ _ _ _ h => h⟩
              simp only [execOp, Act.eval]
              go_simp
              all_goals first | omega | (intro hh; omega) | (rw [IntKind.wrap_i64]; omega)
            | 6, _ =>
              have p3 : fa.eval (.tmp 3) = .slice (some ⟨gl, 0, none⟩) nl cl := (hout 3 (by decide)).trans rfl
              simp only [Act.eval] at p3
              refine ⟨_, _, .slice (some ⟨gl, 0, none⟩) nl cl, fw, rfl, rfl, ?_, rfl, hI.set 6 (by decide), fun _ _ _ _ _ h => h⟩
              simp only [execOp, Act.eval]
              go_simp
              all_goals first | omega | (intro hh; omega) | (rw [IntKind.wrap_i64]; omega)
            | 7, _ =>
              have p6 : fa.eval (.tmp 6) = .int .i64 (j : Nat) := (hout 6 (by decide)).trans rfl
              simp only [Act.eval] at p6
              refine ⟨_, _, .int .i64 (j : Nat), fw, rfl, rfl, ?_, rfl, hI.set 7 (by decide), fun _ _ _ _ _ h => h⟩
              simp only [execOp, Act.eval]
              go_simp
              all_goals first | omega | (intro hh; omega) | (rw [IntKind.wrap_i64]; omega)
            | 8, _ =>
              have p31 : fa.eval (.tmp 31) = .slice (some ⟨gl, 0, none⟩) nl cl := hp 6 31 _ (by kernel_rfl) rfl rfl
              have p32 : fa.eval (.tmp 32) = .int .i64 (j : Nat) := hp 7 32 _ (by kernel_rfl) rfl rfl
              simp only [Act.eval] at p31 p32
              refine ⟨_, _, .pointer (some ⟨gl, j, none⟩), fw, rfl, rfl, ?_, rfl, hI.set 8 (by decide), fun _ _ _ _ _ h => h⟩
              simp only [execOp, Act.eval]
              go_simp
              all_goals first | omega | (intro hh; omega) | (rw [IntKind.wrap_i64]; omega)
            | 9, _ =>
              have p33 : fa.eval (.tmp 33) = .pointer (some ⟨gl, j, none⟩) := hp 8 33 _ (by kernel_rfl) rfl rfl
              simp only [Act.eval] at p33
              have hcell := hI.2.1.at' hx
              refine ⟨_, _, .string ⟨(x).toArray⟩, fw, rfl, rfl, ?_, rfl, hI.set 9 (by decide), fun _ _ _ _ _ h => h⟩
              simp only [execOp, Act.eval]
              go_simp
              all_goals first | omega | (intro hh; omega) | (rw [IntKind.wrap_i64]; omega)
            | 10, _ =>
              have p34 : fa.eval (.tmp 34) = .string ⟨(x).toArray⟩ := hp 9 34 _ (by kernel_rfl) rfl rfl
              simp only [Act.eval] at p34
              refine ⟨_, _, .string ⟨(r2).toArray⟩, fw, rfl, rfl, ?_, rfl, hI.set 10 (by decide), fun _ _ _ _ _ h => h⟩
              simp only [execOp, Act.eval]
              go_simp
              all_goals first | omega | (intro hh; omega) | (rw [IntKind.wrap_i64]; omega)
            | 11, _ =>
              have p30 : fa.eval (.tmp 30) = .string ⟨(r1).toArray⟩ := hp 5 30 _ (by kernel_rfl) rfl rfl
              have p35 : fa.eval (.tmp 35) = .string ⟨(r2).toArray⟩ := hp 10 35 _ (by kernel_rfl) rfl rfl
              have h12 : L.getD 12 false = false := hno 12 (by kernel_rfl)
              have hO5 := hI.2.2 h12
              refine ⟨{ dst := some 36, op := .buildSlice 38 2 #[(0, .tmp 30), (1, .tmp 35)], type := 38, pos := "ref.go:103", after := #[{ on := 5, ground := .data }, { on := 10, ground := .data }], guard := none }, _, .slice (some ⟨fw.heap.size, 0, none⟩) 2 2, fw.alloc (.cells #[.string ⟨r1.toArray⟩, .string ⟨r2.toArray⟩] 9), rfl, rfl, ?_,
                ⟨fw.heap.size, rfl, heap_alloc_new fw _, fun e => absurd (hO5.lt _ e).2 (Nat.lt_irrefl _)⟩, ⟨hI.1.alloc hI.1.size _, hI.2.1.alloc _, fun e => hO5.alloc _⟩, fun q ψ u hj hψ h => ?_⟩
              · simp only [execOp, List.map_toArray, List.map_cons, List.map_nil, p30, p35]
                go_simp
              · match q, hj, hψ, h with
                  | 0, hj, hψ, h => cases hψ; exact h
                  | 1, hj, hψ, h => cases hψ; exact h
                  | 2, hj, hψ, h => cases hψ; exact h
                  | 3, hj, hψ, h => cases hψ; exact h
                  | 4, hj, hψ, h => cases hψ; exact h
                  | 5, hj, hψ, h => cases hψ; exact h
                  | 6, hj, hψ, h => cases hψ; exact h
                  | 7, hj, hψ, h => cases hψ; exact h
                  | 8, hj, hψ, h => cases hψ; exact h
                  | 9, hj, hψ, h => cases hψ; exact h
                  | 10, hj, hψ, h => cases hψ; exact h
                  | 11, hj, hψ, h => rw [hoff] at hj; cases hj
                  | 12, hj, hψ, h => rw [hno 12 (by kernel_rfl)] at hj; cases hj
                  | 13, hj, hψ, h => rw [hno 13 (by kernel_rfl)] at hj; cases hj
                  | j + 14, hj, hψ, h => cases hψ
            | 12, _ =>
              have p25 : fa.eval (.tmp 25) = v5 := hp 0 25 _ (by kernel_rfl) rfl rfl
              obtain ⟨g, p36, hg, hne⟩ : ∃ g, fa.eval (.tmp 36) = .slice (some ⟨g, 0, none⟩) 2 2 ∧ fw.heap[g]? = some (.cells #[.string ⟨r1.toArray⟩, .string ⟨r2.toArray⟩] 9 (0, 0)) ∧ v5.ownBlock ≠ some g := hp 11 36 _ (by kernel_rfl) rfl rfl
              have hO5 := hI.2.2 hoff
              obtain ⟨v', w', hrun, hO', hgr, hrow⟩ := run_appS hO5 hn5 hI.1.size 38 g r1 r2 hg
              refine ⟨{ dst := some 37, op := .call { callee := .builtin .append, args := #[.tmp 25, .tmp 36], argTypes := #[38, 38] }, type := 38, pos := "ref.go:103", after := #[{ on := 0, ground := .data }, { on := 11, ground := .data }], guard := none }, _, v', w', rfl, rfl, ?_, ⟨hO', ?_⟩, ⟨?_, World.ownsRow.kept hI.2.1 hgr (.inr (fun e => hne5 e.symm)), fun e => ?_⟩, fun q ψ u hj hψ h => ?_⟩
              · unfold execOp
                simp only [resolve, invoke, builtin, Sem.run_bind, Sem.run_pure, Result.andThen_ok, List.map_toArray, List.map_cons, List.map_nil, p25, p36, hrun]
              · rcases hrow with e | e
                · rw [e]; exact hne5
                · rw [e]; intro e2; cases e2; exact absurd (hI.2.1.lt _ rfl).2 (Nat.lt_irrefl _)
              · exact ⟨hgr.os.trans hI.1.os, hgr.tape.trans hI.1.tape, hgr.output.trans hI.1.output, Nat.le_trans hI.1.size hgr.size, fun k hk => (hgr.block k (Nat.lt_of_lt_of_le hk hI.1.size) (fun e => by have := (hO5.lt k e.symm).1; omega)).trans (hI.1.block k hk)⟩
              · rw [getD_set_self (by rw [hLs]; decide)] at e; cases e
              · match q, hj, hψ, h with
                  | 0, hj, hψ, h => cases hψ; exact h
                  | 1, hj, hψ, h => cases hψ; exact h
                  | 2, hj, hψ, h => cases hψ; exact h
                  | 3, hj, hψ, h => cases hψ; exact h
                  | 4, hj, hψ, h => cases hψ; exact h
                  | 5, hj, hψ, h => cases hψ; exact h
                  | 6, hj, hψ, h => cases hψ; exact h
                  | 7, hj, hψ, h => cases hψ; exact h
                  | 8, hj, hψ, h => cases hψ; exact h
                  | 9, hj, hψ, h => cases hψ; exact h
                  | 10, hj, hψ, h => cases hψ; exact h
                  | 11, hj, hψ, h => cases hψ; obtain ⟨g', e, hg', hne⟩ := h; exact ⟨g', e, (hgr.block g' (Array.getElem?_eq_some_iff.1 hg').1 (fun e => hne e.symm)).trans hg', hne⟩
                  | 12, hj, hψ, h => rw [hoff] at hj; cases hj
                  | 13, hj, hψ, h => rw [hno 13 (by kernel_rfl)] at hj; cases hj
                  | j + 14, hj, hψ, h => cases hψ
            | 13, _ =>
              have p37 : OwnS fw w.heap.size (fa.eval (.tmp 37)) (n5 + 2) (L5 ++ [r1, r2]) ∧ (fa.eval (.tmp 37)).ownBlock ≠ some gl := hp 12 37 _ (by kernel_rfl) rfl rfl
              refine ⟨_, _, fa.eval (.tmp 37), fw, rfl, rfl, ?_, p37, hI.set 13 (by decide), fun _ _ _ _ _ h => h⟩
              rfl
            | i + 14, hi => exact absurd hi (by show ¬ (i + 14 < 14); omega)
          · intro f L W hf hI
            have q5 : OwnS W w.heap.size (f 5) (n5 + 2) (L5 ++ [r1, r2]) ∧ (f 5).ownBlock ≠ some gl := hf 13 5 _ rfl rfl
            have q25 : f 25 = v5 := hf 0 25 _ rfl rfl
            have q26 : f 26 = .slice (some ⟨gl, 0, none⟩) nl cl := hf 1 26 _ rfl rfl
            have q27 : f 27 = .int .i64 (j : Nat) := hf 2 27 _ rfl rfl
            have q28 : f 28 = .pointer (some ⟨gl, j, none⟩) := hf 3 28 _ rfl rfl
            have q29 : f 29 = .string ⟨(x).toArray⟩ := hf 4 29 _ rfl rfl
            have q30 : f 30 = .string ⟨(r1).toArray⟩ := hf 5 30 _ rfl rfl
            have q31 : f 31 = .slice (some ⟨gl, 0, none⟩) nl cl := hf 6 31 _ rfl rfl
            have q32 : f 32 = .int .i64 (j : Nat) := hf 7 32 _ rfl rfl
            have q33 : f 33 = .pointer (some ⟨gl, j, none⟩) := hf 8 33 _ rfl rfl
            have q34 : f 34 = .string ⟨(x).toArray⟩ := hf 9 34 _ rfl rfl
            have q35 : f 35 = .string ⟨(r2).toArray⟩ := hf 10 35 _ rfl rfl
            simp only [RV.putAll, List.map_cons, List.map_nil, List.foldl_cons, List.foldl_nil, Act.put, List.setIfInBounds_toArray, List.set_cons_zero, List.set_cons_succ, q25, q26, q27, q28, q29, q30, q31, q32, q33, q34, q35]
            go_wp2
            go_round
            case rel => exact ⟨j + 1, f 5, by omega, by go_num, rfl, by rw [HSX.out.out, show 2 * (j + 1) = n5 + 2 by omega]; exact q5.1, q5.2, hI.2.1, hI.1⟩
            case measure => simp [intOf]; omega

        · obtain rfl : j = nl := by omega
          obtain ⟨g2, c2, rfl, _⟩ := hO5.form (by omega)
          have HO5 := Lib.hid hO5
          have HB5 := Lib.hid hb
          clear hO5 hb hOl
          go_wp2
          go_round
          case rel => exact ⟨k + 1, g2, c2, by omega, by go_num, by rw [HN.out], by rw [HN.out, HD.out]; exact HO5.out, HB5.out⟩
          case measure => simp [intOf]; omega

    · obtain rfl : k = n := by omega
      have HO := Lib.hid hO
      have HB := Lib.hid hb
      clear hO hb
      go_wp2
      go_ret
      exact ⟨gl, cl, rfl, HO.out, HB.out⟩
namespace N
/-- what All answers: all strings of n bits, or none -/
def allL (n : Int) : List (List UInt8) := if 0 ≤ n ∧ n ≤ 12 then allS n.toNat else []
end N
theorem rall_any (w : World) (n : Int) :
    Calls Tryd.prog 30 #[.int .i64 n] w fun e w' => ∃ A c, e = .returned (.slice A (allL n).length c) ∧ OwnS w' w.heap.size (.slice A (allL n).length c) (allL n).length (allL n) ∧ Below w.heap.size w w' := by
  by_cases h : 0 ≤ n ∧ n ≤ 12
  · obtain ⟨h0, h1⟩ := h
    obtain ⟨m, rfl⟩ := Int.eq_ofNat_of_zero_le h0
    have hL : allL (m : Int) = allS m := by unfold allL; rw [if_pos ⟨h0, h1⟩]; rfl
    rw [hL, allS_length]
    refine (rall_ok w m (by omega)).mono ?_
    rintro e w' ⟨g, c, h⟩
    exact ⟨_, c, h⟩
  · have hL : allL n = [] := by unfold allL; rw [if_neg h]
    rw [hL]
    clear hL
    by_cases h0 : n < 0
    · go_enter Tryd.func30, Tryd.ntmps30
      go_wp2
      go_ret
      exact ⟨none, 0, rfl, World.ownsRow_nil _ _ _ 1, Below.refl _ _⟩
    · have h1 : 12 < n := by omega
      clear h
      go_enter Tryd.func30, Tryd.ntmps30
      go_wp2
      go_ret
      exact ⟨none, 0, rfl, World.ownsRow_nil _ _ _ 1, Below.refl _ _⟩
end Go.Proofs.YtcpkkceoobioiaaDoor
