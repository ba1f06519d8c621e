/- What the program's Len, Sum, Pick of layer 10 answer over this translation (and what they answer of nil, and of what nobody made). -/
import Derived.Test.YtolfjhfmcgibbaaGreatDoorFreProg
namespace Go.Proofs.YtolfjhfmcgibbaaGreatDoor
open Go.RowKit Go.Shelf
set_option linter.unusedVariables false
set_option linter.unusedSimpArgs false
set_option maxRecDepth 20000
open N
section
variable {w : World} {t g n c : Nat} {A : Option Addr} {ws : List Int} {ty : TypeId} {r : Int} {p : Nat}
theorem tlen_blk (h : BlkOk w ⟨t, [.slice A n c], ty⟩) :
    Calls Tryz.prog 18 #[.pointer (some ⟨t, 0, none⟩)] w fun e w' => e = .returned (.int .i64 (n : Int)) ∧ w' = w := by
  have h0 := BlkOk.cell (k := 0) h rfl
  simp only at h0
  clear h
  go_enter Tryz.func18, Tryz.ntmps18
  go_wp2
  go_ret
  exact ⟨rfl, rfl⟩
theorem tlen_nil (w : World) :
    Calls Tryz.prog 18 #[.pointer none] w fun e w' => e = .returned (.int .i64 ((0 : Nat) : Int)) ∧ w' = w := by
  go_enter Tryz.func18, Tryz.ntmps18
  go_wp2
  go_ret
  exact ⟨rfl, rfl⟩
theorem tlen_any (h : TbOk w t g ws) :
    Calls Tryz.prog 18 #[.pointer (some ⟨t, 0, none⟩)] w fun e w' => e = .returned (.int .i64 (ws.length : Int)) ∧ w' = w := tlen_blk h.tb
theorem tend_z (w : World) (q : Option Addr) :
    Calls Tryz.prog 39 #[.pointer q, .int .i64 ((0 : Nat) : Int)] w fun e w' => e = .returned (.int .i64 0) ∧ w' = w := by
  go_enter Tryz.func39, Tryz.ntmps39
  go_wp2
  go_ret
  exact ⟨rfl, rfl⟩
theorem tend_any (h : TbOk w t g ws) {k : Nat} {v : Int} (hk : k ≤ ws.length) (hm : ws.length ≤ 64) (hv : pre ws k = v) :
    Calls Tryz.prog 39 #[.pointer (some ⟨t, 0, none⟩), .int .i64 (k : Int)] w fun e w' => e = .returned (.int .i64 v) ∧ w' = w := by
  cases k with
  | zero => rw [← hv, pre_zero]; exact tend_z w _
  | succ k =>
    have h0 : w.cell? ⟨t, 0, none⟩ = some (.slice (some ⟨g, 0, none⟩) ws.length ws.length) := BlkOk.cell (k := 0) h.tb rfl
    have hc := h.cell (k := k) (by omega)
    have hne : ¬ ((k + 1 : Nat) : Int) = 0 := by omega
    have hwr : IntKind.i64.wrap (((k + 1 : Nat) : Int) - 1) = (k : Int) := by rw [IntKind.wrap_i64]; omega
    obtain ⟨n, hn⟩ : ∃ n, ws.length = n := ⟨_, rfl⟩
    obtain ⟨m, hm1⟩ : ∃ m : Int, ((k + 1 : Nat) : Int) = m := ⟨_, rfl⟩
    rw [hn] at h0 hk
    rw [hv] at hc
    rw [hm1] at hne hwr ⊢
    have hlt : k < n := by omega
    clear hk hn h hm hv hm1
    go_enter Tryz.func39, Tryz.ntmps39
    go_wp2
    go_ret
    exact ⟨rfl, rfl⟩
theorem tsum_any (h : TbOk w t g ws) (hm : ws.length ≤ 64) {v : Int} (hv : pre ws ws.length = v) :
    Calls Tryz.prog 19 #[.pointer (some ⟨t, 0, none⟩)] w fun e w' => e = .returned (.int .i64 v) ∧ w' = w := by
  have HL := Lib.hid (tlen_any h)
  have HE := Lib.hid (tend_any h (Nat.le_refl _) hm hv)
  clear h hm hv
  go_enter Tryz.func19, Tryz.ntmps19
  go_wp2_with (first
    | (go_at_call 18; refine HL.out.mono ?_; rintro e w1 ⟨rfl, rfl⟩)
    | (go_at_call 39; refine HE.out.mono ?_; rintro e w1 ⟨rfl, rfl⟩))
  go_ret
  exact ⟨rfl, rfl⟩
theorem tsum_nil (w : World) :
    Calls Tryz.prog 19 #[.pointer none] w fun e w' => e = .returned (.int .i64 0) ∧ w' = w := by
  go_enter Tryz.func19, Tryz.ntmps19
  go_wp2_with (first
    | (go_at_call 18; refine (tlen_nil _).mono ?_; rintro e w1 ⟨rfl, rfl⟩)
    | (go_at_call 39; refine (tend_z _ _).mono ?_; rintro e w1 ⟨rfl, rfl⟩))
  go_ret
  exact ⟨rfl, rfl⟩
theorem tsum_fresh (h : BlkOk w ⟨t, [.slice none 0 0], ty⟩) :
    Calls Tryz.prog 19 #[.pointer (some ⟨t, 0, none⟩)] w fun e w' => e = .returned (.int .i64 0) ∧ w' = w := by
  have HL := Lib.hid (tlen_blk h)
  clear h
  go_enter Tryz.func19, Tryz.ntmps19
  go_wp2_with (first
    | (go_at_call 18; refine HL.out.mono ?_; rintro e w1 ⟨rfl, rfl⟩)
    | (go_at_call 39; refine (tend_z _ _).mono ?_; rintro e w1 ⟨rfl, rfl⟩))
  go_ret
  exact ⟨rfl, rfl⟩
/-- the function that is passed to the search -/
theorem idx1_any {b1 b2 k : Nat} {q : Bool} (h : TbOk w t g ws) (h1 : w.cell? ⟨b1, 0, none⟩ = some (.pointer (some ⟨t, 0, none⟩))) (h2 : w.cell? ⟨b2, 0, none⟩ = some (.int .i64 r)) (hk : k < ws.length) (hq : decide (r < pre ws (k + 1)) = q) :
    Calls Tryz.prog 62 #[.int .i64 (k : Int), .pointer (some ⟨b1, 0, none⟩), .pointer (some ⟨b2, 0, none⟩)] w fun e w' => e = .returned (.bool q) ∧ Below w.heap.size w w' := by
  have h0 : w.cell? ⟨t, 0, none⟩ = some (.slice (some ⟨g, 0, none⟩) ws.length ws.length) := BlkOk.cell (k := 0) h.tb rfl
  have hc := h.cell hk
  obtain ⟨n, hn⟩ : ∃ n, ws.length = n := ⟨_, rfl⟩
  obtain ⟨v, hv⟩ : ∃ v, pre ws (k + 1) = v := ⟨_, rfl⟩
  rw [hn] at h0 hk
  rw [hv] at hc hq
  clear hn hv h
  have HQ := Lib.hid hq
  clear hq
  go_enter Tryz.func62, Tryz.ntmps62
  go_wp2_with fail
  go_quiet (fail)
  go_wp2
  go_ret
  refine ⟨by rw [← HQ.out]; rfl, ⟨rfl, rfl, rfl, Nat.le_refl _, fun _ _ => rfl⟩⟩
theorem search_any {b1 b2 n : Nat} (h1 : BlkOk w ⟨b1, [.pointer (some ⟨t, 0, none⟩)], 24⟩) (h2 : BlkOk w ⟨b2, [.int .i64 r], 2⟩) (h : TbOk w t g ws) (hn : ws.length = n) (hok : okW ws) (hm : n ≤ 64) (hp : Pk ws r p) :
    Calls Tryz.prog 61 #[.int .i64 (n : Int), .func (.func 62) #[] #[.pointer (some ⟨b1, 0, none⟩), .pointer (some ⟨b2, 0, none⟩)]] w fun e w' => e = .returned (.int .i64 (p : Int)) ∧ Below w.heap.size w w' := by
  have HC := Lib.hid (fun (W : World) (hb : Below w.heap.size w W) (k : Nat) (hk : k < n) => idx1_any (k := k) (h.on hb) (BlkOk.cell (k := 0) (h1.on hb) rfl) (BlkOk.cell (k := 0) (h2.on hb) rfl) (by rw [hn]; exact hk) (show _ = decide (p ≤ k) from decide_eq_decide.2 (pk_front hok hp)))
  have HP := Lib.hid (show p < n by rw [← hn]; exact hp.1)
  have HB := Lib.hid (Below.refl w.heap.size w)
  clear h1 h2 h hn hok hp
  go_enter Tryz.func61, Tryz.ntmps61
  go_wp2_with fail
  go_loopw [5, 6] (fun i j wr => ∃ a b : Nat, a ≤ p ∧ p ≤ b ∧ b ≤ n ∧ i = .int .i64 (a : Int) ∧ j = .int .i64 (b : Int) ∧ Below w.heap.size w wr) (fun i j _ => (intOf j).toNat - (intOf i).toNat)
  case atStart => exact ⟨0, n, Nat.zero_le _, Nat.le_of_lt HP.out, Nat.le_refl _, rfl, rfl, HB.out⟩
  case round =>
    obtain ⟨a, b, ha, hb, hbn, rfl, rfl, hbw⟩ := hrel
    clear HB
    have HB := Lib.hid hbw
    clear hbw
    by_cases hlt : a < b
    · obtain ⟨m, hm2⟩ : ∃ m, (a + b) / 2 = m := ⟨_, rfl⟩
      obtain ⟨c, hc⟩ : ∃ c, a + b = c := ⟨_, rfl⟩
      have hw1 : IntKind.i64.wrap ((a : Int) + (b : Int)) = (c : Int) := by rw [IntKind.wrap_i64]; omega
      have hw2 : IntKind.u64.wrap (c : Int) = (c : Int) := by rw [IntKind.wrap_u64]; omega
      have hw3 : IntKind.i64.wrap (m : Int) = (m : Int) := by rw [IntKind.wrap_i64]; omega
      have hltI : (a : Int) < (b : Int) := by omega
      have hw4 : IntKind.i64.wrap ((m : Int) + 1) = ((m + 1 : Nat) : Int) := by rw [IntKind.wrap_i64]; omega
      have hsh : (c : Int) / 2 = (m : Int) := by omega
      by_cases hq : p ≤ m
      · have HM := HC.out wr HB.out m (by have := HP.out; omega)
        rw [decide_eq_true hq] at HM
        have HN := Lib.hid HM
        have HX := Lib.hid (show a ≤ p ∧ p ≤ m ∧ m ≤ n ∧ m - a < b - a by omega)
        clear HM ha hb hbn hlt hm2 hc hq
        go_wp2_with (go_at_call 62; refine (HN.out).mono ?_; rintro e w1 ⟨rfl, hb1⟩)
        go_roundw
        case rel => exact ⟨a, m, HX.out.1, HX.out.2.1, HX.out.2.2.1, rfl, rfl, HB.out.trans (hb1.mono HB.out.size)⟩
        case measure => simpa [intOf] using HX.out.2.2.2
      · have HM := HC.out wr HB.out m (by have := HP.out; omega)
        rw [decide_eq_false hq] at HM
        have HN := Lib.hid HM
        have HX := Lib.hid (show m + 1 ≤ p ∧ p ≤ b ∧ b ≤ n ∧ b - (m + 1) < b - a by omega)
        clear HM ha hb hbn hlt hm2 hc hq
        go_wp2_with (go_at_call 62; refine (HN.out).mono ?_; rintro e w1 ⟨rfl, hb1⟩)
        go_roundw
        case rel => exact ⟨m + 1, b, HX.out.1, HX.out.2.1, HX.out.2.2.1, rfl, rfl, HB.out.trans (hb1.mono HB.out.size)⟩
        case measure => simpa [intOf] using HX.out.2.2.2
    · obtain rfl : a = b := by omega
      obtain rfl : p = a := by omega
      have hltI : ¬ (p : Int) < (p : Int) := by omega
      go_wp2
      go_ret
      exact ⟨rfl, HB.out⟩
theorem index_any (h : TbOk w t g ws) (hw : Wt ws) (hp : Pk ws r p) :
    Calls Tryz.prog 38 #[.pointer (some ⟨t, 0, none⟩), .int .i64 r] w fun e w' => e = .returned (.int .i64 (p : Int)) ∧ Below w.heap.size w w' := by
  have hmf : ∀ (fn : Fn) (first cap : Array Value) (w : World), (Instr.makeFunc fn first cap).run Tryz.prog w = .ok (.func fn first cap) w := fun _ _ _ _ => rfl
  have h0 : w.cell? ⟨t, 0, none⟩ = some (.slice (some ⟨g, 0, none⟩) ws.length ws.length) := BlkOk.cell (k := 0) h.tb rfl
  obtain ⟨n, hn⟩ : ∃ n, ws.length = n := ⟨_, rfl⟩
  rw [hn] at h0
  have h1 := heap_alloc_new w (.cells #[.pointer (some ⟨t, 0, none⟩)] 24)
  have hb1 := (Below.refl _ w).alloc (Nat.le_refl _) (.cells #[.pointer (some ⟨t, 0, none⟩)] 24)
  have HX := Lib.hid (fun (W : World) (hW : (w.alloc (.cells #[.pointer (some ⟨t, 0, none⟩)] 24)).alloc (.cells #[.int .i64 r] 2) = W) => show BlkOk W ⟨w.heap.size, [.pointer (some ⟨t, 0, none⟩)], 24⟩ ∧ BlkOk W ⟨w.heap.size + 1, [.int .i64 r], 2⟩ ∧ TbOk W t g ws ∧ Below w.heap.size w W by
    subst hW
    have hs : (w.alloc (.cells #[.pointer (some ⟨t, 0, none⟩)] 24)).heap.size = w.heap.size + 1 := World.size_alloc ..
    have hb2 := hb1.alloc hb1.size (.cells #[.int .i64 r] 2)
    have h2 := heap_alloc_new (w.alloc (.cells #[.pointer (some ⟨t, 0, none⟩)] 24)) (.cells #[.int .i64 r] 2)
    rw [hs] at h2
    have h3 : BlkOk (w.alloc (.cells #[.pointer (some ⟨t, 0, none⟩)] 24)) ⟨w.heap.size, [.pointer (some ⟨t, 0, none⟩)], 24⟩ := h1
    exact ⟨h3.on ((Below.refl _ _).alloc (Nat.le_refl _) _), h2, h.on hb2, hb2⟩)
  have HS := Lib.hid (fun (W : World) (hW : (w.alloc (.cells #[.pointer (some ⟨t, 0, none⟩)] 24)).alloc (.cells #[.int .i64 r] 2) = W) => search_any (HX.out W hW).1 (HX.out W hW).2.1 (HX.out W hW).2.2.1 hn hw.ok (by have := hw.l1; omega) hp)
  have hc2 : ((w.alloc (.cells #[.pointer (some ⟨t, 0, none⟩)] 24)).alloc (.cells #[.int .i64 r] 2)).cell? ⟨t, 0, none⟩ = some (.slice (some ⟨g, 0, none⟩) n n) := by
    have := BlkOk.cell (k := 0) (HX.out _ rfl).2.2.1.tb rfl
    rwa [hn] at this
  clear h h1 hb1 hn hp hw h0
  go_enter Tryz.func38, Tryz.ntmps38
  go_wp2_with fail
  generalize hwa : World.alloc (World.alloc w _) _ = v1
  have HV := Lib.hid (HX.out _ hwa)
  have HS1 := Lib.hid (HS.out _ hwa)
  clear hwa HX HS hc2
  go_wp2_with (go_at_call 61; refine HS1.out.mono ?_; rintro e w1 ⟨rfl, hb1⟩)
  go_ret
  exact ⟨rfl, HV.out.2.2.2.trans (hb1.mono HV.out.2.2.2.size)⟩
theorem tpick_ok (h : TbOk w t g ws) (hw : Wt ws) (hp : Pk ws r p) :
    Calls Tryz.prog 13 #[.pointer (some ⟨t, 0, none⟩), .int .i64 r] w fun e w' => e = .returned (.tuple #[.int .i64 (p : Int), .int .i64 0]) ∧ Below w.heap.size w w' := by
  obtain ⟨s, hs⟩ : ∃ s, pre ws ws.length = s := ⟨_, rfl⟩
  have HL := Lib.hid (tlen_any h)
  have HS := Lib.hid (tsum_any h hw.l1 hs)
  have HI := Lib.hid (index_any h hw hp)
  obtain ⟨q0, q1⟩ := hp.range hw.ok
  rw [hs] at q1
  have hz : ¬ (ws.length : Int) = 0 := by have := hw.l0; omega
  have hr0 : ¬ r < 0 := by omega
  have hr1 : ¬ s ≤ r := by omega
  obtain ⟨n, hn⟩ : ∃ n, ws.length = n := ⟨_, rfl⟩
  rw [hn] at HL hz
  clear h hw hp hs q0 q1 hn
  go_enter Tryz.func13, Tryz.ntmps13
  go_wp2_with (first
    | (go_at_call 18; refine HL.out.mono ?_; rintro e w1 ⟨rfl, rfl⟩)
    | (go_at_call 19; refine HS.out.mono ?_; rintro e w1 ⟨rfl, rfl⟩)
    | (go_at_call 38; refine HI.out.mono ?_; rintro e w1 ⟨rfl, hb1⟩))
  go_ret2
  exact ⟨rfl, hb1⟩
theorem tpick_no (h : TbOk w t g ws) (hw : Wt ws) (hr : ¬ (0 ≤ r ∧ r < pre ws ws.length)) :
    Calls Tryz.prog 13 #[.pointer (some ⟨t, 0, none⟩), .int .i64 r] w fun e w' => e = .returned (.tuple #[.int .i64 ((0 : Nat) : Int), .int .i64 1]) ∧ Below w.heap.size w w' := by
  obtain ⟨s, hs⟩ : ∃ s, pre ws ws.length = s := ⟨_, rfl⟩
  have HL := Lib.hid (tlen_any h)
  have HS := Lib.hid (tsum_any h hw.l1 hs)
  rw [hs] at hr
  have hz : ¬ (ws.length : Int) = 0 := by have := hw.l0; omega
  obtain ⟨n, hn⟩ : ∃ n, ws.length = n := ⟨_, rfl⟩
  rw [hn] at HL hz
  clear h hw hs hn
  rcases Int.lt_or_le r 0 with h0 | h0
  · clear hr
    go_enter Tryz.func13, Tryz.ntmps13
    go_wp2_with (first
      | (go_at_call 18; refine HL.out.mono ?_; rintro e w1 ⟨rfl, rfl⟩)
      | (go_at_call 19; refine HS.out.mono ?_; rintro e w1 ⟨rfl, rfl⟩))
    go_ret2
    exact ⟨rfl, Below.refl _ _⟩
  · have h1 : s ≤ r := by omega
    have h2 : ¬ r < 0 := by omega
    clear hr h0
    go_enter Tryz.func13, Tryz.ntmps13
    go_wp2_with (first
      | (go_at_call 18; refine HL.out.mono ?_; rintro e w1 ⟨rfl, rfl⟩)
      | (go_at_call 19; refine HS.out.mono ?_; rintro e w1 ⟨rfl, rfl⟩))
    go_ret2
    exact ⟨rfl, Below.refl _ _⟩
theorem tpick_nil (w : World) (r : Int) :
    Calls Tryz.prog 13 #[.pointer none, .int .i64 r] w fun e w' => e = .returned (.tuple #[.int .i64 0, .int .i64 2]) ∧ Below w.heap.size w w' := by
  go_enter Tryz.func13, Tryz.ntmps13
  go_wp2_with (go_at_call 18; refine (tlen_nil _).mono ?_; rintro e w1 ⟨rfl, rfl⟩)
  go_ret2
  exact ⟨rfl, Below.refl _ _⟩
theorem tpick_fresh (h : BlkOk w ⟨t, [.slice none 0 0], ty⟩) (r : Int) :
    Calls Tryz.prog 13 #[.pointer (some ⟨t, 0, none⟩), .int .i64 r] w fun e w' => e = .returned (.tuple #[.int .i64 0, .int .i64 2]) ∧ Below w.heap.size w w' := by
  have HL := Lib.hid (tlen_blk h)
  clear h
  go_enter Tryz.func13, Tryz.ntmps13
  go_wp2_with (go_at_call 18; refine HL.out.mono ?_; rintro e w1 ⟨rfl, rfl⟩)
  go_ret2
  exact ⟨rfl, Below.refl _ _⟩
/-- does a number pick that place? -/
theorem picked_ok (h : TbOk w t g ws) (hw : Wt ws) (hp : Pk ws r p) {z : Int} (hz : (p : Int) = z) :
    Calls Tryz.prog 29 #[.pointer (some ⟨t, 0, none⟩), .int .i64 r, .int .i64 z] w fun e w' => e = .returned (.bool true) ∧ Below w.heap.size w w' := by
  have HP := Lib.hid (tpick_ok h hw hp)
  rw [hz] at HP
  clear h hw hp hz
  go_enter Tryz.func29, Tryz.ntmps29
  go_wp2_with (go_at_call 13; refine HP.out.mono ?_; rintro e w1 ⟨rfl, hb1⟩)
  go_ret
  exact ⟨rfl, hb1⟩
end
end Go.Proofs.YtolfjhfmcgibbaaGreatDoor
