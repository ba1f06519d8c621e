/- What the program's Len, Sum, Pick of layer 10 answer over this translation (and what they answer of nil, and of what nobody made). -/
import Derived.Test.YtfdpddlefobcpaaFreProg
namespace Go.Proofs.Ytfdpddlefobcpaa
open Go.RowKit Go.Shelf
set_option linter.unusedVariables false
set_option linter.unusedSimpArgs false
set_option maxRecDepth 20000
open N
section
variable {w : World} {t g n c : Nat} {A : Option Addr} {ws : List Int} {ty : TypeId} {r : Int} {p : Nat}
theorem tlen_blk (h : BlkOk w ⟨t, [.slice A n c], ty⟩) :
    Calls Try.prog 25 #[.pointer (some ⟨t, 0, none⟩)] w fun e w' => e = .returned (.int .i64 (n : Int)) ∧ w' = w := by
  have h0 := BlkOk.cell (k := 0) h rfl
  simp only at h0
  clear h
  go_enter Try.func25, Try.ntmps25
  go_wp2
  go_ret
  exact ⟨rfl, rfl⟩
theorem tlen_nil (w : World) :
    Calls Try.prog 25 #[.pointer none] w fun e w' => e = .returned (.int .i64 ((0 : Nat) : Int)) ∧ w' = w := by
  go_enter Try.func25, Try.ntmps25
  go_wp2
  go_ret
  exact ⟨rfl, rfl⟩
theorem tlen_any (h : TbOk w t g ws) :
    Calls Try.prog 25 #[.pointer (some ⟨t, 0, none⟩)] w fun e w' => e = .returned (.int .i64 (ws.length : Int)) ∧ w' = w := tlen_blk h.tb
theorem tend_z (w : World) (q : Option Addr) :
    Calls Try.prog 26 #[.pointer q, .int .i64 ((0 : Nat) : Int)] w fun e w' => e = .returned (.int .i64 0) ∧ w' = w := by
  go_enter Try.func26, Try.ntmps26
  go_wp2
  go_ret
  exact ⟨rfl, rfl⟩
theorem tend_any (h : TbOk w t g ws) {k : Nat} {v : Int} (hk : k ≤ ws.length) (hm : ws.length ≤ 64) (hv : pre ws k = v) :
    Calls Try.prog 26 #[.pointer (some ⟨t, 0, none⟩), .int .i64 (k : Int)] w fun e w' => e = .returned (.int .i64 v) ∧ w' = w := by
  cases k with
  | zero => rw [← hv, pre_zero]; exact tend_z w _
  | succ k =>
    have h0 : w.cell? ⟨t, 0, none⟩ = some (.slice (some ⟨g, 0, none⟩) ws.length ws.length) := BlkOk.cell (k := 0) h.tb rfl
    have hc := h.cell (k := k) (by omega)
    have hne : ¬ ((k + 1 : Nat) : Int) = 0 := by omega
    have hwr : IntKind.i64.wrap (((k + 1 : Nat) : Int) - 1) = (k : Int) := by rw [IntKind.wrap_i64]; omega
    obtain ⟨n, hn⟩ : ∃ n, ws.length = n := ⟨_, rfl⟩
    obtain ⟨m, hm1⟩ : ∃ m : Int, ((k + 1 : Nat) : Int) = m := ⟨_, rfl⟩
    rw [hn] at h0 hk
    rw [hv] at hc
    rw [hm1] at hne hwr ⊢
    have hlt : k < n := by omega
    clear hk hn h hm hv hm1
    go_enter Try.func26, Try.ntmps26
    go_wp2
    go_ret
    exact ⟨rfl, rfl⟩
theorem tsum_any (h : TbOk w t g ws) (hm : ws.length ≤ 64) {v : Int} (hv : pre ws ws.length = v) :
    Calls Try.prog 27 #[.pointer (some ⟨t, 0, none⟩)] w fun e w' => e = .returned (.int .i64 v) ∧ w' = w := by
  have HL := Lib.hid (tlen_any h)
  have HE := Lib.hid (tend_any h (Nat.le_refl _) hm hv)
  clear h hm hv
  go_enter Try.func27, Try.ntmps27
  go_wp2_with (first
    | (go_at_call 25; refine HL.out.mono ?_; rintro e w1 ⟨rfl, rfl⟩)
    | (go_at_call 26; refine HE.out.mono ?_; rintro e w1 ⟨rfl, rfl⟩))
  go_ret
  exact ⟨rfl, rfl⟩
theorem tsum_nil (w : World) :
    Calls Try.prog 27 #[.pointer none] w fun e w' => e = .returned (.int .i64 0) ∧ w' = w := by
  go_enter Try.func27, Try.ntmps27
  go_wp2_with (first
    | (go_at_call 25; refine (tlen_nil _).mono ?_; rintro e w1 ⟨rfl, rfl⟩)
    | (go_at_call 26; refine (tend_z _ _).mono ?_; rintro e w1 ⟨rfl, rfl⟩))
  go_ret
  exact ⟨rfl, rfl⟩
theorem tsum_fresh (h : BlkOk w ⟨t, [.slice none 0 0], ty⟩) :
    Calls Try.prog 27 #[.pointer (some ⟨t, 0, none⟩)] w fun e w' => e = .returned (.int .i64 0) ∧ w' = w := by
  have HL := Lib.hid (tlen_blk h)
  clear h
  go_enter Try.func27, Try.ntmps27
  go_wp2_with (first
    | (go_at_call 25; refine HL.out.mono ?_; rintro e w1 ⟨rfl, rfl⟩)
    | (go_at_call 26; refine (tend_z _ _).mono ?_; rintro e w1 ⟨rfl, rfl⟩))
  go_ret
  exact ⟨rfl, rfl⟩
end
end Go.Proofs.Ytfdpddlefobcpaa
