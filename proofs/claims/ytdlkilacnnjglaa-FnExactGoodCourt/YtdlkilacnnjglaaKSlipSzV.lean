/-
  laws.szSlipS: what is left of a bound behind a list's length. Nothing is written.
-/
import Derived.Test.YtdlkilacnnjglaaKSlipV
namespace Go.Proofs.Ytdlkilacnnjglaa
open Go.RowKit

set_option maxHeartbeats 2000000 in
theorem szSlipS_any (v : Value) (xs : List SlEl) (w : World) (h : SlArgV w v xs) (l : Int) (h0 : 0 ≤ l) (h1 : l ≤ 1048576) :
    Calls Try.prog 49 #[v, .int .i64 l] w fun e w' => ∃ r : Int, e = .returned (.int .i64 r) ∧ ((r = -1 ∨ r = l - (xs.length : Nat)) ∧ (0 ≤ r → (xs.length : Nat) ≤ l) ∧ -1 ≤ r ∧ r ≤ l) ∧ w' = w := by
  obtain ⟨a, cap, rfl, hm⟩ := h.form
  unfold maxLen at hm
  have hw : IntKind.i64.wrap (l - (xs.length : Int)) = l - xs.length := by rw [IntKind.wrap_i64]; omega
  clear h
  by_cases hl : l - (xs.length : Int) < 0
  · have hd : decide (l - (xs.length : Int) < 0) = true := by simpa using hl
    go_enter Try.func49, Try.ntmps49
    go_wp2
    go_ret
    exact ⟨-1, rfl, ⟨.inl rfl, by omega, by omega, by omega⟩, rfl⟩
  · have hd : decide (l - (xs.length : Int) < 0) = false := by simpa using hl
    go_enter Try.func49, Try.ntmps49
    go_wp2
    go_ret
    exact ⟨_, rfl, ⟨.inr rfl, by omega, by omega, by omega⟩, rfl⟩
end Go.Proofs.Ytdlkilacnnjglaa
