/-
  laws.numberOf: some number below 1000003. Nothing is written.
-/
import Derived.Test.YtijojdempijhbadCur
namespace Go.Proofs.Ytijojdempijhbad
open Go.RowKit
set_option maxRecDepth 100000

set_option maxHeartbeats 1000000 in
theorem numberOf_any (B : Nat) (v : Value) (w : World) (h : CodeOk B w v) :
    Calls Try.prog 62 #[v] w fun e w' => ∃ n : Nat, n < 1000003 ∧ e = .returned (.int .i64 n) ∧ w' = w := by
  obtain ⟨a, len, cap, rfl, hl, hx⟩ := h
  have HX := hid hx
  clear hx
  go_enter Try.func62, Try.ntmps62
  go_wp2
  go_loop [3, 8] (fun t i => ∃ k n : Nat, k ≤ len ∧ i = .int .i64 k ∧ n < 1000003 ∧ t = .int .i64 n) (fun _ i => len - (intOf i).toNat)
  case atStart => exact ⟨0, 0, Nat.zero_le _, rfl, by omega, rfl⟩
  case round =>
    obtain ⟨k, n, hk, rfl, hn, rfl⟩ := hrel
    by_cases hlt : k < len
    · obtain ⟨cb, off, rfl, _, hcs⟩ := HX.out.resolve_left (by omega)
      obtain ⟨x, hx, hc⟩ := hcs k hlt
      clear hcs
      go_wp2
      go_round
      case rel => exact ⟨k + 1, (31 * n + x) % 1000003, by omega, by go_num, Nat.mod_lt _ (by decide), by go_num⟩
      case measure => simp [intOf]; omega
    · go_wp2
      go_ret
      exact ⟨n, hn, rfl, rfl⟩
end Go.Proofs.Ytijojdempijhbad
