/-
  laws.heldSlipS finds what laws.markSlipS has written; nothing is written.
-/
import Derived.Test.YtdlkilacnnjglaaKSlipMark
namespace Go.Proofs.Ytdlkilacnnjglaa
open Go.RowKit

set_option maxHeartbeats 1000000 in
theorem heldSlipS_any (v : Value) (n : Nat) (k m : Int) (w : World) (hr : SlReads w v (slmarks k n)) (hn : n ≤ 1048576) (h0 : 0 ≤ k) (h1 : k ≤ 1152921504606846975) (hm : m = k + (3 * n : Nat)) :
    Calls Try.prog 47 #[v, .int .i64 k] w fun e w' => e = .returned (.int .i64 m) ∧ w' = w := by
  subst hm
  obtain ⟨a, cap, rfl, hl, hx⟩ := hr
  rw [length_slmarks] at hl hx ⊢
  rcases hx with hx | ⟨b, off, rfl, hc⟩
  · have hn : n = 0 := by have := length_slmarks k n; rw [hx] at this; simpa using this.symm
    subst hn
    clear hx
    go_enter Try.func47, Try.ntmps47
    go_wp2
    go_rounds 1
    all_goals (go_ret; exact ⟨by simp, rfl⟩)
  have HC : Hid (∀ i, i < n → SlCells w b (off + i * 3) (k + (3 * i : Nat), k + (3 * i + 1 : Nat), k + (3 * i + 2 : Nat))) := fun i hi => by have := hc i hi; rw [slmarks_get k n i hi] at this; exact this
  clear hc
  go_enter Try.func47, Try.ntmps47
  go_wp2
  go_loopw [1, 5] (fun m i wr => ∃ j : Nat, j ≤ n ∧ i = .int .i64 j ∧ m = .int .i64 (k + (3 * j : Nat)) ∧ w = wr) (fun _ i _ => n - (intOf i).toNat)
  case atStart => exact ⟨0, Nat.zero_le _, rfl, by simp, rfl⟩
  case round =>
    obtain ⟨j, hj, rfl, rfl, rfl⟩ := hrel
    by_cases hlt : j < n
    · obtain ⟨c0, c1, c2⟩ := HC.out j hlt
      have e1 : k + (3 * j + 1 : Nat) = k + (3 * j : Nat) + 1 := by omega
      simp only [e1] at c1
      clear e1
      have e2 : k + (3 * j + 2 : Nat) = k + (3 * j : Nat) + 1 + 1 := by omega
      simp only [e2] at c2
      clear e2
      go_wp2
      go_roundw
      case rel => exact ⟨j + 1, by omega, by go_num, by go_num, trivial⟩
      case measure => simp [intOf]; omega
    · obtain rfl : j = n := by omega
      go_wp2
      go_ret
      exact ⟨rfl, rfl⟩
end Go.Proofs.Ytdlkilacnnjglaa
