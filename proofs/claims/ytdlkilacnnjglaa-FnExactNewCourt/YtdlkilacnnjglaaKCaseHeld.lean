/-
  laws.heldCaseS finds what laws.markCaseS has written; nothing is written.
-/
import Derived.Test.YtdlkilacnnjglaaKCaseMark
namespace Go.Proofs.Ytdlkilacnnjglaa
open Go.RowKit

set_option maxHeartbeats 1000000 in
theorem heldCaseS_any (v : Value) (n : Nat) (k m : Int) (w : World) (hr : CaReads w v (camarks k n)) (hn : n ≤ 1048576) (h0 : 0 ≤ k) (h1 : k ≤ 1152921504606846975) (hm : m = k + (4 * n : Nat)) :
    Calls Try.prog 46 #[v, .int .i64 k] w fun e w' => e = .returned (.int .i64 m) ∧ w' = w := by
  subst hm
  obtain ⟨a, cap, rfl, hl, hx⟩ := hr
  rw [length_camarks] at hl hx ⊢
  rcases hx with hx | ⟨b, off, rfl, hc⟩
  · have hn : n = 0 := by have := length_camarks k n; rw [hx] at this; simpa using this.symm
    subst hn
    clear hx
    go_enter Try.func46, Try.ntmps46
    go_wp2
    go_rounds 1
    all_goals (go_ret; exact ⟨by simp, rfl⟩)
  have HC : Hid (∀ i, i < n → CaCells w b (off + i * 4) (k + (4 * i : Nat), b3 (k + (4 * i + 1 : Nat)), k + (4 * i + 2 : Nat), k + (4 * i + 3 : Nat))) := fun i hi => by have := hc i hi; rw [camarks_get k n i hi] at this; exact this
  clear hc
  go_enter Try.func46, Try.ntmps46
  go_wp2
  go_loopw [1, 5] (fun m i wr => ∃ j : Nat, j ≤ n ∧ i = .int .i64 j ∧ m = .int .i64 (k + (4 * j : Nat)) ∧ w = wr) (fun _ i _ => n - (intOf i).toNat)
  case atStart => exact ⟨0, Nat.zero_le _, rfl, by simp, rfl⟩
  case round =>
    obtain ⟨j, hj, rfl, rfl, rfl⟩ := hrel
    by_cases hlt : j < n
    · obtain ⟨c0, c1, c2, c3⟩ := HC.out j hlt
      have e1 : k + (4 * j + 1 : Nat) = k + (4 * j : Nat) + 1 := by omega
      simp only [e1] at c1
      clear e1
      have e2 : k + (4 * j + 2 : Nat) = k + (4 * j : Nat) + 1 + 1 := by omega
      simp only [e2] at c2
      clear e2
      have e3 : k + (4 * j + 3 : Nat) = k + (4 * j : Nat) + 1 + 1 + 1 := by omega
      simp only [e3] at c3
      clear e3
      replace c1 : _ = some (Value.bool ((k + (4 * j : Nat) + 1) % 3 == 0)) := c1
      have hq1 : (((k + (4 * j : Nat) + 1) % 3 == 0) != ((k + (4 * j : Nat) + 1) % 3 == 0)) = false := by simp
      go_wp2
      go_roundw
      case rel => exact ⟨j + 1, by omega, by go_num, by go_num, trivial⟩
      case measure => simp [intOf]; omega
    · obtain rfl : j = n := by omega
      go_wp2
      go_ret
      exact ⟨rfl, rfl⟩
end Go.Proofs.Ytdlkilacnnjglaa
