/-
  spec.l2Tell, impl.ifNotTooMany: spans, where they are not too many; the world stays.
-/
import Derived.Test.YtkmdkfegpgkkmatSpans
namespace Go.Proofs.Ytkmdkfegpgkkmat
open Go.RowKit

theorem stell_yes (v : Value) (xs : List Sp) (w : World) (hr : SReads w v xs) (h : xs.length ≤ 20) : Calls Try.prog 20 #[v] w fun e w' => e = .returned (.tuple #[v, .bool true]) ∧ w' = w := by
  obtain ⟨a, cap, rfl, _, _⟩ := hr
  go_enter Try.func20, Try.ntmps20
  go_wp2
  go_ret2
  exact ⟨rfl, rfl⟩
theorem stell_no (v : Value) (xs : List Sp) (w : World) (hr : SReads w v xs) (h : ¬ xs.length ≤ 20) : Calls Try.prog 20 #[v] w fun e w' => e = .returned (.tuple #[.slice none 0 0, .bool false]) ∧ w' = w := by
  obtain ⟨a, cap, rfl, _, _⟩ := hr
  go_enter Try.func20, Try.ntmps20
  go_wp2
  go_ret2
  exact ⟨rfl, rfl⟩
theorem itell_yes (v : Value) (xs : List Sp) (w : World) (hr : SReads w v xs) (h : xs.length ≤ 20) : Calls Try.prog 24 #[v] w fun e w' => e = .returned (.tuple #[v, .bool true]) ∧ w' = w := by
  obtain ⟨a, cap, rfl, _, _⟩ := hr
  go_enter Try.func24, Try.ntmps24
  go_wp2
  go_ret2
  exact ⟨rfl, rfl⟩
theorem itell_no (v : Value) (xs : List Sp) (w : World) (hr : SReads w v xs) (h : ¬ xs.length ≤ 20) : Calls Try.prog 24 #[v] w fun e w' => e = .returned (.tuple #[.slice none 0 0, .bool false]) ∧ w' = w := by
  obtain ⟨a, cap, rfl, _, _⟩ := hr
  go_enter Try.func24, Try.ntmps24
  go_wp2
  go_ret2
  exact ⟨rfl, rfl⟩
end Go.Proofs.Ytkmdkfegpgkkmat
