/-
  spec.l2Tell, impl.ifNotTooMany: spans, where they are not too many; the world stays.
-/
import Derived.Test.YtndbdioignmaeaaSpans
namespace Go.Proofs.Ytndbdioignmaeaa
open Go.RowKit
set_option maxRecDepth 100000

theorem stell_yes (v : Value) (xs : List Sp) (w : World) (hr : SReads w v xs) (h : xs.length ≤ 20) : Calls Try.prog 53 #[v] w fun e w' => e = .returned (.tuple #[v, .bool true]) ∧ w' = w := by
  obtain ⟨a, cap, rfl, _, _⟩ := hr
  go_enter Try.func53, Try.ntmps53
  go_wp2
  go_ret2
  exact ⟨rfl, rfl⟩
theorem stell_no (v : Value) (xs : List Sp) (w : World) (hr : SReads w v xs) (h : ¬ xs.length ≤ 20) : Calls Try.prog 53 #[v] w fun e w' => e = .returned (.tuple #[.slice none 0 0, .bool false]) ∧ w' = w := by
  obtain ⟨a, cap, rfl, _, _⟩ := hr
  go_enter Try.func53, Try.ntmps53
  go_wp2
  go_ret2
  exact ⟨rfl, rfl⟩
theorem itell_yes (v : Value) (xs : List Sp) (w : World) (hr : SReads w v xs) (h : xs.length ≤ 20) : Calls Try.prog 51 #[v] w fun e w' => e = .returned (.tuple #[v, .bool true]) ∧ w' = w := by
  obtain ⟨a, cap, rfl, _, _⟩ := hr
  go_enter Try.func51, Try.ntmps51
  go_wp2
  go_ret2
  exact ⟨rfl, rfl⟩
theorem itell_no (v : Value) (xs : List Sp) (w : World) (hr : SReads w v xs) (h : ¬ xs.length ≤ 20) : Calls Try.prog 51 #[v] w fun e w' => e = .returned (.tuple #[.slice none 0 0, .bool false]) ∧ w' = w := by
  obtain ⟨a, cap, rfl, _, _⟩ := hr
  go_enter Try.func51, Try.ntmps51
  go_wp2
  go_ret2
  exact ⟨rfl, rfl⟩
end Go.Proofs.Ytndbdioignmaeaa
