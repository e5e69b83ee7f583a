/-
  spec.l2Tell: spans, where they are not too many; the world stays.
-/
import Derived.Test.YthmkeinhjlmgmaiSpans
namespace Go.Proofs.Ythmkeinhjlmgmai
open Go.RowKit
set_option maxRecDepth 100000

theorem stell_yes (v : Value) (xs : List Sp) (w : World) (hr : SReads w v xs) (h : xs.length ≤ 20) : Calls Try.prog 32 #[v] w fun e w' => e = .returned (.tuple #[v, .bool true]) ∧ w' = w := by
  obtain ⟨a, cap, rfl, _, _⟩ := hr
  go_enter Try.func32, Try.ntmps32
  go_wp2
  go_ret2
  exact ⟨rfl, rfl⟩
theorem stell_no (v : Value) (xs : List Sp) (w : World) (hr : SReads w v xs) (h : ¬ xs.length ≤ 20) : Calls Try.prog 32 #[v] w fun e w' => e = .returned (.tuple #[.slice none 0 0, .bool false]) ∧ w' = w := by
  obtain ⟨a, cap, rfl, _, _⟩ := hr
  go_enter Try.func32, Try.ntmps32
  go_wp2
  go_ret2
  exact ⟨rfl, rfl⟩
end Go.Proofs.Ythmkeinhjlmgmai
