/-
  The builtins min and max of two numbers. Nothing is written.
-/
import Derived.Test.YthmkeinhjlmgmaiInts
namespace Go.Proofs.Ythmkeinhjlmgmai
open Go.RowKit

theorem min9_run (p q r : Int) (h : min p q = r) : ∀ (ts : Array TypeId) (ty : TypeId) (w : World), (Builtin.min_ ts ty #[.int .i64 p, .int .i64 q]).run Try.prog w = .ok (.int .i64 r) w := fun ts ty w => by
  have : (if q < p then q else p) = r := by split <;> omega
  simp [Builtin.min_, Builtin.min2, this]
theorem max9_run (p q r : Int) (h : max p q = r) : ∀ (ts : Array TypeId) (ty : TypeId) (w : World), (Builtin.max_ ts ty #[.int .i64 p, .int .i64 q]).run Try.prog w = .ok (.int .i64 r) w := fun ts ty w => by
  have : (if p < q then q else p) = r := by split <;> omega
  simp [Builtin.max_, Builtin.max2, this]
end Go.Proofs.Ythmkeinhjlmgmai
