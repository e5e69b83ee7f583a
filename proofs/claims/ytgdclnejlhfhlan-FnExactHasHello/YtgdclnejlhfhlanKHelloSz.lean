/-
  laws.szHelloS: what is left of a bound behind a list's length.
-/
import Derived.Test.YtgdclnejlhfhlanKHelloRows
namespace Go.Proofs.Ytgdclnejlhfhlan
open Go.RowKit

theorem szHelloS_at (left : Int) (a : Option Addr) (len cap : Nat) (w : World) (h0 : 0 ≤ left) (h1 : left ≤ 1048576) (hl : (len : Int) ≤ left) :
    Calls Try.prog 32 #[.slice a len cap, .int .i64 left] w fun e w' => e = .returned (.int .i64 (left - len)) ∧ w' = w := by
  have hw : IntKind.i64.wrap (left - (len : Int)) = left - len := by rw [IntKind.wrap_i64]; omega
  have hd : decide (left - (len : Int) < 0) = false := by simp; omega
  go_enter Try.func32, Try.ntmps32
  go_wp2
  go_ret
  exact ⟨rfl, rfl⟩
theorem szHelloS_over (left : Int) (a : Option Addr) (len cap : Nat) (w : World) (h0 : 0 ≤ left) (h1 : left ≤ 1048576) (hl : ¬ (len : Int) ≤ left) (hm : len ≤ maxLen) :
    Calls Try.prog 32 #[.slice a len cap, .int .i64 left] w fun e w' => e = .returned (.int .i64 (-1)) ∧ w' = w := by
  unfold maxLen at hm
  have hw : IntKind.i64.wrap (left - (len : Int)) = left - len := by rw [IntKind.wrap_i64]; omega
  have hd : decide (left - (len : Int) < 0) = true := by simp; omega
  go_enter Try.func32, Try.ntmps32
  go_wp2
  go_ret
  exact ⟨rfl, rfl⟩
end Go.Proofs.Ytgdclnejlhfhlan
