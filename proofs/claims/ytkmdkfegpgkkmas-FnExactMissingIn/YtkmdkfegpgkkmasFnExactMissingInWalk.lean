/-
  The law FnExactMissingIn answers true at every list of spans and every number.
-/
import Derived.Test.YtkmdkfegpgkkmasMissingInLaw
import Derived.Test.YtkmdkfegpgkkmasKSpanConv
import Derived.Test.YtkmdkfegpgkkmasMissAny
namespace Go.Proofs.Ytkmdkfegpgkkmas
open Go.RowKit

theorem missY_len (xs : List Sp) (u : Int) : (missY xs u).length ≤ 1048576 := by
  unfold missY
  split
  · have := tellY_len (missL xs u); omega
  · simp
theorem FnExactMissingIn_walk (a0 : Option Addr) (len0 cap0 : Nat) (xs0 : List Sp) (n1 : Int) (w : World) (h0 : SpArg w a0 len0 cap0 xs0) :
    Calls Try.prog 5 #[.slice a0 len0 cap0, .int .i64 n1] w fun e w' => e = .returned (.bool true) ∧ Below w.heap.size w w' :=
  FnExactMissingIn_law a0 len0 cap0 xs0 n1 w h0 (missY xs0 n1) (missY_len xs0 n1) (missB xs0 n1)
    (fun v0 w r0 => (smissIn_any v0 xs0 n1 w r0.s).mono fun _ _ ⟨v, e, o, b⟩ => ⟨v, e, o.k, b⟩)
    (fun v0 w r0 => (imissIn_any v0 xs0 n1 w r0.s).mono fun _ _ ⟨v, e, o, b⟩ => ⟨v, e, o.k, b⟩)
end Go.Proofs.Ytkmdkfegpgkkmas
