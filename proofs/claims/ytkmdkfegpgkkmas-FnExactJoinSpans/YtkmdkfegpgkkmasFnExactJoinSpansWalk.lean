/-
  The law FnExactJoinSpans answers true at every two lists of spans.
-/
import Derived.Test.YtkmdkfegpgkkmasJoinSpansLaw
import Derived.Test.YtkmdkfegpgkkmasKSpanConv
import Derived.Test.YtkmdkfegpgkkmasSWrap
import Derived.Test.YtkmdkfegpgkkmasIJoin
namespace Go.Proofs.Ytkmdkfegpgkkmas
open Go.RowKit

theorem joinY_len (xs ys : List Sp) : (joinY xs ys).length ≤ 1048576 := by
  unfold joinY
  split
  · have := tellY_len (joinL xs ys); omega
  · simp
theorem FnExactJoinSpans_walk (a0 : Option Addr) (len0 cap0 : Nat) (xs0 : List Sp) (a1 : Option Addr) (len1 cap1 : Nat) (xs1 : List Sp) (w : World) (h0 : SpArg w a0 len0 cap0 xs0) (h1 : SpArg w a1 len1 cap1 xs1) :
    Calls Try.prog 6 #[.slice a0 len0 cap0, .slice a1 len1 cap1] w fun e w' => e = .returned (.bool true) ∧ Below w.heap.size w w' :=
  FnExactJoinSpans_law a0 len0 cap0 xs0 a1 len1 cap1 xs1 w h0 h1 (joinY xs0 xs1) (joinY_len xs0 xs1) (joinB xs0 xs1)
    (fun v0 v1 w r0 r1 => (sJoin_any v0 v1 xs0 xs1 w r0.s r1.s).mono fun _ _ ⟨v, e, o, b⟩ => ⟨v, e, o.k, b⟩)
    (fun v0 v1 w r0 r1 => (ijoin_any v0 v1 xs0 xs1 w r0.s r1.s).mono fun _ _ ⟨v, e, o, b⟩ => ⟨v, e, o.k, b⟩)
end Go.Proofs.Ytkmdkfegpgkkmas
