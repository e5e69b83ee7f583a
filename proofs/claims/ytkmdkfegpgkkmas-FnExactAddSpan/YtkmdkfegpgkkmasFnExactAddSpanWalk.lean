/-
  The law FnExactAddSpan answers true at every list of spans and every span.
-/
import Derived.Test.YtkmdkfegpgkkmasAddSpanLaw
import Derived.Test.YtkmdkfegpgkkmasKSpanConv
import Derived.Test.YtkmdkfegpgkkmasAddAny
namespace Go.Proofs.Ytkmdkfegpgkkmas
open Go.RowKit

theorem FnExactAddSpan_walk (a0 : Option Addr) (len0 cap0 : Nat) (xs0 : List Sp) (x1 : Sp) (w : World) (h0 : SpArg w a0 len0 cap0 xs0) :
    Calls Try.prog 4 #[.slice a0 len0 cap0, .agg #[.int .i64 x1.1, .int .i64 x1.2]] w fun e w' => e = .returned (.bool true) ∧ Below w.heap.size w w' :=
  FnExactAddSpan_law a0 len0 cap0 xs0 x1 w h0 (addY xs0 (x1.1, x1.2)) (Nat.le_trans (addY_le xs0 (x1.1, x1.2)) (by decide)) (addN xs0 (x1.1, x1.2)) (addOk xs0 (x1.1, x1.2))
    (fun v0 w r0 => (saddSpan_any v0 xs0 x1.1 x1.2 w r0.s).mono fun _ _ ⟨v, e, o, b⟩ => ⟨v, e, o.k, b⟩)
    (fun v0 w r0 => (iaddSpan_any v0 xs0 x1.1 x1.2 w r0.s).mono fun _ _ ⟨v, e, o, b⟩ => ⟨v, e, o.k, b⟩)
end Go.Proofs.Ytkmdkfegpgkkmas
