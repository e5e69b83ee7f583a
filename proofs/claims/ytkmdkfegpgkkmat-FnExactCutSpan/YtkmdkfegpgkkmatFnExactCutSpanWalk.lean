/-
  The law FnExactCutSpan answers true at every list of spans and every span.
-/
import Derived.Test.YtkmdkfegpgkkmatCutSpanLaw
import Derived.Test.YtkmdkfegpgkkmatKSpanConv
import Derived.Test.YtkmdkfegpgkkmatCutAny
namespace Go.Proofs.Ytkmdkfegpgkkmat
open Go.RowKit

theorem FnExactCutSpan_walk (a0 : Option Addr) (len0 cap0 : Nat) (xs0 : List Sp) (x1 : Sp) (w : World) (h0 : SpArg w a0 len0 cap0 xs0) :
    Calls Try.prog 4 #[.slice a0 len0 cap0, .agg #[.int .i64 x1.1, .int .i64 x1.2]] w fun e w' => e = .returned (.bool true) ∧ Below w.heap.size w w' :=
  FnExactCutSpan_law a0 len0 cap0 xs0 x1 w h0 (cutY xs0 (x1.1, x1.2)) (cutY_len xs0 (x1.1, x1.2)) (cutB xs0 (x1.1, x1.2))
    (fun v0 w r0 => (scut_any v0 xs0 x1.1 x1.2 w r0.s).mono fun _ _ ⟨v, e, o, b⟩ => ⟨v, e, o.k, b⟩)
    (fun v0 w r0 => (icut_any v0 xs0 x1.1 x1.2 w r0.s).mono fun _ _ ⟨v, e, o, b⟩ => ⟨v, e, o.k, b⟩)
end Go.Proofs.Ytkmdkfegpgkkmat
