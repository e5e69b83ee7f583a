/-
  Nothing is appended to numbers: they lie as they lay. A plain fact on the memory.
-/
import Derived.Test.YtflhlinkolbbiaeKIntRows
import Derived.ArgAppend
import Derived.Deep.Upon
import Derived.Lib.SlFresh
import Derived.Lib.SliceRun
namespace Go.Proofs.Ytflhlinkolbbiae
open Go.RowKit

theorem knothing {w : World} {i0 : TypeInfo} (hi : Try.prog.info? 3 = some i0) (hsz : i0.size = 1) (ty : TypeId) (ao : Option Addr) (n c : Nat) (hle : n ≤ c) (a : Option Addr) (cy : Nat) :
    (Builtin.append_ #[48, 48] ty #[.slice ao n c, .slice a 0 cy]).run Try.prog w = .ok (.slice ao n c) w := by
  refine run_append_nothing _ _ _ _ _ i0 Try.underlying48 hi _ _ _ hle _ ?_
  rw [hsz]
  cases a with
  | none => exact Src.ofNil _ Try.underlying48 cy
  | some ad => exact Src.ofSlice _ Try.underlying48 ad 0 cy [] rfl (by intro j u h; simp at h) (by intro u h; simp at h)
end Go.Proofs.Ytflhlinkolbbiae
