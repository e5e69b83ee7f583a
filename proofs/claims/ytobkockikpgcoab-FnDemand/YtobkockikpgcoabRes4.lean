/-
  Four results. A plain fact on how a function hands back.
-/
import Derived.Test.YtobkockikpgcoabProg
import Derived.WalkKit
namespace Go.Proofs.Ytobkockikpgcoab

theorem results_tmp4 {fn : Func} {t u v x : Tmp} (h : fn.results = #[.tmp t, .tmp u, .tmp v, .tmp x]) (tmps : Array Value) (P : Program) (w : World) :
    (results fn tmps).run P w = .ok (.tuple #[tmps.getD t undef, tmps.getD u undef, tmps.getD v undef, tmps.getD x undef]) w := by
  simp [results, h]
end Go.Proofs.Ytobkockikpgcoab
