/-
  Turns in memory of their own, to whose queues one may append. Plain facts on the memory.
-/
import Derived.Test.YtnnmiddhbeiogbaKAppd
import Derived.Test.YtnnmiddhbeiogbaKTurnsRows
namespace Go.Proofs.Ytnnmiddhbeiogba
open Go.RowKit

def TuOwnA (S : Nat → Prop) (w : World) (v : Value) (D : TuD) : Prop := ∃ v0 v1 v2 v3 c0 c1 c2 c3 iv, v = .agg #[v0, v1, v2, v3, .int .i64 D.f4] ∧ Aset S (D.f1.length + 4) (tuIv c0 c1 c2 c3 iv) ∧ KOwn c0.1 c0.2 w v0 D.f0 ∧ QRow w c1 v1 D.f1 iv ∧ KOwn c2.1 c2.2 w v2 D.f2 ∧ KOwn c3.1 c3.2 w v3 D.f3 ∧ QAppd w v1 D.f1 iv
theorem TuOwnA.own {S : Nat → Prop} {w : World} {v : Value} {D : TuD} (h : TuOwnA S w v D) : TuOwn S w v D := by
  obtain ⟨v0, v1, v2, v3, c0, c1, c2, c3, iv, rfl, ha, h0, h1, h2, h3, _⟩ := h
  exact ⟨v0, v1, v2, v3, c0, c1, c2, c3, iv, rfl, ha, h0, h1, h2, h3⟩
end Go.Proofs.Ytnnmiddhbeiogba
