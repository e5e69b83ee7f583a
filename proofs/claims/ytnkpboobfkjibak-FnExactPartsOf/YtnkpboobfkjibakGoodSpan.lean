/-
  impl.goodSpan: whether a span is as the document says; nothing old is written.
-/
import Derived.Test.YtnkpboobfkjibakSpans
namespace Go.Proofs.Ytnkpboobfkjibak
open Go.RowKit
set_option maxRecDepth 100000

theorem goodSpan_yes (p q : Int) (w : World) (h : spB (p, q) = true) : Calls Try.prog 76 #[.agg #[.int .i64 p, .int .i64 q]] w fun e w' => e = .returned (.bool true) ∧ Below w.heap.size w w' := by
  rw [spB_iff] at h
  simp only at h
  obtain ⟨h1, h2, h3⟩ := h
  go_enter Try.func76, Try.ntmps76
  go_wp2
  go_ret
  refine ⟨rfl, ?_⟩
  go_grown
theorem goodSpan_no (p q : Int) (w : World) (h : spB (p, q) = false) : Calls Try.prog 76 #[.agg #[.int .i64 p, .int .i64 q]] w fun e w' => e = .returned (.bool false) ∧ Below w.heap.size w w' := by
  have h' : ¬ (0 ≤ p ∧ p < q ∧ q ≤ 1000000) := fun hh => by rw [(spB_iff (p, q)).2 hh] at h; cases h
  clear h
  by_cases h1 : 0 ≤ p
  · by_cases h2 : p < q
    · have h3 : ¬ q ≤ 1000000 := by omega
      clear h'
      go_enter Try.func76, Try.ntmps76
      go_wp2
      go_ret
      refine ⟨rfl, ?_⟩
      go_grown
    · clear h'
      go_enter Try.func76, Try.ntmps76
      go_wp2
      go_ret
      refine ⟨rfl, ?_⟩
      go_grown
  · clear h'
    go_enter Try.func76, Try.ntmps76
    go_wp2
    go_ret
    refine ⟨rfl, ?_⟩
    go_grown

end Go.Proofs.Ytnkpboobfkjibak
