/-
  spec.DrawByRate: whatever tasks it draws, in memory of their own. Nothing old is written.
-/
import Derived.Test.YtmcmkobdkkibkabDrawAllT
namespace Go.Proofs.Ytmcmkobdkkibkab
open Go.RowKit

theorem drawRate_any (v : Value) (w : World) (h : CodeOk w.heap.size w v) :
    Calls Try.prog 53 #[v] w fun e w' => ∃ u, e = .returned u ∧ ∃ xs : List AgEl, xs.length ≤ 42 ∧ AgOwn w.heap.size w'.heap.size w' u xs ∧ Below w.heap.size w w' := by
  have H := hid h
  obtain ⟨a, len, cap, rfl, hlen, hx⟩ := h
  clear hlen hx
  go_enter Try.func53, Try.ntmps53
  go_wp2_with fail
  refine (drawGoodA_any _ _ H.out).mono ?_
  rintro e w1 ⟨u1, rfl, xs, hx, o1, b1⟩
  have O1 := hid o1; have B1 := hid b1
  clear o1 b1
  go_wp2
  go_ret
  exact ⟨_, rfl, xs, hx, O1.out, B1.out⟩
end Go.Proofs.Ytmcmkobdkkibkab
