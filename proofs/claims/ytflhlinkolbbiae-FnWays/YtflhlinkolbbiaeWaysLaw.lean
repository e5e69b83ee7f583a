/-
  What FnWays asks of good ways: sums of counts, and no other counts sooner.
-/
import Derived.Test.YtflhlinkolbbiaeWyFns
import Derived.Test.YtflhlinkolbbiaeMaxTake
import Derived.Test.YtflhlinkolbbiaeSumOf
import Derived.Test.YtflhlinkolbbiaeCodeRow
namespace Go.Proofs.Ytflhlinkolbbiae
open Go.RowKit

theorem sumW_eq (v : Value) (ns : List Nat) (S : Nat) (hS : ns.sum = S) (w : World) (hr : KReads w v (ofN ns)) (hl : ns.length ≤ 4) (hs : ∀ k, k < ns.length → ns.getD k 0 ≤ 40) :
    Calls Try.prog 38 #[v] w fun e w' => e = .returned (.int .i64 (S : Nat)) ∧ w' = w := by
  refine (sumOf_any v (ofN ns) w hr (by rw [List.length_map]; omega) fun t => ?_).mono ?_
  · rw [show fl (ofN ns) t = (ofN ns).getD t 0 from rfl, ofN_atW]
    by_cases h : t < ns.length
    · have := hs t h; omega
    · rw [List.getD_eq_getElem?_getD, List.getElem?_eq_none (Nat.le_of_not_lt h)]; simp
  · rintro e w' ⟨rfl, hw⟩
    refine ⟨?_, hw⟩
    rw [psum_sum, sum_is, hS]
/-- As many letters: no later, and as many. -/
structure WayAsk (xs : List WyEl) (ns : List Nat) (S : Nat) : Prop where
  aa : aaB xs ((S : Nat) : Int) = true
  lc : lcB xs (ofN (arrP (arrW xs) xs.length S)) = true
  first : laN xs (arrP (arrW xs) xs.length S) ≤ laN xs ns
  sum : (arrP (arrW xs) xs.length S).sum = S
theorem way_ask {xs : List WyEl} {ns : List Nat} {S : Nat} (hw : wyB xs = true) (hc : Counts xs ns) (hS : ns.sum = S) (hs : S ≤ 40) : WayAsk xs ns S := by
  have hg := gways_of hw
  subst hS
  refine ⟨?_, counts_good hw (arr_counts hg hs), ?_, arrP_sum _ hg.len.1 _⟩
  · unfold aaB; rw [hw, Bool.true_and, decide_eq_true_eq]; omega
  · exact arr_first (arrW xs) (fun k x y h => arrW_mono xs k x y h) hg.len.1 hc.len
theorem lcB_wy {xs : List WyEl} {cs : List Int} (h : lcB xs cs = true) : wyB xs = true := by
  unfold lcB at h
  simp only [Bool.and_eq_true] at h
  exact h.1.1
theorem code_afterW {w w' : World} {v : Value} (h : CodeOk w.heap.size w v) (hb : Below w.heap.size w w') : CodeOk w'.heap.size w' v := by
  obtain ⟨a, len, cap, rfl, hl, hx⟩ := h.below hb
  refine ⟨a, len, cap, rfl, hl, ?_⟩
  rcases hx with hx | ⟨cb, off, rfl, hlt, hc⟩
  · exact .inl hx
  · exact .inr ⟨cb, off, rfl, Nat.lt_of_lt_of_le hlt hb.size, hc⟩
end Go.Proofs.Ytflhlinkolbbiae
