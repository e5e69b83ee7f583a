/-
  impl.IsHeap: whether a list of work is a heap. Nothing old is written.
-/
import Derived.Test.YtndbdioignmaeaaIInHeap
namespace Go.Proofs.Ytndbdioignmaeaa
open Go.RowKit

set_option maxHeartbeats 1000000 in
theorem iIsHeap_any (v : Value) (xs : List WkEl) (w : World) (hr : WkReads w v xs) :
    Calls Try.prog 29 #[v] w fun e w' => e = .returned (.tuple #[.bool (goodW xs && heapB xs), .bool (goodW xs)]) ∧ Below w.heap.size w w' := by
  have HR := hid hr
  cases hg : goodW xs with
  | false =>
    go_enter Try.func29, Try.ntmps29
    go_wp2_with fail
    refine (igoodWorks_eq v xs false hg _ HR.out).mono ?_
    rintro e w1 ⟨rfl, b1⟩
    have B1 := hid b1
    clear b1
    go_wp2
    go_ret2
    exact ⟨rfl, B1.out⟩
  | true =>
    have hl := goodW_len hg
    obtain ⟨t, ht⟩ : ∃ t, heapB xs = t := ⟨_, rfl⟩
    have HT := hid ht
    rw [ht]
    clear ht
    obtain ⟨a, cap, rfl, _, _⟩ := hr
    go_enter Try.func29, Try.ntmps29
    go_wp2_with fail
    refine (igoodWorks_eq _ xs true hg _ HR.out).mono ?_
    rintro e w1 ⟨rfl, b1⟩
    have B1 := hid b1
    clear b1
    go_wp2_with fail
    refine (inHeapOrder_eq _ xs xs.length rfl t HT.out _ (HR.out.below B1.out) (by omega)).mono ?_
    rintro e w2 ⟨rfl, b2⟩
    have B2 : Hid (Below w.heap.size w w2) := B1.out.trans (b2.mono B1.out.size)
    clear b2 B1
    go_wp2
    go_ret2
    exact ⟨rfl, B2.out⟩

end Go.Proofs.Ytndbdioignmaeaa
