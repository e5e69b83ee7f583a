/-
  impl.inHeapOrder, impl.goodHeap: whether a list of work is a heap. Nothing old is written.
-/
import Derived.Test.YtndbdioignmaeaaIWork
namespace Go.Proofs.Ytndbdioignmaeaa
open Go.RowKit

set_option maxHeartbeats 2000000 in
theorem inHeapOrder_eq (v : Value) (xs : List WkEl) (n : Nat) (hn : xs.length = n) (t : Bool) (h : heapB xs = t) (w : World) (hr : WkReads w v xs) (hx : n ≤ 1048576) :
    Calls Try.prog 78 #[.int .i64 n, lessV v] w fun e w' => e = .returned (.bool t) ∧ Below w.heap.size w w' := by
  have HT := hid h
  have HR := hid hr
  have HN := hid hn
  clear h hr hn
  go_enter Try.func78, Try.ntmps78
  go_wp2
  go_loopw [5] (fun i wr => ∃ k : Nat, 0 < k ∧ (k ≤ n ∨ k = 1) ∧ i = .int .i64 k ∧ (∀ j, 0 < j → j < k → j < n → okW xs j = true) ∧ Below w.heap.size w wr) (fun i _ => n - (intOf i).toNat)
  case atStart => exact ⟨1, by omega, .inr rfl, rfl, fun j h1 h2 => by omega, Below.refl _ _⟩
  case round =>
    obtain ⟨k, hk0, hk, rfl, hall, hbel⟩ := hrel
    have HA := hid hall
    have HB := hid hbel
    clear hall hbel
    by_cases hlt : k < n
    · obtain ⟨m, hm⟩ : ∃ m, m = (k - 1) / 2 := ⟨_, rfl⟩
      have hmk : m < k := by omega
      have HMM := hid hm
      obtain ⟨b, hb⟩ : ∃ b, lessB (xs.getD k wz) (xs.getD m wz) = b := ⟨_, rfl⟩
      have HLS := hid hb
      have HO : Hid (okW xs k = !b) := by show _ = _; unfold okW; rw [← hb, ← hm]
      clear hm hb
      go_wp2_with fail
      refine (parent_any k m _ hk0 (by omega) HMM.out).mono ?_
      rintro e w' ⟨rfl, hw⟩; obtain rfl := hw.symm
      go_wp2_with fail
      refine (wless_eq v xs k m b HLS.out _ (HR.out.below HB.out) (by rw [HN.out]; exact hlt) (by rw [HN.out]; omega)).mono ?_
      rintro e w2 ⟨rfl, b2⟩
      have HB2 : Hid (Below w.heap.size w w2) := HB.out.trans (b2.mono HB.out.size)
      clear b2 HB
      cases b
      · go_wp2
        go_roundw
        case rel =>
          refine ⟨k + 1, by omega, .inl (by omega), by go_num, fun j h1 h2 h3 => ?_, HB2.out⟩
          by_cases e : j = k
          · subst e; rw [HO.out]; rfl
          · exact HA.out j h1 (by omega) h3
        case measure => simp [intOf]; omega
      · have hv : Hid (t = false) := by rw [← HT.out]; exact heapB_no hk0 (by rw [HN.out]; exact hlt) (by rw [HO.out]; rfl)
        go_wp2
        go_ret
        exact ⟨by rw [hv.out]; rfl, HB2.out⟩
    · have hv : Hid (t = true) := by rw [← HT.out]; exact (heapB_iff xs).2 fun j h1 h2 => HA.out j h1 (by rw [HN.out] at h2; omega) (by rw [HN.out] at h2; exact h2)
      go_wp2
      go_ret
      exact ⟨by rw [hv.out]; rfl, HB.out⟩

set_option maxHeartbeats 1000000 in
theorem igoodHeap_eq (v : Value) (xs : List WkEl) (t : Bool) (h : (goodW xs && heapB xs) = t) (w : World) (hr : WkReads w v xs) :
    Calls Try.prog 69 #[v] w fun e w' => e = .returned (.bool t) ∧ Below w.heap.size w w' := by
  have HT := hid h
  have HR := hid hr
  clear h
  cases hg : goodW xs with
  | false =>
    have hv : Hid (t = false) := by show _ = _; rw [← HT.out, hg]; rfl
    have HG := hid hg
    clear hr hg
    go_enter Try.func69, Try.ntmps69
    go_wp2_with fail
    refine (igoodWorks_eq v xs false HG.out _ HR.out).mono ?_
    rintro e w1 ⟨rfl, b1⟩
    have B1 := hid b1
    clear b1
    go_wp2
    go_ret
    exact ⟨by rw [hv.out]; rfl, B1.out⟩
  | true =>
    have hl := goodW_len hg
    have HT2 : Hid (heapB xs = t) := by have := HT.out; rw [hg, Bool.true_and] at this; exact this
    have HG := hid hg
    clear hg
    obtain ⟨a, cap, rfl, _, _⟩ := hr
    go_enter Try.func69, Try.ntmps69
    go_wp2_with fail
    refine (igoodWorks_eq _ xs true HG.out _ HR.out).mono ?_
    rintro e w1 ⟨rfl, b1⟩
    have B1 := hid b1
    clear b1
    go_wp2_with fail
    refine (inHeapOrder_eq _ xs xs.length rfl t HT2.out _ (HR.out.below B1.out) (by omega)).mono ?_
    rintro e w2 ⟨rfl, b2⟩
    have B2 : Hid (Below w.heap.size w w2) := B1.out.trans (b2.mono B1.out.size)
    clear b2 B1
    go_wp2
    go_ret
    exact ⟨rfl, B2.out⟩

end Go.Proofs.Ytndbdioignmaeaa
