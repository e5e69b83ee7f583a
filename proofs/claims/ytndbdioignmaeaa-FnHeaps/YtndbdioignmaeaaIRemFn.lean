/-
  impl.RemoveAt: a heap without the one at k, in memory of its own. Nothing old is written.
-/
import Derived.Test.YtndbdioignmaeaaIRemove
import Derived.Test.YtndbdioignmaeaaIInHeap
import Derived.Test.YtndbdioignmaeaaWClone
import Derived.Test.YtndbdioignmaeaaPushMath
namespace Go.Proofs.Ytndbdioignmaeaa
open Go.RowKit

theorem WkOwn.none {g n cap : Nat} {w : World} {xs : List WkEl} {lo hi : Nat} (h : WkOwn g (g + 1) w (.slice (some ⟨g, 0, none⟩) n cap) xs) (h1 : lo ≤ g) (h2 : g < hi) : WkOwn lo hi w (.slice (some ⟨g, 0, none⟩) n cap) xs := h.mono h1 (by omega)
set_option maxHeartbeats 2000000 in
theorem iRemoveAt_any (v : Value) (xs : List WkEl) (k : Int) (w : World) (hr : WkReads w v xs) :
    Calls Try.prog 34 #[v, .int .i64 k] w fun e w' => ∃ v', e = .returned (.tuple #[v', .bool (remB xs k)]) ∧ WkOwn w.heap.size w'.heap.size w' v' (remY xs k) ∧ Below w.heap.size w w' := by
  have HR := hid hr
  cases hg : (goodW xs && heapB xs) with
  | false =>
    have hv : Hid (remB xs k = false) := by show _ = _; unfold remB; rw [hg]; rfl
    rw [remY_no hv.out, hv.out]
    have HG := hid hg
    clear hr hg hv
    go_enter Try.func34, Try.ntmps34
    go_wp2_with fail
    refine (igoodHeap_eq v xs false HG.out _ HR.out).mono ?_
    rintro e w1 ⟨rfl, b1⟩
    have B1 := hid b1
    clear b1
    go_wp2
    go_ret2
    exact ⟨_, rfl, wkown_nil _ _ _ _ _, B1.out⟩
  | true =>
    have hg' := hg
    rw [Bool.and_eq_true] at hg'
    have hl := goodW_len hg'.1
    obtain ⟨a, cap, rfl, _, _⟩ := hr
    have HG := hid hg
    clear hg'
    by_cases hk : 0 ≤ k ∧ k < xs.length
    · have hv : Hid (remB xs k = true) := by show _ = _; unfold remB; rw [hg]; simp [hk]
      rw [remY_yes hv.out, hv.out]
      obtain ⟨k', rfl⟩ := Int.eq_ofNat_of_zero_le hk.1
      have hk2 : k' < xs.length := by omega
      have d1 : decide ((k' : Int) < 0) = false := by simp
      have d2 : decide ((xs.length : Int) ≤ (k' : Int)) = false := by simp; omega
      rw [Int.toNat_natCast]
      clear hk hg hv
      go_enter Try.func34, Try.ntmps34
      go_wp2_with fail
      refine (igoodHeap_eq _ xs true HG.out _ HR.out).mono ?_
      rintro e w1 ⟨rfl, b1⟩
      have B1 := hid b1
      clear b1
      go_wp2_with fail
      refine (wclone_any _ xs _ (HR.out.below B1.out) (by omega)).mono ?_
      rintro e w3 ⟨v3, rfl, b3, h3⟩
      have h0 : xs ≠ [] := by intro h; rw [h] at hk2; simp at hk2
      obtain ⟨_, h3⟩ := h3.resolve_left (fun h => h0 h.1)
      obtain ⟨g, c3, rfl, hgb, o3⟩ := WkOwn.nonempty h3 (by omega) h0 (Nat.le_refl _)
      have B3 : Hid (Below w.heap.size w w3) := B1.out.trans (b3.mono B1.out.size)
      have hs1 : w.heap.size ≤ w1.heap.size := B1.out.size
      obtain ⟨W, hW⟩ : ∃ W, W = w3.alloc (.cells #[.slice (some ⟨g, 0, none⟩) xs.length c3] 87) := ⟨_, rfl⟩
      have hcW : W.cell? ⟨w3.heap.size, 0, none⟩ = some (.slice (some ⟨g, 0, none⟩) xs.length c3) := by rw [hW]; simp
      have hfW : W.frozen? ⟨w3.heap.size, 0, none⟩ = false := by rw [hW]; simp
      have bW : Below w3.heap.size w3 W := by rw [hW]; exact (Below.refl _ _).alloc (Nat.le_refl _) _
      have RM := hid (remove_any w3.heap.size g xs.length (xs.length - 1) c3 k' xs W hcW hfW (by omega) (o3.below bW) rfl (by omega) hk2 (by omega))
      have BW : Hid (Below w.heap.size w W) := B3.out.trans (bW.mono B3.out.size)
      have hsW : w3.heap.size < W.heap.size := lt_of_cell hcW
      have HWW := hid hW
      clear b3 h3 o3 hW bW h0 B1 B3
      go_wp2_with fail
      rw [← HWW.out]
      refine RM.out.mono ?_
      rintro e w4 ⟨rfl, hc4, o4, b4, _⟩
      have B4 : Hid (Below w.heap.size w w4) := BW.out.trans (b4.to (by omega) (fun j hj h => by omega))
      have O4 := hid (o4.mono (lo' := w.heap.size) (hi' := w4.heap.size) (by omega) (by have := b4.size; omega))
      clear o4 b4
      go_wp2
      go_ret2
      exact ⟨_, rfl, O4.out, B4.out⟩
    · have hv : Hid (remB xs k = false) := by show _ = _; unfold remB; rw [hg]; simp; omega
      rw [remY_no hv.out, hv.out]
      clear hg hv
      by_cases hk0 : k < 0
      · have d1 : decide (k < 0) = true := by simpa using hk0
        go_enter Try.func34, Try.ntmps34
        go_wp2_with fail
        refine (igoodHeap_eq _ xs true HG.out _ HR.out).mono ?_
        rintro e w1 ⟨rfl, b1⟩
        have B1 := hid b1
        clear b1
        go_wp2
        go_ret2
        exact ⟨_, rfl, wkown_nil _ _ _ _ _, B1.out⟩
      · have d1 : decide (k < 0) = false := by simpa using hk0
        have d3 : (xs.length : Int) ≤ k := by omega
        have d2 : decide ((xs.length : Int) ≤ k) = true := by simpa using d3
        clear hk
        go_enter Try.func34, Try.ntmps34
        go_wp2_with fail
        refine (igoodHeap_eq _ xs true HG.out _ HR.out).mono ?_
        rintro e w1 ⟨rfl, b1⟩
        have B1 := hid b1
        clear b1
        go_wp2
        go_ret2
        exact ⟨_, rfl, wkown_nil _ _ _ _ _, B1.out⟩
end Go.Proofs.Ytndbdioignmaeaa
