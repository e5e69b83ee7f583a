/-
  impl.TakeBucket: a bucket less what is taken. Nothing old is written.
-/
import Derived.Test.YtcieefggijjekazIBkt
import Derived.Test.YtcieefggijjekazITake1
import Derived.Test.YtcieefggijjekazDelFns
namespace Go.Proofs.Ytcieefggijjekaz
open Go.RowKit

set_option maxHeartbeats 4000000 in
theorem itakefn_no (x : BkEl) (n : Int) (h : takeF x n = false) (w : World) : Calls Try.prog 10 #[bkV x, .int .i64 n] w fun e w' => e = .returned (.tuple #[bkV (0, 0, 0), .bool false]) ∧ Below w.heap.size w w' := by
  obtain ⟨r, d, q⟩ := x
  obtain ⟨b, hb⟩ : ∃ b, bktB (r, d, q) = b := ⟨_, rfl⟩
  have H := hid hb
  have HN : Hid (b = true → ¬ (0 ≤ n ∧ n ≤ q)) := fun e => by
    have h' : (bktB (r, d, q) && decide (0 ≤ n ∧ n ≤ q)) = false := h
    rw [hb, e, Bool.true_and, decide_eq_false_iff_not] at h'
    exact h'
  clear h hb
  show Calls Try.prog 10 #[.agg #[.int .i64 r, .int .i64 d, .int .i64 q], .int .i64 n] w _
  have hb0 := balloc3 w (r, d, q)
  have hc := balloc3 (w.alloc (.cells #[.int .i64 r, .int .i64 d, .int .i64 q] 24)) (0, 0, 0)
  go_enter Try.func10, Try.ntmps10
  go_wp2_with fail
  refine (igoodB_eq (r, d, q) b H.out _).mono ?_
  rintro e w1 ⟨rfl, b1⟩
  have B1 : Hid (Below w.heap.size w w1) := (((Below.refl _ _).alloc (Nat.le_refl _) _).alloc (by first | (simp; done) | (simp; omega)) _).trans (b1.mono (by first | (simp; done) | (simp; omega)))
  have HX := hid (hc.1.below b1 (by first | (simp; done) | (simp; omega)))
  have HF := hid (hc.2.below b1 (by first | (simp; done) | (simp; omega)))
  have HY := hid ((hb0.1.below ((Below.refl (w.heap.size + 1) _).alloc (by first | (simp; done) | (simp; omega)) _) (by omega)).below b1 (by first | (simp; done) | (simp; omega)))
  rw [World.size_alloc] at HX HF
  clear b1 hc hb0
  obtain ⟨x0, x1, x2⟩ := HX.out
  obtain ⟨f0, f1, f2⟩ := HF.out
  obtain ⟨y0, y1, y2⟩ := HY.out
  have HE := hid (bput3_same HX.out (0, 0, 0))
  cases b
  · go_wp2
    obtain ⟨e0, e1, e2⟩ := HE.out
    exact bodyPost_ret (v := .tuple #[.agg #[.int .i64 0, .int .i64 0, .int .i64 0], .bool false]) (by simp [results, Try.results10, go_sem, e0, e1, e2]) rfl ⟨rfl, bbelow_put3 B1.out (by omega) 0 (0, 0, 0)⟩
  · have hd := HN.out rfl
    by_cases h0 : n < 0
    · have d0 : decide (n < 0) = true := by simpa using h0
      go_wp2
      obtain ⟨e0, e1, e2⟩ := HE.out
      exact bodyPost_ret (v := .tuple #[.agg #[.int .i64 0, .int .i64 0, .int .i64 0], .bool false]) (by simp [results, Try.results10, go_sem, e0, e1, e2]) rfl ⟨rfl, bbelow_put3 B1.out (by omega) 0 (0, 0, 0)⟩
    · have d0 : decide (n < 0) = false := by simpa using h0
      have d1 : decide (q < n) = true := by rw [decide_eq_true_eq]; omega
      go_wp2
      obtain ⟨e0, e1, e2⟩ := HE.out
      exact bodyPost_ret (v := .tuple #[.agg #[.int .i64 0, .int .i64 0, .int .i64 0], .bool false]) (by simp [results, Try.results10, go_sem, e0, e1, e2]) rfl ⟨rfl, bbelow_put3 B1.out (by omega) 0 (0, 0, 0)⟩
set_option maxHeartbeats 4000000 in
theorem itakefn_yes (x : BkEl) (n : Int) (h : takeF x n = true) (w : World) : Calls Try.prog 10 #[bkV x, .int .i64 n] w fun e w' => e = .returned (.tuple #[bkV (x.1, x.2.1, x.2.2 - n), .bool true]) ∧ Below w.heap.size w w' := by
  obtain ⟨r, d, q⟩ := x
  have h' : (bktB (r, d, q) && decide (0 ≤ n ∧ n ≤ q)) = true := h
  rw [Bool.and_eq_true] at h'
  have H := hid h'.1
  have hn : 0 ≤ n ∧ n ≤ q := by simpa using h'.2
  have hq : q ≤ 60 := by
    have h2 : (rateB r d && decide (0 ≤ q ∧ q ≤ d)) = true := h'.1
    rw [Bool.and_eq_true, decide_eq_true_eq] at h2
    have := rateB_in h2.1
    omega
  have d0 : decide (n < 0) = false := by rw [decide_eq_false_iff_not]; omega
  have d1 : decide (q < n) = false := by rw [decide_eq_false_iff_not]; omega
  obtain ⟨m, hm⟩ : ∃ m, q - n = m := ⟨_, rfl⟩
  have HM := hid hm
  show Calls Try.prog 10 #[.agg #[.int .i64 r, .int .i64 d, .int .i64 q], .int .i64 n] w fun e w' => e = .returned (.tuple #[.agg #[.int .i64 r, .int .i64 d, .int .i64 (q - n)], .bool true]) ∧ Below w.heap.size w w'
  rw [hm]
  clear h h' hm
  have hb0 := balloc3 w (r, d, q)
  have hc := balloc3 (w.alloc (.cells #[.int .i64 r, .int .i64 d, .int .i64 q] 24)) (0, 0, 0)
  go_enter Try.func10, Try.ntmps10
  go_wp2_with fail
  refine (igoodB_eq (r, d, q) true H.out _).mono ?_
  rintro e w1 ⟨rfl, b1⟩
  have B1 : Hid (Below w.heap.size w w1) := (((Below.refl _ _).alloc (Nat.le_refl _) _).alloc (by first | (simp; done) | (simp; omega)) _).trans (b1.mono (by first | (simp; done) | (simp; omega)))
  have HX := hid (hc.1.below b1 (by first | (simp; done) | (simp; omega)))
  have HF := hid (hc.2.below b1 (by first | (simp; done) | (simp; omega)))
  have HY := hid ((hb0.1.below ((Below.refl (w.heap.size + 1) _).alloc (by first | (simp; done) | (simp; omega)) _) (by omega)).below b1 (by first | (simp; done) | (simp; omega)))
  have HYF := hid ((hb0.2.below ((Below.refl (w.heap.size + 1) _).alloc (by first | (simp; done) | (simp; omega)) _) (by omega)).below b1 (by first | (simp; done) | (simp; omega)))
  rw [World.size_alloc] at HX HF
  have hs1 : w.heap.size + 2 ≤ w1.heap.size := by have := b1.size; simpa using this
  clear b1 hc hb0
  obtain ⟨y0, y1, y2⟩ := HY.out
  go_wp2_with fail
  refine (itake_any w.heap.size 0 r d q n _ HY.out HYF.out (by omega) (by omega)).mono ?_
  rintro e w2 ⟨rfl, hc2, o2⟩
  have B2 : Hid (Below w.heap.size w w2) := B1.out.trans (o2.2.2.to (by omega) (fun j h e => by omega))
  have HX2 : Hid (BkCells w2 (w.heap.size + 1) 0 (0, 0, 0)) := HX.out.of_block (o2.2.2.2 _ (by omega) (by omega))
  have HF2 : Hid (BkFree w2 (w.heap.size + 1) 0) := HF.out.of_block (o2.2.2.2 _ (by omega) (by omega))
  have z0 : w2.cell? ⟨w.heap.size, 0, none⟩ = some (.int .i64 r) := (o2.1 0 (by omega)).trans HY.out.1
  have z1 : w2.cell? ⟨w.heap.size, 1, none⟩ = some (.int .i64 d) := (o2.1 1 (by omega)).trans HY.out.2.1
  have z2 : w2.cell? ⟨w.heap.size, 2, none⟩ = some (.int .i64 m) := by rw [← HM.out]; exact hc2
  clear hc2 o2 y0 y1 y2
  obtain ⟨x0, x1, x2⟩ := HX2.out
  obtain ⟨f0, f1, f2⟩ := HF2.out
  go_wp2
  obtain ⟨e0, e1, e2⟩ := bput3_same HX2.out (r, d, m)
  exact bodyPost_ret (v := .tuple #[.agg #[.int .i64 r, .int .i64 d, .int .i64 m], .bool true]) (by simp [results, Try.results10, go_sem, e0, e1, e2]) rfl ⟨rfl, bbelow_put3 B2.out (by omega) 0 (r, d, m)⟩
end Go.Proofs.Ytcieefggijjekaz
