/-
  spec.TakeBucket: a bucket less what is taken. Nothing old is written.
-/
import Derived.Test.YtcieefggijjekazSGoodB
namespace Go.Proofs.Ytcieefggijjekaz
open Go.RowKit

def takeB (x : BkEl) (n : Int) : Bool := bktB x && decide (0 ≤ n ∧ n ≤ x.2.2)
set_option maxHeartbeats 4000000 in
theorem stakefn_no (x : BkEl) (n : Int) (h : takeB x n = false) (w : World) : Calls Try.prog 8 #[bkV x, .int .i64 n] w fun e w' => e = .returned (.tuple #[bkV (0, 0, 0), .bool false]) ∧ Below w.heap.size w w' := by
  obtain ⟨r, d, q⟩ := x
  obtain ⟨b, hb⟩ : ∃ b, bktB (r, d, q) = b := ⟨_, rfl⟩
  have H := hid hb
  have HN : Hid (b = true → decide (0 ≤ n ∧ n ≤ q) = false) := fun e => by
    have h' : (bktB (r, d, q) && decide (0 ≤ n ∧ n ≤ q)) = false := h
    rw [hb, e, Bool.true_and] at h'
    exact h'
  clear h hb
  show Calls Try.prog 8 #[.agg #[.int .i64 r, .int .i64 d, .int .i64 q], .int .i64 n] w _
  have hb0 := balloc3 w (r, d, q)
  have hc := balloc3 (w.alloc (.cells #[.int .i64 r, .int .i64 d, .int .i64 q] 24)) (0, 0, 0)
  go_enter Try.func8, Try.ntmps8
  go_wp2_with fail
  refine (sgoodB_eq (r, d, q) b H.out _).mono ?_
  rintro e w1 ⟨rfl, b1⟩
  have B1 : Hid (Below w.heap.size w w1) := (((Below.refl _ _).alloc (Nat.le_refl _) _).alloc (by first | (simp; done) | (simp; omega)) _).trans (b1.mono (by first | (simp; done) | (simp; omega)))
  have HX := hid (hc.1.below b1 (by first | (simp; done) | (simp; omega)))
  have HF := hid (hc.2.below b1 (by first | (simp; done) | (simp; omega)))
  have HY := hid ((hb0.1.below ((Below.refl (w.heap.size + 1) _).alloc (by first | (simp; done) | (simp; omega)) _) (by omega)).below b1 (by first | (simp; done) | (simp; omega)))
  rw [World.size_alloc] at HX HF
  clear b1 hc hb0
  obtain ⟨x0, x1, x2⟩ := HX.out
  obtain ⟨f0, f1, f2⟩ := HF.out
  obtain ⟨y0, y1, y2⟩ := HY.out
  cases b
  · go_wp2
    obtain ⟨e0, e1, e2⟩ := bput3_same HX.out (0, 0, 0)
    exact bodyPost_ret (v := .tuple #[.agg #[.int .i64 0, .int .i64 0, .int .i64 0], .bool false]) (by simp [results, Try.results8, go_sem, e0, e1, e2]) rfl ⟨rfl, bbelow_put3 B1.out (by omega) 0 (0, 0, 0)⟩
  · have HD := hid (HN.out rfl)
    go_wp2_with fail
    refine (l1In_eq n 0 q false HD.out _).mono ?_
    rintro e w' ⟨rfl, hw⟩; obtain rfl := hw.symm
    go_wp2
    obtain ⟨e0, e1, e2⟩ := bput3_same HX.out (0, 0, 0)
    exact bodyPost_ret (v := .tuple #[.agg #[.int .i64 0, .int .i64 0, .int .i64 0], .bool false]) (by simp [results, Try.results8, go_sem, e0, e1, e2]) rfl ⟨rfl, bbelow_put3 B1.out (by omega) 0 (0, 0, 0)⟩
set_option maxHeartbeats 4000000 in
theorem stakefn_yes (x : BkEl) (n : Int) (h : takeB x n = true) (w : World) : Calls Try.prog 8 #[bkV x, .int .i64 n] w fun e w' => e = .returned (.tuple #[bkV (x.1, x.2.1, x.2.2 - n), .bool true]) ∧ Below w.heap.size w w' := by
  obtain ⟨r, d, q⟩ := x
  have h' : (bktB (r, d, q) && decide (0 ≤ n ∧ n ≤ q)) = true := h
  rw [Bool.and_eq_true] at h'
  have H := hid h'.1
  have HD := hid h'.2
  have hn : 0 ≤ n ∧ n ≤ q := by simpa using h'.2
  have hq : q ≤ 60 := by
    have h2 : (rateB r d && decide (0 ≤ q ∧ q ≤ d)) = true := h'.1
    rw [Bool.and_eq_true, decide_eq_true_eq] at h2
    have := rateB_in h2.1
    omega
  have hw1 : IntKind.i64.wrap (q - n) = q - n := by rw [IntKind.wrap_i64]; omega
  clear h h'
  show Calls Try.prog 8 #[.agg #[.int .i64 r, .int .i64 d, .int .i64 q], .int .i64 n] w fun e w' => e = .returned (.tuple #[.agg #[.int .i64 r, .int .i64 d, .int .i64 (q - n)], .bool true]) ∧ Below w.heap.size w w'
  have hb0 := balloc3 w (r, d, q)
  have hc := balloc3 (w.alloc (.cells #[.int .i64 r, .int .i64 d, .int .i64 q] 24)) (0, 0, 0)
  go_enter Try.func8, Try.ntmps8
  go_wp2_with fail
  refine (sgoodB_eq (r, d, q) true H.out _).mono ?_
  rintro e w1 ⟨rfl, b1⟩
  have B1 : Hid (Below w.heap.size w w1) := (((Below.refl _ _).alloc (Nat.le_refl _) _).alloc (by first | (simp; done) | (simp; omega)) _).trans (b1.mono (by first | (simp; done) | (simp; omega)))
  have HX := hid (hc.1.below b1 (by first | (simp; done) | (simp; omega)))
  have HF := hid (hc.2.below b1 (by first | (simp; done) | (simp; omega)))
  have HY := hid ((hb0.1.below ((Below.refl (w.heap.size + 1) _).alloc (by first | (simp; done) | (simp; omega)) _) (by omega)).below b1 (by first | (simp; done) | (simp; omega)))
  have HYF := hid ((hb0.2.below ((Below.refl (w.heap.size + 1) _).alloc (by first | (simp; done) | (simp; omega)) _) (by omega)).below b1 (by first | (simp; done) | (simp; omega)))
  rw [World.size_alloc] at HX HF
  clear b1 hc hb0
  obtain ⟨x0, x1, x2⟩ := HX.out
  obtain ⟨f0, f1, f2⟩ := HF.out
  obtain ⟨y0, y1, y2⟩ := HY.out
  obtain ⟨k0, k1, k2⟩ := HYF.out
  go_wp2_with fail
  refine (l1In_eq n 0 q true HD.out _).mono ?_
  rintro e w' ⟨rfl, hw⟩; obtain rfl := hw.symm
  go_wp2
  have HX3 : BkCells (w1.setCell ⟨w.heap.size, 2, none⟩ (.int .i64 (q - n))) (w.heap.size + 1) 0 (0, 0, 0) := HX.out.of_block (Below.heap_setCell _ _ _ _ (by show w.heap.size + 1 ≠ w.heap.size; omega))
  obtain ⟨e0, e1, e2⟩ := bput3_same HX3 (r, d, q - n)
  exact bodyPost_ret (v := .tuple #[.agg #[.int .i64 r, .int .i64 d, .int .i64 (q - n)], .bool true]) (by simp [results, Try.results8, go_sem, e0, e1, e2]) rfl ⟨rfl, bbelow_put3 (B1.out.setCell (by show w.heap.size ≤ w.heap.size; exact Nat.le_refl _) _) (by omega) 0 (r, d, q - n)⟩
end Go.Proofs.Ytcieefggijjekaz
