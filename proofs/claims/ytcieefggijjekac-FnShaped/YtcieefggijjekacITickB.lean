/-
  impl.TickBucket: a bucket a tick on. Nothing old is written.
-/
import Derived.Test.YtcieefggijjekacIBkt
import Derived.Test.YtcieefggijjekacIFill
namespace Go.Proofs.Ytcieefggijjekac
open Go.RowKit

set_option maxHeartbeats 4000000 in
theorem itickfn_no (x : BkEl) (h : bktB x = false) (w : World) : Calls Try.prog 13 #[bkV x] w fun e w' => e = .returned (.tuple #[bkV (0, 0, 0), .bool false]) ∧ Below w.heap.size w w' := by
  obtain ⟨r, d, q⟩ := x
  have H := hid h
  clear h
  show Calls Try.prog 13 #[.agg #[.int .i64 r, .int .i64 d, .int .i64 q]] w _
  have hc := balloc3 (w.alloc (.cells #[.int .i64 r, .int .i64 d, .int .i64 q] 33)) (0, 0, 0)
  go_enter Try.func13, Try.ntmps13
  go_wp2_with fail
  refine (igoodB_eq (r, d, q) false H.out _).mono ?_
  rintro e w1 ⟨rfl, b1⟩
  have B1 : Hid (Below w.heap.size w w1) := (((Below.refl _ _).alloc (Nat.le_refl _) _).alloc (by first | (simp; done) | (simp; omega)) _).trans (b1.mono (by first | (simp; done) | (simp; omega)))
  have HX := hid (hc.1.below b1 (by first | (simp; done) | (simp; omega)))
  have HF := hid (hc.2.below b1 (by first | (simp; done) | (simp; omega)))
  rw [World.size_alloc] at HX HF
  clear b1 hc
  obtain ⟨x0, x1, x2⟩ := HX.out
  obtain ⟨f0, f1, f2⟩ := HF.out
  go_wp2
  obtain ⟨e0, e1, e2⟩ := bput3_same HX.out (0, 0, 0)
  exact bodyPost_ret (v := .tuple #[.agg #[.int .i64 0, .int .i64 0, .int .i64 0], .bool false]) (by simp [results, Try.results13, go_sem, e0, e1, e2]) rfl ⟨rfl, bbelow_put3 B1.out (by omega) 0 (0, 0, 0)⟩
set_option maxHeartbeats 4000000 in
theorem itickfn_yes (x : BkEl) (h : bktB x = true) (w : World) : Calls Try.prog 13 #[bkV x] w fun e w' => e = .returned (.tuple #[bkV (tickK x), .bool true]) ∧ Below w.heap.size w w' := by
  have H := hid h
  obtain ⟨r, d, q⟩ := x
  have hx : rateB r d = true ∧ (0 ≤ q ∧ q ≤ d) := by
    have : (rateB r d && decide (0 ≤ q ∧ q ≤ d)) = true := h
    rw [Bool.and_eq_true, decide_eq_true_eq] at this
    exact this
  have hrd := rateB_in hx.1
  have hq := hx.2
  obtain ⟨t2, ht⟩ : ∃ t2, lst7 d (q + r) = t2 := ⟨_, rfl⟩
  have HT := hid ht
  show Calls Try.prog 13 #[.agg #[.int .i64 r, .int .i64 d, .int .i64 q]] w fun e w' => e = .returned (.tuple #[.agg #[.int .i64 r, .int .i64 d, .int .i64 (lst7 d (q + r))], .bool true]) ∧ Below w.heap.size w w'
  rw [ht]
  clear h hx ht
  have hb0 := balloc3 w (r, d, q)
  have hc := balloc3 (w.alloc (.cells #[.int .i64 r, .int .i64 d, .int .i64 q] 33)) (0, 0, 0)
  go_enter Try.func13, Try.ntmps13
  go_wp2_with fail
  refine (igoodB_eq (r, d, q) true H.out _).mono ?_
  rintro e w1 ⟨rfl, b1⟩
  have B1 : Hid (Below w.heap.size w w1) := (((Below.refl _ _).alloc (Nat.le_refl _) _).alloc (by first | (simp; done) | (simp; omega)) _).trans (b1.mono (by first | (simp; done) | (simp; omega)))
  have HX := hid (hc.1.below b1 (by first | (simp; done) | (simp; omega)))
  have HF := hid (hc.2.below b1 (by first | (simp; done) | (simp; omega)))
  have HY := hid ((hb0.1.below ((Below.refl (w.heap.size + 1) _).alloc (by first | (simp; done) | (simp; omega)) _) (by omega)).below b1 (by first | (simp; done) | (simp; omega)))
  have HYF := hid ((hb0.2.below ((Below.refl (w.heap.size + 1) _).alloc (by first | (simp; done) | (simp; omega)) _) (by omega)).below b1 (by first | (simp; done) | (simp; omega)))
  rw [World.size_alloc] at HX HF
  have hs1 : w.heap.size + 2 ≤ w1.heap.size := by have := b1.size; simpa using this
  clear b1 hc hb0
  go_wp2_with fail
  refine (ifill_any w.heap.size 0 r d q t2 _ HY.out HYF.out (by omega) (by omega) HT.out).mono ?_
  rintro e w2 ⟨rfl, hc2, o2⟩
  have B2 : Hid (Below w.heap.size w w2) := B1.out.trans (o2.2.2.to (by omega) (fun j h e => by omega))
  have HX2 : Hid (BkCells w2 (w.heap.size + 1) 0 (0, 0, 0)) := HX.out.of_block (o2.2.2.2 _ (by omega) (by omega))
  have HF2 : Hid (BkFree w2 (w.heap.size + 1) 0) := HF.out.of_block (o2.2.2.2 _ (by omega) (by omega))
  have y0 : w2.cell? ⟨w.heap.size, 0, none⟩ = some (.int .i64 r) := (o2.1 0 (by omega)).trans HY.out.1
  have y1 : w2.cell? ⟨w.heap.size, 1, none⟩ = some (.int .i64 d) := (o2.1 1 (by omega)).trans HY.out.2.1
  have y2 : w2.cell? ⟨w.heap.size, 2, none⟩ = some (.int .i64 t2) := hc2
  clear hc2 o2
  obtain ⟨x0, x1, x2⟩ := HX2.out
  obtain ⟨f0, f1, f2⟩ := HF2.out
  go_wp2
  obtain ⟨e0, e1, e2⟩ := bput3_same HX2.out (r, d, t2)
  exact bodyPost_ret (v := .tuple #[.agg #[.int .i64 r, .int .i64 d, .int .i64 t2], .bool true]) (by simp [results, Try.results13, go_sem, e0, e1, e2]) rfl ⟨rfl, bbelow_put3 B2.out (by omega) 0 (r, d, t2)⟩
end Go.Proofs.Ytcieefggijjekac
