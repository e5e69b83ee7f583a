/-
  spec.TickBucket, spec.TakeBucket: a bucket a tick on, and less what is taken. Nothing old is written.
-/
import Derived.Test.YtcieefggijjekacSGoodB
import Derived.Test.YtcieefggijjekacSTick
namespace Go.Proofs.Ytcieefggijjekac
open Go.RowKit

set_option maxHeartbeats 2000000 in
theorem stickfn_no (x : BkEl) (h : bktB x = false) (w : World) : Calls Try.prog 14 #[bkV x] w fun e w' => e = .returned (.tuple #[bkV (0, 0, 0), .bool false]) ∧ Below w.heap.size w w' := by
  obtain ⟨r, d, q⟩ := x
  have H := hid h
  clear h
  show Calls Try.prog 14 #[.agg #[.int .i64 r, .int .i64 d, .int .i64 q]] w _
  have hc := balloc3 (w.alloc (.cells #[.int .i64 r, .int .i64 d, .int .i64 q] 33)) (0, 0, 0)
  go_enter Try.func14, Try.ntmps14
  go_wp2_with fail
  refine (sgoodB_eq (r, d, q) false H.out _).mono ?_
  rintro e w1 ⟨rfl, b1⟩
  have B1 : Hid (Below w.heap.size w w1) := (((Below.refl _ _).alloc (Nat.le_refl _) _).alloc (by first | (simp; done) | (simp; omega)) _).trans (b1.mono (by first | (simp; done) | (simp; omega)))
  have HX := hid (hc.1.below b1 (by first | (simp; done) | (simp; omega)))
  have HF := hid (hc.2.below b1 (by first | (simp; done) | (simp; omega)))
  rw [World.size_alloc] at HX HF
  clear b1 hc
  obtain ⟨x0, x1, x2⟩ := HX.out
  obtain ⟨f0, f1, f2⟩ := HF.out
  go_wp2
  obtain ⟨e0, e1, e2⟩ := bput3_same HX.out (0, 0, 0)
  exact bodyPost_ret (v := .tuple #[.agg #[.int .i64 0, .int .i64 0, .int .i64 0], .bool false]) (by simp [results, Try.results14, go_sem, e0, e1, e2]) rfl ⟨rfl, bbelow_put3 B1.out (by omega) 0 (0, 0, 0)⟩
set_option maxHeartbeats 2000000 in
theorem stickfn_yes (x : BkEl) (h : bktB x = true) (w : World) : Calls Try.prog 14 #[bkV x] w fun e w' => e = .returned (.tuple #[bkV (tickK x), .bool true]) ∧ Below w.heap.size w w' := by
  have H := hid h
  obtain ⟨t0, t1, t2, hK⟩ : ∃ t0 t1 t2, tickK x = (t0, t1, t2) := ⟨_, _, _, rfl⟩
  have HK := hid hK
  rw [hK]
  obtain ⟨r, d, q⟩ := x
  clear h hK
  show Calls Try.prog 14 #[.agg #[.int .i64 r, .int .i64 d, .int .i64 q]] w fun e w' => e = .returned (.tuple #[.agg #[.int .i64 t0, .int .i64 t1, .int .i64 t2], .bool true]) ∧ Below w.heap.size w w'
  have hb0 := balloc3 w (r, d, q)
  have hc := balloc3 (w.alloc (.cells #[.int .i64 r, .int .i64 d, .int .i64 q] 33)) (0, 0, 0)
  go_enter Try.func14, Try.ntmps14
  go_wp2_with fail
  refine (sgoodB_eq (r, d, q) true H.out _).mono ?_
  rintro e w1 ⟨rfl, b1⟩
  have B1 : Hid (Below w.heap.size w w1) := (((Below.refl _ _).alloc (Nat.le_refl _) _).alloc (by first | (simp; done) | (simp; omega)) _).trans (b1.mono (by first | (simp; done) | (simp; omega)))
  have HX := hid (hc.1.below b1 (by first | (simp; done) | (simp; omega)))
  have HF := hid (hc.2.below b1 (by first | (simp; done) | (simp; omega)))
  have HY := hid ((hb0.1.below ((Below.refl (w.heap.size + 1) _).alloc (by first | (simp; done) | (simp; omega)) _) (by omega)).below b1 (by first | (simp; done) | (simp; omega)))
  rw [World.size_alloc] at HX HF
  have hs1 : w.heap.size + 2 ≤ w1.heap.size := by have := b1.size; simpa using this
  clear b1 hc hb0
  obtain ⟨y0, y1, y2⟩ := HY.out
  go_wp2_with fail
  refine (stick_any (r, d, q) H.out _).mono ?_
  rintro e w2 ⟨rfl, b2⟩
  rw [HK.out]
  have B2 : Hid (Below w.heap.size w w2) := B1.out.trans (b2.mono (by omega))
  have HX2 := hid (HX.out.below b2 (by omega))
  have HF2 := hid (HF.out.below b2 (by omega))
  clear b2
  obtain ⟨x0, x1, x2⟩ := HX2.out
  obtain ⟨f0, f1, f2⟩ := HF2.out
  go_wp2
  obtain ⟨e0, e1, e2⟩ := bput3_same HX2.out (t0, t1, t2)
  exact bodyPost_ret (v := .tuple #[.agg #[.int .i64 t0, .int .i64 t1, .int .i64 t2], .bool true]) (by simp [results, Try.results14, go_sem, e0, e1, e2]) rfl ⟨rfl, bbelow_put3 B2.out (by omega) 0 (t0, t1, t2)⟩
end Go.Proofs.Ytcieefggijjekac
