/-
  impl.NewBucket: a full bucket. Nothing old is written.
-/
import Derived.Test.YtcieefggijjekazIBkt
namespace Go.Proofs.Ytcieefggijjekaz
open Go.RowKit

set_option maxHeartbeats 4000000 in
theorem inew_any (r d : Int) (t : Bool) (h : rateB r d = t) (w : World) : Calls Try.prog 32 #[.int .i64 r, .int .i64 d] w fun e w' => e = .returned (.tuple #[bkV (bif t then (r, d, d) else (0, 0, 0)), .bool t]) ∧ Below w.heap.size w w' := by
  have H := hid (bktB_full h)
  clear h
  have hc := balloc3 w (0, 0, 0)
  have hb := balloc3 (w.alloc (.cells #[.int .i64 0, .int .i64 0, .int .i64 0] 24)) (r, d, d)
  go_enter Try.func32, Try.ntmps32
  go_wp2_with fail
  refine (igoodB_eq (r, d, d) t H.out _).mono ?_
  rintro e w1 ⟨rfl, b1⟩
  have B1 : Hid (Below w.heap.size w w1) := (((Below.refl _ _).alloc (Nat.le_refl _) _).alloc (by first | (simp; done) | (simp; omega)) _).trans (b1.mono (by first | (simp; done) | (simp; omega)))
  have HY := hid (hb.1.below b1 (by first | (simp; done) | (simp; omega)))
  have HX := hid ((hc.1.below ((Below.refl (w.heap.size + 1) _).alloc (by first | (simp; done) | (simp; omega)) _) (by omega)).below b1 (by first | (simp; done) | (simp; omega)))
  have HF := hid ((hc.2.below ((Below.refl (w.heap.size + 1) _).alloc (by first | (simp; done) | (simp; omega)) _) (by omega)).below b1 (by first | (simp; done) | (simp; omega)))
  rw [World.size_alloc] at HY
  clear b1 hc hb
  obtain ⟨x0, x1, x2⟩ := HX.out
  obtain ⟨f0, f1, f2⟩ := HF.out
  obtain ⟨y0, y1, y2⟩ := HY.out
  cases t
  · go_wp2
    obtain ⟨e0, e1, e2⟩ := bput3_same HX.out (0, 0, 0)
    exact bodyPost_ret (v := .tuple #[.agg #[.int .i64 0, .int .i64 0, .int .i64 0], .bool false]) (by simp [results, Try.results32, go_sem, e0, e1, e2]) rfl ⟨rfl, bbelow_put3 B1.out (by omega) 0 (0, 0, 0)⟩
  · go_wp2
    obtain ⟨e0, e1, e2⟩ := bput3_same HX.out (r, d, d)
    exact bodyPost_ret (v := .tuple #[.agg #[.int .i64 r, .int .i64 d, .int .i64 d], .bool true]) (by simp [results, Try.results32, go_sem, e0, e1, e2]) rfl ⟨rfl, bbelow_put3 B1.out (by omega) 0 (r, d, d)⟩
theorem inew_no (r d : Int) (h : rateB r d = false) (w : World) : Calls Try.prog 32 #[.int .i64 r, .int .i64 d] w fun e w' => e = .returned (.tuple #[bkV (0, 0, 0), .bool false]) ∧ Below w.heap.size w w' := inew_any r d false h w
theorem inew_yes (r d : Int) (h : rateB r d = true) (w : World) : Calls Try.prog 32 #[.int .i64 r, .int .i64 d] w fun e w' => e = .returned (.tuple #[bkV (r, d, d), .bool true]) ∧ Below w.heap.size w w' := inew_any r d true h w
end Go.Proofs.Ytcieefggijjekaz
