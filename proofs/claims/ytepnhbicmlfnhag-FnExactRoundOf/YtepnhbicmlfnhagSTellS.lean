/-
  spec.l10Tell: shares told where they are good. Nothing old is written.
-/
import Derived.Test.YtepnhbicmlfnhagSGoodSh
import Derived.Test.YtepnhbicmlfnhagShBox
namespace Go.Proofs.Ytepnhbicmlfnhag
open Go.RowKit

set_option maxRecDepth 100000 in
set_option maxHeartbeats 4000000 in
theorem stell_any (a : Option Addr) (n k : Nat) (z : Int) (D : ShD) (w : World) (hr : ShReads w (.agg #[.slice a n k, .int .i64 z]) D) (t : Bool) (ht : goodS D = t) :
    Calls Try.prog 28 #[.agg #[.slice a n k, .int .i64 z]] w fun e w' => ∃ a1 n1 k1 z1, e = .returned (.tuple #[.agg #[.slice a1 n1 k1, .int .i64 z1], .bool t]) ∧ ((t = true → a1 = a ∧ n1 = n ∧ k1 = k ∧ z1 = z) ∧ (t = false → a1 = none ∧ n1 = 0 ∧ k1 = 0 ∧ z1 = 0)) ∧ Below w.heap.size w w' := by
  have HR := hid hr
  have HT := hid ht
  have P := box_two w (.slice a n k) (.int .i64 z) (.slice none 0 0) (.int .i64 0) 26
  obtain ⟨W, hW⟩ : ∃ W, W = (w.alloc (.cells #[.slice a n k, .int .i64 z] 26)).alloc (.cells #[.slice none 0 0, .int .i64 0] 26) := ⟨_, rfl⟩
  obtain ⟨q0, q1⟩ := P.1.two
  rw [← hW] at P
  have PA := hid P.1
  have PR := hid P.2.1
  have B := hid P.2.2.1
  have HW := hid hW
  clear P hr ht hW
  go_enter Try.func28, Try.ntmps28
  go_wp2_with fail
  rw [← HW.out]
  clear q0 q1 HW
  refine (sgoodS_eq _ D t HT.out _ (HR.out.below B.out)).mono ?_
  rintro e w1 ⟨rfl, b1⟩
  have hs := B.out.size
  replace B := hid (B.out.trans (b1.mono B.out.size))
  replace PA := hid (PA.out.below b1 PA.out.lt)
  replace PR := hid (PR.out.below b1 PR.out.lt)
  clear b1
  obtain ⟨q0, q1⟩ := PA.out.two
  obtain ⟨⟨y0, f0⟩, y1, f1⟩ := PR.out.form2
  cases t
  · have HB := hid (B.out.trans (two_below w1 (.slice none 0 0) (.int .i64 0) (Nat.le_succ w.heap.size)))
    obtain ⟨t0, t1⟩ := (two_put PR.out (.slice none 0 0) (.int .i64 0)).two
    clear q0 q1
    go_wp2
    exact bodyPost_ret (v := .tuple #[.agg #[.slice none 0 0, .int .i64 0], .bool false]) (by simp [results, Try.results28, go_sem, t0, t1]) rfl ⟨_, _, _, _, rfl, (by simp), HB.out⟩
  · have HB := hid (B.out.trans (two_below w1 (.slice a n k) (.int .i64 z) (Nat.le_succ w.heap.size)))
    obtain ⟨t0, t1⟩ := (two_put PR.out (.slice a n k) (.int .i64 z)).two
    go_wp2
    exact bodyPost_ret (v := .tuple #[.agg #[.slice a n k, .int .i64 z], .bool true]) (by simp [results, Try.results28, go_sem, t0, t1]) rfl ⟨_, _, _, _, rfl, (by simp), HB.out⟩
end Go.Proofs.Ytepnhbicmlfnhag
