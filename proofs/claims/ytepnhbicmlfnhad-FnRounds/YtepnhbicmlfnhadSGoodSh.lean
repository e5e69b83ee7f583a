/-
  spec.GoodShares: whether shares are as said. Nothing old is written.
  spec.l10Tell: shares told where they are good. Nothing old is written.
-/
import Derived.Test.YtepnhbicmlfnhadShMath
import Derived.Test.YtepnhbicmlfnhadSIn
import Derived.Test.YtepnhbicmlfnhadShBox
namespace Go.Proofs.Ytepnhbicmlfnhad
open Go.RowKit

set_option maxRecDepth 100000 in
set_option maxHeartbeats 4000000 in
theorem sgoodS_eq (v : Value) (D : ShD) (t : Bool) (h : goodS D = t) (w : World) (hr : ShReads w v D) :
    Calls Try.prog 29 #[v] w fun e w' => e = .returned (.bool t) ∧ Below w.heap.size w w' := by
  obtain ⟨v0, rfl, r0⟩ := hr
  have R0 := hid r0
  obtain ⟨a0, p0, rfl, l0, _⟩ := r0
  unfold goodS at h
  obtain ⟨z, hz⟩ : ∃ z, z = D.f1 := ⟨_, rfl⟩
  rw [← hz] at h ⊢
  have PB := hid (boxL_new w [.slice a0 D.f0.length p0, .int .i64 z] 25)
  obtain ⟨q0, q1⟩ := PB.out.two
  have BW : Hid (Below w.heap.size w (w.alloc (.cells #[.slice a0 D.f0.length p0, .int .i64 z] 25))) := (Below.refl _ _).alloc (Nat.le_refl _) _
  obtain ⟨b1, e1⟩ : ∃ b, decide (1 ≤ (D.f0.length : Int) ∧ (D.f0.length : Int) ≤ 5) = b := ⟨_, rfl⟩
  obtain ⟨b2, e2⟩ : ∃ b, (D.f0.all fun x => decide (1 ≤ x ∧ x ≤ 10000)) = b := ⟨_, rfl⟩
  obtain ⟨b3, e3⟩ : ∃ b, decide (1 ≤ z ∧ z ≤ 40000) = b := ⟨_, rfl⟩
  rw [e1, e2, e3] at h
  have HT := hid h
  have E1 := hid e1
  have E2 := hid e2
  have E3 := hid e3
  clear h e1 e2 e3 hz
  go_enter Try.func29, Try.ntmps29
  go_wp2_with fail
  refine (l1In_eq (D.f0.length : Int) 1 5 b1 E1.out _).mono ?_
  rintro e w' ⟨rfl, hw⟩; obtain rfl := hw.symm
  cases b1
  · have HV : Hid (t = false) := HT.out.symm
    go_wp2
    go_ret
    exact ⟨by rw [HV.out]; rfl, BW.out⟩
  go_wp2_with fail
  refine (l1All7_eq _ D.f0 1 10000 b2 E2.out _ (R0.out.below BW.out)).mono ?_
  rintro e w' ⟨rfl, hw⟩; obtain rfl := hw.symm
  cases b2
  · have HV : Hid (t = false) := HT.out.symm
    go_wp2
    go_ret
    exact ⟨by rw [HV.out]; rfl, BW.out⟩
  go_wp2_with fail
  refine (l1In_eq z 1 40000 b3 E3.out _).mono ?_
  rintro e w' ⟨rfl, hw⟩; obtain rfl := hw.symm
  have HV : Hid (t = b3) := HT.out.symm
  go_wp2
  go_ret
  exact ⟨by rw [HV.out]; rfl, BW.out⟩
end Go.Proofs.Ytepnhbicmlfnhad
namespace Go.Proofs.Ytepnhbicmlfnhad
open Go.RowKit

set_option maxRecDepth 100000 in
set_option maxHeartbeats 4000000 in
theorem stell_any (a : Option Addr) (n k : Nat) (z : Int) (D : ShD) (w : World) (hr : ShReads w (.agg #[.slice a n k, .int .i64 z]) D) (t : Bool) (ht : goodS D = t) :
    Calls Try.prog 30 #[.agg #[.slice a n k, .int .i64 z]] w fun e w' => ∃ a1 n1 k1 z1, e = .returned (.tuple #[.agg #[.slice a1 n1 k1, .int .i64 z1], .bool t]) ∧ ((t = true → a1 = a ∧ n1 = n ∧ k1 = k ∧ z1 = z) ∧ (t = false → a1 = none ∧ n1 = 0 ∧ k1 = 0 ∧ z1 = 0)) ∧ Below w.heap.size w w' := by
  have HR := hid hr
  have HT := hid ht
  have P := box_two w (.slice a n k) (.int .i64 z) (.slice none 0 0) (.int .i64 0) 25
  obtain ⟨W, hW⟩ : ∃ W, W = (w.alloc (.cells #[.slice a n k, .int .i64 z] 25)).alloc (.cells #[.slice none 0 0, .int .i64 0] 25) := ⟨_, rfl⟩
  obtain ⟨q0, q1⟩ := P.1.two
  rw [← hW] at P
  have PA := hid P.1
  have PR := hid P.2.1
  have B := hid P.2.2.1
  have HW := hid hW
  clear P hr ht hW
  go_enter Try.func30, Try.ntmps30
  go_wp2_with fail
  rw [← HW.out]
  clear q0 q1 HW
  refine (sgoodS_eq _ D t HT.out _ (HR.out.below B.out)).mono ?_
  rintro e w1 ⟨rfl, b1⟩
  have hs := B.out.size
  replace B := hid (B.out.trans (b1.mono B.out.size))
  replace PA := hid (PA.out.below b1 PA.out.lt)
  replace PR := hid (PR.out.below b1 PR.out.lt)
  clear b1
  obtain ⟨q0, q1⟩ := PA.out.two
  obtain ⟨⟨y0, f0⟩, y1, f1⟩ := PR.out.form2
  cases t
  · have HB := hid (B.out.trans (two_below w1 (.slice none 0 0) (.int .i64 0) (Nat.le_succ w.heap.size)))
    obtain ⟨t0, t1⟩ := (two_put PR.out (.slice none 0 0) (.int .i64 0)).two
    clear q0 q1
    go_wp2
    exact bodyPost_ret (v := .tuple #[.agg #[.slice none 0 0, .int .i64 0], .bool false]) (by simp [results, Try.results30, go_sem, t0, t1]) rfl ⟨_, _, _, _, rfl, (by simp), HB.out⟩
  · have HB := hid (B.out.trans (two_below w1 (.slice a n k) (.int .i64 z) (Nat.le_succ w.heap.size)))
    obtain ⟨t0, t1⟩ := (two_put PR.out (.slice a n k) (.int .i64 z)).two
    go_wp2
    exact bodyPost_ret (v := .tuple #[.agg #[.slice a n k, .int .i64 z], .bool true]) (by simp [results, Try.results30, go_sem, t0, t1]) rfl ⟨_, _, _, _, rfl, (by simp), HB.out⟩
end Go.Proofs.Ytepnhbicmlfnhad
