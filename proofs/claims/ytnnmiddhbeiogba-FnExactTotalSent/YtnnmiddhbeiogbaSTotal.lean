/-
  spec.TotalSent: all that was sent. Nothing old is written.
-/
import Derived.Test.YtnnmiddhbeiogbaTurnSums
import Derived.Test.YtnnmiddhbeiogbaSGoodT
import Derived.Test.YtnnmiddhbeiogbaSSum1
namespace Go.Proofs.Ytnnmiddhbeiogba
open Go.RowKit

set_option maxRecDepth 100000 in
set_option maxHeartbeats 4000000 in
theorem stotal_eq (v : Value) (D : TuD) (w : World) (hr : TuReads w v D) :
    Calls Try.prog 25 #[v] w fun e w' => e = .returned (.tuple #[.int .i64 (totV D), .bool (goodTu D)]) ∧ Below w.heap.size w w' := by
  have HR := hid hr
  obtain ⟨v0, v1, v2, v3, rfl, _, _, _, r3⟩ := hr
  have R3 := hid r3
  clear r3
  have PB := hid (boxL_new w [v0, v1, v2, v3, .int .i64 D.f4] 28)
  have BW : Hid (Below w.heap.size w (w.alloc (.cells #[v0, v1, v2, v3, .int .i64 D.f4] 28))) := (Below.refl _ _).alloc (Nat.le_refl _) _
  obtain ⟨q0, q1, q2, q3, q4⟩ := PB.out.five
  obtain ⟨t, ht⟩ : ∃ t, goodTu D = t := ⟨_, rfl⟩
  obtain ⟨s, hs⟩ : ∃ s, totV D = s := ⟨_, rfl⟩
  have HT := hid ht
  have HS := hid hs
  rw [ht, hs]
  clear ht hs
  go_enter Try.func25, Try.ntmps25
  go_wp2_with fail
  refine (sgoodT_eq _ D t HT.out _ (HR.out.below BW.out)).mono ?_
  rintro e w1 ⟨rfl, b1⟩
  have B1 : Hid (Below w.heap.size w w1) := BW.out.trans (b1.mono BW.out.size)
  have PB1 := hid (PB.out.below b1 PB.out.lt)
  clear b1 q0 q1 q2 q3 q4
  obtain ⟨q0, q1, q2, q3, q4⟩ := PB1.out.five
  cases t
  · have HV : Hid (s = 0) := by show _ = _; rw [← HS.out, totV, HT.out]; rfl
    go_wp2
    go_ret2
    exact ⟨by rw [HV.out]; rfl, B1.out⟩
  · have hg := goodT_of HT.out
    have HG := hid hg
    have HV : Hid (psum (fl D.f3) D.f3.length = s) := by show _ = _; rw [← HS.out, totV, HT.out]; rfl
    have hl : D.f3.length ≤ 4 := by rw [hg.l3]; exact hg.n.2
    clear hg
    go_wp2_with fail
    refine (l1Sum_eq _ D.f3 _ (R3.out.below B1.out) (fun k hk => by have := sent_inT HG.out k; omega) s HV.out).mono ?_
    rintro e w' ⟨rfl, hw⟩; obtain rfl := hw.symm
    go_wp2
    go_ret2
    exact ⟨rfl, B1.out⟩
end Go.Proofs.Ytnnmiddhbeiogba
