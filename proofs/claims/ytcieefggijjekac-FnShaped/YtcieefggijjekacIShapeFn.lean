/-
  impl.ShapeFlow: what a bucket lets go and what waits, in memory of their own. Nothing old is written.
-/
import Derived.Test.YtcieefggijjekacIShape
import Derived.Test.YtcieefggijjekacINewB
import Derived.Test.YtcieefggijjekacIFlow7
namespace Go.Proofs.Ytcieefggijjekac
open Go.RowKit

set_option maxHeartbeats 4000000 in
theorem ishapefn_no (r d : Int) (v : Value) (xs : List Int) (w : World) (hr : KReads w v xs) (hn : (rateB r d && flowB xs) = false) :
    Calls Try.prog 6 #[.int .i64 r, .int .i64 d, v] w fun e w' => ∃ u0 u1, e = .returned (.tuple #[u0, u1, .bool false]) ∧ KOwn w.heap.size w'.heap.size w' u0 [] ∧ KOwn w.heap.size w'.heap.size w' u1 [] ∧ Apart7 u0 u1 ∧ Below w.heap.size w w' := by
  have HR := hid hr
  obtain ⟨b, hb⟩ : ∃ b, rateB r d = b := ⟨_, rfl⟩
  have HF := hid hb
  have HN : Hid (b = true → flowB xs = false) := fun e => by rw [hb, e, Bool.true_and] at hn; exact hn
  clear hr hb hn
  cases b
  · go_enter Try.func6, Try.ntmps6
    go_wp2_with fail
    refine (inew_no r d HF.out _).mono ?_
    rintro e w1 ⟨rfl, b1⟩
    have B1 := hid b1
    clear b1
    go_wp2
    go_ret3
    exact ⟨_, _, rfl, kown_nil _ _ _ _ _, kown_nil _ _ _ _ _, fun g h => by simp [Value.ownBlock] at h, B1.out.alloc B1.out.size _⟩
  · have HW := hid (HN.out rfl)
    go_enter Try.func6, Try.ntmps6
    go_wp2_with fail
    refine (inew_yes r d HF.out _).mono ?_
    rintro e w1 ⟨rfl, b1⟩
    have B1 := hid b1
    clear b1
    go_wp2_with fail
    refine (iflow_eq _ xs false HW.out _ (HR.out.below (B1.out.alloc B1.out.size _))).mono ?_
    rintro e w' ⟨rfl, hw⟩; obtain rfl := hw.symm
    go_wp2
    go_ret3
    exact ⟨_, _, rfl, kown_nil _ _ _ _ _, kown_nil _ _ _ _ _, fun g h => by simp [Value.ownBlock] at h, B1.out.alloc B1.out.size _⟩
set_option maxHeartbeats 4000000 in
theorem ishapefn_yes (r d : Int) (v : Value) (xs : List Int) (w : World) (hr : KReads w v xs) (hb : rateB r d = true) (hf : flowB xs = true) :
    Calls Try.prog 6 #[.int .i64 r, .int .i64 d, v] w fun e w' => ∃ u0 u1, e = .returned (.tuple #[u0, u1, .bool true]) ∧ KOwn w.heap.size w'.heap.size w' u0 (goL (goes r d (fl xs)) xs.length) ∧ KOwn w.heap.size w'.heap.size w' u1 (goL (fun t => (sh r d (fl xs) (t + 1)).2) xs.length) ∧ Apart7 u0 u1 ∧ Below w.heap.size w w' := by
  have HR := hid hr
  have HF := hid hf
  have HRb := hid hb
  have hlen := flowB_len hf
  clear hr hf hb
  go_enter Try.func6, Try.ntmps6
  go_wp2_with fail
  refine (inew_yes r d HRb.out _).mono ?_
  rintro e w1 ⟨rfl, b1⟩
  have B1 := hid b1
  have hs1 := b1.size
  have HB1 : Hid (Below w.heap.size w (w1.alloc (.cells #[.int .i64 r, .int .i64 d, .int .i64 d] 33))) := b1.alloc hs1 _
  clear b1
  go_wp2_with fail
  refine (iflow_eq _ xs true HF.out _ (HR.out.below HB1.out)).mono ?_
  rintro e w' ⟨rfl, hw⟩; obtain rfl := hw.symm
  go_wp2_with fail
  refine (ishape_any (w1.heap.size + 1) (w1.heap.size + 2) r d _ xs w _ HR.out (HB1.out.alloc (by simp; omega) _) (by omega) (by omega) (by simp) HF.out HRb.out ⟨.slice none 0 0, .slice none 0 0, ⟨by simp, by simp, by simp⟩, ⟨by simp, by simp, by simp⟩, World.ownsRow_nil _ _ _ _, World.ownsRow_nil _ _ _ _, fun g h => by simp [Value.ownBlock] at h⟩ ⟨by simp, by simp, by simp⟩ ⟨by simp, by simp, by simp⟩).mono ?_
  rintro e w2 ⟨rfl, q2, b2⟩
  obtain ⟨vg, vw, ⟨c0, c1, c2⟩, _, hg, hw, ha⟩ := q2
  have OG := hid hg
  have OW := hid hw
  have AP := hid ha
  have B2 := hid b2
  clear hg hw ha b2 c0
  go_wp2_with fail
  go_big_region
  go_wp2
  go_ret3
  exact ⟨_, _, rfl, (KOwn.of_owns OG.out.drew (by rw [goL_len]; omega)).mono (by omega) (Nat.le_refl _), (KOwn.of_owns OW.out.drew (by rw [goL_len]; omega)).mono (by omega) (Nat.le_refl _), AP.out, B2.out.drew⟩
end Go.Proofs.Ytcieefggijjekac
