/-
  impl.PassThrough: what is served and what waits, in memory of their own. Nothing old is written.
-/
import Derived.Test.YtcieefggijjekacIServe
import Derived.Test.YtcieefggijjekacIFlow7
namespace Go.Proofs.Ytcieefggijjekac
open Go.RowKit

set_option maxHeartbeats 4000000 in
theorem ipassfn_no (v : Value) (xs : List Int) (s : Int) (w : World) (hr : KReads w v xs) (hn : passF xs s = false) :
    Calls Try.prog 24 #[v, .int .i64 s] w fun e w' => ∃ u0 u1, e = .returned (.tuple #[u0, u1, .bool false]) ∧ KOwn w.heap.size w'.heap.size w' u0 [] ∧ KOwn w.heap.size w'.heap.size w' u1 [] ∧ Apart7 u0 u1 ∧ Below w.heap.size w w' := by
  have HR := hid hr
  obtain ⟨b, hb⟩ : ∃ b, flowB xs = b := ⟨_, rfl⟩
  have HF := hid hb
  have HN : Hid (b = true → ¬ (1 ≤ s ∧ s ≤ 60)) := fun e => by
    unfold passF at hn
    rw [hb, e, Bool.true_and, decide_eq_false_iff_not] at hn
    exact hn
  clear hr hb hn
  go_enter Try.func24, Try.ntmps24
  go_wp2_with fail
  refine (iflow_eq _ xs b HF.out _ HR.out).mono ?_
  rintro e w' ⟨rfl, hw⟩; obtain rfl := hw.symm
  cases b
  · go_wp2
    go_ret3
    exact ⟨_, _, rfl, kown_nil _ _ _ _ _, kown_nil _ _ _ _ _, fun g h => by simp [Value.ownBlock] at h, Below.refl _ _⟩
  · have hn := HN.out rfl
    by_cases h1 : s < 1
    · have d1 : decide (s < 1) = true := by simpa using h1
      go_wp2
      go_ret3
      exact ⟨_, _, rfl, kown_nil _ _ _ _ _, kown_nil _ _ _ _ _, fun g h => by simp [Value.ownBlock] at h, Below.refl _ _⟩
    · have d1 : decide (s < 1) = false := by simpa using h1
      have d2 : decide (60 < s) = true := by rw [decide_eq_true_eq]; omega
      go_wp2
      go_ret3
      exact ⟨_, _, rfl, kown_nil _ _ _ _ _, kown_nil _ _ _ _ _, fun g h => by simp [Value.ownBlock] at h, Below.refl _ _⟩
set_option maxHeartbeats 4000000 in
theorem ipassfn_yes (v : Value) (xs : List Int) (s : Int) (w : World) (hr : KReads w v xs) (hf : flowB xs = true) (h1 : 1 ≤ s) (h2 : s ≤ 60) :
    Calls Try.prog 24 #[v, .int .i64 s] w fun e w' => ∃ u0 u1, e = .returned (.tuple #[u0, u1, .bool true]) ∧ KOwn w.heap.size w'.heap.size w' u0 (goL (pgo s (fl xs)) xs.length) ∧ KOwn w.heap.size w'.heap.size w' u1 (goL (fun t => pw s (fl xs) (t + 1)) xs.length) ∧ Apart7 u0 u1 ∧ Below w.heap.size w w' := by
  have HR := hid hr
  have HF := hid hf
  have hlen := flowB_len hf
  have d1 : decide (s < 1) = false := by rw [decide_eq_false_iff_not]; omega
  have d2 : decide (60 < s) = false := by rw [decide_eq_false_iff_not]; omega
  clear hr hf
  go_enter Try.func24, Try.ntmps24
  go_wp2_with fail
  refine (iflow_eq _ xs true HF.out _ HR.out).mono ?_
  rintro e w' ⟨rfl, hw⟩; obtain rfl := hw.symm
  go_wp2_with fail
  refine (iserve_any w.heap.size (w.heap.size + 1) s _ xs w _ HR.out ((Below.refl _ _).alloc (Nat.le_refl _) _) (Nat.le_refl _) (by omega) (by simp) HF.out h1 h2 ⟨.slice none 0 0, .slice none 0 0, ⟨by simp, by simp, by simp⟩, ⟨by simp, by simp, by simp⟩, World.ownsRow_nil _ _ _ _, World.ownsRow_nil _ _ _ _, fun g h => by simp [Value.ownBlock] at h⟩ (by simp)).mono ?_
  rintro e w1 ⟨rfl, q1, b1⟩
  obtain ⟨vg, vw, ⟨c0, c1, c2⟩, _, hg, hw, ha⟩ := q1
  have OG := hid hg
  have OW := hid hw
  have AP := hid ha
  have B1 := hid b1
  clear hg hw ha b1 c0
  go_wp2_with fail
  go_big_region
  go_wp2
  go_ret3
  exact ⟨_, _, rfl, (KOwn.of_owns OG.out.drew (by rw [goL_len]; omega)).mono (by omega) (Nat.le_refl _), (KOwn.of_owns OW.out.drew (by rw [goL_len]; omega)).mono (by omega) (Nat.le_refl _), AP.out, B1.out.drew⟩
end Go.Proofs.Ytcieefggijjekac
