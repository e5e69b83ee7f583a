/-
  BothOpen, of both: whether both ends are open with the same numbers. Nothing old is written.
-/
import Derived.Test.YtgdclnejlhfhlanSGoodGr
namespace Go.Proofs.Ytgdclnejlhfhlan
open Go.RowKit

def bothV (D : GrD) : Bool := goodG D && bothB D
set_option maxRecDepth 100000 in
set_option maxHeartbeats 8000000 in
theorem sbothOp_any (v : Value) (D : GrD) (w : World) (hr : GrReads w v D) :
    Calls Try.prog 28 #[v] w fun e w' => e = .returned (.tuple #[.bool (bothV D), .bool (goodG D)]) ∧ Below w.heap.size w w' := by
  have HR := hid hr
  obtain ⟨v8, v9, v10, rfl, _, _, _⟩ := hr
  obtain ⟨t, ht⟩ : ∃ t, goodG D = t := ⟨_, rfl⟩
  obtain ⟨s0, h0⟩ : ∃ s, (D.f0 == 2) = s := ⟨_, rfl⟩
  obtain ⟨s1, h1⟩ : ∃ s, (D.f1 == 2) = s := ⟨_, rfl⟩
  obtain ⟨s2, h2⟩ : ∃ s, (D.f2 == D.f4) = s := ⟨_, rfl⟩
  obtain ⟨s3, h3⟩ : ∃ s, (D.f3 == D.f5) = s := ⟨_, rfl⟩
  have HV : Hid (bothV D = (t && (s0 && (s1 && (s2 && s3))))) := by show _ = _; rw [← ht, ← h0, ← h1, ← h2, ← h3]; rfl
  rw [HV.out, ht]
  have HC : Hid (∀ w', Below w.heap.size w w' → Calls Try.prog 10 #[.agg #[.int .i64 D.f0, .int .i64 D.f1, .int .i64 D.f2, .int .i64 D.f3, .int .i64 D.f4, .int .i64 D.f5, .int .i64 D.f6, .int .i64 D.f7, v8, v9, v10]] w' fun e w'' => e = .returned (.bool t) ∧ Below w'.heap.size w' w'') := fun w' hb => sgoodGr_eq _ D t ht w' (HR.out.below hb)
  clear HV ht HR
  obtain ⟨z0, z1, z2, z3, z4, z5, z6, z7, L8, L9, L10⟩ := D
  simp only at h0 h1 h2 h3 HC ⊢
  have PB := hid (boxL_new w [.int .i64 z0, .int .i64 z1, .int .i64 z2, .int .i64 z3, .int .i64 z4, .int .i64 z5, .int .i64 z6, .int .i64 z7, v8, v9, v10] 29)
  have BW : Hid (Below w.heap.size w (w.alloc (.cells #[.int .i64 z0, .int .i64 z1, .int .i64 z2, .int .i64 z3, .int .i64 z4, .int .i64 z5, .int .i64 z6, .int .i64 z7, v8, v9, v10] 29))) := (Below.refl _ _).alloc (Nat.le_refl _) _
  obtain ⟨q0, q1, q2, q3, q4, q5, q6, q7, q8, q9, q10⟩ := PB.out.eleven
  go_enter Try.func28, Try.ntmps28
  go_wp2_with fail
  refine (HC.out _ BW.out).mono ?_
  rintro e w1 ⟨rfl, b⟩
  replace BW := hid (BW.out.trans (b.mono BW.out.size))
  replace PB := hid (PB.out.below b PB.out.lt)
  clear b q0 q1 q2 q3 q4 q5 q6 q7 q8 q9 q10
  obtain ⟨q0, q1, q2, q3, q4, q5, q6, q7, q8, q9, q10⟩ := PB.out.eleven
  cases t
  · go_wp2
    go_ret2
    exact ⟨rfl, BW.out⟩
  cases s0
  · go_wp2
    go_ret2
    exact ⟨rfl, BW.out⟩
  cases s1
  · go_wp2
    go_ret2
    exact ⟨rfl, BW.out⟩
  cases s2
  · go_wp2
    go_ret2
    exact ⟨rfl, BW.out⟩
  go_wp2
  go_ret2
  exact ⟨by simp, BW.out⟩
end Go.Proofs.Ytgdclnejlhfhlan
