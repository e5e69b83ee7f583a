/-
  spec.DemandIn, impl.DemandIn: what a while demands, where it is one. Nothing old is written.
-/
import Derived.Test.YtobkockikpgcoabSJob
import Derived.Test.YtobkockikpgcoabIJob
import Derived.Test.YtobkockikpgcoabSDem
import Derived.Test.YtobkockikpgcoabIDem
namespace Go.Proofs.Ytobkockikpgcoab
open Go.RowKit

def whB (f t : Int) : Bool := decide (0 ≤ f ∧ f ≤ 24) && decide (f + 1 ≤ t ∧ t ≤ 24)
def demOk (xs : List JbEl) (f t : Int) : Bool := goodJ xs && whB f t
def demN (xs : List JbEl) (f t : Int) : Int := if demOk xs f t = true then dem f t xs else 0

set_option maxHeartbeats 1000000 in
theorem sdemandIn_any (v : Value) (xs : List JbEl) (f t : Int) (w : World) (hr : JbReads w v xs) :
    Calls Try.prog 10 #[v, .int .i64 f, .int .i64 t] w fun e w' => e = .returned (.tuple #[.int .i64 (demN xs f t), .bool (demOk xs f t)]) ∧ Below w.heap.size w w' := by
  have HR := hid hr
  clear hr
  cases hg : goodJ xs with
  | false =>
    have h1 : demOk xs f t = false := by simp [demOk, hg]
    have h2 : demN xs f t = 0 := by simp [demN, h1]
    rw [h1, h2]
    clear h1 h2
    go_enter Try.func10, Try.ntmps10
    go_wp2_with fail
    refine (sgoodJobs_eq v xs false hg _ HR.out).mono ?_
    rintro e w1 ⟨rfl, b1⟩
    have B1 := hid b1
    clear b1
    go_wp2
    go_ret2
    exact ⟨rfl, B1.out⟩
  | true =>
    by_cases h3 : 0 ≤ f ∧ f ≤ 24
    · have H3 : Hid (decide (0 ≤ f ∧ f ≤ 24) = true) := by show _ = _; simpa using h3
      have hw : IntKind.i64.wrap (f + 1) = f + 1 := by rw [IntKind.wrap_i64]; omega
      by_cases h4 : f + 1 ≤ t ∧ t ≤ 24
      · have H4 : Hid (decide (f + 1 ≤ t ∧ t ≤ 24) = true) := by show _ = _; simpa using h4
        have h1 : demOk xs f t = true := by simp only [demOk, hg, whB, H3.out, H4.out, Bool.and_self]
        have h2 : demN xs f t = dem f t xs := by simp [demN, h1]
        rw [h1, h2]
        clear h1 h2 h3 h4
        go_enter Try.func10, Try.ntmps10
        go_wp2_with fail
        refine (sgoodJobs_eq v xs true hg _ HR.out).mono ?_
        rintro e w1 ⟨rfl, b1⟩
        have B1 := hid b1
        clear b1
        go_wp2_with fail
        refine (l1In_eq f 0 24 true H3.out _).mono ?_
        rintro e w' ⟨rfl, hw⟩; obtain rfl := hw.symm
        go_wp2_with fail
        refine (l1In_eq t (f + 1) 24 true H4.out _).mono ?_
        rintro e w' ⟨rfl, hw⟩; obtain rfl := hw.symm
        go_wp2_with fail
        refine (l4Demand_eq v xs f t _ rfl hg _ (HR.out.below B1.out)).mono ?_
        rintro e w2 ⟨rfl, b2⟩
        have B2 : Hid (Below w.heap.size w w2) := B1.out.trans (b2.mono B1.out.size)
        clear b2
        go_wp2
        go_ret2
        exact ⟨rfl, B2.out⟩
      · have H4 : Hid (decide (f + 1 ≤ t ∧ t ≤ 24) = false) := by show _ = _; rw [decide_eq_false_iff_not]; exact h4
        have h1 : demOk xs f t = false := by simp only [demOk, hg, whB, H3.out, H4.out, Bool.and_false]
        have h2 : demN xs f t = 0 := by simp [demN, h1]
        rw [h1, h2]
        clear h1 h2 h3 h4
        go_enter Try.func10, Try.ntmps10
        go_wp2_with fail
        refine (sgoodJobs_eq v xs true hg _ HR.out).mono ?_
        rintro e w1 ⟨rfl, b1⟩
        have B1 := hid b1
        clear b1
        go_wp2_with fail
        refine (l1In_eq f 0 24 true H3.out _).mono ?_
        rintro e w' ⟨rfl, hw⟩; obtain rfl := hw.symm
        go_wp2_with fail
        refine (l1In_eq t (f + 1) 24 false H4.out _).mono ?_
        rintro e w' ⟨rfl, hw⟩; obtain rfl := hw.symm
        go_wp2
        go_ret2
        exact ⟨rfl, B1.out⟩
    · have H3 : Hid (decide (0 ≤ f ∧ f ≤ 24) = false) := by show _ = _; rw [decide_eq_false_iff_not]; exact h3
      have h1 : demOk xs f t = false := by simp only [demOk, hg, whB, H3.out, Bool.false_and, Bool.and_false]
      have h2 : demN xs f t = 0 := by simp [demN, h1]
      rw [h1, h2]
      clear h1 h2 h3
      go_enter Try.func10, Try.ntmps10
      go_wp2_with fail
      refine (sgoodJobs_eq v xs true hg _ HR.out).mono ?_
      rintro e w1 ⟨rfl, b1⟩
      have B1 := hid b1
      clear b1
      go_wp2_with fail
      refine (l1In_eq f 0 24 false H3.out _).mono ?_
      rintro e w' ⟨rfl, hw⟩; obtain rfl := hw.symm
      go_wp2
      go_ret2
      exact ⟨rfl, B1.out⟩

set_option maxHeartbeats 1000000 in
theorem idemandIn_any (v : Value) (xs : List JbEl) (f t : Int) (w : World) (hr : JbReads w v xs) :
    Calls Try.prog 8 #[v, .int .i64 f, .int .i64 t] w fun e w' => e = .returned (.tuple #[.int .i64 (demN xs f t), .bool (demOk xs f t)]) ∧ Below w.heap.size w w' := by
  have HR := hid hr
  clear hr
  cases hg : goodJ xs with
  | false =>
    have h1 : demOk xs f t = false := by simp [demOk, hg]
    have h2 : demN xs f t = 0 := by simp [demN, h1]
    rw [h1, h2]
    clear h1 h2
    go_enter Try.func8, Try.ntmps8
    go_wp2_with fail
    refine (igoodJobs_eq v xs false hg _ HR.out).mono ?_
    rintro e w1 ⟨rfl, b1⟩
    have B1 := hid b1
    clear b1
    go_wp2
    go_ret2
    exact ⟨rfl, B1.out⟩
  | true =>
    have no : ∀ h : demOk xs f t = false, Hid (demN xs f t = 0) := fun h => by show _ = _; simp [demN, h]
    by_cases h3 : f < 0
    · have h1 : demOk xs f t = false := by simp only [demOk, hg, whB, decide_eq_false (p := 0 ≤ f ∧ f ≤ 24) (by omega), Bool.false_and, Bool.and_false]
      rw [h1, (no h1).out]
      clear h1 no
      go_enter Try.func8, Try.ntmps8
      go_wp2_with fail
      refine (igoodJobs_eq v xs true hg _ HR.out).mono ?_
      rintro e w1 ⟨rfl, b1⟩
      have B1 := hid b1
      clear b1
      go_wp2
      go_ret2
      exact ⟨rfl, B1.out⟩
    by_cases h4 : t ≤ f
    · have h1 : demOk xs f t = false := by simp only [demOk, hg, whB, decide_eq_false (p := f + 1 ≤ t ∧ t ≤ 24) (by omega), Bool.and_false]
      rw [h1, (no h1).out]
      clear h1 no
      go_enter Try.func8, Try.ntmps8
      go_wp2_with fail
      refine (igoodJobs_eq v xs true hg _ HR.out).mono ?_
      rintro e w1 ⟨rfl, b1⟩
      have B1 := hid b1
      clear b1
      go_wp2
      go_ret2
      exact ⟨rfl, B1.out⟩
    by_cases h5 : 24 < t
    · have h1 : demOk xs f t = false := by simp only [demOk, hg, whB, decide_eq_false (p := f + 1 ≤ t ∧ t ≤ 24) (by omega), Bool.and_false]
      rw [h1, (no h1).out]
      clear h1 no
      go_enter Try.func8, Try.ntmps8
      go_wp2_with fail
      refine (igoodJobs_eq v xs true hg _ HR.out).mono ?_
      rintro e w1 ⟨rfl, b1⟩
      have B1 := hid b1
      clear b1
      go_wp2
      go_ret2
      exact ⟨rfl, B1.out⟩
    have h1 : demOk xs f t = true := by simp only [demOk, hg, whB, decide_eq_true (p := 0 ≤ f ∧ f ≤ 24) (by omega), decide_eq_true (p := f + 1 ≤ t ∧ t ≤ 24) (by omega), Bool.and_self]
    have h2 : demN xs f t = dem f t xs := by simp [demN, h1]
    rw [h1, h2]
    clear h1 h2 no
    go_enter Try.func8, Try.ntmps8
    go_wp2_with fail
    refine (igoodJobs_eq v xs true hg _ HR.out).mono ?_
    rintro e w1 ⟨rfl, b1⟩
    have B1 := hid b1
    clear b1
    go_wp2_with fail
    refine (idemand_eq v xs f t _ rfl hg _ (HR.out.below B1.out)).mono ?_
    rintro e w2 ⟨rfl, b2⟩
    have B2 : Hid (Below w.heap.size w w2) := B1.out.trans (b2.mono B1.out.size)
    clear b2
    go_wp2
    go_ret2
    exact ⟨rfl, B2.out⟩
end Go.Proofs.Ytobkockikpgcoab
