/-
  impl.goodWork: whether work is as the document says. Nothing old is written.
-/
import Derived.Test.YtndbdioignmaeaaILess
namespace Go.Proofs.Ytndbdioignmaeaa
open Go.RowKit

def min3 (p q r : Int) : Int := if r < (if q < p then q else p) then r else (if q < p then q else p)
def max3 (p q r : Int) : Int := if (if p < q then q else p) < r then r else (if p < q then q else p)
theorem wkB_mm (p q r : Int) : wkB (p, q, r) = (decide (0 ≤ min3 p q r) && decide (max3 p q r ≤ 1000000)) := by
  unfold wkB in6 min3 max3
  rw [Bool.eq_iff_iff]
  simp only [Bool.and_eq_true, decide_eq_true_eq]
  constructor
  · intro h
    refine ⟨?_, ?_⟩ <;> split <;> (try split) <;> omega
  · intro h
    obtain ⟨h1, h2⟩ := h
    split at h1 <;> split at h1 <;> split at h2 <;> split at h2 <;> omega
set_option maxHeartbeats 1000000 in
theorem igoodWork_eq (x : WkEl) (t : Bool) (h : wkB x = t) (w : World) : Calls Try.prog 70 #[.agg #[.int .i64 x.1, .int .i64 x.2.1, .int .i64 x.2.2]] w fun e w' => e = .returned (.bool t) ∧ Below w.heap.size w w' := by
  obtain ⟨p, q, r⟩ := x
  rw [wkB_mm] at h
  have hmin : ∀ (ts : Array TypeId) (ty : TypeId) (w : World), (Builtin.min_ ts ty #[.int .i64 p, .int .i64 q, .int .i64 r]).run Try.prog w = .ok (.int .i64 (min3 p q r)) w := fun ts ty w => by simp [Builtin.min_, Builtin.min2, min3]
  have hmax : ∀ (ts : Array TypeId) (ty : TypeId) (w : World), (Builtin.max_ ts ty #[.int .i64 p, .int .i64 q, .int .i64 r]).run Try.prog w = .ok (.int .i64 (max3 p q r)) w := fun ts ty w => by simp [Builtin.max_, Builtin.max2, max3]
  generalize min3 p q r = mn at h hmin
  generalize max3 p q r = mx at h hmax
  by_cases h1 : 0 ≤ mn
  · by_cases h2 : mx ≤ 1000000
    · have hv : Hid (t = true) := by show _ = _; rw [← h]; simp [h1, h2]
      clear h
      go_enter Try.func70, Try.ntmps70
      go_wp2
      go_ret
      exact ⟨by rw [hv.out]; rfl, by go_grown⟩
    · have hv : Hid (t = false) := by show _ = _; rw [← h]; simp [h2]
      clear h
      go_enter Try.func70, Try.ntmps70
      go_wp2
      go_ret
      exact ⟨by rw [hv.out]; rfl, by go_grown⟩
  · have hv : Hid (t = false) := by show _ = _; rw [← h]; simp [h1]
    clear h
    go_enter Try.func70, Try.ntmps70
    go_wp2
    go_ret
    exact ⟨by rw [hv.out]; rfl, by go_grown⟩

end Go.Proofs.Ytndbdioignmaeaa
