/-
  spec.l2Relation: in which way two spans stand; nothing old is written.
-/
import Derived.Test.YtobkockikpgcoaaDoorRelMath
import Derived.Test.YtobkockikpgcoaaDoorSpanGood
namespace Go.Proofs.YtobkockikpgcoaaDoor
open Go.RowKit

set_option maxHeartbeats 2000000 in
theorem way_any (p q r s : Int) (w : World) : Calls Tryd.prog 64 #[.agg #[.int .i64 p, .int .i64 q], .agg #[.int .i64 r, .int .i64 s]] w fun e w' => e = .returned (.int .i64 (way (p, q) (r, s))) ∧ Below w.heap.size w w' := by
  rcases (by omega : r < q ∨ q < r ∨ q = r) with c1 | c1 | c1
  · rcases (by omega : p = r ∨ r < p ∨ p < r) with c2 | c2 | c2
    · rcases (by omega : q = s ∨ q < s ∨ s < q) with c3 | c3 | c3
      · have hw : Hid (way (p, q) (r, s) = 3) := by
          show _ = _
          unfold way
          simp (disch := omega) only [if_pos, if_neg]
        subst c2
        subst c3
        go_enter Tryd.func64, Tryd.ntmps64
        go_wp2
        go_ret
        refine ⟨by rw [hw.out]; rfl, ?_⟩
        go_grown
      · have hw : Hid (way (p, q) (r, s) = 4) := by
          show _ = _
          unfold way
          simp (disch := omega) only [if_pos, if_neg]
        subst c2
        go_enter Tryd.func64, Tryd.ntmps64
        go_wp2
        go_ret
        refine ⟨by rw [hw.out]; rfl, ?_⟩
        go_grown
      · have hw : Hid (way (p, q) (r, s) = 0) := by
          show _ = _
          unfold way
          simp (disch := omega) only [if_pos, if_neg]
        subst c2
        go_enter Tryd.func64, Tryd.ntmps64
        go_wp2
        go_ret
        refine ⟨by rw [hw.out]; rfl, ?_⟩
        go_grown
    · rcases (by omega : q = s ∨ q < s ∨ s < q) with c3 | c3 | c3
      · have hw : Hid (way (p, q) (r, s) = 5) := by
          show _ = _
          unfold way
          simp (disch := omega) only [if_pos, if_neg]
        subst c3
        go_enter Tryd.func64, Tryd.ntmps64
        go_wp2
        go_ret
        refine ⟨by rw [hw.out]; rfl, ?_⟩
        go_grown
      · have hw : Hid (way (p, q) (r, s) = 6) := by
          show _ = _
          unfold way
          simp (disch := omega) only [if_pos, if_neg]
        go_enter Tryd.func64, Tryd.ntmps64
        go_wp2
        go_ret
        refine ⟨by rw [hw.out]; rfl, ?_⟩
        go_grown
      · have hw : Hid (way (p, q) (r, s) = 0) := by
          show _ = _
          unfold way
          simp (disch := omega) only [if_pos, if_neg]
        go_enter Tryd.func64, Tryd.ntmps64
        go_wp2
        go_ret
        refine ⟨by rw [hw.out]; rfl, ?_⟩
        go_grown
    · rcases (by omega : q = s ∨ q < s ∨ s < q) with c3 | c3 | c3
      · have hw : Hid (way (p, q) (r, s) = 0) := by
          show _ = _
          unfold way
          simp (disch := omega) only [if_pos, if_neg]
        subst c3
        go_enter Tryd.func64, Tryd.ntmps64
        go_wp2
        go_ret
        refine ⟨by rw [hw.out]; rfl, ?_⟩
        go_grown
      · have hw : Hid (way (p, q) (r, s) = 7) := by
          show _ = _
          unfold way
          simp (disch := omega) only [if_pos, if_neg]
        go_enter Tryd.func64, Tryd.ntmps64
        go_wp2
        go_ret
        refine ⟨by rw [hw.out]; rfl, ?_⟩
        go_grown
      · have hw : Hid (way (p, q) (r, s) = 0) := by
          show _ = _
          unfold way
          simp (disch := omega) only [if_pos, if_neg]
        go_enter Tryd.func64, Tryd.ntmps64
        go_wp2
        go_ret
        refine ⟨by rw [hw.out]; rfl, ?_⟩
        go_grown
  · have hw : Hid (way (p, q) (r, s) = 1) := by
      show _ = _
      unfold way
      simp (disch := omega) only [if_pos]
    go_enter Tryd.func64, Tryd.ntmps64
    go_wp2
    go_ret
    refine ⟨by rw [hw.out]; rfl, ?_⟩
    go_grown
  · have hw : Hid (way (p, q) (r, s) = 2) := by
      show _ = _
      unfold way
      simp (disch := omega) only [if_pos, if_neg]
    subst c1
    go_enter Tryd.func64, Tryd.ntmps64
    go_wp2
    go_ret
    refine ⟨by rw [hw.out]; rfl, ?_⟩
    go_grown

end Go.Proofs.YtobkockikpgcoaaDoor
