/-
  impl.RelationOf where one of the two is no span; nothing old is written.
-/
import Derived.Test.YtobkockikpgcoaaDoorGoodSpan
namespace Go.Proofs.YtobkockikpgcoaaDoor
open Go.RowKit

set_option maxHeartbeats 2000000 in
theorem irel_no (p q r s : Int) (w : World) (h : (spB (p, q) && spB (r, s)) = false) :
    Calls Tryd.prog 31 #[.agg #[.int .i64 p, .int .i64 q], .agg #[.int .i64 r, .int .i64 s]] w fun e w' => e = .returned (.tuple #[.int .i64 0, .bool false]) ∧ Below w.heap.size w w' := by
  cases ha : spB (p, q) with
  | false =>
    clear h
    go_enter Tryd.func31, Tryd.ntmps31
    go_wp2_with fail
    refine (goodSpan_no p q _ ha).mono ?_
    rintro e w1 ⟨rfl, b1⟩
    have B1 : Hid (Below w.heap.size w w1) := by
      show Below _ _ _
      refine Below.trans ?_ (b1.mono (by simp; omega))
      go_grown
    clear b1
    go_wp2
    go_ret2
    exact ⟨rfl, B1.out⟩
  | true =>
    have hb : spB (r, s) = false := by rw [ha, Bool.true_and] at h; exact h
    clear h
    go_enter Tryd.func31, Tryd.ntmps31
    go_wp2_with fail
    refine (goodSpan_yes p q _ ha).mono ?_
    rintro e w1 ⟨rfl, b1⟩
    have c0 := (b1.cell (p := ⟨w.heap.size, 0, none⟩) (by first | (simp; done) | (simp; omega))).trans (show _ = some (.int .i64 p) by simp)
    have c1 := (b1.cell (p := ⟨w.heap.size, 1, none⟩) (by first | (simp; done) | (simp; omega))).trans (show _ = some (.int .i64 q) by simp)
    have c2 := (b1.cell (p := ⟨w.heap.size + 1, 0, none⟩) (by first | (simp; done) | (simp; omega))).trans (show _ = some (.int .i64 r) by simp)
    have c3 := (b1.cell (p := ⟨w.heap.size + 1, 1, none⟩) (by first | (simp; done) | (simp; omega))).trans (show _ = some (.int .i64 s) by simp)
    have B1 : Hid (Below w.heap.size w w1) := by
      show Below _ _ _
      refine Below.trans ?_ (b1.mono (by simp; omega))
      go_grown
    clear b1
    go_wp2_with fail
    refine (goodSpan_no r s _ hb).mono ?_
    rintro e w2 ⟨rfl, b2⟩
    have B2 : Hid (Below w.heap.size w w2) := B1.out.trans (b2.mono B1.out.size)
    clear b2 c0 c1 c2 c3
    go_wp2
    go_ret2
    exact ⟨rfl, B2.out⟩
end Go.Proofs.YtobkockikpgcoaaDoor
