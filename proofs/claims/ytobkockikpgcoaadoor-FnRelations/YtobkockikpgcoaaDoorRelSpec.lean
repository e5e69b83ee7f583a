/-
  spec.RelationOf: in which way two spans stand; nothing old is written.
-/
import Derived.Test.YtobkockikpgcoaaDoorRelWay
namespace Go.Proofs.YtobkockikpgcoaaDoor
open Go.RowKit

set_option maxHeartbeats 2000000 in
theorem srel_yes (p q r s : Int) (w : World) (ha : spB (p, q) = true) (hb : spB (r, s) = true) :
    Calls Tryd.prog 32 #[.agg #[.int .i64 p, .int .i64 q], .agg #[.int .i64 r, .int .i64 s]] w fun e w' => e = .returned (.tuple #[.int .i64 (ways (p, q) (r, s)), .bool true]) ∧ Below w.heap.size w w' := by
  have hwb := way_bounds (p, q) (r, s)
  have hwb2 := way_bounds (r, s) (p, q)
  obtain ⟨u, hu⟩ : ∃ u, u = way (p, q) (r, s) := ⟨_, rfl⟩
  obtain ⟨t, ht⟩ : ∃ t, t = way (r, s) (p, q) := ⟨_, rfl⟩
  have HW : Hid (ways (p, q) (r, s) = if 0 < u then u else if t < 3 then 7 + t else 6 + t) := by
    show _ = _
    rw [hu, ht]
    rfl
  rw [← hu] at hwb
  rw [← ht] at hwb2
  have HU := hid hu
  have HT := hid ht
  clear hu ht
  go_enter Tryd.func32, Tryd.ntmps32
  go_wp2_with fail
  refine (l2Span_yes p q _ ha).mono ?_
  rintro e w1 ⟨rfl, b1⟩
  have c0 := (b1.cell (p := ⟨w.heap.size, 0, none⟩) (by first | (simp; done) | (simp; omega))).trans (show _ = some (.int .i64 p) by simp)
  have c1 := (b1.cell (p := ⟨w.heap.size, 1, none⟩) (by first | (simp; done) | (simp; omega))).trans (show _ = some (.int .i64 q) by simp)
  have c2 := (b1.cell (p := ⟨w.heap.size + 1, 0, none⟩) (by first | (simp; done) | (simp; omega))).trans (show _ = some (.int .i64 r) by simp)
  have c3 := (b1.cell (p := ⟨w.heap.size + 1, 1, none⟩) (by first | (simp; done) | (simp; omega))).trans (show _ = some (.int .i64 s) by simp)
  have B1 : Hid (Below w.heap.size w w1) := by
    show Below _ _ _
    refine Below.trans ?_ (b1.mono (by simp; omega))
    go_grown
  clear b1
  go_wp2_with fail
  refine (l2Span_yes r s _ hb).mono ?_
  rintro e w2 ⟨rfl, b2⟩
  have d0 := (b2.cell (p := ⟨w.heap.size, 0, none⟩) (lt_of_cell c0)).trans c0
  have d1 := (b2.cell (p := ⟨w.heap.size, 1, none⟩) (lt_of_cell c1)).trans c1
  have d2 := (b2.cell (p := ⟨w.heap.size + 1, 0, none⟩) (lt_of_cell c2)).trans c2
  have d3 := (b2.cell (p := ⟨w.heap.size + 1, 1, none⟩) (lt_of_cell c3)).trans c3
  have B2 : Hid (Below w.heap.size w w2) := B1.out.trans (b2.mono B1.out.size)
  clear b2 c0 c1 c2 c3
  go_wp2_with fail
  refine (way_any p q r s _).mono ?_
  rintro e w3 ⟨rfl, b3⟩
  have e0 := (b3.cell (p := ⟨w.heap.size, 0, none⟩) (lt_of_cell d0)).trans d0
  have e1 := (b3.cell (p := ⟨w.heap.size, 1, none⟩) (lt_of_cell d1)).trans d1
  have e2 := (b3.cell (p := ⟨w.heap.size + 1, 0, none⟩) (lt_of_cell d2)).trans d2
  have e3 := (b3.cell (p := ⟨w.heap.size + 1, 1, none⟩) (lt_of_cell d3)).trans d3
  have B3 : Hid (Below w.heap.size w w3) := B2.out.trans (b3.mono B2.out.size)
  clear b3 d0 d1 d2 d3
  rw [← HU.out]
  by_cases h0 : 0 < u
  · have hv : Hid (ways (p, q) (r, s) = u) := by
      show _ = _
      rw [HW.out, if_pos h0]
    go_wp2
    go_ret2
    exact ⟨by rw [hv.out]; rfl, B3.out⟩
  · go_wp2_with fail
    refine (way_any r s p q _).mono ?_
    rintro e w4 ⟨rfl, b4⟩
    have B4 : Hid (Below w.heap.size w w4) := B3.out.trans (b4.mono B3.out.size)
    clear b4 e0 e1 e2 e3
    rw [← HT.out]
    have w7 : IntKind.i64.wrap (7 + t) = 7 + t := by rw [IntKind.wrap_i64]; omega
    have w6 : IntKind.i64.wrap (6 + t) = 6 + t := by rw [IntKind.wrap_i64]; omega
    by_cases h3 : t < 3
    · have hv : Hid (ways (p, q) (r, s) = 7 + t) := by
        show _ = _
        rw [HW.out, if_neg (by omega), if_pos h3]
      go_wp2
      go_ret2
      exact ⟨by rw [hv.out]; rfl, B4.out⟩
    · have hv : Hid (ways (p, q) (r, s) = 6 + t) := by
        show _ = _
        rw [HW.out, if_neg (by omega), if_neg (by omega)]
      go_wp2
      go_ret2
      exact ⟨by rw [hv.out]; rfl, B4.out⟩

set_option maxHeartbeats 2000000 in
theorem srel_no (p q r s : Int) (w : World) (h : (spB (p, q) && spB (r, s)) = false) :
    Calls Tryd.prog 32 #[.agg #[.int .i64 p, .int .i64 q], .agg #[.int .i64 r, .int .i64 s]] w fun e w' => e = .returned (.tuple #[.int .i64 0, .bool false]) ∧ Below w.heap.size w w' := by
  cases ha : spB (p, q) with
  | false =>
    clear h
    go_enter Tryd.func32, Tryd.ntmps32
    go_wp2_with fail
    refine (l2Span_no p q _ ha).mono ?_
    rintro e w1 ⟨rfl, b1⟩
    have B1 : Hid (Below w.heap.size w w1) := by
      show Below _ _ _
      refine Below.trans ?_ (b1.mono (by simp; omega))
      go_grown
    clear b1
    go_wp2
    go_ret2
    exact ⟨rfl, B1.out⟩
  | true =>
    have hb : spB (r, s) = false := by rw [ha, Bool.true_and] at h; exact h
    clear h
    go_enter Tryd.func32, Tryd.ntmps32
    go_wp2_with fail
    refine (l2Span_yes p q _ ha).mono ?_
    rintro e w1 ⟨rfl, b1⟩
    have c0 := (b1.cell (p := ⟨w.heap.size, 0, none⟩) (by first | (simp; done) | (simp; omega))).trans (show _ = some (.int .i64 p) by simp)
    have c1 := (b1.cell (p := ⟨w.heap.size, 1, none⟩) (by first | (simp; done) | (simp; omega))).trans (show _ = some (.int .i64 q) by simp)
    have c2 := (b1.cell (p := ⟨w.heap.size + 1, 0, none⟩) (by first | (simp; done) | (simp; omega))).trans (show _ = some (.int .i64 r) by simp)
    have c3 := (b1.cell (p := ⟨w.heap.size + 1, 1, none⟩) (by first | (simp; done) | (simp; omega))).trans (show _ = some (.int .i64 s) by simp)
    have B1 : Hid (Below w.heap.size w w1) := by
      show Below _ _ _
      refine Below.trans ?_ (b1.mono (by simp; omega))
      go_grown
    clear b1
    go_wp2_with fail
    refine (l2Span_no r s _ hb).mono ?_
    rintro e w2 ⟨rfl, b2⟩
    have B2 : Hid (Below w.heap.size w w2) := B1.out.trans (b2.mono B1.out.size)
    clear b2 c0 c1 c2 c3
    go_wp2
    go_ret2
    exact ⟨rfl, B2.out⟩
end Go.Proofs.YtobkockikpgcoaaDoor
