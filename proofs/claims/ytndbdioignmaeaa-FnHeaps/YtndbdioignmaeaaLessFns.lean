/-
  impl.LessWork, spec.LessWork: which of two is less, where both are as the document says. Nothing old is written.
-/
import Derived.Test.YtndbdioignmaeaaSLess
import Derived.Test.YtndbdioignmaeaaIGoodWk
namespace Go.Proofs.Ytndbdioignmaeaa
open Go.RowKit

def lessR (x y : WkEl) : Bool := (wkB x && wkB y) && lessB x y
set_option maxHeartbeats 1000000 in
theorem iLessWork_any (x y : WkEl) (w : World) : Calls Try.prog 32 #[.agg #[.int .i64 x.1, .int .i64 x.2.1, .int .i64 x.2.2], .agg #[.int .i64 y.1, .int .i64 y.2.1, .int .i64 y.2.2]] w fun e w' => e = .returned (.tuple #[.bool (lessR x y), .bool (wkB x && wkB y)]) ∧ Below w.heap.size w w' := by
  obtain ⟨t, ht⟩ : ∃ t, wkB x = t := ⟨_, rfl⟩
  obtain ⟨s, hs⟩ : ∃ s, wkB y = s := ⟨_, rfl⟩
  obtain ⟨u, hu⟩ : ∃ u, lessB x y = u := ⟨_, rfl⟩
  have HT := hid ht
  have HS := hid hs
  have HU := hid hu
  unfold lessR
  rw [ht, hs, hu]
  clear ht hs hu
  go_enter Try.func32, Try.ntmps32
  go_wp2_with fail
  refine (igoodWork_eq x t HT.out _).mono ?_
  rintro e w1 ⟨rfl, b1⟩
  have B1 : Hid (Below w.heap.size w w1) := (((Below.refl _ _).alloc (Nat.le_refl _) _).alloc (by simp) _).trans (b1.mono (by simp; omega))
  cases t
  · clear b1
    go_wp2
    go_ret2
    exact ⟨rfl, B1.out⟩
  · have x0 : w1.cell? ⟨w.heap.size, 0, none⟩ = some (.int .i64 x.1) := (b1.cell (by simp; omega)).trans (by simp)
    have x1 : w1.cell? ⟨w.heap.size, 1, none⟩ = some (.int .i64 x.2.1) := (b1.cell (by simp; omega)).trans (by simp)
    have x2 : w1.cell? ⟨w.heap.size, 2, none⟩ = some (.int .i64 x.2.2) := (b1.cell (by simp; omega)).trans (by simp)
    have y0 : w1.cell? ⟨w.heap.size + 1, 0, none⟩ = some (.int .i64 y.1) := (b1.cell (by simp)).trans (by simp)
    have y1 : w1.cell? ⟨w.heap.size + 1, 1, none⟩ = some (.int .i64 y.2.1) := (b1.cell (by simp)).trans (by simp)
    have y2 : w1.cell? ⟨w.heap.size + 1, 2, none⟩ = some (.int .i64 y.2.2) := (b1.cell (by simp)).trans (by simp)
    have hs1 : w.heap.size + 1 < w1.heap.size := lt_of_cell y0
    clear b1
    go_wp2_with fail
    refine (igoodWork_eq y s HS.out _).mono ?_
    rintro e w2 ⟨rfl, b2⟩
    have B2 : Hid (Below w.heap.size w w2) := B1.out.trans (b2.mono B1.out.size)
    cases s
    · clear b2
      go_wp2
      go_ret2
      exact ⟨rfl, B2.out⟩
    · have p0 := (b2.cell (p := ⟨w.heap.size, 0, none⟩) (by show w.heap.size < w1.heap.size; omega)).trans x0
      have p1 := (b2.cell (p := ⟨w.heap.size, 1, none⟩) (by show w.heap.size < w1.heap.size; omega)).trans x1
      have p2 := (b2.cell (p := ⟨w.heap.size, 2, none⟩) (by show w.heap.size < w1.heap.size; omega)).trans x2
      have q0 := (b2.cell (p := ⟨w.heap.size + 1, 0, none⟩) hs1).trans y0
      have q1 := (b2.cell (p := ⟨w.heap.size + 1, 1, none⟩) hs1).trans y1
      have q2 := (b2.cell (p := ⟨w.heap.size + 1, 2, none⟩) hs1).trans y2
      clear b2 x0 x1 x2 y0 y1 y2
      go_wp2_with fail
      refine (lessWork_eq x y u HU.out _).mono ?_
      rintro e w3 ⟨rfl, b3⟩
      have B3 : Hid (Below w.heap.size w w3) := B2.out.trans (b3.mono B2.out.size)
      clear b3
      go_wp2
      go_ret2
      exact ⟨rfl, B3.out⟩
set_option maxHeartbeats 1000000 in
theorem sLessWork_any (x y : WkEl) (w : World) : Calls Try.prog 47 #[.agg #[.int .i64 x.1, .int .i64 x.2.1, .int .i64 x.2.2], .agg #[.int .i64 y.1, .int .i64 y.2.1, .int .i64 y.2.2]] w fun e w' => e = .returned (.tuple #[.bool (lessR x y), .bool (wkB x && wkB y)]) ∧ Below w.heap.size w w' := by
  obtain ⟨t, ht⟩ : ∃ t, wkB x = t := ⟨_, rfl⟩
  obtain ⟨s, hs⟩ : ∃ s, wkB y = s := ⟨_, rfl⟩
  obtain ⟨u, hu⟩ : ∃ u, lessB x y = u := ⟨_, rfl⟩
  have HT := hid ht
  have HS := hid hs
  have HU := hid hu
  unfold lessR
  rw [ht, hs, hu]
  clear ht hs hu
  go_enter Try.func47, Try.ntmps47
  go_wp2_with fail
  refine (l3Work_eq x t HT.out _).mono ?_
  rintro e w1 ⟨rfl, b1⟩
  have B1 : Hid (Below w.heap.size w w1) := (((Below.refl _ _).alloc (Nat.le_refl _) _).alloc (by simp) _).trans (b1.mono (by simp; omega))
  cases t
  · clear b1
    go_wp2
    go_ret2
    exact ⟨rfl, B1.out⟩
  · have x0 : w1.cell? ⟨w.heap.size, 0, none⟩ = some (.int .i64 x.1) := (b1.cell (by simp; omega)).trans (by simp)
    have x1 : w1.cell? ⟨w.heap.size, 1, none⟩ = some (.int .i64 x.2.1) := (b1.cell (by simp; omega)).trans (by simp)
    have x2 : w1.cell? ⟨w.heap.size, 2, none⟩ = some (.int .i64 x.2.2) := (b1.cell (by simp; omega)).trans (by simp)
    have y0 : w1.cell? ⟨w.heap.size + 1, 0, none⟩ = some (.int .i64 y.1) := (b1.cell (by simp)).trans (by simp)
    have y1 : w1.cell? ⟨w.heap.size + 1, 1, none⟩ = some (.int .i64 y.2.1) := (b1.cell (by simp)).trans (by simp)
    have y2 : w1.cell? ⟨w.heap.size + 1, 2, none⟩ = some (.int .i64 y.2.2) := (b1.cell (by simp)).trans (by simp)
    have hs1 : w.heap.size + 1 < w1.heap.size := lt_of_cell y0
    clear b1
    go_wp2_with fail
    refine (l3Work_eq y s HS.out _).mono ?_
    rintro e w2 ⟨rfl, b2⟩
    have B2 : Hid (Below w.heap.size w w2) := B1.out.trans (b2.mono B1.out.size)
    cases s
    · clear b2
      go_wp2
      go_ret2
      exact ⟨rfl, B2.out⟩
    · have p0 := (b2.cell (p := ⟨w.heap.size, 0, none⟩) (by show w.heap.size < w1.heap.size; omega)).trans x0
      have p1 := (b2.cell (p := ⟨w.heap.size, 1, none⟩) (by show w.heap.size < w1.heap.size; omega)).trans x1
      have p2 := (b2.cell (p := ⟨w.heap.size, 2, none⟩) (by show w.heap.size < w1.heap.size; omega)).trans x2
      have q0 := (b2.cell (p := ⟨w.heap.size + 1, 0, none⟩) hs1).trans y0
      have q1 := (b2.cell (p := ⟨w.heap.size + 1, 1, none⟩) hs1).trans y1
      have q2 := (b2.cell (p := ⟨w.heap.size + 1, 2, none⟩) hs1).trans y2
      clear b2 x0 x1 x2 y0 y1 y2
      go_wp2_with fail
      refine (l3Less_eq x y u HU.out _).mono ?_
      rintro e w3 ⟨rfl, b3⟩
      have B3 : Hid (Below w.heap.size w w3) := B2.out.trans (b3.mono B2.out.size)
      clear b3
      go_wp2
      go_ret2
      exact ⟨rfl, B3.out⟩
end Go.Proofs.Ytndbdioignmaeaa
