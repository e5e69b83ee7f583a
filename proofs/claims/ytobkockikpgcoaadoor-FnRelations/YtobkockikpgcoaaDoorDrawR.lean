/-
  The draws of the law FnRelations that hand a list of spans back: whatever they are, few, in memory of their own.
-/
import Derived.Test.YtobkockikpgcoaaDoorDrawSpans
namespace Go.Proofs.YtobkockikpgcoaaDoor
open Go.RowKit
set_option maxRecDepth 100000

theorem drawHas_any (v : Value) (w : World) (h : CodeOk w.heap.size w v) :
    Calls Tryd.prog 34 #[v] w fun e w' => ∃ (a : Value) (n : Int), e = .returned (.tuple #[a, .int .i64 n]) ∧ ∃ xs : List Sp, xs.length ≤ 30 ∧ SReads w' a xs ∧ Below w.heap.size w w' := by
  have H := hid (cur_new w v h)
  obtain ⟨a, len, cap, rfl, hlen, hx⟩ := h
  clear hlen hx
  go_enter Tryd.func34, Tryd.ntmps34
  go_wp2_with fail
  refine (spans_any w.heap.size w.heap.size 0 _ H.out (by omega)).mono ?_
  rintro e w1 ⟨u1, rfl, xs, hx, o1, c1, g1⟩
  have O1 := hid o1; have C1 := hid c1; have G1 := hid g1; clear o1 c1 g1 H
  go_wp2_with fail
  refine (pick_any w.heap.size w.heap.size _ 40 w1 C1.out (by omega) (by omega)).mono ?_
  rintro e w2 ⟨r2, hr2, rfl, c2, g2⟩
  have O2 := hid (O1.out.only g2 (by simp)); have G2 := hid (only_trans G1.out g2); clear c2 g2 C1 G1 O1
  go_wp2
  go_ret2
  exact ⟨_, _, rfl, xs, hx, O2.out.reads, ((Below.refl _ _).alloc (Nat.le_refl _) _).trans (only_below G2.out (Nat.le_refl _) (by simp))⟩
theorem drawGood_any (v : Value) (w : World) (h : CodeOk w.heap.size w v) :
    Calls Tryd.prog 73 #[v] w fun e w' => ∃ a : Value, e = .returned a ∧ ∃ xs : List Sp, xs.length ≤ 30 ∧ SReads w' a xs ∧ Below w.heap.size w w' := by
  have H := hid (cur_new w v h)
  obtain ⟨a, len, cap, rfl, hlen, hx⟩ := h
  clear hlen hx
  go_enter Tryd.func73, Tryd.ntmps73
  go_wp2_with fail
  refine (spans_any w.heap.size w.heap.size 0 _ H.out (by omega)).mono ?_
  rintro e w1 ⟨u1, rfl, xs, hx, o1, c1, g1⟩
  have O1 := hid o1; have G1 := hid g1; clear o1 c1 g1 H
  go_wp2
  go_ret
  exact ⟨_, rfl, xs, hx, O1.out.reads, ((Below.refl _ _).alloc (Nat.le_refl _) _).trans (only_below G1.out (Nat.le_refl _) (by simp))⟩
theorem drawLength_any (v : Value) (w : World) (h : CodeOk w.heap.size w v) :
    Calls Tryd.prog 37 #[v] w fun e w' => ∃ a : Value, e = .returned a ∧ ∃ xs : List Sp, xs.length ≤ 30 ∧ SReads w' a xs ∧ Below w.heap.size w w' := by
  have D := hid (drawGood_any v w h)
  obtain ⟨a, len, cap, rfl, hlen, hx⟩ := h
  clear hlen hx
  go_enter Tryd.func37, Tryd.ntmps37
  go_wp2_with fail
  refine D.out.mono ?_
  rintro e w1 ⟨u1, rfl, xs, hx, r1, b1⟩
  have R1 := hid r1; have B1 := hid b1; clear r1 b1 D
  go_wp2
  go_ret
  exact ⟨_, rfl, xs, hx, R1.out, B1.out⟩
end Go.Proofs.YtobkockikpgcoaaDoor
