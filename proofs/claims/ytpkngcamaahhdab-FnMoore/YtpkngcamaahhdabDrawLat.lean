/-
  spec.DrawLatenessOf: whatever tasks and numbers it draws, in memory of their own. Nothing old is written.
  spec.DrawLateMany: whatever tasks and numbers it draws, in memory of their own. Nothing old is written.
-/
import Derived.Test.YtpkngcamaahhdabDrawOrder
namespace Go.Proofs.Ytpkngcamaahhdab
open Go.RowKit

set_option maxRecDepth 100000 in
set_option maxHeartbeats 2000000 in
theorem drawLat_any (v : Value) (w : World) (h : CodeOk w.heap.size w v) :
    Calls Try.prog 26 #[v] w fun e w' => ∃ u0 u1, e = .returned (.tuple #[u0, u1]) ∧ ∃ (xs : List TkEl) (ys : List Int), xs.length ≤ 42 ∧ ys.length = xs.length ∧ TkOwn w.heap.size w'.heap.size w' u0 xs ∧ KOwn w.heap.size w'.heap.size w' u1 ys ∧ Below w.heap.size w w' := by
  have H := hid (cur_new w v h)
  obtain ⟨a, len, cap, rfl, hlen, hx⟩ := h
  clear hlen hx
  go_enter Try.func26, Try.ntmps26
  go_wp2_with fail
  refine (tasks_any w.heap.size w.heap.size 0 _ H.out (by omega)).mono ?_
  rintro e w1 ⟨u1, rfl, xs, hx, o1, c1, g1⟩
  have O1 := hid (o1.mono (show w.heap.size + 1 ≤ _ by simp) (Nat.le_refl _)); have C1 := hid c1; have G1 := hid g1; have hs1 := g1.size
  rw [World.size_alloc] at hs1
  obtain ⟨ax, cx, e1, _, _⟩ := o1.reads
  subst e1
  clear o1 c1 g1 H
  go_wp2_with fail
  refine (torder_any w.heap.size w.heap.size _ xs.length _ C1.out (by omega) hx).mono ?_
  rintro e w2 ⟨u2, rfl, ys, hy, o2, c2, g2⟩
  have hs2 := g2.size
  have O2 := hid (o2.mono (show w.heap.size ≤ _ by omega) (Nat.le_refl _))
  have OX : Hid (TkOwn w.heap.size w2.heap.size w2 (.slice ax xs.length cx) xs) := (O1.out.at fun g' h1 h2 h3 => g2.block g' h3 (by intro e; cases e; omega)).mono (by omega) hs2
  have G2 := hid (only_trans G1.out g2)
  have HY := hid hy
  clear o2 c2 g2 hy
  go_wp2
  go_ret2
  exact ⟨_, _, rfl, xs, ys, hx, HY.out, OX.out, O2.out, ((Below.refl _ _).alloc (Nat.le_refl _) _).trans (only_below G2.out (Nat.le_refl _) (by simp))⟩
end Go.Proofs.Ytpkngcamaahhdab
namespace Go.Proofs.Ytpkngcamaahhdab
open Go.RowKit

theorem drawLateMany_any (v : Value) (w : World) (h : CodeOk w.heap.size w v) :
    Calls Try.prog 17 #[v] w fun e w' => ∃ u0 u1, e = .returned (.tuple #[u0, u1]) ∧ ∃ (xs : List TkEl) (ys : List Int), xs.length ≤ 42 ∧ ys.length = xs.length ∧ TkOwn w.heap.size w'.heap.size w' u0 xs ∧ KOwn w.heap.size w'.heap.size w' u1 ys ∧ Below w.heap.size w w' := by
  have H := hid h
  clear h
  go_enter Try.func17, Try.ntmps17
  go_wp2_with fail
  refine (drawLat_any v w H.out).mono ?_
  rintro e w1 ⟨u0, u1, rfl, xs, ys, hx, hy, o0, o1, b1⟩
  have O0 := hid o0
  have O1 := hid o1
  have B1 := hid b1
  have HY := hid hy
  clear o0 o1 b1 hy
  go_wp2
  go_ret2
  exact ⟨_, _, rfl, xs, ys, hx, HY.out, O0.out, O1.out, B1.out⟩
end Go.Proofs.Ytpkngcamaahhdab
