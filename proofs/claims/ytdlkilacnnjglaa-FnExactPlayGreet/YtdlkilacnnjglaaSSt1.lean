/-
  spec.l15Step: one way of it.
  spec.l15Step: one way of it.
  spec.l15Step: one way of it.
  spec.l15Step: a step of a greeting of one's own.
-/
import Derived.Test.YtdlkilacnnjglaaSWr15
import Derived.Test.YtdlkilacnnjglaaSClB15
import Derived.Deep.DeepCutAuto
import Derived.Test.YtdlkilacnnjglaaSSt2
import Derived.Test.YtdlkilacnnjglaaSSt4
import Derived.Test.YtdlkilacnnjglaaSSt5
import Derived.Test.YtdlkilacnnjglaaSSt6
import Derived.Test.YtdlkilacnnjglaaSIn
import Derived.Test.YtdlkilacnnjglaaSSt13
import Derived.Test.YtdlkilacnnjglaaSSt14
namespace Go.Proofs.Ytdlkilacnnjglaa
open Go.RowKit

set_option maxRecDepth 100000 in
set_option maxHeartbeats 8000000 in
theorem sst_begin_no (L : Nat) (x1 z0 z1 z2 z3 z4 z5 z6 z7 : Int) (L8 L9 L10 : List HeEl) (v8 v9 v10 : Value) (w : World) (hL : L ≤ w.heap.size) (hU : RowsU L w v8 v9 v10 L8 L9 L10) (s1 s2 : Bool) (h1 : (x1 != 0) = s1) (h2 : (z6 == 1000) = s2) (hc : (s1 || s2) = true) :
    Calls Try.prog 62 #[.agg #[.int .i64 z0, .int .i64 z1, .int .i64 z2, .int .i64 z3, .int .i64 z4, .int .i64 z5, .int .i64 z6, .int .i64 z7, v8, v9, v10], .agg #[.int .i64 1, .int .i64 x1]] w fun e w' => ∃ u, e = .returned (.tuple #[u, .bool false]) ∧ Moved L w v8 v9 v10 ⟨z0, z1, z2, z3, z4, z5, z6, z7, L8, L9, L10⟩ u w' := by
  have HC := hid hc
  clear hc
  cases s1 <;> cases s2
  case false.false => exact absurd HC.out (by decide)
  all_goals
    have _hL := hL
    obtain ⟨a8, c8, a9, c9, a10, c10, rfl, rfl, rfl⟩ := hU.form
    obtain ⟨W, hW⟩ : ∃ W, W = ((w.alloc (.cells #[.int .i64 z0, .int .i64 z1, .int .i64 z2, .int .i64 z3, .int .i64 z4, .int .i64 z5, .int .i64 z6, .int .i64 z7, .slice a8 L8.length c8, .slice a9 L9.length c9, .slice a10 L10.length c10] 49)).alloc (.cells #[.int .i64 1, .int .i64 x1] 91)).alloc (.cells #[.int .i64 0, .int .i64 0, .int .i64 0, .int .i64 0, .int .i64 0, .int .i64 0, .int .i64 0, .int .i64 0, .slice none 0 0, .slice none 0 0, .slice none 0 0] 49) := ⟨_, rfl⟩
    have HB : Hid (Boxes3 w W ⟨z0, z1, z2, z3, z4, z5, z6, z7, L8, L9, L10⟩ (.slice a8 L8.length c8) (.slice a9 L9.length c9) (.slice a10 L10.length c10) [.int .i64 1, .int .i64 x1]) := by show Boxes3 _ _ _ _ _ _ _; rw [hW]; exact boxes3 w ⟨z0, z1, z2, z3, z4, z5, z6, z7, L8, L9, L10⟩ (.slice a8 L8.length c8) (.slice a9 L9.length c9) (.slice a10 L10.length c10) [.int .i64 1, .int .i64 x1] 91 (by simp)
    have UW := hid (hU.below HB.out.b rfl)
    have HU := hid hU
    have HW := hid hW
    have HBS := hid HB.out.s
    clear hW hU
    have GB : Hid (BoxL W w.heap.size [.int .i64 z0, .int .i64 z1, .int .i64 z2, .int .i64 z3, .int .i64 z4, .int .i64 z5, .int .i64 z6, .int .i64 z7, .slice a8 L8.length c8, .slice a9 L9.length c9, .slice a10 L10.length c10]) := HB.out.g
    have RB := hid HB.out.r
    have XB := hid HB.out.x
    have MM : Hid (Mv w W (.slice a8 L8.length c8) (.slice a9 L9.length c9) (.slice a10 L10.length c10) (.slice a8 L8.length c8) (.slice a9 L9.length c9) (.slice a10 L10.length c10)) := (Mv.refl w _ _ _).old (P := fun _ => False) (But.of HB.out.b) fun _ h => h.elim
    have HBL : Hid (w.heap.size + 3 ≤ W.heap.size) := by show _ ≤ _; have := HBS.out; omega
    have HXB : Hid (¬ Bk (.slice a8 L8.length c8) (.slice a9 L9.length c9) (.slice a10 L10.length c10) (w.heap.size + 1)) := HU.out.notBk (by omega)
    have HNB : Hid (¬ Bk (.slice a8 L8.length c8) (.slice a9 L9.length c9) (.slice a10 L10.length c10) w.heap.size) := HU.out.notBk (Nat.le_refl _)
    have HNR : Hid (¬ Bk (.slice a8 L8.length c8) (.slice a9 L9.length c9) (.slice a10 L10.length c10) (w.heap.size + 2)) := HU.out.notBk (by omega)
    obtain ⟨q0, q1, q2, q3, q4, q5, q6, q7, q8, q9, q10⟩ := GB.out.eleven
    obtain ⟨g0, g1, g2, g3, g4, g5, g6, g7, g8, g9, g10⟩ := GB.out.frozen11
    obtain ⟨r0, r1, r2, r3, r4, r5, r6, r7, r8, r9, r10⟩ := RB.out.eleven
    obtain ⟨f0, f1, f2, f3, f4, f5, f6, f7, f8, f9, f10⟩ := RB.out.frozen11
    obtain ⟨p0, p1⟩ := XB.out.two
    go_enter Try.func62, Try.ntmps62
    go_upto_region 1 with fail
    rw [← HW.out]
    clear HW
    have LF := gr_leaf (D := ⟨z0, z1, z2, z3, z4, z5, z6, z7, L8, L9, L10⟩) RB.out UW.out MM.out (b := (w.heap.size + 2)) (by have := HBS.out; omega) HNR.out
    dsimp only at LF
    have HL := hid LF.1
    obtain ⟨t0, t1, t2, t3, t4, t5, t6, t7, t8, t9, t10⟩ := LF.2.eleven
    clear LF
    go_wp2
    exact bodyPost_ret (v := .tuple #[grV ⟨z0, z1, z2, z3, z4, z5, z6, z7, L8, L9, L10⟩ (.slice a8 L8.length c8) (.slice a9 L9.length c9) (.slice a10 L10.length c10), .bool false]) (by simp [results, Try.results62, go_sem, t0, t1, t2, t3, t4, t5, t6, t7, t8, t9, t10]) rfl ⟨_, rfl, _, _, _, rfl, HL.out⟩
end Go.Proofs.Ytdlkilacnnjglaa
namespace Go.Proofs.Ytdlkilacnnjglaa
open Go.RowKit

set_option maxRecDepth 100000 in
set_option maxHeartbeats 8000000 in
theorem sst_close_no (L : Nat) (x1 z0 z1 z2 z3 z4 z5 z6 z7 : Int) (L8 L9 L10 : List HeEl) (v8 v9 v10 : Value) (w : World) (hL : L ≤ w.heap.size) (hU : RowsU L w v8 v9 v10 L8 L9 L10) (h1 : (x1 == 0) = false) (h2 : (x1 == 1) = false) :
    Calls Try.prog 62 #[.agg #[.int .i64 z0, .int .i64 z1, .int .i64 z2, .int .i64 z3, .int .i64 z4, .int .i64 z5, .int .i64 z6, .int .i64 z7, v8, v9, v10], .agg #[.int .i64 6, .int .i64 x1]] w fun e w' => ∃ u, e = .returned (.tuple #[u, .bool false]) ∧ Moved L w v8 v9 v10 ⟨z0, z1, z2, z3, z4, z5, z6, z7, L8, L9, L10⟩ u w' := by
  have _hL := hL
  obtain ⟨a8, c8, a9, c9, a10, c10, rfl, rfl, rfl⟩ := hU.form
  obtain ⟨W, hW⟩ : ∃ W, W = ((w.alloc (.cells #[.int .i64 z0, .int .i64 z1, .int .i64 z2, .int .i64 z3, .int .i64 z4, .int .i64 z5, .int .i64 z6, .int .i64 z7, .slice a8 L8.length c8, .slice a9 L9.length c9, .slice a10 L10.length c10] 49)).alloc (.cells #[.int .i64 6, .int .i64 x1] 91)).alloc (.cells #[.int .i64 0, .int .i64 0, .int .i64 0, .int .i64 0, .int .i64 0, .int .i64 0, .int .i64 0, .int .i64 0, .slice none 0 0, .slice none 0 0, .slice none 0 0] 49) := ⟨_, rfl⟩
  have HB : Hid (Boxes3 w W ⟨z0, z1, z2, z3, z4, z5, z6, z7, L8, L9, L10⟩ (.slice a8 L8.length c8) (.slice a9 L9.length c9) (.slice a10 L10.length c10) [.int .i64 6, .int .i64 x1]) := by show Boxes3 _ _ _ _ _ _ _; rw [hW]; exact boxes3 w ⟨z0, z1, z2, z3, z4, z5, z6, z7, L8, L9, L10⟩ (.slice a8 L8.length c8) (.slice a9 L9.length c9) (.slice a10 L10.length c10) [.int .i64 6, .int .i64 x1] 91 (by simp)
  have UW := hid (hU.below HB.out.b rfl)
  have HU := hid hU
  have HW := hid hW
  have HBS := hid HB.out.s
  clear hW hU
  have GB : Hid (BoxL W w.heap.size [.int .i64 z0, .int .i64 z1, .int .i64 z2, .int .i64 z3, .int .i64 z4, .int .i64 z5, .int .i64 z6, .int .i64 z7, .slice a8 L8.length c8, .slice a9 L9.length c9, .slice a10 L10.length c10]) := HB.out.g
  have RB := hid HB.out.r
  have XB := hid HB.out.x
  have MM : Hid (Mv w W (.slice a8 L8.length c8) (.slice a9 L9.length c9) (.slice a10 L10.length c10) (.slice a8 L8.length c8) (.slice a9 L9.length c9) (.slice a10 L10.length c10)) := (Mv.refl w _ _ _).old (P := fun _ => False) (But.of HB.out.b) fun _ h => h.elim
  have HBL : Hid (w.heap.size + 3 ≤ W.heap.size) := by show _ ≤ _; have := HBS.out; omega
  have HXB : Hid (¬ Bk (.slice a8 L8.length c8) (.slice a9 L9.length c9) (.slice a10 L10.length c10) (w.heap.size + 1)) := HU.out.notBk (by omega)
  have HNB : Hid (¬ Bk (.slice a8 L8.length c8) (.slice a9 L9.length c9) (.slice a10 L10.length c10) w.heap.size) := HU.out.notBk (Nat.le_refl _)
  have HNR : Hid (¬ Bk (.slice a8 L8.length c8) (.slice a9 L9.length c9) (.slice a10 L10.length c10) (w.heap.size + 2)) := HU.out.notBk (by omega)
  obtain ⟨q0, q1, q2, q3, q4, q5, q6, q7, q8, q9, q10⟩ := GB.out.eleven
  obtain ⟨g0, g1, g2, g3, g4, g5, g6, g7, g8, g9, g10⟩ := GB.out.frozen11
  obtain ⟨r0, r1, r2, r3, r4, r5, r6, r7, r8, r9, r10⟩ := RB.out.eleven
  obtain ⟨f0, f1, f2, f3, f4, f5, f6, f7, f8, f9, f10⟩ := RB.out.frozen11
  obtain ⟨p0, p1⟩ := XB.out.two
  go_enter Try.func62, Try.ntmps62
  go_upto_region 1 with fail
  rw [← HW.out]
  clear HW
  have LF := gr_leaf (D := ⟨z0, z1, z2, z3, z4, z5, z6, z7, L8, L9, L10⟩) RB.out UW.out MM.out (b := (w.heap.size + 2)) (by have := HBS.out; omega) HNR.out
  dsimp only at LF
  have HL := hid LF.1
  obtain ⟨t0, t1, t2, t3, t4, t5, t6, t7, t8, t9, t10⟩ := LF.2.eleven
  clear LF
  go_wp2
  exact bodyPost_ret (v := .tuple #[grV ⟨z0, z1, z2, z3, z4, z5, z6, z7, L8, L9, L10⟩ (.slice a8 L8.length c8) (.slice a9 L9.length c9) (.slice a10 L10.length c10), .bool false]) (by simp [results, Try.results62, go_sem, t0, t1, t2, t3, t4, t5, t6, t7, t8, t9, t10]) rfl ⟨_, rfl, _, _, _, rfl, HL.out⟩
end Go.Proofs.Ytdlkilacnnjglaa
namespace Go.Proofs.Ytdlkilacnnjglaa
open Go.RowKit

set_option maxRecDepth 100000 in
set_option maxHeartbeats 8000000 in
theorem sst_far (L : Nat) (x0 x1 z0 z1 z2 z3 z4 z5 z6 z7 : Int) (L8 L9 L10 : List HeEl) (v8 v9 v10 : Value) (w : World) (hL : L ≤ w.heap.size) (hU : RowsU L w v8 v9 v10 L8 L9 L10) (e1 : (x0 == 1) = false) (e5 : (x0 == 5) = false) (e6 : (x0 == 6) = false) (h1 : decide (x1 < 0) = false) (h2 : decide (x1 ≥ (L8.length : Int)) = true) :
    Calls Try.prog 62 #[.agg #[.int .i64 z0, .int .i64 z1, .int .i64 z2, .int .i64 z3, .int .i64 z4, .int .i64 z5, .int .i64 z6, .int .i64 z7, v8, v9, v10], .agg #[.int .i64 x0, .int .i64 x1]] w fun e w' => ∃ u, e = .returned (.tuple #[u, .bool false]) ∧ Moved L w v8 v9 v10 ⟨z0, z1, z2, z3, z4, z5, z6, z7, L8, L9, L10⟩ u w' := by
  have _hL := hL
  obtain ⟨a8, c8, a9, c9, a10, c10, rfl, rfl, rfl⟩ := hU.form
  obtain ⟨W, hW⟩ : ∃ W, W = ((w.alloc (.cells #[.int .i64 z0, .int .i64 z1, .int .i64 z2, .int .i64 z3, .int .i64 z4, .int .i64 z5, .int .i64 z6, .int .i64 z7, .slice a8 L8.length c8, .slice a9 L9.length c9, .slice a10 L10.length c10] 49)).alloc (.cells #[.int .i64 x0, .int .i64 x1] 91)).alloc (.cells #[.int .i64 0, .int .i64 0, .int .i64 0, .int .i64 0, .int .i64 0, .int .i64 0, .int .i64 0, .int .i64 0, .slice none 0 0, .slice none 0 0, .slice none 0 0] 49) := ⟨_, rfl⟩
  have HB : Hid (Boxes3 w W ⟨z0, z1, z2, z3, z4, z5, z6, z7, L8, L9, L10⟩ (.slice a8 L8.length c8) (.slice a9 L9.length c9) (.slice a10 L10.length c10) [.int .i64 x0, .int .i64 x1]) := by show Boxes3 _ _ _ _ _ _ _; rw [hW]; exact boxes3 w ⟨z0, z1, z2, z3, z4, z5, z6, z7, L8, L9, L10⟩ (.slice a8 L8.length c8) (.slice a9 L9.length c9) (.slice a10 L10.length c10) [.int .i64 x0, .int .i64 x1] 91 (by simp)
  have UW := hid (hU.below HB.out.b rfl)
  have HU := hid hU
  have HW := hid hW
  have HBS := hid HB.out.s
  clear hW hU
  have GB : Hid (BoxL W w.heap.size [.int .i64 z0, .int .i64 z1, .int .i64 z2, .int .i64 z3, .int .i64 z4, .int .i64 z5, .int .i64 z6, .int .i64 z7, .slice a8 L8.length c8, .slice a9 L9.length c9, .slice a10 L10.length c10]) := HB.out.g
  have RB := hid HB.out.r
  have XB := hid HB.out.x
  have MM : Hid (Mv w W (.slice a8 L8.length c8) (.slice a9 L9.length c9) (.slice a10 L10.length c10) (.slice a8 L8.length c8) (.slice a9 L9.length c9) (.slice a10 L10.length c10)) := (Mv.refl w _ _ _).old (P := fun _ => False) (But.of HB.out.b) fun _ h => h.elim
  have HBL : Hid (w.heap.size + 3 ≤ W.heap.size) := by show _ ≤ _; have := HBS.out; omega
  have HXB : Hid (¬ Bk (.slice a8 L8.length c8) (.slice a9 L9.length c9) (.slice a10 L10.length c10) (w.heap.size + 1)) := HU.out.notBk (by omega)
  have HNB : Hid (¬ Bk (.slice a8 L8.length c8) (.slice a9 L9.length c9) (.slice a10 L10.length c10) w.heap.size) := HU.out.notBk (Nat.le_refl _)
  have HNR : Hid (¬ Bk (.slice a8 L8.length c8) (.slice a9 L9.length c9) (.slice a10 L10.length c10) (w.heap.size + 2)) := HU.out.notBk (by omega)
  obtain ⟨q0, q1, q2, q3, q4, q5, q6, q7, q8, q9, q10⟩ := GB.out.eleven
  obtain ⟨g0, g1, g2, g3, g4, g5, g6, g7, g8, g9, g10⟩ := GB.out.frozen11
  obtain ⟨r0, r1, r2, r3, r4, r5, r6, r7, r8, r9, r10⟩ := RB.out.eleven
  obtain ⟨f0, f1, f2, f3, f4, f5, f6, f7, f8, f9, f10⟩ := RB.out.frozen11
  obtain ⟨p0, p1⟩ := XB.out.two
  go_enter Try.func62, Try.ntmps62
  go_upto_region 1 with fail
  rw [← HW.out]
  clear HW
  have LF := gr_leaf (D := ⟨z0, z1, z2, z3, z4, z5, z6, z7, L8, L9, L10⟩) RB.out UW.out MM.out (b := (w.heap.size + 2)) (by have := HBS.out; omega) HNR.out
  dsimp only at LF
  have HL := hid LF.1
  obtain ⟨t0, t1, t2, t3, t4, t5, t6, t7, t8, t9, t10⟩ := LF.2.eleven
  clear LF
  go_wp2
  exact bodyPost_ret (v := .tuple #[grV ⟨z0, z1, z2, z3, z4, z5, z6, z7, L8, L9, L10⟩ (.slice a8 L8.length c8) (.slice a9 L9.length c9) (.slice a10 L10.length c10), .bool false]) (by simp [results, Try.results62, go_sem, t0, t1, t2, t3, t4, t5, t6, t7, t8, t9, t10]) rfl ⟨_, rfl, _, _, _, rfl, HL.out⟩
end Go.Proofs.Ytdlkilacnnjglaa
namespace Go.Proofs.Ytdlkilacnnjglaa
open Go.RowKit

/-- What spec's step of a greeting of one's own hands back. -/
def StepTells (f : FuncId) (D : GrD) (k i : Int) : Prop := ∀ (L : Nat) (v8 v9 v10 : Value) (w : World), L ≤ w.heap.size → RowsU L w v8 v9 v10 D.f8 D.f9 D.f10 →
  Calls Try.prog f #[grV D v8 v9 v10, .agg #[.int .i64 k, .int .i64 i]] w fun e w' => ∃ u, e = .returned (.tuple #[u, .bool (stepG D k i).2]) ∧ Moved L w v8 v9 v10 (stepG D k i).1 u w'
theorem tells_of {f : FuncId} {D D' : GrD} {k i : Int} {b : Bool} (hs : stepG D k i = (D', b)) (h : ∀ (L : Nat) (v8 v9 v10 : Value) (w : World), L ≤ w.heap.size → RowsU L w v8 v9 v10 D.f8 D.f9 D.f10 →
    Calls Try.prog f #[grV D v8 v9 v10, .agg #[.int .i64 k, .int .i64 i]] w fun e w' => ∃ u, e = .returned (.tuple #[u, .bool b]) ∧ Moved L w v8 v9 v10 D' u w') : StepTells f D k i := by
  intro L v8 v9 v10 w hL hU
  rw [hs]
  exact h L v8 v9 v10 w hL hU
theorem sstep_tells (D : GrD) (k i : Int) (hx : 0 ≤ D.f6 ∧ D.f6 ≤ 1000) (hy : 0 ≤ D.f7 ∧ D.f7 ≤ 1000) (h9 : D.f9.length < 300) (h10 : D.f10.length < 300) : StepTells 62 D k i := by
  obtain ⟨z0, z1, z2, z3, z4, z5, z6, z7, L8, L9, L10⟩ := D
  simp only at hx hy h9 h10
  by_cases k1 : k = 1
  · subst k1
    by_cases hc : i ≠ 0 ∨ z6 = 1000
    · exact tells_of (show stepG _ _ _ = (_, false) from (if_pos rfl).trans (if_pos hc)) fun L v8 v9 v10 w hL hU => sst_begin_no L i z0 z1 z2 z3 z4 z5 z6 z7 L8 L9 L10 v8 v9 v10 w hL hU (i != 0) (z6 == 1000) rfl rfl (by simpa using hc)
    · obtain rfl : i = 0 := by omega
      exact tells_of (show stepG _ _ _ = (_, true) from (if_pos rfl).trans (if_neg hc)) fun L v8 v9 v10 w hL hU => sst_begin L z0 z1 z2 z3 z4 z5 z6 z7 L8 L9 L10 v8 v9 v10 w hL hU (z6 + 1) rfl hx (by simp; omega)
  by_cases k5 : k = 5
  · subst k5
    by_cases hc : i ≠ 0 ∨ z1 ≠ 1
    · exact tells_of (show stepG _ _ _ = (_, false) from (if_neg k1).trans ((if_pos rfl).trans (if_pos hc))) fun L v8 v9 v10 w hL hU => sst_forget_no L i z0 z1 z2 z3 z4 z5 z6 z7 L8 L9 L10 v8 v9 v10 w hL hU (i != 0) (z1 != 1) rfl rfl (by simpa using hc)
    · obtain rfl : i = 0 := by omega
      obtain rfl : z1 = 1 := by omega
      exact tells_of (show stepG _ _ _ = (_, true) from (if_neg k1).trans ((if_pos rfl).trans (if_neg hc))) fun L v8 v9 v10 w hL hU => sst_forget L z0 z2 z3 z4 z5 z6 z7 L8 L9 L10 v8 v9 v10 w hL hU
  by_cases k6 : k = 6
  · subst k6
    by_cases i0 : i = 0
    · subst i0
      exact tells_of (show stepG _ _ _ = (_, true) from (if_neg k1).trans ((if_neg k5).trans ((if_pos rfl).trans (if_pos rfl)))) fun L v8 v9 v10 w hL hU => sst_closeA L z0 z1 z2 z3 z4 z5 z6 z7 L8 L9 L10 v8 v9 v10 w hL hU
    by_cases i1 : i = 1
    · subst i1
      exact tells_of (show stepG _ _ _ = (_, true) from (if_neg k1).trans ((if_neg k5).trans ((if_pos rfl).trans ((if_neg i0).trans (if_pos rfl))))) fun L v8 v9 v10 w hL hU => sst_closeB L z0 z1 z2 z3 z4 z5 z6 z7 L8 L9 L10 v8 v9 v10 w hL hU
    · exact tells_of (show stepG _ _ _ = (_, false) from (if_neg k1).trans ((if_neg k5).trans ((if_pos rfl).trans ((if_neg i0).trans (if_neg i1))))) fun L v8 v9 v10 w hL hU => sst_close_no L i z0 z1 z2 z3 z4 z5 z6 z7 L8 L9 L10 v8 v9 v10 w hL hU (by simpa using i0) (by simpa using i1)
  have e1 : (k == 1) = false := by simpa using k1
  have e5 : (k == 5) = false := by simpa using k5
  have e6 : (k == 6) = false := by simpa using k6
  by_cases hc : (i < 0 ∨ (L8.length : Int) ≤ i) ∨ ¬ (2 ≤ k ∧ k ≤ 4)
  · refine tells_of (show stepG _ _ _ = (_, false) from (if_neg k1).trans ((if_neg k5).trans ((if_neg k6).trans (if_pos hc)))) fun L v8 v9 v10 w hL hU => ?_
    by_cases hn : i < 0
    · exact sst_neg L k i z0 z1 z2 z3 z4 z5 z6 z7 L8 L9 L10 v8 v9 v10 w hL hU e1 e5 e6 (by simpa using hn)
    by_cases hf : (L8.length : Int) ≤ i
    · exact sst_far L k i z0 z1 z2 z3 z4 z5 z6 z7 L8 L9 L10 v8 v9 v10 w hL hU e1 e5 e6 (by simpa using hn) (by simpa using hf)
    · exact sst_kind L k i z0 z1 z2 z3 z4 z5 z6 z7 L8 L9 L10 v8 v9 v10 w hL hU e1 e5 e6 (by simpa using hn) (by simpa using hf) (by rw [decide_eq_false_iff_not]; omega)
  obtain ⟨j, rfl⟩ : ∃ j : Nat, i = (j : Int) := ⟨i.toNat, by omega⟩
  have hj : j < L8.length := by omega
  have hjt : ((j : Int)).toNat = j := by omega
  obtain ⟨⟨y0, y1, y2⟩, hyj⟩ : ∃ y, L8.getD j hz = y := ⟨_, rfl⟩
  have hS : stepG ⟨z0, z1, z2, z3, z4, z5, z6, z7, L8, L9, L10⟩ k j = letG ⟨z0, z1, z2, z3, z4, z5, z6, z7, L8, L9, L10⟩ k j := ((if_neg k1).trans ((if_neg k5).trans ((if_neg k6).trans (if_neg hc)))).trans (by rw [hjt])
  by_cases k4 : k = 4
  · subst k4
    by_cases hl : L8.length = 30
    · exact tells_of (hS.trans ((if_pos rfl).trans (if_pos hl))) fun L v8 v9 v10 w hL hU => sst_twice_no L z0 z1 z2 z3 z4 z5 z6 z7 L8 L9 L10 v8 v9 v10 w hL hU j hj y0 y1 y2 hyj hl
    · refine tells_of (hS.trans ((if_pos rfl).trans (if_neg hl))) fun L v8 v9 v10 w hL hU => ?_
      rw [hyj]
      exact sst_twice L z0 z1 z2 z3 z4 z5 z6 z7 L8 L9 L10 v8 v9 v10 w hL hU j hj y0 y1 y2 hyj hl
  by_cases k2 : k = 2
  · subst k2
    refine tells_of (hS.trans ((if_neg k4).trans (if_pos rfl))) fun L v8 v9 v10 w hL hU => ?_
    rw [hyj]
    exact sst_take L z0 z1 z2 z3 z4 z5 z6 z7 L8 L9 L10 v8 v9 v10 w hL hU j hj y0 y1 y2 hyj hy h9 h10
  · obtain rfl : k = 3 := by omega
    exact tells_of (hS.trans ((if_neg k4).trans (if_neg k2))) fun L v8 v9 v10 w hL hU => sst_lose L z0 z1 z2 z3 z4 z5 z6 z7 L8 L9 L10 v8 v9 v10 w hL hU j hj y0 y1 y2 hyj
end Go.Proofs.Ytdlkilacnnjglaa
