/-
  spec.l1In: whether a number lies between two. Nothing is written.
  spec.l15Step: one way of it.
  spec.l15Step: one way of it.
  spec.l15Step: one way of it.
-/
import Derived.Test.YtdlkilacnnjglaaInts
import Derived.Test.YtdlkilacnnjglaaSWr15
import Derived.Test.YtdlkilacnnjglaaSClB15
import Derived.Deep.DeepCutAuto
import Derived.Test.YtdlkilacnnjglaaHeApp3
namespace Go.Proofs.Ytdlkilacnnjglaa
open Go.RowKit

theorem l1In_eq (n lo hi : Int) (t : Bool) (h : decide (lo ≤ n ∧ n ≤ hi) = t) (w : World) : Calls Try.prog 50 #[.int .i64 n, .int .i64 lo, .int .i64 hi] w fun e w' => e = .returned (.bool t) ∧ w' = w := by
  by_cases h1 : lo ≤ n
  · by_cases h2 : n ≤ hi
    · have hv : Hid (t = true) := by show _ = _; rw [← h]; simp [h1, h2]
      clear h
      go_enter Try.func50, Try.ntmps50
      go_wp2
      go_ret
      exact ⟨by rw [hv.out]; rfl, rfl⟩
    · have hv : Hid (t = false) := by show _ = _; rw [← h]; simp [h2]
      clear h
      go_enter Try.func50, Try.ntmps50
      go_wp2
      go_ret
      exact ⟨by rw [hv.out]; rfl, rfl⟩
  · have hv : Hid (t = false) := by show _ = _; rw [← h]; simp [h1]
    clear h
    go_enter Try.func50, Try.ntmps50
    go_wp2
    go_ret
    exact ⟨by rw [hv.out]; rfl, rfl⟩
end Go.Proofs.Ytdlkilacnnjglaa
namespace Go.Proofs.Ytdlkilacnnjglaa
open Go.RowKit

set_option maxRecDepth 100000 in
set_option maxHeartbeats 8000000 in
theorem sst_kind (L : Nat) (x0 x1 z0 z1 z2 z3 z4 z5 z6 z7 : Int) (L8 L9 L10 : List HeEl) (v8 v9 v10 : Value) (w : World) (hL : L ≤ w.heap.size) (hU : RowsU L w v8 v9 v10 L8 L9 L10) (e1 : (x0 == 1) = false) (e5 : (x0 == 5) = false) (e6 : (x0 == 6) = false) (h1 : decide (x1 < 0) = false) (h2 : decide (x1 ≥ (L8.length : Int)) = false) (hk : decide (2 ≤ x0 ∧ x0 ≤ 4) = false) :
    Calls Try.prog 62 #[.agg #[.int .i64 z0, .int .i64 z1, .int .i64 z2, .int .i64 z3, .int .i64 z4, .int .i64 z5, .int .i64 z6, .int .i64 z7, v8, v9, v10], .agg #[.int .i64 x0, .int .i64 x1]] w fun e w' => ∃ u, e = .returned (.tuple #[u, .bool false]) ∧ Moved L w v8 v9 v10 ⟨z0, z1, z2, z3, z4, z5, z6, z7, L8, L9, L10⟩ u w' := by
  have _hL := hL
  have HK := hid hk
  clear hk
  obtain ⟨a8, c8, a9, c9, a10, c10, rfl, rfl, rfl⟩ := hU.form
  obtain ⟨W, hW⟩ : ∃ W, W = ((w.alloc (.cells #[.int .i64 z0, .int .i64 z1, .int .i64 z2, .int .i64 z3, .int .i64 z4, .int .i64 z5, .int .i64 z6, .int .i64 z7, .slice a8 L8.length c8, .slice a9 L9.length c9, .slice a10 L10.length c10] 49)).alloc (.cells #[.int .i64 x0, .int .i64 x1] 91)).alloc (.cells #[.int .i64 0, .int .i64 0, .int .i64 0, .int .i64 0, .int .i64 0, .int .i64 0, .int .i64 0, .int .i64 0, .slice none 0 0, .slice none 0 0, .slice none 0 0] 49) := ⟨_, rfl⟩
  have HB : Hid (Boxes3 w W ⟨z0, z1, z2, z3, z4, z5, z6, z7, L8, L9, L10⟩ (.slice a8 L8.length c8) (.slice a9 L9.length c9) (.slice a10 L10.length c10) [.int .i64 x0, .int .i64 x1]) := by show Boxes3 _ _ _ _ _ _ _; rw [hW]; exact boxes3 w ⟨z0, z1, z2, z3, z4, z5, z6, z7, L8, L9, L10⟩ (.slice a8 L8.length c8) (.slice a9 L9.length c9) (.slice a10 L10.length c10) [.int .i64 x0, .int .i64 x1] 91 (by simp)
  have UW := hid (hU.below HB.out.b rfl)
  have HU := hid hU
  have HW := hid hW
  have HBS := hid HB.out.s
  clear hW hU
  have GB : Hid (BoxL W w.heap.size [.int .i64 z0, .int .i64 z1, .int .i64 z2, .int .i64 z3, .int .i64 z4, .int .i64 z5, .int .i64 z6, .int .i64 z7, .slice a8 L8.length c8, .slice a9 L9.length c9, .slice a10 L10.length c10]) := HB.out.g
  have RB := hid HB.out.r
  have XB := hid HB.out.x
  have MM : Hid (Mv w W (.slice a8 L8.length c8) (.slice a9 L9.length c9) (.slice a10 L10.length c10) (.slice a8 L8.length c8) (.slice a9 L9.length c9) (.slice a10 L10.length c10)) := (Mv.refl w _ _ _).old (P := fun _ => False) (But.of HB.out.b) fun _ h => h.elim
  have HBL : Hid (w.heap.size + 3 ≤ W.heap.size) := by show _ ≤ _; have := HBS.out; omega
  have HXB : Hid (¬ Bk (.slice a8 L8.length c8) (.slice a9 L9.length c9) (.slice a10 L10.length c10) (w.heap.size + 1)) := HU.out.notBk (by omega)
  have HNB : Hid (¬ Bk (.slice a8 L8.length c8) (.slice a9 L9.length c9) (.slice a10 L10.length c10) w.heap.size) := HU.out.notBk (Nat.le_refl _)
  have HNR : Hid (¬ Bk (.slice a8 L8.length c8) (.slice a9 L9.length c9) (.slice a10 L10.length c10) (w.heap.size + 2)) := HU.out.notBk (by omega)
  obtain ⟨q0, q1, q2, q3, q4, q5, q6, q7, q8, q9, q10⟩ := GB.out.eleven
  obtain ⟨g0, g1, g2, g3, g4, g5, g6, g7, g8, g9, g10⟩ := GB.out.frozen11
  obtain ⟨r0, r1, r2, r3, r4, r5, r6, r7, r8, r9, r10⟩ := RB.out.eleven
  obtain ⟨f0, f1, f2, f3, f4, f5, f6, f7, f8, f9, f10⟩ := RB.out.frozen11
  obtain ⟨p0, p1⟩ := XB.out.two
  go_enter Try.func62, Try.ntmps62
  go_upto_region 1 with fail
  rw [← HW.out]
  clear HW
  go_wp2_with fail
  refine (l1In_eq x0 2 4 false HK.out _).mono ?_
  rintro e w' ⟨rfl, hw⟩; obtain rfl := hw.symm
  have LF := gr_leaf (D := ⟨z0, z1, z2, z3, z4, z5, z6, z7, L8, L9, L10⟩) RB.out UW.out MM.out (b := (w.heap.size + 2)) (by have := HBS.out; omega) HNR.out
  dsimp only at LF
  have HL := hid LF.1
  obtain ⟨t0, t1, t2, t3, t4, t5, t6, t7, t8, t9, t10⟩ := LF.2.eleven
  clear LF
  go_wp2
  exact bodyPost_ret (v := .tuple #[grV ⟨z0, z1, z2, z3, z4, z5, z6, z7, L8, L9, L10⟩ (.slice a8 L8.length c8) (.slice a9 L9.length c9) (.slice a10 L10.length c10), .bool false]) (by simp [results, Try.results62, go_sem, t0, t1, t2, t3, t4, t5, t6, t7, t8, t9, t10]) rfl ⟨_, rfl, _, _, _, rfl, HL.out⟩
end Go.Proofs.Ytdlkilacnnjglaa
namespace Go.Proofs.Ytdlkilacnnjglaa
open Go.RowKit

set_option maxRecDepth 100000 in
set_option maxHeartbeats 8000000 in
theorem sst_twice_no (L : Nat) (z0 z1 z2 z3 z4 z5 z6 z7 : Int) (L8 L9 L10 : List HeEl) (v8 v9 v10 : Value) (w : World) (hL : L ≤ w.heap.size) (hU : RowsU L w v8 v9 v10 L8 L9 L10) (j : Nat) (hj : j < L8.length) (y0 y1 y2 : Int) (hyj : L8.getD j (0, 0, 0) = (y0, y1, y2)) (hlen : L8.length = 30) :
    Calls Try.prog 62 #[.agg #[.int .i64 z0, .int .i64 z1, .int .i64 z2, .int .i64 z3, .int .i64 z4, .int .i64 z5, .int .i64 z6, .int .i64 z7, v8, v9, v10], .agg #[.int .i64 4, .int .i64 (j : Int)]] w fun e w' => ∃ u, e = .returned (.tuple #[u, .bool false]) ∧ Moved L w v8 v9 v10 ⟨z0, z1, z2, z3, z4, z5, z6, z7, L8, L9, L10⟩ u w' := by
  have HLEN := hid hlen
  clear hlen
  have HYJ := hid hyj
  have HJ := hid hj
  clear hyj
  have n0 : decide ((j : Int) < 0) = false := by rw [decide_eq_false_iff_not]; omega
  have n1 : decide ((j : Int) ≥ (L8.length : Int)) = false := by rw [decide_eq_false_iff_not]; omega
  have m0 : (0 : Int) ≤ (j : Int) := by omega
  have m1 : (j : Int) < (L8.length : Int) := by omega
  obtain ⟨gA, c8, a9, c9, a10, c10, rfl, rfl, rfl, hcap⟩ := hU.formJ hj
  obtain ⟨W, hW⟩ : ∃ W, W = ((w.alloc (.cells #[.int .i64 z0, .int .i64 z1, .int .i64 z2, .int .i64 z3, .int .i64 z4, .int .i64 z5, .int .i64 z6, .int .i64 z7, .slice (some ⟨gA, 0, none⟩) L8.length c8, .slice a9 L9.length c9, .slice a10 L10.length c10] 49)).alloc (.cells #[.int .i64 4, .int .i64 (j : Int)] 91)).alloc (.cells #[.int .i64 0, .int .i64 0, .int .i64 0, .int .i64 0, .int .i64 0, .int .i64 0, .int .i64 0, .int .i64 0, .slice none 0 0, .slice none 0 0, .slice none 0 0] 49) := ⟨_, rfl⟩
  have HB : Hid (Boxes3 w W ⟨z0, z1, z2, z3, z4, z5, z6, z7, L8, L9, L10⟩ (.slice (some ⟨gA, 0, none⟩) L8.length c8) (.slice a9 L9.length c9) (.slice a10 L10.length c10) [.int .i64 4, .int .i64 (j : Int)]) := by show Boxes3 _ _ _ _ _ _ _; rw [hW]; exact boxes3 w ⟨z0, z1, z2, z3, z4, z5, z6, z7, L8, L9, L10⟩ (.slice (some ⟨gA, 0, none⟩) L8.length c8) (.slice a9 L9.length c9) (.slice a10 L10.length c10) [.int .i64 4, .int .i64 (j : Int)] 91 (by simp)
  have UW := hid (hU.below HB.out.b rfl)
  have HU := hid hU
  have HW := hid hW
  have HBS := hid HB.out.s
  clear hW hU
  have GB : Hid (BoxL W w.heap.size [.int .i64 z0, .int .i64 z1, .int .i64 z2, .int .i64 z3, .int .i64 z4, .int .i64 z5, .int .i64 z6, .int .i64 z7, .slice (some ⟨gA, 0, none⟩) L8.length c8, .slice a9 L9.length c9, .slice a10 L10.length c10]) := HB.out.g
  have RB := hid HB.out.r
  have XB := hid HB.out.x
  have MM : Hid (Mv w W (.slice (some ⟨gA, 0, none⟩) L8.length c8) (.slice a9 L9.length c9) (.slice a10 L10.length c10) (.slice (some ⟨gA, 0, none⟩) L8.length c8) (.slice a9 L9.length c9) (.slice a10 L10.length c10)) := (Mv.refl w _ _ _).old (P := fun _ => False) (But.of HB.out.b) fun _ h => h.elim
  have HBL : Hid (w.heap.size + 3 ≤ W.heap.size) := by show _ ≤ _; have := HBS.out; omega
  have HXB : Hid (¬ Bk (.slice (some ⟨gA, 0, none⟩) L8.length c8) (.slice a9 L9.length c9) (.slice a10 L10.length c10) (w.heap.size + 1)) := HU.out.notBk (by omega)
  have HNB : Hid (¬ Bk (.slice (some ⟨gA, 0, none⟩) L8.length c8) (.slice a9 L9.length c9) (.slice a10 L10.length c10) w.heap.size) := HU.out.notBk (Nat.le_refl _)
  have HNR : Hid (¬ Bk (.slice (some ⟨gA, 0, none⟩) L8.length c8) (.slice a9 L9.length c9) (.slice a10 L10.length c10) (w.heap.size + 2)) := HU.out.notBk (by omega)
  have HCAP := hid hcap
  clear hcap
  obtain ⟨q0, q1, q2, q3, q4, q5, q6, q7, q8, q9, q10⟩ := GB.out.eleven
  obtain ⟨g0, g1, g2, g3, g4, g5, g6, g7, g8, g9, g10⟩ := GB.out.frozen11
  obtain ⟨r0, r1, r2, r3, r4, r5, r6, r7, r8, r9, r10⟩ := RB.out.eleven
  obtain ⟨f0, f1, f2, f3, f4, f5, f6, f7, f8, f9, f10⟩ := RB.out.frozen11
  obtain ⟨p0, p1⟩ := XB.out.two
  go_enter Try.func62, Try.ntmps62
  go_upto_region 1 with fail
  rw [← HW.out]
  clear HW
  obtain ⟨c0, c1, c2⟩ := UW.out.cells8 hj
  rw [HYJ.out] at c0 c1 c2
  go_wp2_with fail
  refine (l1In_eq 4 2 4 true (by decide) _).mono ?_
  rintro e w' ⟨rfl, hw⟩; obtain rfl := hw.symm
  go_upto_region 27 with fail
  clear q0 q1 q2 q3 q4 q5 q6 q7 q8 q9 q10 g0 g1 g2 g3 g4 g5 g6 g7 g8 g9 g10 r0 r1 r2 r3 r4 r5 r6 r7 r8 r9 r10 f0 f1 f2 f3 f4 f5 f6 f7 f8 f9 f10 p0 p1
  clear c0 c1 c2
  have bA : Below W.heap.size W (W.alloc (.cells #[.int .i64 y0, .int .i64 y1, .int .i64 y2] 116)) := (Below.refl _ _).alloc (Nat.le_refl _) _
  have YB := hid (boxL_new W [.int .i64 y0, .int .i64 y1, .int .i64 y2] 116)
  replace UW := hid (UW.out.below bA rfl)
  replace GB := hid (GB.out.below bA GB.out.lt)
  replace RB := hid (RB.out.below bA RB.out.lt)
  replace XB := hid (XB.out.below bA XB.out.lt)
  replace MM := hid (MM.out.old (P := fun _ => False) (But.of bA) fun _ h => h.elim)
  have hsA : (W.alloc (.cells #[.int .i64 y0, .int .i64 y1, .int .i64 y2] 116)).heap.size = W.heap.size + 1 := by simp
  have HSA := hid hsA
  clear hsA
  obtain ⟨W1, hW1⟩ : ∃ W1, W1 = W.alloc (.cells #[.int .i64 y0, .int .i64 y1, .int .i64 y2] 116) := ⟨_, rfl⟩
  rw [← hW1] at UW GB RB XB MM YB HSA ⊢
  clear hW1 bA
  obtain ⟨q0, q1, q2, q3, q4, q5, q6, q7, q8, q9, q10⟩ := GB.out.eleven
  obtain ⟨g0, g1, g2, g3, g4, g5, g6, g7, g8, g9, g10⟩ := GB.out.frozen11
  obtain ⟨r0, r1, r2, r3, r4, r5, r6, r7, r8, r9, r10⟩ := RB.out.eleven
  obtain ⟨f0, f1, f2, f3, f4, f5, f6, f7, f8, f9, f10⟩ := RB.out.frozen11
  obtain ⟨p0, p1⟩ := XB.out.two
  obtain ⟨y0c, y1c, y2c⟩ := YB.out.three
  have h30 : ((L8.length : Int) == 30) = true := by simp; have := HLEN.out; omega
  have _hL := hL
  have LF := gr_leaf (D := ⟨z0, z1, z2, z3, z4, z5, z6, z7, L8, L9, L10⟩) RB.out UW.out MM.out (b := (w.heap.size + 2)) (by have := HBS.out; omega) HNR.out
  dsimp only at LF
  have HL := hid LF.1
  obtain ⟨t0, t1, t2, t3, t4, t5, t6, t7, t8, t9, t10⟩ := LF.2.eleven
  clear LF
  go_wp2
  exact bodyPost_ret (v := .tuple #[grV ⟨z0, z1, z2, z3, z4, z5, z6, z7, L8, L9, L10⟩ (.slice (some ⟨gA, 0, none⟩) L8.length c8) (.slice a9 L9.length c9) (.slice a10 L10.length c10), .bool false]) (by simp [results, Try.results62, go_sem, t0, t1, t2, t3, t4, t5, t6, t7, t8, t9, t10]) rfl ⟨_, rfl, _, _, _, rfl, HL.out⟩
end Go.Proofs.Ytdlkilacnnjglaa
namespace Go.Proofs.Ytdlkilacnnjglaa
open Go.RowKit

set_option maxRecDepth 100000 in
set_option maxHeartbeats 8000000 in
theorem sst_twice (L : Nat) (z0 z1 z2 z3 z4 z5 z6 z7 : Int) (L8 L9 L10 : List HeEl) (v8 v9 v10 : Value) (w : World) (hL : L ≤ w.heap.size) (hU : RowsU L w v8 v9 v10 L8 L9 L10) (j : Nat) (hj : j < L8.length) (y0 y1 y2 : Int) (hyj : L8.getD j (0, 0, 0) = (y0, y1, y2)) (hlen : L8.length ≠ 30) :
    Calls Try.prog 62 #[.agg #[.int .i64 z0, .int .i64 z1, .int .i64 z2, .int .i64 z3, .int .i64 z4, .int .i64 z5, .int .i64 z6, .int .i64 z7, v8, v9, v10], .agg #[.int .i64 4, .int .i64 (j : Int)]] w fun e w' => ∃ u, e = .returned (.tuple #[u, .bool true]) ∧ Moved L w v8 v9 v10 (wrG ⟨z0, z1, z2, z3, z4, z5, z6, z7, L8, L9, L10⟩ (y0, y1, y2)) u w' := by
  have HLEN := hid hlen
  clear hlen
  obtain ⟨E, hE2⟩ : ∃ E, wrG ⟨z0, z1, z2, z3, z4, z5, z6, z7, L8, L9, L10⟩ (y0, y1, y2) = E := ⟨_, rfl⟩
  rw [hE2]
  have HE := hid hE2
  clear hE2
  have HYJ := hid hyj
  have HJ := hid hj
  clear hyj
  have n0 : decide ((j : Int) < 0) = false := by rw [decide_eq_false_iff_not]; omega
  have n1 : decide ((j : Int) ≥ (L8.length : Int)) = false := by rw [decide_eq_false_iff_not]; omega
  have m0 : (0 : Int) ≤ (j : Int) := by omega
  have m1 : (j : Int) < (L8.length : Int) := by omega
  obtain ⟨gA, c8, a9, c9, a10, c10, rfl, rfl, rfl, hcap⟩ := hU.formJ hj
  obtain ⟨W, hW⟩ : ∃ W, W = ((w.alloc (.cells #[.int .i64 z0, .int .i64 z1, .int .i64 z2, .int .i64 z3, .int .i64 z4, .int .i64 z5, .int .i64 z6, .int .i64 z7, .slice (some ⟨gA, 0, none⟩) L8.length c8, .slice a9 L9.length c9, .slice a10 L10.length c10] 49)).alloc (.cells #[.int .i64 4, .int .i64 (j : Int)] 91)).alloc (.cells #[.int .i64 0, .int .i64 0, .int .i64 0, .int .i64 0, .int .i64 0, .int .i64 0, .int .i64 0, .int .i64 0, .slice none 0 0, .slice none 0 0, .slice none 0 0] 49) := ⟨_, rfl⟩
  have HB : Hid (Boxes3 w W ⟨z0, z1, z2, z3, z4, z5, z6, z7, L8, L9, L10⟩ (.slice (some ⟨gA, 0, none⟩) L8.length c8) (.slice a9 L9.length c9) (.slice a10 L10.length c10) [.int .i64 4, .int .i64 (j : Int)]) := by show Boxes3 _ _ _ _ _ _ _; rw [hW]; exact boxes3 w ⟨z0, z1, z2, z3, z4, z5, z6, z7, L8, L9, L10⟩ (.slice (some ⟨gA, 0, none⟩) L8.length c8) (.slice a9 L9.length c9) (.slice a10 L10.length c10) [.int .i64 4, .int .i64 (j : Int)] 91 (by simp)
  have UW := hid (hU.below HB.out.b rfl)
  have HU := hid hU
  have HW := hid hW
  have HBS := hid HB.out.s
  clear hW hU
  have GB : Hid (BoxL W w.heap.size [.int .i64 z0, .int .i64 z1, .int .i64 z2, .int .i64 z3, .int .i64 z4, .int .i64 z5, .int .i64 z6, .int .i64 z7, .slice (some ⟨gA, 0, none⟩) L8.length c8, .slice a9 L9.length c9, .slice a10 L10.length c10]) := HB.out.g
  have RB := hid HB.out.r
  have XB := hid HB.out.x
  have MM : Hid (Mv w W (.slice (some ⟨gA, 0, none⟩) L8.length c8) (.slice a9 L9.length c9) (.slice a10 L10.length c10) (.slice (some ⟨gA, 0, none⟩) L8.length c8) (.slice a9 L9.length c9) (.slice a10 L10.length c10)) := (Mv.refl w _ _ _).old (P := fun _ => False) (But.of HB.out.b) fun _ h => h.elim
  have HBL : Hid (w.heap.size + 3 ≤ W.heap.size) := by show _ ≤ _; have := HBS.out; omega
  have HXB : Hid (¬ Bk (.slice (some ⟨gA, 0, none⟩) L8.length c8) (.slice a9 L9.length c9) (.slice a10 L10.length c10) (w.heap.size + 1)) := HU.out.notBk (by omega)
  have HNB : Hid (¬ Bk (.slice (some ⟨gA, 0, none⟩) L8.length c8) (.slice a9 L9.length c9) (.slice a10 L10.length c10) w.heap.size) := HU.out.notBk (Nat.le_refl _)
  have HNR : Hid (¬ Bk (.slice (some ⟨gA, 0, none⟩) L8.length c8) (.slice a9 L9.length c9) (.slice a10 L10.length c10) (w.heap.size + 2)) := HU.out.notBk (by omega)
  have HCAP := hid hcap
  clear hcap
  obtain ⟨q0, q1, q2, q3, q4, q5, q6, q7, q8, q9, q10⟩ := GB.out.eleven
  obtain ⟨g0, g1, g2, g3, g4, g5, g6, g7, g8, g9, g10⟩ := GB.out.frozen11
  obtain ⟨r0, r1, r2, r3, r4, r5, r6, r7, r8, r9, r10⟩ := RB.out.eleven
  obtain ⟨f0, f1, f2, f3, f4, f5, f6, f7, f8, f9, f10⟩ := RB.out.frozen11
  obtain ⟨p0, p1⟩ := XB.out.two
  go_enter Try.func62, Try.ntmps62
  go_upto_region 1 with fail
  rw [← HW.out]
  clear HW
  obtain ⟨c0, c1, c2⟩ := UW.out.cells8 hj
  rw [HYJ.out] at c0 c1 c2
  go_wp2_with fail
  refine (l1In_eq 4 2 4 true (by decide) _).mono ?_
  rintro e w' ⟨rfl, hw⟩; obtain rfl := hw.symm
  go_upto_region 27 with fail
  clear q0 q1 q2 q3 q4 q5 q6 q7 q8 q9 q10 g0 g1 g2 g3 g4 g5 g6 g7 g8 g9 g10 r0 r1 r2 r3 r4 r5 r6 r7 r8 r9 r10 f0 f1 f2 f3 f4 f5 f6 f7 f8 f9 f10 p0 p1
  clear c0 c1 c2
  have bA : Below W.heap.size W (W.alloc (.cells #[.int .i64 y0, .int .i64 y1, .int .i64 y2] 116)) := (Below.refl _ _).alloc (Nat.le_refl _) _
  have YB := hid (boxL_new W [.int .i64 y0, .int .i64 y1, .int .i64 y2] 116)
  replace UW := hid (UW.out.below bA rfl)
  replace GB := hid (GB.out.below bA GB.out.lt)
  replace RB := hid (RB.out.below bA RB.out.lt)
  replace XB := hid (XB.out.below bA XB.out.lt)
  replace MM := hid (MM.out.old (P := fun _ => False) (But.of bA) fun _ h => h.elim)
  have hsA : (W.alloc (.cells #[.int .i64 y0, .int .i64 y1, .int .i64 y2] 116)).heap.size = W.heap.size + 1 := by simp
  have HSA := hid hsA
  clear hsA
  obtain ⟨W1, hW1⟩ : ∃ W1, W1 = W.alloc (.cells #[.int .i64 y0, .int .i64 y1, .int .i64 y2] 116) := ⟨_, rfl⟩
  rw [← hW1] at UW GB RB XB MM YB HSA ⊢
  clear hW1 bA
  obtain ⟨q0, q1, q2, q3, q4, q5, q6, q7, q8, q9, q10⟩ := GB.out.eleven
  obtain ⟨g0, g1, g2, g3, g4, g5, g6, g7, g8, g9, g10⟩ := GB.out.frozen11
  obtain ⟨r0, r1, r2, r3, r4, r5, r6, r7, r8, r9, r10⟩ := RB.out.eleven
  obtain ⟨f0, f1, f2, f3, f4, f5, f6, f7, f8, f9, f10⟩ := RB.out.frozen11
  obtain ⟨p0, p1⟩ := XB.out.two
  obtain ⟨y0c, y1c, y2c⟩ := YB.out.three
  have h30 : ((L8.length : Int) == 30) = false := by simp; have := HLEN.out; omega
  go_wp2_with fail
  refine (l15Write_E L ⟨z0, z1, z2, z3, z4, z5, z6, z7, L8, L9, L10⟩ (y0, y1, y2) E _ _ _ _ (Nat.le_trans hL MM.out.but.size) UW.out HE.out).mono ?_
  rintro e w2 ⟨u, rfl, u8, u9, u10, rfl, U2, M2⟩
  obtain ⟨b8, d8, b9, d9, b10, d10, rfl, rfl, rfl⟩ := U2.form
  clear q0 q1 q2 q3 q4 q5 q6 q7 q8 q9 q10 g0 g1 g2 g3 g4 g5 g6 g7 g8 g9 g10 r0 r1 r2 r3 r4 r5 r6 r7 r8 r9 r10 f0 f1 f2 f3 f4 f5 f6 f7 f8 f9 f10 p0 p1 y0c y1c y2c
  have hl2 := RB.out.lt
  replace RB := hid (RB.out.mv M2 HNR.out)
  replace HNR := hid (M2.notBk HNR.out hl2)
  replace MM := hid (MM.out.trans M2)
  replace UW := hid U2
  clear U2 M2 hl2
  obtain ⟨r0, r1, r2, r3, r4, r5, r6, r7, r8, r9, r10⟩ := RB.out.eleven
  obtain ⟨f0, f1, f2, f3, f4, f5, f6, f7, f8, f9, f10⟩ := RB.out.frozen11
  have LF := gr_leaf (D := E) RB.out UW.out MM.out (b := (w.heap.size + 2)) (by omega) HNR.out
  have HL := hid LF.1
  obtain ⟨t0, t1, t2, t3, t4, t5, t6, t7, t8, t9, t10⟩ := LF.2.eleven
  clear LF
  go_wp2
  exact bodyPost_ret (v := .tuple #[grV E (.slice b8 E.f8.length d8) (.slice b9 E.f9.length d9) (.slice b10 E.f10.length d10), .bool true]) (by simp [results, Try.results62, go_sem, t0, t1, t2, t3, t4, t5, t6, t7, t8, t9, t10]) rfl ⟨_, rfl, _, _, _, rfl, HL.out⟩
end Go.Proofs.Ytdlkilacnnjglaa
