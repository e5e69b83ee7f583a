/-
  impl.PutPacket where nothing is put: no turns. Nothing old is written.
-/
import Derived.Test.YtepnhbicmlfnhacTurnPut
import Derived.Test.YtepnhbicmlfnhacIGoodT
import Derived.Test.YtepnhbicmlfnhacTurnFns
import Derived.Test.YtepnhbicmlfnhacInfoII
namespace Go.Proofs.Ytepnhbicmlfnhac
open Go.RowKit

set_option maxRecDepth 100000 in
set_option maxHeartbeats 16000000 in
theorem iput_no (v : Value) (D : TuD) (q x : Int) (w : World) (hr : TuReads w v D) (h : putOk D q x = false) :
    Calls Try.prog 43 #[v, .int .i64 q, .int .i64 x] w fun e w' => ∃ u0, e = .returned (.tuple #[u0, .bool false]) ∧ TuOwn (Iv w.heap.size w'.heap.size) w' u0 noT ∧ Below w.heap.size w w' := by
  have HP := hid h
  clear h
  have HR := hid hr
  obtain ⟨v0, v1, v2, v3, rfl, r0, r1, r2, r3⟩ := hr
  have R1 := hid r1
  obtain ⟨a0, p0, rfl, _, _⟩ := r0
  obtain ⟨a1, p1, rfl, _, _⟩ := r1
  obtain ⟨a2, p2, rfl, _, _⟩ := r2
  obtain ⟨a3, p3, rfl, _, _⟩ := r3
  obtain ⟨z, hz⟩ : ∃ z, z = D.f4 := ⟨_, rfl⟩
  rw [← hz] at HR ⊢
  clear hz
  obtain ⟨t, ht⟩ : ∃ t, goodTu D = t := ⟨_, rfl⟩
  have HT := hid ht
  clear ht
  have PA := hid (boxL_new w [.slice a0 D.f0.length p0, .slice a1 D.f1.length p1, .slice a2 D.f2.length p2, .slice a3 D.f3.length p3, .int .i64 z] 55)
  have PR := hid (boxL_new (w.alloc (.cells #[.slice a0 D.f0.length p0, .slice a1 D.f1.length p1, .slice a2 D.f2.length p2, .slice a3 D.f3.length p3, .int .i64 z] 55)) [.slice none 0 0, .slice none 0 0, .slice none 0 0, .slice none 0 0, .int .i64 0] 55)
  replace PA := hid (PA.out.below ((Below.refl _ _).alloc (Nat.le_refl _) (.cells #[.slice none 0 0, .slice none 0 0, .slice none 0 0, .slice none 0 0, .int .i64 0] 55)) PA.out.lt)
  rw [World.size_alloc] at PR
  have B0 : Hid (Below w.heap.size w ((w.alloc (.cells #[.slice a0 D.f0.length p0, .slice a1 D.f1.length p1, .slice a2 D.f2.length p2, .slice a3 D.f3.length p3, .int .i64 z] 55)).alloc (.cells #[.slice none 0 0, .slice none 0 0, .slice none 0 0, .slice none 0 0, .int .i64 0] 55))) := ((Below.refl _ _).alloc (Nat.le_refl _) _).alloc (by simp) _
  obtain ⟨q0, q1, q2, q3, q4⟩ := PA.out.five
  go_enter Try.func43, Try.ntmps43
  go_wp2_with fail
  refine (igoodT_eq _ D t HT.out _ (HR.out.below B0.out)).mono ?_
  rintro e w1 ⟨rfl, b1⟩
  have B1 : Hid (Below w.heap.size w w1) := B0.out.trans (b1.mono B0.out.size)
  have PA1 := hid (PA.out.below b1 PA.out.lt)
  have PR1 := hid (PR.out.below b1 PR.out.lt)
  clear b1 q0 q1 q2 q3 q4 PA PR B0
  obtain ⟨q0, q1, q2, q3, q4⟩ := PA1.out.five
  obtain ⟨t0, t1, t2, t3, t4⟩ := PR1.out.five
  have x0 := (PR1.out.cell 0 (by simp)).2
  have x1 := (PR1.out.cell 1 (by simp)).2
  have x2 := (PR1.out.cell 2 (by simp)).2
  have x3 := (PR1.out.cell 3 (by simp)).2
  have x4 := (PR1.out.cell 4 (by simp)).2
  have op := put5_only w1 (w.heap.size + 1) (.slice none 0 0) (.slice none 0 0) (.slice none 0 0) (.slice none 0 0) (.int .i64 0)
  have bx := put5_box PR1.out (.slice none 0 0) (.slice none 0 0) (.slice none 0 0) (.slice none 0 0) (.int .i64 0)
  have HB := hid (B1.out.trans (op.below (lo := w.heap.size) fun j e => by omega))
  obtain ⟨z0, z1, z2, z3, z4⟩ := bx.five
  clear op bx
  cases t
  · go_wp2
    exact bodyPost_ret (v := .tuple #[.agg #[.slice none 0 0, .slice none 0 0, .slice none 0 0, .slice none 0 0, .int .i64 0], .bool false]) (by simp [results, Try.results43, go_sem, z0, z1, z2, z3, z4]) rfl ⟨_, rfl, noT_own _ _ _, HB.out⟩
  by_cases hq0 : q < 0
  · have d1 : decide (q < 0) = true := by rw [decide_eq_true_eq]; exact hq0
    go_wp2
    exact bodyPost_ret (v := .tuple #[.agg #[.slice none 0 0, .slice none 0 0, .slice none 0 0, .slice none 0 0, .int .i64 0], .bool false]) (by simp [results, Try.results43, go_sem, z0, z1, z2, z3, z4]) rfl ⟨_, rfl, noT_own _ _ _, HB.out⟩
  have d1 : decide (q < 0) = false := by rw [decide_eq_false_iff_not]; exact hq0
  obtain ⟨k, hk⟩ : ∃ k : Nat, q = (k : Int) := ⟨q.toNat, by omega⟩
  subst hk
  by_cases hq1 : D.f1.length ≤ k
  · have d2 : decide ((D.f1.length : Int) ≤ (k : Int)) = true := by rw [decide_eq_true_eq]; omega
    have d3 : decide (D.f1.length ≤ k) = true := by rw [decide_eq_true_eq]; exact hq1
    go_wp2
    exact bodyPost_ret (v := .tuple #[.agg #[.slice none 0 0, .slice none 0 0, .slice none 0 0, .slice none 0 0, .int .i64 0], .bool false]) (by simp [results, Try.results43, go_sem, z0, z1, z2, z3, z4]) rfl ⟨_, rfl, noT_own _ _ _, HB.out⟩
  have d2 : decide ((D.f1.length : Int) ≤ (k : Int)) = false := by rw [decide_eq_false_iff_not]; omega
  have d3 : decide (D.f1.length ≤ k) = false := by rw [decide_eq_false_iff_not]; exact hq1
  have hkl : k < D.f1.length := by omega
  obtain ⟨b, hb⟩ : ∃ b, decide (1 ≤ x ∧ x ≤ 20) = b := ⟨_, rfl⟩
  have HXB := hid hb
  clear hb
  go_wp2_with fail
  refine (pkwrong_eq x b HXB.out _).mono ?_
  rintro e w' ⟨rfl, hw⟩; obtain rfl := hw.symm
  cases b
  · go_wp2
    exact bodyPost_ret (v := .tuple #[.agg #[.slice none 0 0, .slice none 0 0, .slice none 0 0, .slice none 0 0, .int .i64 0], .bool false]) (by simp [results, Try.results43, go_sem, z0, z1, z2, z3, z4]) rfl ⟨_, rfl, noT_own _ _ _, HB.out⟩
  have h30 : (D.f1.getD k []).length = 30 := by
    have h := HP.out
    unfold putOk at h
    rw [HT.out, HXB.out, Int.toNat_natCast, decide_eq_true (by omega)] at h
    simpa using h
  obtain ⟨g1, o1, p1', e1, h1⟩ := R1.out.cells k hkl
  cases e1
  obtain ⟨u, cu, hu⟩ := h1 k hkl
  obtain ⟨au, ku, rfl, _, _⟩ := hu
  rw [h30] at cu
  have CU1 := (World.cell?_of_block (a := ⟨g1, o1 + k, none⟩) (B1.out.block g1 (lt_of_cell cu))).trans cu
  have n0 : (0 : Int) ≤ (k : Int) := by omega
  have n1 : (k : Int) < (D.f1.length : Int) := by omega
  clear cu h1 h30
  go_wp2
  exact bodyPost_ret (v := .tuple #[.agg #[.slice none 0 0, .slice none 0 0, .slice none 0 0, .slice none 0 0, .int .i64 0], .bool false]) (by simp [results, Try.results43, go_sem, z0, z1, z2, z3, z4]) rfl ⟨_, rfl, noT_own _ _ _, HB.out⟩
end Go.Proofs.Ytepnhbicmlfnhac
