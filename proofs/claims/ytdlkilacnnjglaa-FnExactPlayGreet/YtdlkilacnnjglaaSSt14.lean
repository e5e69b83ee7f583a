/-
  spec.l15Step: one way of it.
-/
import Derived.Test.YtdlkilacnnjglaaSWr15
import Derived.Test.YtdlkilacnnjglaaHeApp3
import Derived.Test.YtdlkilacnnjglaaSIn
import Derived.Deep.DeepCutAuto
import Derived.Test.YtdlkilacnnjglaaSTk6
namespace Go.Proofs.Ytdlkilacnnjglaa
open Go.RowKit

set_option maxRecDepth 100000 in
set_option maxHeartbeats 8000000 in
theorem sst_take (L : Nat) (z0 z1 z2 z3 z4 z5 z6 z7 : Int) (L8 L9 L10 : List HeEl) (v8 v9 v10 : Value) (w : World) (hL : L ≤ w.heap.size) (hU : RowsU L w v8 v9 v10 L8 L9 L10) (j : Nat) (hj : j < L8.length) (y0 y1 y2 : Int) (hyj : L8.getD j (0, 0, 0) = (y0, y1, y2)) (hy : 0 ≤ z7 ∧ z7 ≤ 1000) (h9 : L9.length < 300) (h10 : L10.length < 300) :
    Calls Try.prog 62 #[.agg #[.int .i64 z0, .int .i64 z1, .int .i64 z2, .int .i64 z3, .int .i64 z4, .int .i64 z5, .int .i64 z6, .int .i64 z7, v8, v9, v10], .agg #[.int .i64 2, .int .i64 (j : Int)]] w fun e w' => ∃ u, e = .returned (.tuple #[u, .bool true]) ∧ Moved L w v8 v9 v10 (takG ⟨z0, z1, z2, z3, z4, z5, z6, z7, (L8.eraseIdx j), L9, L10⟩ (y0, y1, y2)) u w' := by
  obtain ⟨E, hE2⟩ : ∃ E, takG ⟨z0, z1, z2, z3, z4, z5, z6, z7, (L8.eraseIdx j), L9, L10⟩ (y0, y1, y2) = E := ⟨_, rfl⟩
  rw [hE2]
  obtain ⟨Ly, hLy⟩ : ∃ l, l = L8.eraseIdx j := ⟨_, rfl⟩
  rw [← hLy] at hE2
  have HE0 := hid hE2
  have HLY := hid hLy
  have HY7 := hid hy
  clear hE2 hLy hy
  obtain ⟨Lx, hLx⟩ : ∃ l, L8.eraseIdx j = l := ⟨_, rfl⟩
  try rw [hLx]
  have HLX := hid hLx
  clear hLx
  have HYJ := hid hyj
  have HJ := hid hj
  clear hyj
  have n0 : decide ((j : Int) < 0) = false := by rw [decide_eq_false_iff_not]; omega
  have n1 : decide ((j : Int) ≥ (L8.length : Int)) = false := by rw [decide_eq_false_iff_not]; omega
  have m0 : (0 : Int) ≤ (j : Int) := by omega
  have m1 : (j : Int) < (L8.length : Int) := by omega
  obtain ⟨gA, c8, a9, c9, a10, c10, rfl, rfl, rfl, hcap⟩ := hU.formJ hj
  obtain ⟨W, hW⟩ : ∃ W, W = ((w.alloc (.cells #[.int .i64 z0, .int .i64 z1, .int .i64 z2, .int .i64 z3, .int .i64 z4, .int .i64 z5, .int .i64 z6, .int .i64 z7, .slice (some ⟨gA, 0, none⟩) L8.length c8, .slice a9 L9.length c9, .slice a10 L10.length c10] 49)).alloc (.cells #[.int .i64 2, .int .i64 (j : Int)] 91)).alloc (.cells #[.int .i64 0, .int .i64 0, .int .i64 0, .int .i64 0, .int .i64 0, .int .i64 0, .int .i64 0, .int .i64 0, .slice none 0 0, .slice none 0 0, .slice none 0 0] 49) := ⟨_, rfl⟩
  have HB : Hid (Boxes3 w W ⟨z0, z1, z2, z3, z4, z5, z6, z7, L8, L9, L10⟩ (.slice (some ⟨gA, 0, none⟩) L8.length c8) (.slice a9 L9.length c9) (.slice a10 L10.length c10) [.int .i64 2, .int .i64 (j : Int)]) := by show Boxes3 _ _ _ _ _ _ _; rw [hW]; exact boxes3 w ⟨z0, z1, z2, z3, z4, z5, z6, z7, L8, L9, L10⟩ (.slice (some ⟨gA, 0, none⟩) L8.length c8) (.slice a9 L9.length c9) (.slice a10 L10.length c10) [.int .i64 2, .int .i64 (j : Int)] 91 (by simp)
  have UW := hid (hU.below HB.out.b rfl)
  have HU := hid hU
  have HW := hid hW
  have HBS := hid HB.out.s
  clear hW hU
  have GB : Hid (BoxL W w.heap.size [.int .i64 z0, .int .i64 z1, .int .i64 z2, .int .i64 z3, .int .i64 z4, .int .i64 z5, .int .i64 z6, .int .i64 z7, .slice (some ⟨gA, 0, none⟩) L8.length c8, .slice a9 L9.length c9, .slice a10 L10.length c10]) := HB.out.g
  have RB := hid HB.out.r
  have XB := hid HB.out.x
  have MM : Hid (Mv w W (.slice (some ⟨gA, 0, none⟩) L8.length c8) (.slice a9 L9.length c9) (.slice a10 L10.length c10) (.slice (some ⟨gA, 0, none⟩) L8.length c8) (.slice a9 L9.length c9) (.slice a10 L10.length c10)) := (Mv.refl w _ _ _).old (P := fun _ => False) (But.of HB.out.b) fun _ h => h.elim
  have HBL : Hid (w.heap.size + 3 ≤ W.heap.size) := by show _ ≤ _; have := HBS.out; omega
  have HXB : Hid (¬ Bk (.slice (some ⟨gA, 0, none⟩) L8.length c8) (.slice a9 L9.length c9) (.slice a10 L10.length c10) (w.heap.size + 1)) := HU.out.notBk (by omega)
  have HNB : Hid (¬ Bk (.slice (some ⟨gA, 0, none⟩) L8.length c8) (.slice a9 L9.length c9) (.slice a10 L10.length c10) w.heap.size) := HU.out.notBk (Nat.le_refl _)
  have HNR : Hid (¬ Bk (.slice (some ⟨gA, 0, none⟩) L8.length c8) (.slice a9 L9.length c9) (.slice a10 L10.length c10) (w.heap.size + 2)) := HU.out.notBk (by omega)
  have HCAP := hid hcap
  clear hcap
  obtain ⟨q0, q1, q2, q3, q4, q5, q6, q7, q8, q9, q10⟩ := GB.out.eleven
  obtain ⟨g0, g1, g2, g3, g4, g5, g6, g7, g8, g9, g10⟩ := GB.out.frozen11
  obtain ⟨r0, r1, r2, r3, r4, r5, r6, r7, r8, r9, r10⟩ := RB.out.eleven
  obtain ⟨f0, f1, f2, f3, f4, f5, f6, f7, f8, f9, f10⟩ := RB.out.frozen11
  obtain ⟨p0, p1⟩ := XB.out.two
  go_enter Try.func62, Try.ntmps62
  go_upto_region 1 with fail
  rw [← HW.out]
  clear HW
  obtain ⟨c0, c1, c2⟩ := UW.out.cells8 hj
  rw [HYJ.out] at c0 c1 c2
  go_wp2_with fail
  refine (l1In_eq 2 2 4 true (by decide) _).mono ?_
  rintro e w' ⟨rfl, hw⟩; obtain rfl := hw.symm
  go_upto_region 27 with fail
  clear q0 q1 q2 q3 q4 q5 q6 q7 q8 q9 q10 g0 g1 g2 g3 g4 g5 g6 g7 g8 g9 g10 r0 r1 r2 r3 r4 r5 r6 r7 r8 r9 r10 f0 f1 f2 f3 f4 f5 f6 f7 f8 f9 f10 p0 p1
  clear c0 c1 c2
  have bA : Below W.heap.size W (W.alloc (.cells #[.int .i64 y0, .int .i64 y1, .int .i64 y2] 116)) := (Below.refl _ _).alloc (Nat.le_refl _) _
  have YB := hid (boxL_new W [.int .i64 y0, .int .i64 y1, .int .i64 y2] 116)
  replace UW := hid (UW.out.below bA rfl)
  replace GB := hid (GB.out.below bA GB.out.lt)
  replace RB := hid (RB.out.below bA RB.out.lt)
  replace XB := hid (XB.out.below bA XB.out.lt)
  replace MM := hid (MM.out.old (P := fun _ => False) (But.of bA) fun _ h => h.elim)
  have hsA : (W.alloc (.cells #[.int .i64 y0, .int .i64 y1, .int .i64 y2] 116)).heap.size = W.heap.size + 1 := by simp
  have HSA := hid hsA
  clear hsA
  obtain ⟨W1, hW1⟩ : ∃ W1, W1 = W.alloc (.cells #[.int .i64 y0, .int .i64 y1, .int .i64 y2] 116) := ⟨_, rfl⟩
  rw [← hW1] at UW GB RB XB MM YB HSA ⊢
  clear hW1 bA
  obtain ⟨q0, q1, q2, q3, q4, q5, q6, q7, q8, q9, q10⟩ := GB.out.eleven
  obtain ⟨g0, g1, g2, g3, g4, g5, g6, g7, g8, g9, g10⟩ := GB.out.frozen11
  obtain ⟨r0, r1, r2, r3, r4, r5, r6, r7, r8, r9, r10⟩ := RB.out.eleven
  obtain ⟨f0, f1, f2, f3, f4, f5, f6, f7, f8, f9, f10⟩ := RB.out.frozen11
  obtain ⟨p0, p1⟩ := XB.out.two
  obtain ⟨y0c, y1c, y2c⟩ := YB.out.three
  obtain ⟨T1, hT1⟩ : ∃ T, T = L8.take j := ⟨_, rfl⟩
  obtain ⟨T2, hT2⟩ : ∃ T, T = L8.drop (j + 1) := ⟨_, rfl⟩
  obtain ⟨nx, hnx⟩ : ∃ n, n = Lx.length := ⟨_, rfl⟩
  have HTT : Hid (T1 ++ T2 = Lx) := by show _ = _; rw [hT1, hT2, ← HLX.out]; exact erase_parts _ _
  have HT1 : Hid (T1.length = j) := by show _ = _; rw [hT1, List.length_take]; omega
  have HNX : Hid (j + T2.length = nx) := by show _ = _; rw [hnx, ← HTT.out, List.length_append, HT1.out]
  have HNX2 := hid hnx
  have hL30 := UW.out.n8
  have HNX3 : Hid (nx ≤ 1000) := by show _ ≤ _; have := HNX.out; rw [hT2, List.length_drop] at this; omega
  have HL8 := hid hL30
  clear hL30
  have HR8 := hid UW.out.rows.1
  have RT1 : Hid (HeReads W1 (.slice (some ⟨gA, 0, none⟩) j c8) T1) := by show HeReads _ _ _; rw [hT1]; exact hereads_take HR8.out j (by omega) c8 (by have := HCAP.out; omega)
  clear hnx hT1
  have mj : (j : Int) ≤ (c8 : Int) := by have := HCAP.out; omega
  have mj2 : j ≤ c8 := by have := HCAP.out; omega
  have bB : Below W1.heap.size W1 (W1.alloc (.cells #[] 116)) := (Below.refl _ _).alloc (Nat.le_refl _) _
  obtain ⟨k0, k1, k2, k3, k4, k5, k6, k7, k8, k9, k10⟩ := (GB.out.below bB GB.out.lt).eleven
  obtain ⟨k11, k12⟩ := (XB.out.below bB XB.out.lt).two
  go_wp2_with (at_builtin; refine wpList_append_hem _ rfl _ _ rfl W1.heap.size _ 0 [] rfl (heowns_lit W1 _ (Nat.le_refl _)) _ T1 rfl (RT1.out.below bB) j T1 rfl (by have := HT1.out; omega) (by have := HJ.out; have := HL8.out; omega) (by simp) ?_)
  intro u7 w3 ho hg hat
  obtain ⟨a7, c7, rfl, _⟩ := heowns_form ho
  clear q0 q1 q2 q3 q4 q5 q6 q7 q8 q9 q10 g0 g1 g2 g3 g4 g5 g6 g7 g8 g9 g10 r0 r1 r2 r3 r4 r5 r6 r7 r8 r9 r10 f0 f1 f2 f3 f4 f5 f6 f7 f8 f9 f10 p0 p1 y0c y1c y2c
  clear k0 k1 k2 k3 k4 k5 k6 k7 k8 k9 k10 k11 k12 mj mj2
  have bC : Below W1.heap.size W1 w3 := bB.grown hg (by simp) (by intro k hk; simp [Value.ownBlock] at hk; omega)
  have O7 := hid ho
  clear ho hg hat bB
  replace GB := hid (GB.out.below bC (by have h1 := GB.out.lt; have := HSA.out; omega))
  replace RB := hid (RB.out.below bC (by have h1 := RB.out.lt; have := HSA.out; omega))
  replace XB := hid (XB.out.below bC (by have h1 := XB.out.lt; have := HSA.out; omega))
  replace YB := hid (YB.out.below bC (by have h1 := YB.out.lt; have := HSA.out; omega))
  replace MM := hid (MM.out.old (P := fun _ => False) (But.of bC) fun _ h => h.elim)
  have UW3 := hid (UW.out.below bC rfl)
  have HR3 := hid (HR8.out.below bC)
  have hs13 : W1.heap.size ≤ w3.heap.size := bC.size
  have HS13 := hid hs13
  clear hs13
  obtain ⟨q0, q1, q2, q3, q4, q5, q6, q7, q8, q9, q10⟩ := GB.out.eleven
  obtain ⟨g0, g1, g2, g3, g4, g5, g6, g7, g8, g9, g10⟩ := GB.out.frozen11
  obtain ⟨r0, r1, r2, r3, r4, r5, r6, r7, r8, r9, r10⟩ := RB.out.eleven
  obtain ⟨f0, f1, f2, f3, f4, f5, f6, f7, f8, f9, f10⟩ := RB.out.frozen11
  obtain ⟨p0, p1⟩ := XB.out.two
  obtain ⟨y0c, y1c, y2c⟩ := YB.out.three
  have wj : IntKind.i64.wrap ((j : Int) + 1) = ((j + 1 : Nat) : Int) := by rw [IntKind.wrap_i64]; have := HL8.out; have := HJ.out; omega
  obtain ⟨j1, hj1⟩ : ∃ k, k = j + 1 := ⟨_, rfl⟩
  rw [← hj1] at wj hT2
  have mk0 : (0 : Int) ≤ (j1 : Int) := by omega
  have mk1 : (j1 : Int) ≤ (L8.length : Int) := by have := HJ.out; omega
  have mk2 : j1 ≤ L8.length := by have := HJ.out; omega
  have mk3 : L8.length ≤ c8 := HCAP.out
  have mk4 : (L8.length : Int) ≤ (c8 : Int) := by omega
  have mk5 : j1 ≤ c8 := by omega
  have HJ1 := hid hj1
  have HT2 := hid hT2
  clear hj1 hT2 hj m1 n1
  have HE : Hid (takG ⟨z0, z1, z2, z3, z4, z5, z6, z7, Lx, L9, L10⟩ (y0, y1, y2) = E) := by show _ = _; rw [← HLX.out, ← HLY.out]; exact HE0.out
  have HBC := hid bC
  clear bC
  by_cases hcc : j1 = c8
  · have RT0 : Hid (∀ a c, HeReads w3 (.slice a 0 c) T2) := fun a c => by rw [HT2.out, List.drop_eq_nil_of_le (by omega)]; exact hereads_nil _ _ _
    have RT2 : Hid (∀ a c, HeReads w3 (.slice a (L8.length - j1) c) T2) := fun a c => by rw [HT2.out]; exact reads_end hcc mk3 a c
    subst hcc
    go_wp2_with (at_builtin; first | refine wpList_append_hem _ rfl _ _ rfl W1.heap.size _ j T1 rfl O7.out _ T2 rfl (RT0.out _ _) nx Lx HTT.out HNX.out (by have := HNX3.out; omega) HS13.out ?_ | refine wpList_append_hem _ rfl _ _ rfl W1.heap.size _ j T1 rfl O7.out _ T2 rfl (RT2.out _ _) nx Lx HTT.out HNX.out (by have := HNX3.out; omega) HS13.out ?_)
    intro u8 w4 ho hg hat
    obtain ⟨a4, c4, rfl, _⟩ := heowns_form ho
    clear q0 q1 q2 q3 q4 q5 q6 q7 q8 q9 q10 g0 g1 g2 g3 g4 g5 g6 g7 g8 g9 g10 r0 r1 r2 r3 r4 r5 r6 r7 r8 r9 r10 f0 f1 f2 f3 f4 f5 f6 f7 f8 f9 f10 p0 p1 y0c y1c y2c
    have bD : Below W1.heap.size w3 w4 := (Below.refl _ _).grown hg HS13.out (by intro k hk; exact (heowns_lt O7.out k hk).1)
    have ho2 : w4.ownsRow W1.heap.size 116 3 (.slice a4 nx c4) Lx.length (heflat Lx) := by rw [← HNX2.out]; exact ho
    clear ho hg hat
    have hown : ∀ k, (Value.slice a4 nx c4).ownBlock = some k → W1.heap.size ≤ k := fun k hk => (heowns_lt ho2 k hk).1
    have hw1 : w.heap.size + 3 ≤ W1.heap.size := by have h1 := HBL.out; have h2 := HSA.out; omega
    replace UW := hid (UW.out.new8 (by have h1 := HNX2.out; have h2 := HNX3.out; omega) ho2 (HBC.out.trans bD) (by omega))
    replace GB := hid (GB.out.below bD (by have h2 := HSA.out; have h3 := HBS.out; omega))
    replace RB := hid (RB.out.below bD (by have h2 := HSA.out; have h3 := HBS.out; omega))
    replace XB := hid (XB.out.below bD (by have h2 := HSA.out; have h3 := HBS.out; omega))
    replace YB := hid (YB.out.below bD (by have h2 := HSA.out; have h3 := HBS.out; omega))
    replace MM := hid ((MM.out.old (But.above bD) (fun k (h : W1.heap.size ≤ k) => by omega)).new8 (u8 := (.slice a4 nx c4)) (fun k hk => by have := hown k hk; omega))
    clear bD
    replace HNB := hid (bk_new8 HNB.out hown (by omega))
    replace HNR := hid (bk_new8 HNR.out hown (by omega))
    clear ho2 hown hw1
    obtain ⟨q0, q1, q2, q3, q4, q5, q6, q7, q8, q9, q10⟩ := GB.out.eleven
    obtain ⟨g0, g1, g2, g3, g4, g5, g6, g7, g8, g9, g10⟩ := GB.out.frozen11
    obtain ⟨r0, r1, r2, r3, r4, r5, r6, r7, r8, r9, r10⟩ := RB.out.eleven
    obtain ⟨f0, f1, f2, f3, f4, f5, f6, f7, f8, f9, f10⟩ := RB.out.frozen11
    obtain ⟨p0, p1⟩ := XB.out.two
    obtain ⟨y0c, y1c, y2c⟩ := YB.out.three
    have HN8 : Hid ((Value.slice a4 nx c4).ownBlock ≠ some w.heap.size) := fun e => HNB.out (.inl e)
    have HN9 : Hid ((Value.slice a9 L9.length c9).ownBlock ≠ some w.heap.size) := fun e => HNB.out (.inr (.inl e))
    have HN10 : Hid ((Value.slice a10 L10.length c10).ownBlock ≠ some w.heap.size) := fun e => HNB.out (.inr (.inr e))
    replace MM := hid (MM.out.set (j := 8) (b := w.heap.size) (Nat.le_refl _) (.slice a4 nx c4))
    replace UW := hid (UW.out.set (j := 8) (b := w.heap.size) (.slice a4 nx c4) HN8.out HN9.out HN10.out)
    replace RB : Hid (BoxL (w4.setCell ⟨w.heap.size, 8, none⟩ (.slice a4 nx c4)) (w.heap.size + 2) zeroC) := RB.out.but ((But.refl _ _).setCell (P := fun k => k = w.heap.size) (p := ⟨w.heap.size, 8, none⟩) rfl _) (by have := HBS.out; omega)
    replace XB : Hid (BoxL (w4.setCell ⟨w.heap.size, 8, none⟩ (.slice a4 nx c4)) (w.heap.size + 1) [.int .i64 2, .int .i64 (j : Int)]) := XB.out.but ((But.refl _ _).setCell (P := fun k => k = w.heap.size) (p := ⟨w.heap.size, 8, none⟩) rfl _) (by have := HBS.out; omega)
    replace GB : Hid (BoxL (w4.setCell ⟨w.heap.size, 8, none⟩ (.slice a4 nx c4)) w.heap.size [.int .i64 z0, .int .i64 z1, .int .i64 z2, .int .i64 z3, .int .i64 z4, .int .i64 z5, .int .i64 z6, .int .i64 z7, .slice a4 nx c4, .slice a9 L9.length c9, .slice a10 L10.length c10]) := GB.out.set 8 (by simp) _
    go_wp2_with fail
    refine (l15Take_E L ⟨z0, z1, z2, z3, z4, z5, z6, z7, Lx, L9, L10⟩ (y0, y1, y2) E _ _ _ _ (Nat.le_trans hL MM.out.but.size) UW.out HY7.out h9 h10 HE.out).mono ?_
    rintro e w5 ⟨u, rfl, u8, u9, u10, rfl, U2, M2⟩
    obtain ⟨b8, d8, b9, d9, b10, d10, rfl, rfl, rfl⟩ := U2.form
    clear q0 q1 q2 q3 q4 q5 q6 q7 q8 q9 q10 g0 g1 g2 g3 g4 g5 g6 g7 g8 g9 g10 r0 r1 r2 r3 r4 r5 r6 r7 r8 r9 r10 f0 f1 f2 f3 f4 f5 f6 f7 f8 f9 f10 p0 p1 y0c y1c y2c
    have hl2 := RB.out.lt
    replace RB := hid (RB.out.mv M2 HNR.out)
    replace HNR := hid (M2.notBk HNR.out hl2)
    replace MM := hid (MM.out.trans M2)
    replace UW := hid U2
    clear U2 M2 hl2
    obtain ⟨r0, r1, r2, r3, r4, r5, r6, r7, r8, r9, r10⟩ := RB.out.eleven
    obtain ⟨f0, f1, f2, f3, f4, f5, f6, f7, f8, f9, f10⟩ := RB.out.frozen11
    have LF := gr_leaf (D := E) RB.out UW.out MM.out (b := (w.heap.size + 2)) (by omega) HNR.out
    have HL := hid LF.1
    obtain ⟨t0, t1, t2, t3, t4, t5, t6, t7, t8, t9, t10⟩ := LF.2.eleven
    clear LF
    go_wp2
    exact bodyPost_ret (v := .tuple #[grV E (.slice b8 E.f8.length d8) (.slice b9 E.f9.length d9) (.slice b10 E.f10.length d10), .bool true]) (by simp [results, Try.results62, go_sem, t0, t1, t2, t3, t4, t5, t6, t7, t8, t9, t10]) rfl ⟨_, rfl, _, _, _, rfl, HL.out⟩
  · have hcl : j1 < c8 := by omega
    have hcl2 : (j1 : Int) < (c8 : Int) := by omega
    have RT2 : Hid (HeReads w3 (.slice (some ⟨gA, j1 * 3, none⟩) (L8.length - j1) (c8 - j1)) T2) := by show HeReads _ _ _; rw [HT2.out]; exact reads_far HR3.out mk2 mk3
    go_wp2_with (at_builtin; refine wpList_append_hem _ rfl _ _ rfl W1.heap.size _ j T1 rfl O7.out _ T2 rfl RT2.out nx Lx HTT.out HNX.out (by have := HNX3.out; omega) HS13.out ?_)
    intro u8 w4 ho hg hat
    obtain ⟨a4, c4, rfl, _⟩ := heowns_form ho
    clear q0 q1 q2 q3 q4 q5 q6 q7 q8 q9 q10 g0 g1 g2 g3 g4 g5 g6 g7 g8 g9 g10 r0 r1 r2 r3 r4 r5 r6 r7 r8 r9 r10 f0 f1 f2 f3 f4 f5 f6 f7 f8 f9 f10 p0 p1 y0c y1c y2c
    have bD : Below W1.heap.size w3 w4 := (Below.refl _ _).grown hg HS13.out (by intro k hk; exact (heowns_lt O7.out k hk).1)
    have ho2 : w4.ownsRow W1.heap.size 116 3 (.slice a4 nx c4) Lx.length (heflat Lx) := by rw [← HNX2.out]; exact ho
    clear ho hg hat
    have hown : ∀ k, (Value.slice a4 nx c4).ownBlock = some k → W1.heap.size ≤ k := fun k hk => (heowns_lt ho2 k hk).1
    have hw1 : w.heap.size + 3 ≤ W1.heap.size := by have h1 := HBL.out; have h2 := HSA.out; omega
    replace UW := hid (UW.out.new8 (by have h1 := HNX2.out; have h2 := HNX3.out; omega) ho2 (HBC.out.trans bD) (by omega))
    replace GB := hid (GB.out.below bD (by have h2 := HSA.out; have h3 := HBS.out; omega))
    replace RB := hid (RB.out.below bD (by have h2 := HSA.out; have h3 := HBS.out; omega))
    replace XB := hid (XB.out.below bD (by have h2 := HSA.out; have h3 := HBS.out; omega))
    replace YB := hid (YB.out.below bD (by have h2 := HSA.out; have h3 := HBS.out; omega))
    replace MM := hid ((MM.out.old (But.above bD) (fun k (h : W1.heap.size ≤ k) => by omega)).new8 (u8 := (.slice a4 nx c4)) (fun k hk => by have := hown k hk; omega))
    clear bD
    replace HNB := hid (bk_new8 HNB.out hown (by omega))
    replace HNR := hid (bk_new8 HNR.out hown (by omega))
    clear ho2 hown hw1
    obtain ⟨q0, q1, q2, q3, q4, q5, q6, q7, q8, q9, q10⟩ := GB.out.eleven
    obtain ⟨g0, g1, g2, g3, g4, g5, g6, g7, g8, g9, g10⟩ := GB.out.frozen11
    obtain ⟨r0, r1, r2, r3, r4, r5, r6, r7, r8, r9, r10⟩ := RB.out.eleven
    obtain ⟨f0, f1, f2, f3, f4, f5, f6, f7, f8, f9, f10⟩ := RB.out.frozen11
    obtain ⟨p0, p1⟩ := XB.out.two
    obtain ⟨y0c, y1c, y2c⟩ := YB.out.three
    have HN8 : Hid ((Value.slice a4 nx c4).ownBlock ≠ some w.heap.size) := fun e => HNB.out (.inl e)
    have HN9 : Hid ((Value.slice a9 L9.length c9).ownBlock ≠ some w.heap.size) := fun e => HNB.out (.inr (.inl e))
    have HN10 : Hid ((Value.slice a10 L10.length c10).ownBlock ≠ some w.heap.size) := fun e => HNB.out (.inr (.inr e))
    replace MM := hid (MM.out.set (j := 8) (b := w.heap.size) (Nat.le_refl _) (.slice a4 nx c4))
    replace UW := hid (UW.out.set (j := 8) (b := w.heap.size) (.slice a4 nx c4) HN8.out HN9.out HN10.out)
    replace RB : Hid (BoxL (w4.setCell ⟨w.heap.size, 8, none⟩ (.slice a4 nx c4)) (w.heap.size + 2) zeroC) := RB.out.but ((But.refl _ _).setCell (P := fun k => k = w.heap.size) (p := ⟨w.heap.size, 8, none⟩) rfl _) (by have := HBS.out; omega)
    replace XB : Hid (BoxL (w4.setCell ⟨w.heap.size, 8, none⟩ (.slice a4 nx c4)) (w.heap.size + 1) [.int .i64 2, .int .i64 (j : Int)]) := XB.out.but ((But.refl _ _).setCell (P := fun k => k = w.heap.size) (p := ⟨w.heap.size, 8, none⟩) rfl _) (by have := HBS.out; omega)
    replace GB : Hid (BoxL (w4.setCell ⟨w.heap.size, 8, none⟩ (.slice a4 nx c4)) w.heap.size [.int .i64 z0, .int .i64 z1, .int .i64 z2, .int .i64 z3, .int .i64 z4, .int .i64 z5, .int .i64 z6, .int .i64 z7, .slice a4 nx c4, .slice a9 L9.length c9, .slice a10 L10.length c10]) := GB.out.set 8 (by simp) _
    go_wp2_with fail
    refine (l15Take_E L ⟨z0, z1, z2, z3, z4, z5, z6, z7, Lx, L9, L10⟩ (y0, y1, y2) E _ _ _ _ (Nat.le_trans hL MM.out.but.size) UW.out HY7.out h9 h10 HE.out).mono ?_
    rintro e w5 ⟨u, rfl, u8, u9, u10, rfl, U2, M2⟩
    obtain ⟨b8, d8, b9, d9, b10, d10, rfl, rfl, rfl⟩ := U2.form
    clear q0 q1 q2 q3 q4 q5 q6 q7 q8 q9 q10 g0 g1 g2 g3 g4 g5 g6 g7 g8 g9 g10 r0 r1 r2 r3 r4 r5 r6 r7 r8 r9 r10 f0 f1 f2 f3 f4 f5 f6 f7 f8 f9 f10 p0 p1 y0c y1c y2c
    have hl2 := RB.out.lt
    replace RB := hid (RB.out.mv M2 HNR.out)
    replace HNR := hid (M2.notBk HNR.out hl2)
    replace MM := hid (MM.out.trans M2)
    replace UW := hid U2
    clear U2 M2 hl2
    obtain ⟨r0, r1, r2, r3, r4, r5, r6, r7, r8, r9, r10⟩ := RB.out.eleven
    obtain ⟨f0, f1, f2, f3, f4, f5, f6, f7, f8, f9, f10⟩ := RB.out.frozen11
    have LF := gr_leaf (D := E) RB.out UW.out MM.out (b := (w.heap.size + 2)) (by omega) HNR.out
    have HL := hid LF.1
    obtain ⟨t0, t1, t2, t3, t4, t5, t6, t7, t8, t9, t10⟩ := LF.2.eleven
    clear LF
    go_wp2
    exact bodyPost_ret (v := .tuple #[grV E (.slice b8 E.f8.length d8) (.slice b9 E.f9.length d9) (.slice b10 E.f10.length d10), .bool true]) (by simp [results, Try.results62, go_sem, t0, t1, t2, t3, t4, t5, t6, t7, t8, t9, t10]) rfl ⟨_, rfl, _, _, _, rfl, HL.out⟩
end Go.Proofs.Ytdlkilacnnjglaa
