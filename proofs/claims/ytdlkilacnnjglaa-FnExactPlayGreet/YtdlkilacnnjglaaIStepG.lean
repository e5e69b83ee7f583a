/-
  impl.StepGreet of a good greeting with room: what a step leaves, and whether it was done.
-/
import Derived.Test.YtdlkilacnnjglaaIGoodGr
import Derived.Test.YtdlkilacnnjglaaILikeG
import Derived.Test.YtdlkilacnnjglaaIStK2
namespace Go.Proofs.Ytdlkilacnnjglaa
open Go.RowKit Go.Sort

theorem stepG_fits {D : GrD} {k i : Int} (hg : GoodP D) (h9 : D.f9.length < 300) (h10 : D.f10.length < 300) : fitsB (stepG D k i).1 = true := by
  have h := (goodG_iff _).2 (stepG_good (k := k) (i := i) hg h9 h10)
  rw [goodG_order] at h
  simp only [Bool.and_eq_true] at h
  exact h.2.2.2.2.1
set_option maxRecDepth 100000 in
set_option maxHeartbeats 16000000 in
theorem istepGr_any (D : GrD) (k i : Int) (hg : GoodP D) (h9 : D.f9.length < 300) (h10 : D.f10.length < 300) (v : Value) (w : World) (hR : GrReads w v D) :
    Calls Try.prog 66 #[v, .agg #[.int .i64 k, .int .i64 i]] w fun e w' => ∃ u, e = .returned (.tuple #[u, .bool (stepG D k i).2]) ∧ GrU w.heap.size w' u (if (stepG D k i).2 then (stepG D k i).1 else zeroG) ∧ Below w.heap.size w w' := by
  have HF := hid (stepG_fits (k := k) (i := i) hg h9 h10)
  have HG := hid hg
  have H8 : Hid (D.f8.length ≤ 300) := by have := hg.n8; show _ ≤ _; omega
  have H9 := hid h9
  have H10 := hid h10
  have HRD := hid hR
  obtain ⟨v8, v9, v10, rfl, r8, r9, r10⟩ := hR
  obtain ⟨a8, c8, rfl, _⟩ := r8
  obtain ⟨a9, c9, rfl, _⟩ := r9
  obtain ⟨a10, c10, rfl, _⟩ := r10
  obtain ⟨t, ht⟩ : ∃ t, (stepG D k i).2 = t := ⟨_, rfl⟩
  obtain ⟨D', hD'⟩ : ∃ D', (stepG D k i).1 = D' := ⟨_, rfl⟩
  have HT := hid ht
  have HD := hid hD'
  rw [ht, hD']
  clear hg h9 h10 ht hD'
  obtain ⟨z0, z1, z2, z3, z4, z5, z6, z7, L8, L9, L10⟩ := D
  simp only at H8 H9 H10 HRD HG ⊢
  obtain ⟨W, hW⟩ : ∃ W, W = ((w.alloc (.cells #[.int .i64 z0, .int .i64 z1, .int .i64 z2, .int .i64 z3, .int .i64 z4, .int .i64 z5, .int .i64 z6, .int .i64 z7, .slice a8 L8.length c8, .slice a9 L9.length c9, .slice a10 L10.length c10] 49)).alloc (.cells #[.int .i64 k, .int .i64 i] 91)).alloc (.cells #[.int .i64 0, .int .i64 0, .int .i64 0, .int .i64 0, .int .i64 0, .int .i64 0, .int .i64 0, .int .i64 0, .slice none 0 0, .slice none 0 0, .slice none 0 0] 49) := ⟨_, rfl⟩
  have HB : Hid (Boxes3 w W ⟨z0, z1, z2, z3, z4, z5, z6, z7, L8, L9, L10⟩ (.slice a8 L8.length c8) (.slice a9 L9.length c9) (.slice a10 L10.length c10) [.int .i64 k, .int .i64 i]) := by show Boxes3 _ _ _ _ _ _ _; rw [hW]; exact boxes3 w ⟨z0, z1, z2, z3, z4, z5, z6, z7, L8, L9, L10⟩ (.slice a8 L8.length c8) (.slice a9 L9.length c9) (.slice a10 L10.length c10) [.int .i64 k, .int .i64 i] 91 (by simp)
  have HW := hid hW
  have hsz := HB.out.s
  have HSZ := hid hsz
  clear hW
  have GB : Hid (BoxL W w.heap.size [.int .i64 z0, .int .i64 z1, .int .i64 z2, .int .i64 z3, .int .i64 z4, .int .i64 z5, .int .i64 z6, .int .i64 z7, .slice a8 L8.length c8, .slice a9 L9.length c9, .slice a10 L10.length c10]) := HB.out.g
  have SB := hid HB.out.x
  have RB := hid HB.out.r
  have BB := hid HB.out.b
  replace HRD := hid (HRD.out.below BB.out)
  clear HB hsz
  obtain ⟨q0, q1, q2, q3, q4, q5, q6, q7, q8, q9, q10⟩ := GB.out.eleven
  go_enter Try.func66, Try.ntmps66
  go_upto_region 1 with fail
  rw [← HW.out]
  clear HW
  go_wp2_with fail
  refine (igoodGr_eq _ _ true ((goodG_iff _).2 HG.out) _ HRD.out).mono ?_
  rintro e w1 ⟨rfl, b⟩
  have hw1 := b.size
  replace BB := hid (BB.out.trans (b.mono BB.out.size))
  replace GB := hid (GB.out.below b GB.out.lt)
  replace SB := hid (SB.out.below b SB.out.lt)
  replace RB := hid (RB.out.below b RB.out.lt)
  replace HRD := hid (HRD.out.below b)
  have HS1 : Hid (w.heap.size + 3 ≤ w1.heap.size) := by have := HSZ.out; show _ ≤ _; omega
  clear b q0 q1 q2 q3 q4 q5 q6 q7 q8 q9 q10 hw1
  obtain ⟨q0, q1, q2, q3, q4, q5, q6, q7, q8, q9, q10⟩ := GB.out.eleven
  go_wp2_with fail
  refine (ilikeGr_any _ _ _ HRD.out H8.out (Nat.le_of_lt H9.out) (Nat.le_of_lt H10.out)).mono ?_
  rintro e w2 ⟨u, rfl, hU, b⟩
  have hw1 := b.size
  have hww := BB.out.size
  replace BB := hid (BB.out.trans (b.mono BB.out.size))
  replace SB := hid (SB.out.below b SB.out.lt)
  replace RB := hid (RB.out.below b RB.out.lt)
  obtain ⟨u8, u9, u10, rfl, hU⟩ := hU
  obtain ⟨b8, m8, b9, m9, b10, m10, rfl, rfl, rfl⟩ := hU.form
  obtain ⟨V, hV⟩ : ∃ V, V = w2.alloc (.cells #[.int .i64 z0, .int .i64 z1, .int .i64 z2, .int .i64 z3, .int .i64 z4, .int .i64 z5, .int .i64 z6, .int .i64 z7, .slice b8 L8.length m8, .slice b9 L9.length m9, .slice b10 L10.length m10] 49) := ⟨_, rfl⟩
  have bv : Below w2.heap.size w2 V := by rw [hV]; exact (Below.refl _ _).alloc (Nat.le_refl _) _
  have hU' := (hU.mono (L' := w.heap.size) hww)
  have hNV := hU.notBk (Nat.le_refl _)
  have kV : BoxL V w2.heap.size (grC ⟨z0, z1, z2, z3, z4, z5, z6, z7, L8, L9, L10⟩ (.slice b8 L8.length m8) (.slice b9 L9.length m9) (.slice b10 L10.length m10)) := by rw [hV]; exact boxL_new w2 _ 49
  have hsv : V.heap.size = w2.heap.size + 1 := by rw [hV]; simp
  have HX : Hid (GrX w.heap.size w2.heap.size V ⟨z0, z1, z2, z3, z4, z5, z6, z7, L8, L9, L10⟩ (.slice b8 L8.length m8) (.slice b9 L9.length m9) (.slice b10 L10.length m10)) := ⟨kV, hU'.below bv rfl, by omega, hNV⟩
  have HLO : Hid (∀ g, Bk (.slice b8 L8.length m8) (.slice b9 L9.length m9) (.slice b10 L10.length m10) g → w.heap.size + 3 ≤ g) := fun g hg => by have h1 := (hU.blk hg).1; have := HS1.out; omega
  have HS2 : Hid (w.heap.size + 3 ≤ w2.heap.size) := by have := HS1.out; show _ ≤ _; omega
  have HSV := hid hsv
  replace BB := hid (BB.out.trans (bv.mono BB.out.size))
  replace SB := hid (SB.out.below bv SB.out.lt)
  replace RB := hid (RB.out.below bv RB.out.lt)
  have HV := hid hV
  clear b hU hw1 hww hU' hNV bv kV hsv hV q0 q1 q2 q3 q4 q5 q6 q7 q8 q9 q10 GB HRD HS1 HSZ
  go_upto_region 4 with fail
  rw [← HV.out]
  clear HV
  obtain ⟨y0, y1⟩ := SB.out.two
  go_wp2_with fail
  refine (istep_any _ k i HG.out H9.out H10.out w.heap.size w2.heap.size _ _ _ _ (by have := BB.out.size; omega) HX.out).mono ?_
  rintro e w3 ⟨rfl, t8, t9, t10, hX, hM⟩
  rw [HT.out]
  rw [HD.out] at hX
  have HFF : Hid (fitsB D' = true) := by show _ = _; rw [← HD.out]; exact HF.out
  have hb3 := hM.below HX.out (by have := BB.out.size; omega)
  have hvs := HX.out.box.lt
  have hnr : ¬ Bk t8 t9 t10 (w.heap.size + 2) := fun hk => by
    have h2 := HS2.out
    rcases hM.blk _ hk with h | h
    · have := HLO.out _ h; omega
    · omega
  have HNR := hid hnr
  replace RB := hid (RB.out.but hM.but fun hk => by
    have h2 := HS2.out
    rcases hk with h | h
    · have := HLO.out _ h; omega
    · omega)
  replace BB := hid (BB.out.trans hb3)
  obtain ⟨e8, n8, e9, n9, e10, n10, rfl, rfl, rfl⟩ := hX.rows.form
  have UX := hid hX.rows
  have XB := hid hX.box
  clear hX hM hb3 hvs hnr HF HX HLO HSV SB y0 y1 HG HD HT H8 H9 H10
  obtain ⟨d0, d1, d2, d3, d4, d5, d6, d7, M8, M9, M10⟩ := D'
  replace XB : Hid (BoxL w3 w2.heap.size [.int .i64 d0, .int .i64 d1, .int .i64 d2, .int .i64 d3, .int .i64 d4, .int .i64 d5, .int .i64 d6, .int .i64 d7, .slice e8 M8.length n8, .slice e9 M9.length n9, .slice e10 M10.length n10]) := XB.out
  simp only at UX HNR ⊢
  obtain ⟨q0, q1, q2, q3, q4, q5, q6, q7, q8, q9, q10⟩ := XB.out.eleven
  cases t
  · obtain ⟨r0, r1, r2, r3, r4, r5, r6, r7, r8, r9, r10⟩ := RB.out.eleven
    obtain ⟨f0, f1, f2, f3, f4, f5, f6, f7, f8, f9, f10⟩ := RB.out.frozen11
    have LF := gr_leaf (w := w) (v8 := .slice none 0 0) (v9 := .slice none 0 0) (v10 := .slice none 0 0) (u8 := .slice none 0 0) (u9 := .slice none 0 0) (u10 := .slice none 0 0) (D := zeroG) RB.out (rowsU_bare w.heap.size w3) ⟨But.of BB.out, fun k hk => by rcases hk with hk | hk | hk <;> cases hk⟩ (b := w.heap.size + 2) (by omega) (fun hk => by rcases hk with hk | hk | hk <;> cases hk)
    try dsimp only [zeroG] at LF
    have HL : Hid (GrU w.heap.size _ (grV zeroG (.slice none 0 0) (.slice none 0 0) (.slice none 0 0)) zeroG) := ⟨_, _, _, rfl, LF.1.1⟩
    have HBL := hid ((LF.1.2.but.to (Nat.le_refl _) fun k hk hb => by rcases hb with hb | hb | hb <;> cases hb))
    obtain ⟨t0, t1, t2, t3, t4, t5, t6, t7, t8, t9, t10⟩ := LF.2.eleven
    clear LF
    go_wp2
    exact bodyPost_ret (v := .tuple #[grV zeroG (.slice none 0 0) (.slice none 0 0) (.slice none 0 0), .bool false]) (by simp [results, Try.results66, go_sem, t0, t1, t2, t3, t4, t5, t6, t7, t8, t9, t10, zeroG]) rfl ⟨_, rfl, HL.out, HBL.out⟩
  go_wp2_with fail
  refine (ifits15_eq ⟨d0, d1, d2, d3, d4, d5, d6, d7, M8, M9, M10⟩ _ _ _ _ _ _ true HFF.out _).mono ?_
  rintro e w4 ⟨rfl, b⟩
  replace RB := hid (RB.out.below b RB.out.lt)
  replace UX := hid (UX.out.below b rfl)
  replace XB := hid (XB.out.below b XB.out.lt)
  replace BB := hid (BB.out.trans (b.mono BB.out.size))
  clear b q0 q1 q2 q3 q4 q5 q6 q7 q8 q9 q10
  obtain ⟨q0, q1, q2, q3, q4, q5, q6, q7, q8, q9, q10⟩ := XB.out.eleven
  obtain ⟨r0, r1, r2, r3, r4, r5, r6, r7, r8, r9, r10⟩ := RB.out.eleven
  obtain ⟨f0, f1, f2, f3, f4, f5, f6, f7, f8, f9, f10⟩ := RB.out.frozen11
  have LF := gr_leaf (w := w) (v8 := .slice none 0 0) (v9 := .slice none 0 0) (v10 := .slice none 0 0) (D := ⟨d0, d1, d2, d3, d4, d5, d6, d7, M8, M9, M10⟩) RB.out UX.out ⟨But.of BB.out, fun k hk => .inr (UX.out.blk hk).1⟩ (b := w.heap.size + 2) (by omega) HNR.out
  try dsimp only at LF
  have HL : Hid (GrU w.heap.size _ (grV ⟨d0, d1, d2, d3, d4, d5, d6, d7, M8, M9, M10⟩ (.slice e8 M8.length n8) (.slice e9 M9.length n9) (.slice e10 M10.length n10)) ⟨d0, d1, d2, d3, d4, d5, d6, d7, M8, M9, M10⟩) := ⟨_, _, _, rfl, LF.1.1⟩
  have HBL := hid ((LF.1.2.but.to (Nat.le_refl _) fun k hk hb => by rcases hb with hb | hb | hb <;> cases hb))
  obtain ⟨t0, t1, t2, t3, t4, t5, t6, t7, t8, t9, t10⟩ := LF.2.eleven
  clear LF
  go_wp2
  exact bodyPost_ret (v := .tuple #[grV ⟨d0, d1, d2, d3, d4, d5, d6, d7, M8, M9, M10⟩ (.slice e8 M8.length n8) (.slice e9 M9.length n9) (.slice e10 M10.length n10), .bool true]) (by simp [results, Try.results66, go_sem, t0, t1, t2, t3, t4, t5, t6, t7, t8, t9, t10]) rfl ⟨_, rfl, HL.out, HBL.out⟩
end Go.Proofs.Ytdlkilacnnjglaa
