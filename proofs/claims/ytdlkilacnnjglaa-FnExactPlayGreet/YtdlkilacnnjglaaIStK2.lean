/-
  impl's (*Greet).step: a letter of the line.
  impl's (*Greet).step: a letter of the line.
  impl's (*Greet).step, whole.
-/
import Derived.Test.YtdlkilacnnjglaaIStep15
import Derived.Test.YtdlkilacnnjglaaGrStep
namespace Go.Proofs.Ytdlkilacnnjglaa
open Go.RowKit Go.Sort

set_option maxRecDepth 100000 in
set_option maxHeartbeats 8000000 in
theorem ist_letter2 (L b : Nat) (D : GrD) (j : Nat) (v8 v9 v10 : Value) (w : World) (hL : L ≤ w.heap.size) (hG : GrX L b w D v8 v9 v10) (hj : j < D.f8.length) (hx : 1 ≤ (D.f8.getD j hz).1 ∧ (D.f8.getD j hz).1 ≤ 3) (hx1 : (D.f8.getD j hz).1 = 1 → (D.f8.getD j hz).2.2 = 0) (hy : 0 ≤ D.f7 ∧ D.f7 ≤ 1000) (hn : D.f8.length ≤ 30) (h9 : D.f9.length < 300) (h10 : D.f10.length < 300) :
    Calls Try.prog 91 #[.pointer (some ⟨b, 0, none⟩), .agg #[.int .i64 2, .int .i64 j]] w fun e w' => e = .returned (.bool (letG D 2 j).2) ∧ Left L b w v8 v9 v10 (letG D 2 j).1 w' := by
  obtain ⟨a8, c8, a9, c9, a10, c10, rfl, rfl, rfl⟩ := hG.rows.form
  obtain ⟨R, hR⟩ : ∃ R, letG D 2 j = R := ⟨_, rfl⟩
  rw [hR]
  have bA : Below w.heap.size w (w.alloc (.cells #[.int .i64 2, .int .i64 j] 91)) := (Below.refl _ _).alloc (Nat.le_refl _) _
  have HS := hid (boxL_new w [.int .i64 2, .int .i64 j] 91)
  have HW := hid (hG.below bA rfl)
  have HM := hid ((XMv.refl b w (.slice a8 D.f8.length c8) (.slice a9 D.f9.length c9) (.slice a10 D.f10.length c10)).grow bA rfl)
  obtain ⟨W, hW⟩ : ∃ W, W = w.alloc (.cells #[.int .i64 2, .int .i64 j] 91) := ⟨_, rfl⟩
  obtain ⟨q0, q1⟩ := HS.out.two
  rw [← hW] at HW HM HS
  have HWW := hid hW
  have p8 := (HW.out.box.cell 8 (by simp)).1
  change World.cell? _ _ = some (.slice a8 D.f8.length c8) at p8
  obtain ⟨y0, y1⟩ := HS.out.two
  have m0 : (0 : Int) ≤ (j : Int) := by omega
  have m1 : (j : Int) < (D.f8.length : Int) := by omega
  have m2 : j < D.f8.length := hj
  have HC : Hid (∀ w', L ≤ w'.heap.size → GrX L b w' D (.slice a8 D.f8.length c8) (.slice a9 D.f9.length c9) (.slice a10 D.f10.length c10) → Calls Try.prog 111 #[.pointer (some ⟨b, 0, none⟩), .agg #[.int .i64 2, .int .i64 j]] w' fun e w'' => e = .returned (.bool R.2) ∧ Left L b w' (.slice a8 D.f8.length c8) (.slice a9 D.f9.length c9) (.slice a10 D.f10.length c10) R.1 w'') := fun w' hL' hG' => hR ▸ istepLetter_any L b D 2 j _ _ _ w' hL' hG' hj (by decide) hx hx1 hy hn h9 h10
  clear hG bA hW hj hx hx1 hy hn h9 h10 hR
  have HDR := hid HW.out.drew
  have HMD := hid HM.out.drew
  go_enter Try.func91, Try.ntmps91
  go_upto_region 7 with fail
  rw [← HWW.out]
  go_wp2_with fail
  go_region_with (first
    | (go_at_call 111; refine (HC.out _ (Nat.le_trans hL HMD.out.but.size) HDR.out).mono ?_; rintro e w1 ⟨rfl, u8, u9, u10, hg, hm⟩; have HG := hid hg; have HX := hid (HMD.out.trans hm); clear hg hm))
  all_goals
    go_wp2
    go_ret
    exact ⟨rfl, _, _, _, HG.out, HX.out⟩
end Go.Proofs.Ytdlkilacnnjglaa
namespace Go.Proofs.Ytdlkilacnnjglaa
open Go.RowKit Go.Sort

set_option maxRecDepth 100000 in
set_option maxHeartbeats 8000000 in
theorem ist_letter3 (L b : Nat) (D : GrD) (j : Nat) (v8 v9 v10 : Value) (w : World) (hL : L ≤ w.heap.size) (hG : GrX L b w D v8 v9 v10) (hj : j < D.f8.length) (hx : 1 ≤ (D.f8.getD j hz).1 ∧ (D.f8.getD j hz).1 ≤ 3) (hx1 : (D.f8.getD j hz).1 = 1 → (D.f8.getD j hz).2.2 = 0) (hy : 0 ≤ D.f7 ∧ D.f7 ≤ 1000) (hn : D.f8.length ≤ 30) (h9 : D.f9.length < 300) (h10 : D.f10.length < 300) :
    Calls Try.prog 91 #[.pointer (some ⟨b, 0, none⟩), .agg #[.int .i64 3, .int .i64 j]] w fun e w' => e = .returned (.bool (letG D 3 j).2) ∧ Left L b w v8 v9 v10 (letG D 3 j).1 w' := by
  obtain ⟨a8, c8, a9, c9, a10, c10, rfl, rfl, rfl⟩ := hG.rows.form
  obtain ⟨R, hR⟩ : ∃ R, letG D 3 j = R := ⟨_, rfl⟩
  rw [hR]
  have bA : Below w.heap.size w (w.alloc (.cells #[.int .i64 3, .int .i64 j] 91)) := (Below.refl _ _).alloc (Nat.le_refl _) _
  have HS := hid (boxL_new w [.int .i64 3, .int .i64 j] 91)
  have HW := hid (hG.below bA rfl)
  have HM := hid ((XMv.refl b w (.slice a8 D.f8.length c8) (.slice a9 D.f9.length c9) (.slice a10 D.f10.length c10)).grow bA rfl)
  obtain ⟨W, hW⟩ : ∃ W, W = w.alloc (.cells #[.int .i64 3, .int .i64 j] 91) := ⟨_, rfl⟩
  obtain ⟨q0, q1⟩ := HS.out.two
  rw [← hW] at HW HM HS
  have HWW := hid hW
  have p8 := (HW.out.box.cell 8 (by simp)).1
  change World.cell? _ _ = some (.slice a8 D.f8.length c8) at p8
  obtain ⟨y0, y1⟩ := HS.out.two
  have m0 : (0 : Int) ≤ (j : Int) := by omega
  have m1 : (j : Int) < (D.f8.length : Int) := by omega
  have m2 : j < D.f8.length := hj
  have HC : Hid (∀ w', L ≤ w'.heap.size → GrX L b w' D (.slice a8 D.f8.length c8) (.slice a9 D.f9.length c9) (.slice a10 D.f10.length c10) → Calls Try.prog 111 #[.pointer (some ⟨b, 0, none⟩), .agg #[.int .i64 3, .int .i64 j]] w' fun e w'' => e = .returned (.bool R.2) ∧ Left L b w' (.slice a8 D.f8.length c8) (.slice a9 D.f9.length c9) (.slice a10 D.f10.length c10) R.1 w'') := fun w' hL' hG' => hR ▸ istepLetter_any L b D 3 j _ _ _ w' hL' hG' hj (by decide) hx hx1 hy hn h9 h10
  clear hG bA hW hj hx hx1 hy hn h9 h10 hR
  have HDR := hid HW.out.drew
  have HMD := hid HM.out.drew
  go_enter Try.func91, Try.ntmps91
  go_upto_region 7 with fail
  rw [← HWW.out]
  go_wp2_with fail
  go_region_with (first
    | (go_at_call 111; refine (HC.out _ (Nat.le_trans hL HMD.out.but.size) HDR.out).mono ?_; rintro e w1 ⟨rfl, u8, u9, u10, hg, hm⟩; have HG := hid hg; have HX := hid (HMD.out.trans hm); clear hg hm))
  all_goals
    go_wp2
    go_ret
    exact ⟨rfl, _, _, _, HG.out, HX.out⟩
end Go.Proofs.Ytdlkilacnnjglaa
namespace Go.Proofs.Ytdlkilacnnjglaa
open Go.RowKit Go.Sort

set_option maxRecDepth 100000 in
set_option maxHeartbeats 8000000 in
theorem ist_out (L b : Nat) (D : GrD) (k i : Int) (v8 v9 v10 : Value) (w : World) (_hL : L ≤ w.heap.size) (hG : GrX L b w D v8 v9 v10) (hk : k = 2 ∨ k = 3 ∨ k = 4) (s0 s1 : Bool) (h0 : decide (i ≥ 0) = s0) (h1 : decide (i < (D.f8.length : Int)) = s1) (hc : (s0 && s1) = false) :
    Calls Try.prog 91 #[.pointer (some ⟨b, 0, none⟩), .agg #[.int .i64 k, .int .i64 i]] w fun e w' => e = .returned (.bool false) ∧ Left L b w v8 v9 v10 D w' := by
  obtain ⟨a8, c8, a9, c9, a10, c10, rfl, rfl, rfl⟩ := hG.rows.form
  have bA : Below w.heap.size w (w.alloc (.cells #[.int .i64 k, .int .i64 i] 91)) := (Below.refl _ _).alloc (Nat.le_refl _) _
  have HS := hid (boxL_new w [.int .i64 k, .int .i64 i] 91)
  have HW := hid (hG.below bA rfl)
  have HM := hid ((XMv.refl b w (.slice a8 D.f8.length c8) (.slice a9 D.f9.length c9) (.slice a10 D.f10.length c10)).grow bA rfl)
  obtain ⟨W, hW⟩ : ∃ W, W = w.alloc (.cells #[.int .i64 k, .int .i64 i] 91) := ⟨_, rfl⟩
  have s := HS.out.two
  obtain ⟨q0, q1⟩ := s
  rw [← hW] at HW HM HS
  have HWW := hid hW
  have p8 := (HW.out.box.cell 8 (by simp)).1
  change World.cell? _ _ = some (.slice a8 D.f8.length c8) at p8
  obtain ⟨y0, y1⟩ := HS.out.two
  have j8 := fun dd os => cell_regrown p8 dd os
  have l0 := fun dd os => cell_regrown y0 dd os
  have l1 := fun dd os => cell_regrown y1 dd os
  have HC := hid hc
  clear hG bA hW hc
  rcases hk with rfl | rfl | rfl
  all_goals
    cases s0 <;> cases s1
    case true.true => exact absurd HC.out (by decide)
    all_goals
      go_enter Try.func91, Try.ntmps91
      go_upto_region 7 with fail
      rw [← HWW.out]
      refine wp_region_quiet_below (by kernel_rfl) (by kernel_rfl) ?_
      repeat (go_big_quiet_step (fail))
      refine wpQuiet_nil ?_
      intro _ hw'
      obtain ⟨⟨dq, osq⟩, hw''⟩ := hw'
      subst hw''
      have HG2 := hid (HW.out.below (below_regrown W dq osq) rfl)
      have HM2 := hid (HM.out.grow (below_regrown W dq osq) rfl)
      go_wp2
      go_ret
      exact ⟨rfl, _, _, _, HG2.out, HM2.out⟩
theorem ist_letter (L b : Nat) (D : GrD) (k : Int) (j : Nat) (v8 v9 v10 : Value) (w : World) (hL : L ≤ w.heap.size) (hG : GrX L b w D v8 v9 v10) (hk : k = 2 ∨ k = 3 ∨ k = 4) (hj : j < D.f8.length) (hx : 1 ≤ (D.f8.getD j hz).1 ∧ (D.f8.getD j hz).1 ≤ 3) (hx1 : (D.f8.getD j hz).1 = 1 → (D.f8.getD j hz).2.2 = 0) (hy : 0 ≤ D.f7 ∧ D.f7 ≤ 1000) (hn : D.f8.length ≤ 30) (h9 : D.f9.length < 300) (h10 : D.f10.length < 300) :
    Calls Try.prog 91 #[.pointer (some ⟨b, 0, none⟩), .agg #[.int .i64 k, .int .i64 j]] w fun e w' => e = .returned (.bool (letG D k j).2) ∧ Left L b w v8 v9 v10 (letG D k j).1 w' := by
  rcases hk with rfl | rfl | rfl
  · exact ist_letter2 L b D j v8 v9 v10 w hL hG hj hx hx1 hy hn h9 h10
  · exact ist_letter3 L b D j v8 v9 v10 w hL hG hj hx hx1 hy hn h9 h10
  · exact ist_letter4 L b D j v8 v9 v10 w hL hG hj hx hx1 hy hn h9 h10
/-- What impl's step leaves and tells. -/
theorem istep_any (D : GrD) (k i : Int) (hg : GoodP D) (h9 : D.f9.length < 300) (h10 : D.f10.length < 300) (L b : Nat) (v8 v9 v10 : Value) (w : World) (hL : L ≤ w.heap.size) (hG : GrX L b w D v8 v9 v10) :
    Calls Try.prog 91 #[.pointer (some ⟨b, 0, none⟩), .agg #[.int .i64 k, .int .i64 i]] w fun e w' => e = .returned (.bool (stepG D k i).2) ∧ Left L b w v8 v9 v10 (stepG D k i).1 w' := by
  have tells : ∀ (D' : GrD) (t : Bool), stepG D k i = (D', t) → Calls Try.prog 91 #[.pointer (some ⟨b, 0, none⟩), .agg #[.int .i64 k, .int .i64 i]] w (fun e w' => e = .returned (.bool t) ∧ Left L b w v8 v9 v10 D' w') → Calls Try.prog 91 #[.pointer (some ⟨b, 0, none⟩), .agg #[.int .i64 k, .int .i64 i]] w fun e w' => e = .returned (.bool (stepG D k i).2) ∧ Left L b w v8 v9 v10 (stepG D k i).1 w' := fun D' t h c => by rw [h]; exact c
  by_cases k1 : k = 1
  · subst k1
    by_cases hc : i ≠ 0 ∨ D.f6 = 1000
    · refine tells D false ((if_pos rfl).trans (if_pos hc)) ?_
      by_cases hi : i = 0
      · exact ist_begin_no L b D i v8 v9 v10 w hL hG hi (hc.resolve_left fun h => h hi)
      · exact ist_begin_i L b D i v8 v9 v10 w hL hG hi
    · exact tells _ true ((if_pos rfl).trans (if_neg hc)) (ist_begin L b D i v8 v9 v10 w hL hG (by omega) (by omega) hg.x hg.n8)
  by_cases k5 : k = 5
  · subst k5
    by_cases hc : i ≠ 0 ∨ D.f1 ≠ 1
    · refine tells D false ((if_neg k1).trans ((if_pos rfl).trans (if_pos hc))) ?_
      by_cases hi : i = 0
      · exact ist_forget_no L b D i v8 v9 v10 w hL hG hi (hc.resolve_left fun h => h hi)
      · exact ist_forget_i L b D i v8 v9 v10 w hL hG hi
    · exact tells _ true ((if_neg k1).trans ((if_pos rfl).trans (if_neg hc))) (ist_forget L b D i v8 v9 v10 w hL hG (by omega) (by omega))
  by_cases k6 : k = 6
  · subst k6
    by_cases i0 : i = 0
    · exact tells _ true ((if_neg k1).trans ((if_neg k5).trans ((if_pos rfl).trans (if_pos i0)))) (ist_closeA L b D i v8 v9 v10 w hL hG i0)
    by_cases i1 : i = 1
    · exact tells _ true ((if_neg k1).trans ((if_neg k5).trans ((if_pos rfl).trans ((if_neg i0).trans (if_pos i1))))) (ist_closeB L b D i v8 v9 v10 w hL hG i1)
    · exact tells _ false ((if_neg k1).trans ((if_neg k5).trans ((if_pos rfl).trans ((if_neg i0).trans (if_neg i1))))) (ist_close_no L b D i v8 v9 v10 w hL hG i0 i1)
  by_cases hc : (i < 0 ∨ (D.f8.length : Int) ≤ i) ∨ ¬ (2 ≤ k ∧ k ≤ 4)
  · refine tells D false ((if_neg k1).trans ((if_neg k5).trans ((if_neg k6).trans (if_pos hc)))) ?_
    by_cases hk : 2 ≤ k ∧ k ≤ 4
    · refine ist_out L b D k i v8 v9 v10 w hL hG (by omega) (decide (i ≥ 0)) (decide (i < (D.f8.length : Int))) rfl rfl ?_
      have h := hc.resolve_right fun h => h hk
      rw [Bool.eq_false_iff]; intro h2; simp at h2; omega
    · exact ist_kind L b D k i v8 v9 v10 w hL hG (by omega)
  obtain ⟨j, rfl⟩ : ∃ j : Nat, i = (j : Int) := ⟨i.toNat, by omega⟩
  have hj : j < D.f8.length := by omega
  have hjt : ((j : Int)).toNat = j := by omega
  have hS : stepG D k j = letG D k j := ((if_neg k1).trans ((if_neg k5).trans ((if_neg k6).trans (if_neg hc)))).trans (by rw [hjt])
  have hl := hg.l8 _ (getD_mem hj)
  rw [hS]
  exact ist_letter L b D k j v8 v9 v10 w hL hG (by omega) hj hl.1 hl.2.2.1 hg.y hg.n8 h9 h10
end Go.Proofs.Ytdlkilacnnjglaa
