/-
  impl's (*Greet).step: a step of a greeting in a box.
  impl's (*Greet).step: a letter of the line.
-/
import Derived.Test.YtdlkilacnnjglaaIDelete15
import Derived.Test.YtdlkilacnnjglaaIBoxG
import Derived.Test.YtdlkilacnnjglaaIWrG
import Derived.Test.YtdlkilacnnjglaaGrStep
namespace Go.Proofs.Ytdlkilacnnjglaa
open Go.RowKit

set_option maxRecDepth 100000 in
set_option maxHeartbeats 8000000 in
theorem ist_begin_i (L b : Nat) (D : GrD) (i : Int) (v8 v9 v10 : Value) (w : World) (hL : L ≤ w.heap.size) (hG : GrX L b w D v8 v9 v10) (hi : i ≠ 0) :
    Calls Try.prog 91 #[.pointer (some ⟨b, 0, none⟩), .agg #[.int .i64 1, .int .i64 i]] w fun e w' => e = .returned (.bool false) ∧ Left L b w v8 v9 v10 D w' := by
  have bA : Below w.heap.size w (w.alloc (.cells #[.int .i64 1, .int .i64 i] 91)) := (Below.refl _ _).alloc (Nat.le_refl _) _
  have HW := hid (hG.below bA rfl)
  have HM := hid ((XMv.refl b w v8 v9 v10).grow bA rfl)
  clear hG bA
  have hd : (i == 0) = false := by simpa using hi
  have _hL := hL
  clear hi
  go_enter Try.func91, Try.ntmps91
  go_wp2
  go_ret
  exact ⟨rfl, _, _, _, HW.out, HM.out⟩
set_option maxRecDepth 100000 in
set_option maxHeartbeats 8000000 in
theorem ist_begin_no (L b : Nat) (D : GrD) (i : Int) (v8 v9 v10 : Value) (w : World) (hL : L ≤ w.heap.size) (hG : GrX L b w D v8 v9 v10) (hi : i = 0) (h6 : D.f6 = 1000) :
    Calls Try.prog 91 #[.pointer (some ⟨b, 0, none⟩), .agg #[.int .i64 1, .int .i64 i]] w fun e w' => e = .returned (.bool false) ∧ Left L b w v8 v9 v10 D w' := by
  have bA : Below w.heap.size w (w.alloc (.cells #[.int .i64 1, .int .i64 i] 91)) := (Below.refl _ _).alloc (Nat.le_refl _) _
  have HW := hid (hG.below bA rfl)
  have HM := hid ((XMv.refl b w v8 v9 v10).grow bA rfl)
  clear hG bA
  subst hi
  have _hL := hL
  go_enter Try.func91, Try.ntmps91
  go_wp2_with fail
  refine (ibegin_no L b D v8 v9 v10 _ HW.out h6).mono ?_
  rintro e w1 ⟨rfl, hw⟩
  obtain rfl := hw
  go_wp2
  go_ret
  exact ⟨rfl, _, _, _, HW.out, HM.out⟩
set_option maxRecDepth 100000 in
set_option maxHeartbeats 8000000 in
theorem ist_begin (L b : Nat) (D : GrD) (i : Int) (v8 v9 v10 : Value) (w : World) (hL : L ≤ w.heap.size) (hG : GrX L b w D v8 v9 v10) (hi : i = 0) (h6 : D.f6 ≠ 1000) (hx : 0 ≤ D.f6 ∧ D.f6 ≤ 1000) (hn : D.f8.length ≤ 30) :
    Calls Try.prog 91 #[.pointer (some ⟨b, 0, none⟩), .agg #[.int .i64 1, .int .i64 i]] w fun e w' => e = .returned (.bool true) ∧ Left L b w v8 v9 v10 (beG D) w' := by
  have bA : Below w.heap.size w (w.alloc (.cells #[.int .i64 1, .int .i64 i] 91)) := (Below.refl _ _).alloc (Nat.le_refl _) _
  have HW := hid (hG.below bA rfl)
  have HM := hid ((XMv.refl b w v8 v9 v10).grow bA rfl)
  clear hG bA
  subst hi
  have HHX := hid hx
  clear hx
  go_enter Try.func91, Try.ntmps91
  go_wp2_with fail
  refine (ibegin_yes L b D v8 v9 v10 _ (Nat.le_trans hL HM.out.but.size) HW.out h6 HHX.out hn).mono ?_
  rintro e w1 ⟨rfl, u8, u9, u10, hg, hm⟩
  have HG := hid hg
  have HX := hid (HM.out.trans hm)
  clear hg hm
  go_wp2
  go_ret
  exact ⟨rfl, _, _, _, HG.out, HX.out⟩
set_option maxRecDepth 100000 in
set_option maxHeartbeats 8000000 in
theorem ist_forget_i (L b : Nat) (D : GrD) (i : Int) (v8 v9 v10 : Value) (w : World) (hL : L ≤ w.heap.size) (hG : GrX L b w D v8 v9 v10) (hi : i ≠ 0) :
    Calls Try.prog 91 #[.pointer (some ⟨b, 0, none⟩), .agg #[.int .i64 5, .int .i64 i]] w fun e w' => e = .returned (.bool false) ∧ Left L b w v8 v9 v10 D w' := by
  have bA : Below w.heap.size w (w.alloc (.cells #[.int .i64 5, .int .i64 i] 91)) := (Below.refl _ _).alloc (Nat.le_refl _) _
  have HW := hid (hG.below bA rfl)
  have HM := hid ((XMv.refl b w v8 v9 v10).grow bA rfl)
  clear hG bA
  have hd : (i == 0) = false := by simpa using hi
  have _hL := hL
  clear hi
  go_enter Try.func91, Try.ntmps91
  go_wp2
  go_ret
  exact ⟨rfl, _, _, _, HW.out, HM.out⟩
set_option maxRecDepth 100000 in
set_option maxHeartbeats 8000000 in
theorem ist_forget_no (L b : Nat) (D : GrD) (i : Int) (v8 v9 v10 : Value) (w : World) (hL : L ≤ w.heap.size) (hG : GrX L b w D v8 v9 v10) (hi : i = 0) (h1 : D.f1 ≠ 1) :
    Calls Try.prog 91 #[.pointer (some ⟨b, 0, none⟩), .agg #[.int .i64 5, .int .i64 i]] w fun e w' => e = .returned (.bool false) ∧ Left L b w v8 v9 v10 D w' := by
  have bA : Below w.heap.size w (w.alloc (.cells #[.int .i64 5, .int .i64 i] 91)) := (Below.refl _ _).alloc (Nat.le_refl _) _
  have HW := hid (hG.below bA rfl)
  have HM := hid ((XMv.refl b w v8 v9 v10).grow bA rfl)
  clear hG bA
  subst hi
  have _hL := hL
  go_enter Try.func91, Try.ntmps91
  go_wp2_with fail
  refine (iforget_no L b D v8 v9 v10 _ HW.out h1).mono ?_
  rintro e w1 ⟨rfl, hw⟩
  obtain rfl := hw
  go_wp2
  go_ret
  exact ⟨rfl, _, _, _, HW.out, HM.out⟩
set_option maxRecDepth 100000 in
set_option maxHeartbeats 8000000 in
theorem ist_forget (L b : Nat) (D : GrD) (i : Int) (v8 v9 v10 : Value) (w : World) (hL : L ≤ w.heap.size) (hG : GrX L b w D v8 v9 v10) (hi : i = 0) (h1 : D.f1 = 1) :
    Calls Try.prog 91 #[.pointer (some ⟨b, 0, none⟩), .agg #[.int .i64 5, .int .i64 i]] w fun e w' => e = .returned (.bool true) ∧ Left L b w v8 v9 v10 (clB D) w' := by
  have bA : Below w.heap.size w (w.alloc (.cells #[.int .i64 5, .int .i64 i] 91)) := (Below.refl _ _).alloc (Nat.le_refl _) _
  have HW := hid (hG.below bA rfl)
  have HM := hid ((XMv.refl b w v8 v9 v10).grow bA rfl)
  clear hG bA
  subst hi
  have _hL := hL
  have H1 := hid h1
  clear h1
  go_enter Try.func91, Try.ntmps91
  go_wp2_with fail
  refine (iforget_yes L b D v8 v9 v10 _ HW.out H1.out).mono ?_
  rintro e w1 ⟨rfl, u8, u9, u10, hg, hm⟩
  have HG := hid hg
  have HX := hid (HM.out.trans hm)
  clear hg hm
  go_wp2
  go_ret
  exact ⟨rfl, _, _, _, HG.out, HX.out⟩
set_option maxRecDepth 100000 in
set_option maxHeartbeats 8000000 in
theorem ist_closeA (L b : Nat) (D : GrD) (i : Int) (v8 v9 v10 : Value) (w : World) (hL : L ≤ w.heap.size) (hG : GrX L b w D v8 v9 v10) (hi : i = 0) :
    Calls Try.prog 91 #[.pointer (some ⟨b, 0, none⟩), .agg #[.int .i64 6, .int .i64 i]] w fun e w' => e = .returned (.bool true) ∧ Left L b w v8 v9 v10 (clA D) w' := by
  have bA : Below w.heap.size w (w.alloc (.cells #[.int .i64 6, .int .i64 i] 91)) := (Below.refl _ _).alloc (Nat.le_refl _) _
  have HW := hid (hG.below bA rfl)
  have HM := hid ((XMv.refl b w v8 v9 v10).grow bA rfl)
  clear hG bA
  subst hi
  have _hL := hL
  go_enter Try.func91, Try.ntmps91
  go_wp2_with fail
  refine (iclose_A L b D v8 v9 v10 _ HW.out).mono ?_
  rintro e w1 ⟨rfl, u8, u9, u10, hg, hm⟩
  have HG := hid hg
  have HX := hid (HM.out.trans hm)
  clear hg hm
  go_wp2
  go_ret
  exact ⟨rfl, _, _, _, HG.out, HX.out⟩
set_option maxRecDepth 100000 in
set_option maxHeartbeats 8000000 in
theorem ist_closeB (L b : Nat) (D : GrD) (i : Int) (v8 v9 v10 : Value) (w : World) (hL : L ≤ w.heap.size) (hG : GrX L b w D v8 v9 v10) (hi : i = 1) :
    Calls Try.prog 91 #[.pointer (some ⟨b, 0, none⟩), .agg #[.int .i64 6, .int .i64 i]] w fun e w' => e = .returned (.bool true) ∧ Left L b w v8 v9 v10 (clB D) w' := by
  have bA : Below w.heap.size w (w.alloc (.cells #[.int .i64 6, .int .i64 i] 91)) := (Below.refl _ _).alloc (Nat.le_refl _) _
  have HW := hid (hG.below bA rfl)
  have HM := hid ((XMv.refl b w v8 v9 v10).grow bA rfl)
  clear hG bA
  subst hi
  have _hL := hL
  go_enter Try.func91, Try.ntmps91
  go_wp2_with fail
  refine (iclose_B L b D v8 v9 v10 _ HW.out).mono ?_
  rintro e w1 ⟨rfl, u8, u9, u10, hg, hm⟩
  have HG := hid hg
  have HX := hid (HM.out.trans hm)
  clear hg hm
  go_wp2
  go_ret
  exact ⟨rfl, _, _, _, HG.out, HX.out⟩
set_option maxRecDepth 100000 in
set_option maxHeartbeats 8000000 in
theorem ist_close_no (L b : Nat) (D : GrD) (i : Int) (v8 v9 v10 : Value) (w : World) (hL : L ≤ w.heap.size) (hG : GrX L b w D v8 v9 v10) (h0 : i ≠ 0) (h1 : i ≠ 1) :
    Calls Try.prog 91 #[.pointer (some ⟨b, 0, none⟩), .agg #[.int .i64 6, .int .i64 i]] w fun e w' => e = .returned (.bool false) ∧ Left L b w v8 v9 v10 D w' := by
  have bA : Below w.heap.size w (w.alloc (.cells #[.int .i64 6, .int .i64 i] 91)) := (Below.refl _ _).alloc (Nat.le_refl _) _
  have HW := hid (hG.below bA rfl)
  have HM := hid ((XMv.refl b w v8 v9 v10).grow bA rfl)
  clear hG bA
  have _hL := hL
  go_enter Try.func91, Try.ntmps91
  go_wp2_with fail
  refine (iclose_no b i _ h0 h1).mono ?_
  rintro e w1 ⟨rfl, hw⟩
  obtain rfl := hw
  go_wp2
  go_ret
  exact ⟨rfl, _, _, _, HW.out, HM.out⟩
set_option maxRecDepth 100000 in
set_option maxHeartbeats 8000000 in
theorem ist_kind (L b : Nat) (D : GrD) (k i : Int) (v8 v9 v10 : Value) (w : World) (hL : L ≤ w.heap.size) (hG : GrX L b w D v8 v9 v10) (hk : ¬ (1 ≤ k ∧ k ≤ 6)) :
    Calls Try.prog 91 #[.pointer (some ⟨b, 0, none⟩), .agg #[.int .i64 k, .int .i64 i]] w fun e w' => e = .returned (.bool false) ∧ Left L b w v8 v9 v10 D w' := by
  have bA : Below w.heap.size w (w.alloc (.cells #[.int .i64 k, .int .i64 i] 91)) := (Below.refl _ _).alloc (Nat.le_refl _) _
  have HW := hid (hG.below bA rfl)
  have HM := hid ((XMv.refl b w v8 v9 v10).grow bA rfl)
  clear hG bA
  have _hL := hL
  have d1 : (k == 1) = false := by simp; omega
  have d2 : (k == 2) = false := by simp; omega
  have d3 : (k == 3) = false := by simp; omega
  have d4 : (k == 4) = false := by simp; omega
  have d5 : (k == 5) = false := by simp; omega
  have d6 : (k == 6) = false := by simp; omega
  clear hk
  go_enter Try.func91, Try.ntmps91
  go_wp2
  go_ret
  exact ⟨rfl, _, _, _, HW.out, HM.out⟩
end Go.Proofs.Ytdlkilacnnjglaa
namespace Go.Proofs.Ytdlkilacnnjglaa
open Go.RowKit Go.Sort

set_option maxRecDepth 100000 in
set_option maxHeartbeats 8000000 in
theorem ist_letter4 (L b : Nat) (D : GrD) (j : Nat) (v8 v9 v10 : Value) (w : World) (hL : L ≤ w.heap.size) (hG : GrX L b w D v8 v9 v10) (hj : j < D.f8.length) (hx : 1 ≤ (D.f8.getD j hz).1 ∧ (D.f8.getD j hz).1 ≤ 3) (hx1 : (D.f8.getD j hz).1 = 1 → (D.f8.getD j hz).2.2 = 0) (hy : 0 ≤ D.f7 ∧ D.f7 ≤ 1000) (hn : D.f8.length ≤ 30) (h9 : D.f9.length < 300) (h10 : D.f10.length < 300) :
    Calls Try.prog 91 #[.pointer (some ⟨b, 0, none⟩), .agg #[.int .i64 4, .int .i64 j]] w fun e w' => e = .returned (.bool (letG D 4 j).2) ∧ Left L b w v8 v9 v10 (letG D 4 j).1 w' := by
  obtain ⟨a8, c8, a9, c9, a10, c10, rfl, rfl, rfl⟩ := hG.rows.form
  obtain ⟨R, hR⟩ : ∃ R, letG D 4 j = R := ⟨_, rfl⟩
  rw [hR]
  have bA : Below w.heap.size w (w.alloc (.cells #[.int .i64 4, .int .i64 j] 91)) := (Below.refl _ _).alloc (Nat.le_refl _) _
  have HS := hid (boxL_new w [.int .i64 4, .int .i64 j] 91)
  have HW := hid (hG.below bA rfl)
  have HM := hid ((XMv.refl b w (.slice a8 D.f8.length c8) (.slice a9 D.f9.length c9) (.slice a10 D.f10.length c10)).grow bA rfl)
  obtain ⟨W, hW⟩ : ∃ W, W = w.alloc (.cells #[.int .i64 4, .int .i64 j] 91) := ⟨_, rfl⟩
  obtain ⟨q0, q1⟩ := HS.out.two
  rw [← hW] at HW HM HS
  have HWW := hid hW
  have p8 := (HW.out.box.cell 8 (by simp)).1
  change World.cell? _ _ = some (.slice a8 D.f8.length c8) at p8
  obtain ⟨y0, y1⟩ := HS.out.two
  have m0 : (0 : Int) ≤ (j : Int) := by omega
  have m1 : (j : Int) < (D.f8.length : Int) := by omega
  have m2 : j < D.f8.length := hj
  have HC : Hid (∀ w', L ≤ w'.heap.size → GrX L b w' D (.slice a8 D.f8.length c8) (.slice a9 D.f9.length c9) (.slice a10 D.f10.length c10) → Calls Try.prog 111 #[.pointer (some ⟨b, 0, none⟩), .agg #[.int .i64 4, .int .i64 j]] w' fun e w'' => e = .returned (.bool R.2) ∧ Left L b w' (.slice a8 D.f8.length c8) (.slice a9 D.f9.length c9) (.slice a10 D.f10.length c10) R.1 w'') := fun w' hL' hG' => hR ▸ istepLetter_any L b D 4 j _ _ _ w' hL' hG' hj (by decide) hx hx1 hy hn h9 h10
  clear hG bA hW hj hx hx1 hy hn h9 h10 hR
  have HDR := hid HW.out.drew
  have HMD := hid HM.out.drew
  go_enter Try.func91, Try.ntmps91
  go_upto_region 7 with fail
  rw [← HWW.out]
  go_wp2_with fail
  go_region_with (first
    | (go_at_call 111; refine (HC.out _ (Nat.le_trans hL HMD.out.but.size) HDR.out).mono ?_; rintro e w1 ⟨rfl, u8, u9, u10, hg, hm⟩; have HG := hid hg; have HX := hid (HMD.out.trans hm); clear hg hm))
  all_goals
    go_wp2
    go_ret
    exact ⟨rfl, _, _, _, HG.out, HX.out⟩
end Go.Proofs.Ytdlkilacnnjglaa
