/-
  impl's (*Greet).takeBoth: nothing comes of it.
-/
import Derived.Test.YtdlkilacnnjglaaIWrG
namespace Go.Proofs.Ytdlkilacnnjglaa
open Go.RowKit Go.Sort

set_option maxRecDepth 100000 in
set_option maxHeartbeats 16000000 in
theorem itakeBoth_no (L b : Nat) (D : GrD) (v8 v9 v10 : Value) (x y : Int) (w : World) (hL : L ≤ w.heap.size) (hG : GrX L b w D v8 v9 v10) (s0 s2 r0 r5 : Bool) (h0 : (D.f0 == 1) = s0) (h2 : (D.f2 == x) = s2) (h3 : (D.f0 == 2) = r0) (h5 : (D.f5 == y) = r5) (hA : (s0 && s2) = false) (hB : (r0 && (s2 && r5)) = false) :
    Calls Try.prog 129 #[.pointer (some ⟨b, 0, none⟩), .agg #[.int .i64 x, .int .i64 y]] w fun e w' => e = .returned (.tuple #[]) ∧ Left L b w v8 v9 v10 D w' := by
  have _hL := hL
  obtain ⟨a8, c8, a9, c9, a10, c10, rfl, rfl, rfl⟩ := hG.rows.form
  have hlt := hG.box.lt
  have bA : Below w.heap.size w ((w.alloc (.cells #[.int .i64 x, .int .i64 y] 152)).alloc (.cells #[.int .i64 x, .int .i64 y] 153)) := ((Below.refl _ _).alloc (Nat.le_refl _) _).alloc (by simp) _
  have hs1 : (w.alloc (.cells #[.int .i64 x, .int .i64 y] 152)).heap.size = w.heap.size + 1 := by simp
  have HL := hid ((boxL_new w [.int .i64 x, .int .i64 y] 152).below ((Below.refl (w.heap.size + 1) (w.alloc (.cells #[.int .i64 x, .int .i64 y] 152))).alloc (by simp) (.cells #[.int .i64 x, .int .i64 y] 153)) (by omega))
  have HK := hid (boxL_new (w.alloc (.cells #[.int .i64 x, .int .i64 y] 152)) [.int .i64 x, .int .i64 y] 153)
  rw [hs1] at HK
  have HW := hid (hG.below bA rfl)
  have HM := hid ((XMv.refl b w (.slice a8 D.f8.length c8) (.slice a9 D.f9.length c9) (.slice a10 D.f10.length c10)).grow bA rfl)
  obtain ⟨W, hW⟩ : ∃ W, W = ((w.alloc (.cells #[.int .i64 x, .int .i64 y] 152)).alloc (.cells #[.int .i64 x, .int .i64 y] 153)) := ⟨_, rfl⟩
  rw [← hW] at HW HM HL HK
  have HWW := hid hW
  clear hG bA hW hs1
  have HA := hid hA
  have HB := hid hB
  clear hA hB
  obtain ⟨p0, p1, p2, p3, p4, p5, p6, p7, p8, p9, p10⟩ := HW.out.box.eleven
  obtain ⟨y0, y1⟩ := HL.out.two
  obtain ⟨k0, k1⟩ := HK.out.two
  have j0 := fun dd os => cell_regrown p0 dd os
  have j1 := fun dd os => cell_regrown p1 dd os
  have j2 := fun dd os => cell_regrown p2 dd os
  have j3 := fun dd os => cell_regrown p3 dd os
  have j4 := fun dd os => cell_regrown p4 dd os
  have j5 := fun dd os => cell_regrown p5 dd os
  have j6 := fun dd os => cell_regrown p6 dd os
  have j7 := fun dd os => cell_regrown p7 dd os
  have j8 := fun dd os => cell_regrown p8 dd os
  have j9 := fun dd os => cell_regrown p9 dd os
  have j10 := fun dd os => cell_regrown p10 dd os
  have l0 := fun dd os => cell_regrown y0 dd os
  have l1 := fun dd os => cell_regrown y1 dd os
  have m0 := fun dd os => cell_regrown k0 dd os
  have m1 := fun dd os => cell_regrown k1 dd os
  have c1 : ∀ dd os, Calls Try.prog 117 #[.agg #[.int .i64 D.f0, .int .i64 D.f1, .int .i64 D.f2, .int .i64 D.f3, .int .i64 D.f4, .int .i64 D.f5, .int .i64 D.f6, .int .i64 D.f7, .slice a8 D.f8.length c8, .slice a9 D.f9.length c9, .slice a10 D.f10.length c10]] (grow (redrawn W dd) os) fun e w'' => e = .returned (.agg #[.int .i64 D.f2, .int .i64 D.f5]) ∧ ∃ p : Regrown, w'' = grow (redrawn W p.d) p.os := fun dd os => Calls.regrown_of ((ipairA_eq _ _ _ _ _ _ _ _ _ _ _ _ _ rfl rfl _).mono fun e w' h => ⟨h.1, h.2⟩)
  cases s0 <;> cases s2 <;> cases r0 <;> cases r5
  all_goals first
    | exact absurd HA.out (by decide)
    | exact absurd HB.out (by decide)
    | skip
  all_goals
    go_enter Try.func129, Try.ntmps129
    go_upto_region 2 with fail
    rw [← HWW.out]
    refine wp_region_quiet_below (by kernel_rfl) (by kernel_rfl) ?_
    repeat (go_big_quiet_step (fail))
    refine wpQuiet_nil ?_
    intro _ hw'
    obtain ⟨⟨dq, osq⟩, hw''⟩ := hw'
    subst hw''
    obtain ⟨V, hV⟩ : ∃ X0, X0 = grow (redrawn W dq) osq := ⟨_, rfl⟩
    have bV := below_regrown W dq osq
    rw [← hV] at bV ⊢
    replace HW := hid (HW.out.below bV rfl)
    replace HM := hid (HM.out.grow bV rfl)
    replace HL := hid (HL.out.below bV HL.out.lt)
    replace HK := hid (HK.out.below bV HK.out.lt)
    clear hV bV
    clear j0 p0 j1 p1 j2 p2 j3 p3 j4 p4 j5 p5 j6 p6 j7 p7 j8 p8 j9 p9 j10 p10 l0 l1 m0 m1 y0 y1 k0 k1
    clear c1
    obtain ⟨p0, p1, p2, p3, p4, p5, p6, p7, p8, p9, p10⟩ := HW.out.box.eleven
    obtain ⟨y0, y1⟩ := HL.out.two
    obtain ⟨k0, k1⟩ := HK.out.two
    have j0 := fun dd os => cell_regrown p0 dd os
    have j1 := fun dd os => cell_regrown p1 dd os
    have j2 := fun dd os => cell_regrown p2 dd os
    have j3 := fun dd os => cell_regrown p3 dd os
    have j4 := fun dd os => cell_regrown p4 dd os
    have j5 := fun dd os => cell_regrown p5 dd os
    have j6 := fun dd os => cell_regrown p6 dd os
    have j7 := fun dd os => cell_regrown p7 dd os
    have j8 := fun dd os => cell_regrown p8 dd os
    have j9 := fun dd os => cell_regrown p9 dd os
    have j10 := fun dd os => cell_regrown p10 dd os
    have l0 := fun dd os => cell_regrown y0 dd os
    have l1 := fun dd os => cell_regrown y1 dd os
    have m0 := fun dd os => cell_regrown k0 dd os
    have m1 := fun dd os => cell_regrown k1 dd os
    have c1 : ∀ dd os, Calls Try.prog 117 #[.agg #[.int .i64 D.f0, .int .i64 D.f1, .int .i64 D.f2, .int .i64 D.f3, .int .i64 D.f4, .int .i64 D.f5, .int .i64 D.f6, .int .i64 D.f7, .slice a8 D.f8.length c8, .slice a9 D.f9.length c9, .slice a10 D.f10.length c10]] (grow (redrawn V dd) os) fun e w'' => e = .returned (.agg #[.int .i64 D.f2, .int .i64 D.f5]) ∧ ∃ p : Regrown, w'' = grow (redrawn V p.d) p.os := fun dd os => Calls.regrown_of ((ipairA_eq _ _ _ _ _ _ _ _ _ _ _ _ _ rfl rfl _).mono fun e w' h => ⟨h.1, h.2⟩)
    go_upto_region 5 with fail
    refine wp_region_quiet_below (by kernel_rfl) (by kernel_rfl) ?_
    repeat (go_big_quiet_step (first | exact c1 _ _))
    refine wpQuiet_nil ?_
    intro _ hw'
    obtain ⟨⟨dq, osq⟩, hw''⟩ := hw'
    subst hw''
    obtain ⟨V2, hV⟩ : ∃ X0, X0 = grow (redrawn V dq) osq := ⟨_, rfl⟩
    have bV := below_regrown V dq osq
    rw [← hV] at bV ⊢
    replace HW := hid (HW.out.below bV rfl)
    replace HM := hid (HM.out.grow bV rfl)
    replace HL := hid (HL.out.below bV HL.out.lt)
    replace HK := hid (HK.out.below bV HK.out.lt)
    clear hV bV
    clear j0 p0 j1 p1 j2 p2 j3 p3 j4 p4 j5 p5 j6 p6 j7 p7 j8 p8 j9 p9 j10 p10 l0 l1 m0 m1 y0 y1 k0 k1
    clear c1
    go_wp2
    go_end0
    exact ⟨rfl, _, _, _, HW.out, HM.out⟩
end Go.Proofs.Ytdlkilacnnjglaa
