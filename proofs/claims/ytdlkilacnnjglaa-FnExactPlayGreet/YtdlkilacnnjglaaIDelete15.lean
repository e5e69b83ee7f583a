/-
  slices.Delete over letters, one of them.
  impl's (*Greet).stepLetter: what is done with a letter of the line.
-/
import Derived.Test.YtdlkilacnnjglaaHeApp3
import Derived.Test.YtdlkilacnnjglaaITkA15
namespace Go.Proofs.Ytdlkilacnnjglaa
open Go.RowKit

theorem setCells3h (w : World) (g o : Nat) (a b c : Value) : w.setCells g o [a, b, c] = ((w.setCell ⟨g, o, none⟩ a).setCell ⟨g, o + 1, none⟩ b).setCell ⟨g, o + 2, none⟩ c := rfl
theorem clear_oneH (w : World) (ty : TypeId) (g o c : Nat) (hc : ∀ j, j < 3 → (∃ u, w.cell? ⟨g, o + j, none⟩ = some u) ∧ w.frozen? ⟨g, o + j, none⟩ = false) :
    (Builtin.clear_ #[47] ty #[.slice (some ⟨g, o, none⟩) 1 c]).run Try.prog w = .ok (.tuple #[]) (((w.setCell ⟨g, o, none⟩ (.int .i64 0)).setCell ⟨g, o + 1, none⟩ (.int .i64 0)).setCell ⟨g, o + 2, none⟩ (.int .i64 0)) := by
  obtain ⟨i0, hi, hz0, hz1, hz2⟩ := info_parts info_hello
  have hzv : ∀ w : World, (zeroValue 116).run Try.prog w = .ok (.agg #[.int .i64 0, .int .i64 0, .int .i64 0]) w := fun w => by simp [zeroValue, typeInfo, hi, hz0]
  have hst := run_storeCells_cells (P := Try.prog) g o [.int .i64 0, .int .i64 0, .int .i64 0] 0 w (by
      intro j hj
      obtain ⟨⟨u, hu⟩, _⟩ := hc j (by simpa using hj)
      simp [hu]) (by
      intro j hj
      exact (hc j (by simpa using hj)).2) (by intro v hv; simp at hv; subst hv; rfl)
  simp only [Nat.add_zero, setCells3h] at hst
  have hzc : (Builtin.zeroCells (Value.agg #[.int .i64 0, .int .i64 0, .int .i64 0]).cells 1).toList = [.int .i64 0, .int .i64 0, .int .i64 0] := by kernel_rfl
  simp [Builtin.clear_, run_underlying Try.underlying47, hzv, hzc, hst]
/-- The last one is left out. -/
theorem cut_end {w : World} {L g cap j : Nat} {xs : List HeEl} (h : w.ownsRow L 116 3 (.slice (some ⟨g, 0, none⟩) xs.length cap) xs.length (heflat xs)) (hj : j + 1 = xs.length) : w.ownsRow L 116 3 (.slice (some ⟨g, 0, none⟩) j cap) j (heflat (xs.eraseIdx j)) ∧ (∀ i, i < xs.length * 3 → (∃ u, w.cell? ⟨g, i, none⟩ = some u) ∧ w.frozen? ⟨g, i, none⟩ = false) := by
  obtain ⟨h1, h2⟩ := h
  rcases h2 with ⟨e, _⟩ | ⟨g', cap', cur, e, hg, hh, hc, hm, hs, ht⟩
  · cases e
  cases e
  have hlen : (xs.eraseIdx j).length = j := by rw [List.length_eraseIdx_of_lt (by omega)]; omega
  refine ⟨⟨by rw [length_heflat, hlen], .inr ⟨g, cap, cur, rfl, hg, hh, by omega, hm, hs, ?_⟩⟩, fun i hlt => ?_⟩
  · rw [← erase_parts, List.drop_eq_nil_of_le (by omega), List.append_nil, heflat_take, ← ht, List.take_take]
    congr 1
    omega
  · have hcs : xs.length * 3 ≤ cur.size := by rw [hs]; exact Nat.mul_le_mul_right 3 hc
    exact ⟨⟨_, (cell_of_row w g i cur _ (0, 0) hh).trans (Array.getElem?_eq_getElem (by omega))⟩, frozen_of_heap hh i⟩
theorem step_cut {ops : Array Oper} {o : Oper} {a : Act} {w : World} {K : Act → World → Prop} {Q : Exit → Act → World → Prop} {E : Prop} (hg : o.guard = none) (s x : Operand)
    (hop : o.op = Op.call { callee := Callee.builtin Builtin.append, args := #[s, x], argTypes := #[47, 47] }) (L g cap j j1 : Nat) (xs : List HeEl) (h : w.ownsRow L 116 3 (.slice (some ⟨g, 0, none⟩) xs.length cap) xs.length (heflat xs)) (hj : j < xs.length) (hj1 : j1 = j + 1) (hl : xs.length ≤ 1000)
    (a2 : Option Addr) (m c2 : Nat) (hm : xs.length - j1 = m) (ha : a2 = some ⟨g, j1 * 3, none⟩ ∨ j1 = xs.length) (hs : a.eval s = .slice (some ⟨g, 0, none⟩) j cap) (hx : a.eval x = .slice a2 m c2)
    (hK : ∀ w', w'.ownsRow L 116 3 (.slice (some ⟨g, 0, none⟩) (xs.length - 1) cap) (xs.length - 1) (heflat (xs.eraseIdx j)) → But (fun k => k = g) w w' → (∀ i, i < xs.length * 3 → (∃ u, w'.cell? ⟨g, i, none⟩ = some u) ∧ w'.frozen? ⟨g, i, none⟩ = false) → K (a.put o.dst (.slice (some ⟨g, 0, none⟩) (xs.length - 1) cap)) w') :
    if Region.wanted o (yielded ops a.tmps) = true then Oper.wp Try.prog o a w K Q else E := by
  have hw : Region.wanted o (yielded ops a.tmps) = true := by simp [Region.wanted, hg]
  rw [if_pos hw]
  subst hj1 hm
  obtain ⟨w', hrun, h1, h2, h3⟩ := append_cut h hj hl a2 c2 ha
  unfold Oper.wp execOp
  simp only [hop, resolve, invoke, builtin, Sem.run_bind, Sem.run_pure, Result.andThen_ok, List.map_toArray, List.map_cons, List.map_nil, hs, hx, hrun]
  exact hK w' h1 h2 h3
set_option maxHeartbeats 4000000 in
set_option maxRecDepth 100000 in
theorem idelete_any (L g cap n j : Nat) (xs : List HeEl) (w : World) (ho : w.ownsRow L 116 3 (.slice (some ⟨g, 0, none⟩) n cap) n (heflat xs)) (hn : xs.length = n) (hj : j < n) (hl : n ≤ 1000) :
    Calls Try.prog 124 #[.slice (some ⟨g, 0, none⟩) n cap, .int .i64 j, .int .i64 (j + 1 : Nat)] w fun e w' => e = .returned (.slice (some ⟨g, 0, none⟩) (n - 1) cap) ∧ w'.ownsRow L 116 3 (.slice (some ⟨g, 0, none⟩) (n - 1) cap) (n - 1) (heflat (xs.eraseIdx j)) ∧ But (fun k => k = g) w w' := by
  have hcap : n ≤ cap := by
    obtain ⟨_, c, e, h⟩ := heowns_form ho
    cases e
    exact h
  subst hn
  obtain ⟨j1, hj1⟩ : ∃ k, k = j + 1 := ⟨_, rfl⟩
  rw [← hj1]
  have HO := hid ho
  have HJ := hid hj
  have HJ1 := hid hj1
  have hne : ((j : Int) == (j1 : Int)) = false := by simp; omega
  have b1 : (0 : Int) ≤ j := by omega
  have b2 : (j : Int) ≤ j1 := by omega
  have b3 : (j1 : Int) ≤ xs.length := by omega
  have b4 : (xs.length : Int) ≤ cap := by omega
  have b5 : j ≤ j1 := by omega
  have b6 : j1 ≤ xs.length := by omega
  have b7 : (j : Int) ≤ cap := by omega
  have b8 : (0 : Int) ≤ j1 := by omega
  have b9 : j ≤ cap := by omega
  have HD : Hid (w.drew.ownsRow L 116 3 (.slice (some ⟨g, 0, none⟩) xs.length cap) xs.length (heflat xs)) := heowns_at ho fun _ _ _ => rfl
  have HLL := hid hl
  clear ho hj1
  have HLN : Hid (xs.length * 3 = (xs.length - 1) * 3 + 3) := by show _ = _; have := HJ.out; omega
  obtain ⟨nn, hnn⟩ : ∃ k, k = xs.length - 1 := ⟨_, rfl⟩
  have HNN := hid hnn
  have e1 : (0 : Int) ≤ nn := by omega
  have e2 : (nn : Int) ≤ xs.length := by omega
  have e3 : nn ≤ xs.length := by omega
  have e4 : nn < cap := by omega
  have e5 : xs.length - nn = 1 := by omega
  have e6 : (nn : Int) < cap := by omega
  have e7 : nn ≤ cap := by omega
  rw [← hnn]
  by_cases hcc : j1 = cap
  · have HE : Hid (j1 = xs.length) := by show _ = _; omega
    obtain rfl : j = nn := by have := HJ1.out; omega
    clear hnn
    subst hcc
    have CE := cut_end (w := w.drew) (j := j) HD.out (by have h1 := HE.out; have h2 := HJ1.out; omega)
    have HO2 := hid CE.1
    have HC2 := hid CE.2
    have hclr : ∀ ty c, (Builtin.clear_ #[47] ty #[.slice (some ⟨g, j * 3, none⟩) 1 c]).run Try.prog w.drew = .ok (.tuple #[]) (((w.drew.setCell ⟨g, j * 3, none⟩ (.int .i64 0)).setCell ⟨g, j * 3 + 1, none⟩ (.int .i64 0)).setCell ⟨g, j * 3 + 2, none⟩ (.int .i64 0)) := fun ty c => clear_oneH _ ty g (j * 3) c fun i hi => CE.2 _ (by have h1 := HLN.out; have h2 := HNN.out; omega)
    have HO3 := hid (owns_cut CE.1 (j * 3) (.int .i64 0) (.int .i64 0) (.int .i64 0) (Nat.le_refl _))
    have HB3 : Hid (But (fun k => k = g) w (((w.drew.setCell ⟨g, j * 3, none⟩ (.int .i64 0)).setCell ⟨g, j * 3 + 1, none⟩ (.int .i64 0)).setCell ⟨g, j * 3 + 2, none⟩ (.int .i64 0))) := ((((But.refl (fun k => k = g) w).drew).setCell (P := fun k => k = g) (p := ⟨g, j * 3, none⟩) rfl _).setCell (P := fun k => k = g) (p := ⟨g, j * 3 + 1, none⟩) rfl _).setCell (P := fun k => k = g) (p := ⟨g, j * 3 + 2, none⟩) rfl _
    clear CE
    go_enter Try.func124, Try.ntmps124
    go_wp2_with fail
    go_region
    go_wp2
    go_ret
    exact ⟨rfl, HO3.out, HB3.out⟩
  · have hcl : j1 < cap := by omega
    have hcl2 : (j1 : Int) < (cap : Int) := by omega
    clear hnn
    go_enter Try.func124, Try.ntmps124
    go_wp2_with fail
    go_region_law (refine step_cut (by rfl) (.tmp 22) (.tmp 25) (by rfl) L g cap j j1 xs HD.out HJ.out HJ1.out HLL.out (some ⟨g, j1 * 3, none⟩) (xs.length - j1) (cap - j1) rfl (.inl rfl) (by simp [Act.eval, Act.put]) (by simp [Act.eval, Act.put]; intro h; omega) ?_; intro w2 ho2 hb2 hc2; rw [← HNN.out] at ho2 ⊢; have HO2 := hid ho2; have HB2 := hid hb2; have HC2 := hid hc2; clear ho2 hb2 hc2)
    have hclr : ∀ ty c, (Builtin.clear_ #[47] ty #[.slice (some ⟨g, nn * 3, none⟩) 1 c]).run Try.prog w2 = .ok (.tuple #[]) (((w2.setCell ⟨g, nn * 3, none⟩ (.int .i64 0)).setCell ⟨g, nn * 3 + 1, none⟩ (.int .i64 0)).setCell ⟨g, nn * 3 + 2, none⟩ (.int .i64 0)) := fun ty c => clear_oneH _ ty g (nn * 3) c fun i hi => HC2.out _ (by have h1 := HLN.out; have h2 := HNN.out; omega)
    have HO3 := hid (owns_cut HO2.out (nn * 3) (.int .i64 0) (.int .i64 0) (.int .i64 0) (Nat.le_refl _))
    have HB3 : Hid (But (fun k => k = g) w (((w2.setCell ⟨g, nn * 3, none⟩ (.int .i64 0)).setCell ⟨g, nn * 3 + 1, none⟩ (.int .i64 0)).setCell ⟨g, nn * 3 + 2, none⟩ (.int .i64 0))) := (((((But.refl (fun k => k = g) w).drew).trans HB2.out).setCell (P := fun k => k = g) (p := ⟨g, nn * 3, none⟩) rfl _).setCell (P := fun k => k = g) (p := ⟨g, nn * 3 + 1, none⟩) rfl _).setCell (P := fun k => k = g) (p := ⟨g, nn * 3 + 2, none⟩) rfl _
    go_wp2
    go_ret
    exact ⟨rfl, HO3.out, HB3.out⟩
end Go.Proofs.Ytdlkilacnnjglaa
namespace Go.Proofs.Ytdlkilacnnjglaa
open Go.RowKit Go.Sort

/-- The first row is cut where it lies, and the box holds it. -/
theorem GrX.cut8 {L b g c n : Nat} {w w' : World} {D : GrD} {v9 v10 : Value} {l : List HeEl} (h : GrX L b w D (.slice (some ⟨g, 0, none⟩) D.f8.length c) v9 v10) (hn : l.length = n) (hl : n ≤ 1000) (ho : w'.ownsRow L 116 3 (.slice (some ⟨g, 0, none⟩) n c) n (heflat l)) (hb : But (fun k => k = g) w w') :
    GrX L b (w'.setCell ⟨b, 8, none⟩ (.slice (some ⟨g, 0, none⟩) n c)) { D with f8 := l } (.slice (some ⟨g, 0, none⟩) n c) v9 v10 ∧ XMv b w (w'.setCell ⟨b, 8, none⟩ (.slice (some ⟨g, 0, none⟩) n c)) (.slice (some ⟨g, 0, none⟩) D.f8.length c) v9 v10 (.slice (some ⟨g, 0, none⟩) n c) v9 v10 ∧ w'.cell? ⟨b, 8, none⟩ = some (.slice (some ⟨g, 0, none⟩) D.f8.length c) ∧ w'.frozen? ⟨b, 8, none⟩ = false := by
  subst hn
  have hgb : b ≠ g := fun e => h.far (.inl (by rw [e]; rfl))
  have hbx := h.box.but hb hgb
  have hc := hbx.cell 8 (by simp)
  have key : ∀ k, Bk (.slice (some ⟨g, 0, none⟩) l.length c) v9 v10 k → Bk (.slice (some ⟨g, 0, none⟩) D.f8.length c) v9 v10 k := fun k hk => hk
  have hr : RowsU L w' (.slice (some ⟨g, 0, none⟩) l.length c) v9 v10 l D.f9 D.f10 := by
    refine ⟨ho, heowns_at h.rows.r9 fun k hk hlt => hb.2 k hlt fun e => ?_, heowns_at h.rows.r10 fun k hk hlt => hb.2 k hlt fun e => ?_, fun k h1 h2 => h.rows.a89 k h1 h2, fun k h1 h2 => h.rows.a80 k h1 h2, h.rows.a90, hl, h.rows.n9, h.rows.n10⟩
    · exact h.rows.a89 k (by rw [e]; rfl) hk
    · exact h.rows.a80 k (by rw [e]; rfl) hk
  refine ⟨⟨hbx.set 8 (by simp) _, hr.set _ (fun e => h.far (.inl e)) (fun e => h.far (.inr (.inl e))) (fun e => h.far (.inr (.inr e))), h.low, fun hk => h.far (key b hk)⟩, XMv.set ⟨hb.mono fun k hk => .inl (.inl (by rw [hk]; rfl)), fun k hk => .inl (key k hk)⟩ _, hc.1, hc.2⟩
theorem GrX.formJ {L b j : Nat} {w : World} {D : GrD} {v8 v9 v10 : Value} (h : GrX L b w D v8 v9 v10) (hj : j < D.f8.length) : ∃ g c8, v8 = .slice (some ⟨g, 0, none⟩) D.f8.length c8 := by
  obtain ⟨g, c8, _, _, _, _, e, _⟩ := h.rows.formJ hj
  exact ⟨g, c8, e⟩
set_option maxRecDepth 100000 in
set_option maxHeartbeats 16000000 in
theorem istepLetter_any (L b : Nat) (D : GrD) (k : Int) (j : Nat) (v8 v9 v10 : Value) (w : World) (hL : L ≤ w.heap.size) (hG : GrX L b w D v8 v9 v10) (hj : j < D.f8.length) (hk : k = 2 ∨ k = 3 ∨ k = 4) (hx : 1 ≤ (D.f8.getD j hz).1 ∧ (D.f8.getD j hz).1 ≤ 3) (hx1 : (D.f8.getD j hz).1 = 1 → (D.f8.getD j hz).2.2 = 0) (hy : 0 ≤ D.f7 ∧ D.f7 ≤ 1000) (hn : D.f8.length ≤ 30) (h9 : D.f9.length < 300) (h10 : D.f10.length < 300) :
    Calls Try.prog 111 #[.pointer (some ⟨b, 0, none⟩), .agg #[.int .i64 k, .int .i64 j]] w fun e w' => e = .returned (.bool (letG D k j).2) ∧ Left L b w v8 v9 v10 (letG D k j).1 w' := by
  obtain ⟨g, c8, rfl⟩ := hG.formJ hj
  obtain ⟨x, hxe⟩ : ∃ x, x = D.f8.getD j hz := ⟨_, rfl⟩
  obtain ⟨R, hR⟩ : ∃ R, letG D k j = R := ⟨_, rfl⟩
  rw [hR]
  have HLet : Hid (R = if k = 4 then (if D.f8.length = 30 then (D, false) else (wrG D x, true)) else if k = 2 then (takG { D with f8 := D.f8.eraseIdx j } x, true) else ({ D with f8 := D.f8.eraseIdx j }, true)) := by show _ = _; rw [← hR, hxe]; rfl
  clear hR
  rw [← hxe] at hx hx1
  have bA : Below w.heap.size w (w.alloc (.cells #[.int .i64 k, .int .i64 j] 91)) := (Below.refl _ _).alloc (Nat.le_refl _) _
  have HS := hid (boxL_new w [.int .i64 k, .int .i64 j] 91)
  have hlt := hG.box.lt
  have HFAR : Hid (¬ Bk (.slice (some ⟨g, 0, none⟩) D.f8.length c8) v9 v10 w.heap.size) := hG.rows.notBk (Nat.le_refl _)
  have HW := hid (hG.below bA rfl)
  have HM := hid ((XMv.refl b w (.slice (some ⟨g, 0, none⟩) D.f8.length c8) v9 v10).grow bA rfl)
  obtain ⟨W, hW⟩ : ∃ W, W = w.alloc (.cells #[.int .i64 k, .int .i64 j] 91) := ⟨_, rfl⟩
  rw [← hW] at HW HM HS
  have HWW := hid hW
  have hcell := HW.out.rows.cells8 hj
  rw [show D.f8.getD j (0, 0, 0) = x from hxe.symm] at hcell
  obtain ⟨c0, c1, c2⟩ := hcell
  clear hG bA hW
  have HX := hid (show 1 ≤ x.1 ∧ x.1 ≤ 3 from hx)
  have HX1 := hid (show x.1 = 1 → x.2.2 = 0 from hx1)
  have HN := hid hn
  have HJ := hid hj
  have HY := hid hy
  clear hx hx1 hxe hn hy
  have p8 := (HW.out.box.cell 8 (by simp)).1
  change World.cell? _ _ = some (.slice (some ⟨g, 0, none⟩) D.f8.length c8) at p8
  obtain ⟨s0, s1⟩ := HS.out.two
  have j8 := fun dd os => cell_regrown p8 dd os
  have l0 := fun dd os => cell_regrown s0 dd os
  have l1 := fun dd os => cell_regrown s1 dd os
  have d0 := fun dd os => cell_regrown c0 dd os
  have d1 := fun dd os => cell_regrown c1 dd os
  have d2 := fun dd os => cell_regrown c2 dd os
  have m0 : (0 : Int) ≤ (j : Int) := by omega
  have m1 : (j : Int) < (D.f8.length : Int) := by omega
  have f1 : ∀ dd os, Calls Try.prog 122 #[.agg #[.int .i64 x.1, .int .i64 x.2.1, .int .i64 x.2.2]] (grow (redrawn W dd) os) fun e w'' => e = .returned (lv x) ∧ ∃ p : Regrown, w'' = grow (redrawn W p.d) p.os := fun dd os => Calls.regrown_of ((iletterOf_eq x _).mono fun e w' h => ⟨h.1, h.2⟩)
  go_enter Try.func111, Try.ntmps111
  go_upto_region 1 with fail
  rw [← HWW.out]
  refine wp_region_quiet_below (by kernel_rfl) (by kernel_rfl) ?_
  repeat (go_big_quiet_step (first | exact f1 _ _))
  refine wpQuiet_nil ?_
  intro _ hw'
  obtain ⟨⟨dq, osq⟩, hw''⟩ := hw'
  subst hw''
  clear j8 l0 l1 d0 d1 d2 f1 p8 s0 s1 c0 c1 c2 HWW
  obtain ⟨V, hV⟩ : ∃ X0, X0 = grow (redrawn W dq) osq := ⟨_, rfl⟩
  have bV := below_regrown W dq osq
  rw [← hV] at bV ⊢
  replace HW := hid (HW.out.below bV rfl)
  replace HM := hid (HM.out.grow bV rfl)
  replace HS := hid (HS.out.below bV HS.out.lt)
  clear hV bV
  obtain ⟨s0, s1⟩ := HS.out.two
  by_cases h4 : k = 4
  · subst h4
    clear hk
    go_wp2_with fail
    refine (iwrite_any L b D x _ v9 v10 _ (Nat.le_trans hL HM.out.but.size) HW.out HX.out HX1.out HN.out).mono ?_
    rintro e w1 ⟨rfl, u8, u9, u10, hg, hm⟩
    have HG := hid hg
    have HXX := hid (HM.out.trans hm)
    clear hg hm s0 s1
    by_cases h30 : D.f8.length = 30
    · have hE : wrG D x = D := if_neg (by omega)
      rw [hE] at HG
      have HR : Hid (R = (D, false)) := HLet.out.trans ((if_pos trivial).trans (if_pos h30))
      have hdd : decide (D.f8.length < 30) = false := by rw [decide_eq_false_iff_not]; omega
      rw [hdd]
      have _h := h30
      clear h30 hE hdd
      go_wp2
      go_ret
      exact ⟨by rw [HR.out]; rfl, _, _, _, by rw [HR.out]; exact HG.out, HXX.out⟩
    · have HR : Hid (R = (wrG D x, true)) := HLet.out.trans ((if_pos trivial).trans (if_neg h30))
      have hdd : decide (D.f8.length < 30) = true := by rw [decide_eq_true_eq]; have := HN.out; omega
      rw [hdd]
      clear h30 hdd
      go_wp2
      go_ret
      exact ⟨by rw [HR.out]; rfl, _, _, _, by rw [HR.out]; exact HG.out, HXX.out⟩
  have HLet2 := hid (HLet.out.trans (if_neg h4))
  have k4 : (k == 4) = false := by simpa using h4
  have hlb : w.heap.size ≠ b := by omega
  have p8 := (HW.out.box.cell 8 (by simp)).1
  change World.cell? _ _ = some (.slice (some ⟨g, 0, none⟩) D.f8.length c8) at p8
  have wj : IntKind.i64.wrap ((j : Int) + 1) = ((j + 1 : Nat) : Int) := by rw [IntKind.wrap_i64]; have := HN.out; have := HJ.out; omega
  have hD : Hid (V.drew.ownsRow L 116 3 (.slice (some ⟨g, 0, none⟩) D.f8.length c8) D.f8.length (heflat D.f8)) := heowns_at HW.out.rows.r8 fun _ _ _ => rfl
  obtain ⟨l, hle⟩ : ∃ l, l = D.f8.eraseIdx j := ⟨_, rfl⟩
  have hll : l.length = D.f8.length - 1 := by rw [hle]; exact List.length_eraseIdx_of_lt hj
  rw [← hle] at HLet2
  have HLE := hid hle
  have HLL := hid hll
  clear hle hll h4 hj
  go_wp2_with fail
  go_region_with (first
    | (go_at_call 124; refine (idelete_any L g c8 D.f8.length j D.f8 _ hD.out rfl HJ.out (by have := HN.out; omega)).mono ?_; rintro e w2 ⟨rfl, ho, hb⟩; rw [← HLE.out] at ho; have CT := HW.out.cut8 (n := D.f8.length - 1) (l := l) HLL.out (by have := HN.out; omega) ho ((But.refl (fun k => k = g) V).drew.trans hb); have r8 := CT.2.2.1; have r8f := CT.2.2.2; have HC1 := hid CT.1; have HC2 := hid (HM.out.trans CT.2.1); have hgb : g ≠ w.heap.size := fun e => (HFAR.out (.inl (by rw [e]; rfl))); have HS2 := hid (((HS.out.below ((Below.refl V.heap.size V).drew) HS.out.lt).but hb (fun e => hgb e.symm)).but ((But.refl (fun k => k = b) w2).setCell (P := fun k => k = b) (p := ⟨b, 8, none⟩) rfl (.slice (some ⟨g, 0, none⟩) (D.f8.length - 1) c8)) hlb); clear ho hb CT))
  all_goals
    clear p8 wj s0 s1
    obtain ⟨V2, hV2⟩ : ∃ V2, V2 = w2.setCell ⟨b, 8, none⟩ (.slice (some ⟨g, 0, none⟩) (D.f8.length - 1) c8) := ⟨_, rfl⟩
    rw [← hV2] at HC1 HC2 HS2
    have HV2 := hid hV2
    clear hV2
    go_upto_region 5 with fail
    rw [← HV2.out]
    clear HV2 r8 r8f
    obtain ⟨s0, s1⟩ := HS2.out.two
    by_cases h2 : k = 2
    · have HR := hid (HLet2.out.trans (if_pos h2))
      have k2 : (k == 2) = true := by simpa using h2
      clear h2
      go_wp2_with fail
      refine (itake_any L b _ x _ v9 v10 _ (Nat.le_trans hL HC2.out.but.size) HC1.out HX.out HY.out (by show l.length ≤ 30; have h1 := HLL.out; have h3 := HN.out; omega) h9 h10).mono ?_
      rintro e w1 ⟨rfl, u8, u9, u10, hg, hm⟩
      have HG := hid hg
      have HXX := hid (HC2.out.trans hm)
      clear hg hm s0 s1
      go_wp2
      go_ret
      exact ⟨by rw [HR.out]; rfl, _, _, _, by rw [HR.out]; exact HG.out, HXX.out⟩
    · have HR := hid (HLet2.out.trans (if_neg h2))
      have k2 : (k == 2) = false := by simpa using h2
      clear h2
      go_wp2
      go_ret
      exact ⟨by rw [HR.out]; rfl, _, _, _, by rw [HR.out]; exact HC1.out, HC2.out⟩
end Go.Proofs.Ytdlkilacnnjglaa
