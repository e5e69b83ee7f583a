/-
  impl's greetLike: a greeting's rows are copied. The stores may come ahead of later clones.
-/
import Derived.Test.YtdlkilacnnjglaaPut11
import Derived.Test.YtdlkilacnnjglaaRegInv
namespace Go.Proofs.Ytdlkilacnnjglaa
open Go.RowKit

theorem up_keep {l : Array Bool} {i j : Nat} (h : up l j) : up (l.setIfInBounds i true) j := by
  unfold up at h ⊢
  by_cases e : i = j
  · subst e
    by_cases hi : i < l.size
    · simp [hi]
    · simp [hi] at h
  · rw [getD_set_ne false e]; exact h
/-- A row of one's own from X on, written out. -/
def HRw (X w : World) (s : Value) (xs : List HeEl) : Prop := w.ownsRow X.heap.size 116 3 s xs.length (heflat xs) ∧ ∃ a k, s = .slice a xs.length k
theorem HRw.below {X w w' : World} {s : Value} {xs : List HeEl} (h : HRw X w s xs) (hb : Below w.heap.size w w') : HRw X w' s xs := ⟨heowns_at h.1 fun g _ hlt => hb.block g hlt, h.2⟩
theorem HRw.set {X w : World} {s u : Value} {b j : Nat} {xs : List HeEl} (h : HRw X w s xs) (hb : b < X.heap.size) : HRw X (w.setCell ⟨b, j, none⟩ u) s xs :=
  ⟨heowns_at h.1 fun g hg hlt => ((But.refl (fun k => k = b) w).setCell (P := fun k => k = b) (p := ⟨b, j, none⟩) rfl u).2 g hlt fun e => by have := (heowns_lt h.1 g hg).1; omega, h.2⟩
theorem HRw.apart {X w w' : World} {s s' : Value} {xs ys : List HeEl} (h : HRw X w s xs) (h' : w'.ownsRow w.heap.size 116 3 s' ys.length (heflat ys)) : ApartV s s' := fun g h1 h2 => by
  have a := (heowns_lt h.1 g h1).2
  have c := (heowns_lt h' g h2).1
  omega
/-- What stands when some operations of the region have come up. -/
structure LkI (X w0 : World) (b : Nat) (z0 z1 z2 z3 z4 z5 z6 z7 : Int) (V8 V9 V10 : Value) (L8 L9 L10 : List HeEl) (l : Array Bool) (wr : World) (s3 s4 s5 s6 s7 s8 s9 s10 s11 s12 s13 s14 x8 x9 x10 : Value) : Prop where
  f0 : up l 0 → s3 = .pointer (some ⟨b, 8, none⟩)
  f1 : up l 1 → s4 = V8
  f2 : up l 2 → HRw X wr s5 L8
  f3 : up l 3 → s6 = .pointer (some ⟨b, 9, none⟩)
  f4 : up l 4 → s7 = V9
  f5 : up l 5 → HRw X wr s8 L9
  f6 : up l 6 → s9 = .pointer (some ⟨b, 10, none⟩)
  f7 : up l 7 → s10 = V10
  f8 : up l 8 → HRw X wr s11 L10
  f9 : up l 9 → s12 = .pointer (some ⟨b, 8, none⟩)
  f11 : up l 11 → s13 = .pointer (some ⟨b, 9, none⟩)
  f13 : up l 13 → s14 = .pointer (some ⟨b, 10, none⟩)
  p5 : up l 5 → up l 2 ∧ ApartV s5 s8
  p8 : up l 8 → up l 5 ∧ ApartV s5 s11 ∧ ApartV s8 s11
  n8 : ¬ up l 10 → x8 = V8
  n9 : ¬ up l 12 → x9 = V9
  n10 : ¬ up l 14 → x10 = V10
  y8 : up l 10 → x8 = s5 ∧ up l 2 ∧ up l 1
  y9 : up l 12 → x9 = s8 ∧ up l 5 ∧ up l 4
  y10 : up l 14 → x10 = s11 ∧ up l 8 ∧ up l 7
  bx : BoxL wr b [.int .i64 z0, .int .i64 z1, .int .i64 z2, .int .i64 z3, .int .i64 z4, .int .i64 z5, .int .i64 z6, .int .i64 z7, x8, x9, x10]
  rb : BoxL wr (b + 1) zeroC
  bl : Below w0.heap.size w0 wr
  sz : X.heap.size ≤ wr.heap.size
  ls : l.size = 15
set_option maxRecDepth 100000 in
set_option maxHeartbeats 16000000 in
theorem ilikeGr_any (D : GrD) (v : Value) (w : World) (hR : GrReads w v D) (h8 : D.f8.length ≤ 300) (h9 : D.f9.length ≤ 300) (h10 : D.f10.length ≤ 300) :
    Calls Try.prog 90 #[v] w fun e w' => ∃ u, e = .returned u ∧ GrU w.heap.size w' u D ∧ Below w.heap.size w w' := by
  obtain ⟨v8, v9, v10, rfl, r8, r9, r10⟩ := hR
  have R8 := hid r8
  have R9 := hid r9
  have R10 := hid r10
  obtain ⟨a8, c8, rfl, _⟩ := r8
  obtain ⟨a9, c9, rfl, _⟩ := r9
  obtain ⟨a10, c10, rfl, _⟩ := r10
  obtain ⟨z0, z1, z2, z3, z4, z5, z6, z7, L8, L9, L10⟩ := D
  simp only at h8 h9 h10 R8 R9 R10 ⊢
  obtain ⟨W, hW⟩ : ∃ W, W = (w.alloc (.cells #[.int .i64 z0, .int .i64 z1, .int .i64 z2, .int .i64 z3, .int .i64 z4, .int .i64 z5, .int .i64 z6, .int .i64 z7, .slice a8 L8.length c8, .slice a9 L9.length c9, .slice a10 L10.length c10] 49)).alloc (.cells #[.int .i64 0, .int .i64 0, .int .i64 0, .int .i64 0, .int .i64 0, .int .i64 0, .int .i64 0, .int .i64 0, .slice none 0 0, .slice none 0 0, .slice none 0 0] 49) := ⟨_, rfl⟩
  have HB : Hid (Boxes2 w W ⟨z0, z1, z2, z3, z4, z5, z6, z7, L8, L9, L10⟩ (.slice a8 L8.length c8) (.slice a9 L9.length c9) (.slice a10 L10.length c10)) := by show Boxes2 _ _ _ _ _ _; rw [hW]; exact boxes2 w ⟨z0, z1, z2, z3, z4, z5, z6, z7, L8, L9, L10⟩ (.slice a8 L8.length c8) (.slice a9 L9.length c9) (.slice a10 L10.length c10)
  have HW := hid hW
  have HBS := hid HB.out.s
  clear hW
  have GB : Hid (BoxL W w.heap.size [.int .i64 z0, .int .i64 z1, .int .i64 z2, .int .i64 z3, .int .i64 z4, .int .i64 z5, .int .i64 z6, .int .i64 z7, .slice a8 L8.length c8, .slice a9 L9.length c9, .slice a10 L10.length c10]) := HB.out.g
  have RB := hid HB.out.r
  have BB := hid HB.out.b
  have UW := hid (rowsU_bare w.heap.size W)
  have H8 := hid h8
  have H9 := hid h9
  have H10 := hid h10
  have hws : w.heap.size + 2 ≤ W.heap.size := by have := HBS.out; omega
  have HWS := hid hws
  clear hws h8 h9 h10
  go_enter Try.func90, Try.ntmps90
  go_upto_region 1 with fail
  rw [← HW.out]
  clear HW
  go_wp2_with fail
  obtain ⟨X, hX⟩ : ∃ X, X = W.drew := ⟨_, rfl⟩
  replace BB : Hid (Below w.heap.size w X) := by show Below _ _ _; rw [hX]; exact BB.out.drew
  replace GB : Hid (BoxL X w.heap.size [.int .i64 z0, .int .i64 z1, .int .i64 z2, .int .i64 z3, .int .i64 z4, .int .i64 z5, .int .i64 z6, .int .i64 z7, .slice a8 L8.length c8, .slice a9 L9.length c9, .slice a10 L10.length c10]) := by show BoxL _ _ _; rw [hX]; exact GB.out
  replace RB : Hid (BoxL X (w.heap.size + 1) zeroC) := by show BoxL _ _ _; rw [hX]; exact RB.out
  replace HWS : Hid (w.heap.size + 2 ≤ X.heap.size) := by show _ ≤ _; rw [hX]; exact HWS.out
  have HXX := hid hX
  clear hX UW HBS HB
  refine wp_region_inv (fun l a wr => ∃ (s3 s4 s5 s6 s7 s8 s9 s10 s11 s12 s13 s14 x8 x9 x10 : Value), a = { tmps := #[.agg #[.int .i64 z0, .int .i64 z1, .int .i64 z2, .int .i64 z3, .int .i64 z4, .int .i64 z5, .int .i64 z6, .int .i64 z7, .slice a8 L8.length c8, .slice a9 L9.length c9, .slice a10 L10.length c10], .pointer (some ⟨w.heap.size, 0, none⟩), .pointer (some ⟨w.heap.size + 1, 0, none⟩), s3, s4, s5, s6, s7, s8, s9, s10, s11, s12, s13, s14, undef], defers := [] } ∧ LkI X w w.heap.size z0 z1 z2 z3 z4 z5 z6 z7 (.slice a8 L8.length c8) (.slice a9 L9.length c9) (.slice a10 L10.length c10) L8 L9 L10 l wr s3 s4 s5 s6 s7 s8 s9 s10 s11 s12 s13 s14 x8 x9 x10) (by kernel_rfl) ?_ ?_ ?_
  · rw [← HXX.out]
    exact ⟨undef, undef, undef, undef, undef, undef, undef, undef, undef, undef, undef, undef, _, _, _, rfl, ⟨fun h => (up_none h).elim, fun h => (up_none h).elim, fun h => (up_none h).elim, fun h => (up_none h).elim, fun h => (up_none h).elim, fun h => (up_none h).elim, fun h => (up_none h).elim, fun h => (up_none h).elim, fun h => (up_none h).elim, fun h => (up_none h).elim, fun h => (up_none h).elim, fun h => (up_none h).elim, fun h => (up_none h).elim, fun h => (up_none h).elim, fun _ => rfl, fun _ => rfl, fun _ => rfl, fun h => (up_none h).elim, fun h => (up_none h).elim, fun h => (up_none h).elim, GB.out, RB.out, BB.out, Nat.le_refl _, by simp⟩⟩
  · rintro l a wr ⟨s3, s4, s5, s6, s7, s8, s9, s10, s11, s12, s13, s14, x8, x9, x10, rfl, H⟩ hrd
    have hall := up_all hrd (H.ls.trans rfl) (by kernel_rfl)
    obtain ⟨o2, b2, k2, rfl⟩ := H.f2 (hall 2 (by decide))
    obtain ⟨o5, b5, k5, rfl⟩ := H.f5 (hall 5 (by decide))
    obtain ⟨o8, b8, k8, rfl⟩ := H.f8 (hall 8 (by decide))
    obtain ⟨rfl, _⟩ := H.y8 (hall 10 (by decide))
    obtain ⟨rfl, _⟩ := H.y9 (hall 12 (by decide))
    obtain ⟨rfl, _⟩ := H.y10 (hall 14 (by decide))
    have a1 := (H.p5 (hall 5 (by decide))).2
    have a2 := (H.p8 (hall 8 (by decide))).2
    have hw := HWS.out
    have UW : Hid (RowsU w.heap.size wr (.slice b2 L8.length k2) (.slice b5 L9.length k5) (.slice b8 L10.length k8) L8 L9 L10) := ⟨heowns_mono o2 (by omega), heowns_mono o5 (by omega), heowns_mono o8 (by omega), a1, a2.1, a2.2, by have := H8.out; omega, by have := H9.out; omega, by have := H10.out; omega⟩
    have HX8 : Hid (∀ k, (Value.slice b2 L8.length k2).ownBlock = some k → w.heap.size + 2 ≤ k) := fun k hk => by have h1 := (heowns_lt o2 k hk).1; omega
    have HX9 : Hid (∀ k, (Value.slice b5 L9.length k5).ownBlock = some k → w.heap.size + 2 ≤ k) := fun k hk => by have h1 := (heowns_lt o5 k hk).1; omega
    have HX10 : Hid (∀ k, (Value.slice b8 L10.length k8).ownBlock = some k → w.heap.size + 2 ≤ k) := fun k hk => by have h1 := (heowns_lt o8 k hk).1; omega
    replace GB := hid H.bx
    replace RB := hid H.rb
    replace BB := hid H.bl
    clear H hall hrd o2 o5 o8 a1 a2 hw HXX
    have HNR : Hid (¬ Bk (.slice b2 L8.length k2) (.slice b5 L9.length k5) (.slice b8 L10.length k8) (w.heap.size + 1)) := fun hk => by
      rcases hk with hk | hk | hk
      · have := HX8.out _ hk; omega
      · have := HX9.out _ hk; omega
      · have := HX10.out _ hk; omega
    obtain ⟨q0, q1, q2, q3, q4, q5, q6, q7, q8, q9, q10⟩ := GB.out.eleven
    obtain ⟨r0, r1, r2, r3, r4, r5, r6, r7, r8, r9, r10⟩ := RB.out.eleven
    obtain ⟨f0, f1, f2, f3, f4, f5, f6, f7, f8, f9, f10⟩ := RB.out.frozen11
    have LF := gr_leaf (w := w) (v8 := .slice none 0 0) (v9 := .slice none 0 0) (v10 := .slice none 0 0) (D := ⟨z0, z1, z2, z3, z4, z5, z6, z7, L8, L9, L10⟩) RB.out UW.out ⟨But.of BB.out, fun k hk => .inr (UW.out.blk hk).1⟩ (b := w.heap.size + 1) (by omega) HNR.out
    try dsimp only at LF
    have HL : Hid (GrU w.heap.size _ (grV ⟨z0, z1, z2, z3, z4, z5, z6, z7, L8, L9, L10⟩ (.slice b2 L8.length k2) (.slice b5 L9.length k5) (.slice b8 L10.length k8)) ⟨z0, z1, z2, z3, z4, z5, z6, z7, L8, L9, L10⟩) := ⟨_, _, _, rfl, LF.1.1⟩
    have HBL := hid ((LF.1.2.but.to (Nat.le_refl _) fun k hk hb => by rcases hb with hb | hb | hb <;> cases hb))
    obtain ⟨t0, t1, t2, t3, t4, t5, t6, t7, t8, t9, t10⟩ := LF.2.eleven
    clear LF
    go_wp2
    exact bodyPost_ret (v := grV ⟨z0, z1, z2, z3, z4, z5, z6, z7, L8, L9, L10⟩ (.slice b2 L8.length k2) (.slice b5 L9.length k5) (.slice b8 L10.length k8)) (by simp [results, Try.results90, go_sem, t0, t1, t2, t3, t4, t5, t6, t7, t8, t9, t10]) rfl ⟨_, rfl, HL.out, HBL.out⟩
  · rintro l a wr i ⟨s3, s4, s5, s6, s7, s8, s9, s10, s11, s12, s13, s14, x8, x9, x10, rfl, H⟩ hi
    have hw := HWS.out
    have hsz := H.sz
    obtain ⟨hun, o, ho, hall⟩ := mem_ready.1 hi
    have hlt : i < 15 := (Array.getElem?_eq_some_iff.1 ho).1
    have hno : ¬ up l i := up_not hun
    clear hi hun
    have hi : i = 0 ∨ i = 1 ∨ i = 2 ∨ i = 3 ∨ i = 4 ∨ i = 5 ∨ i = 6 ∨ i = 7 ∨ i = 8 ∨ i = 9 ∨ i = 10 ∨ i = 11 ∨ i = 12 ∨ i = 13 ∨ i = 14 := by omega
    rcases hi with rfl | rfl | rfl | rfl | rfl | rfl | rfl | rfl | rfl | rfl | rfl | rfl | rfl | rfl | rfl
    · have ho' : some _ = some o := ho
      injection ho' with ho'
      subst ho'
      clear hall ho hlt
      refine wpOp_step rfl (fun K hK => ?_)
      go_simp
      exact hK _ _ ⟨_, _, _, _, _, _, _, _, _, _, _, _, _, _, _, rfl, ⟨fun _ => rfl, fun h => H.f1 (up_old h (by decide)), fun h => H.f2 (up_old h (by decide)), fun h => H.f3 (up_old h (by decide)), fun h => H.f4 (up_old h (by decide)), fun h => H.f5 (up_old h (by decide)), fun h => H.f6 (up_old h (by decide)), fun h => H.f7 (up_old h (by decide)), fun h => H.f8 (up_old h (by decide)), fun h => H.f9 (up_old h (by decide)), fun h => H.f11 (up_old h (by decide)), fun h => H.f13 (up_old h (by decide)), fun h => have g := H.p5 (up_old h (by decide)); ⟨up_keep g.1, g.2⟩, fun h => have g := H.p8 (up_old h (by decide)); ⟨up_keep g.1, g.2⟩, fun h => H.n8 fun h2 => h (up_keep h2), fun h => H.n9 fun h2 => h (up_keep h2), fun h => H.n10 fun h2 => h (up_keep h2), fun h => have g := H.y8 (up_old h (by decide)); ⟨g.1, up_keep g.2.1, up_keep g.2.2⟩, fun h => have g := H.y9 (up_old h (by decide)); ⟨g.1, up_keep g.2.1, up_keep g.2.2⟩, fun h => have g := H.y10 (up_old h (by decide)); ⟨g.1, up_keep g.2.1, up_keep g.2.2⟩, H.bx, H.rb, H.bl, H.sz, by rw [Array.size_setIfInBounds]; exact H.ls⟩⟩
    · have ho' : some _ = some o := ho
      injection ho' with ho'
      subst ho'
      have u0 : up l 0 := hall ⟨0, .data⟩ (by simp) rfl
      clear hall ho hlt
      obtain rfl := H.f0 u0
      have e := H.n8 fun h => hno (H.y8 h).2.2
      have hc := (H.bx.cell 8 (by simp)).1
      change World.cell? _ _ = some x8 at hc
      rw [e] at hc
      refine wpOp_step rfl (fun K hK => ?_)
      go_simp
      exact hK _ _ ⟨_, _, _, _, _, _, _, _, _, _, _, _, _, _, _, rfl, ⟨fun h => H.f0 (up_old h (by decide)), fun _ => rfl, fun h => H.f2 (up_old h (by decide)), fun h => H.f3 (up_old h (by decide)), fun h => H.f4 (up_old h (by decide)), fun h => H.f5 (up_old h (by decide)), fun h => H.f6 (up_old h (by decide)), fun h => H.f7 (up_old h (by decide)), fun h => H.f8 (up_old h (by decide)), fun h => H.f9 (up_old h (by decide)), fun h => H.f11 (up_old h (by decide)), fun h => H.f13 (up_old h (by decide)), fun h => have g := H.p5 (up_old h (by decide)); ⟨up_keep g.1, g.2⟩, fun h => have g := H.p8 (up_old h (by decide)); ⟨up_keep g.1, g.2⟩, fun h => H.n8 fun h2 => h (up_keep h2), fun h => H.n9 fun h2 => h (up_keep h2), fun h => H.n10 fun h2 => h (up_keep h2), fun h => have g := H.y8 (up_old h (by decide)); ⟨g.1, up_keep g.2.1, up_keep g.2.2⟩, fun h => have g := H.y9 (up_old h (by decide)); ⟨g.1, up_keep g.2.1, up_keep g.2.2⟩, fun h => have g := H.y10 (up_old h (by decide)); ⟨g.1, up_keep g.2.1, up_keep g.2.2⟩, H.bx, H.rb, H.bl, H.sz, by rw [Array.size_setIfInBounds]; exact H.ls⟩⟩
    · have ho' : some _ = some o := ho
      injection ho' with ho'
      subst ho'
      have u1 : up l 1 := hall ⟨1, .data⟩ (by simp) rfl
      clear hall ho hlt
      obtain rfl := H.f1 u1
      refine wpOp_step rfl (fun K hK => ?_)
      go_simp
      refine (iclone_he _ L8 _ (R8.out.below H.bl) (by have := H8.out; omega)).mono ?_
      rintro e w2 ⟨au, cu, rfl, ho, b⟩
      exact hK _ _ ⟨_, _, _, _, _, _, _, _, _, _, _, _, _, _, _, rfl, ⟨fun h => H.f0 (up_old h (by decide)), fun h => H.f1 (up_old h (by decide)), fun _ => ⟨heowns_mono ho hsz, _, _, rfl⟩, fun h => H.f3 (up_old h (by decide)), fun h => H.f4 (up_old h (by decide)), fun h => (H.f5 (up_old h (by decide))).below b, fun h => H.f6 (up_old h (by decide)), fun h => H.f7 (up_old h (by decide)), fun h => (H.f8 (up_old h (by decide))).below b, fun h => H.f9 (up_old h (by decide)), fun h => H.f11 (up_old h (by decide)), fun h => H.f13 (up_old h (by decide)), fun h => absurd (H.p5 (up_old h (by decide))).1 hno, fun h => absurd (H.p5 (H.p8 (up_old h (by decide))).1).1 hno, fun h => H.n8 fun h2 => h (up_keep h2), fun h => H.n9 fun h2 => h (up_keep h2), fun h => H.n10 fun h2 => h (up_keep h2), fun h => absurd (H.y8 (up_old h (by decide))).2.1 hno, fun h => have g := H.y9 (up_old h (by decide)); ⟨g.1, up_keep g.2.1, up_keep g.2.2⟩, fun h => have g := H.y10 (up_old h (by decide)); ⟨g.1, up_keep g.2.1, up_keep g.2.2⟩, H.bx.below b H.bx.lt, H.rb.below b H.rb.lt, H.bl.trans (b.mono H.bl.size), Nat.le_trans H.sz b.size, by rw [Array.size_setIfInBounds]; exact H.ls⟩⟩
    · have ho' : some _ = some o := ho
      injection ho' with ho'
      subst ho'
      clear hall ho hlt
      refine wpOp_step rfl (fun K hK => ?_)
      go_simp
      exact hK _ _ ⟨_, _, _, _, _, _, _, _, _, _, _, _, _, _, _, rfl, ⟨fun h => H.f0 (up_old h (by decide)), fun h => H.f1 (up_old h (by decide)), fun h => H.f2 (up_old h (by decide)), fun _ => rfl, fun h => H.f4 (up_old h (by decide)), fun h => H.f5 (up_old h (by decide)), fun h => H.f6 (up_old h (by decide)), fun h => H.f7 (up_old h (by decide)), fun h => H.f8 (up_old h (by decide)), fun h => H.f9 (up_old h (by decide)), fun h => H.f11 (up_old h (by decide)), fun h => H.f13 (up_old h (by decide)), fun h => have g := H.p5 (up_old h (by decide)); ⟨up_keep g.1, g.2⟩, fun h => have g := H.p8 (up_old h (by decide)); ⟨up_keep g.1, g.2⟩, fun h => H.n8 fun h2 => h (up_keep h2), fun h => H.n9 fun h2 => h (up_keep h2), fun h => H.n10 fun h2 => h (up_keep h2), fun h => have g := H.y8 (up_old h (by decide)); ⟨g.1, up_keep g.2.1, up_keep g.2.2⟩, fun h => have g := H.y9 (up_old h (by decide)); ⟨g.1, up_keep g.2.1, up_keep g.2.2⟩, fun h => have g := H.y10 (up_old h (by decide)); ⟨g.1, up_keep g.2.1, up_keep g.2.2⟩, H.bx, H.rb, H.bl, H.sz, by rw [Array.size_setIfInBounds]; exact H.ls⟩⟩
    · have ho' : some _ = some o := ho
      injection ho' with ho'
      subst ho'
      have u3 : up l 3 := hall ⟨3, .data⟩ (by simp) rfl
      clear hall ho hlt
      obtain rfl := H.f3 u3
      have e := H.n9 fun h => hno (H.y9 h).2.2
      have hc := (H.bx.cell 9 (by simp)).1
      change World.cell? _ _ = some x9 at hc
      rw [e] at hc
      refine wpOp_step rfl (fun K hK => ?_)
      go_simp
      exact hK _ _ ⟨_, _, _, _, _, _, _, _, _, _, _, _, _, _, _, rfl, ⟨fun h => H.f0 (up_old h (by decide)), fun h => H.f1 (up_old h (by decide)), fun h => H.f2 (up_old h (by decide)), fun h => H.f3 (up_old h (by decide)), fun _ => rfl, fun h => H.f5 (up_old h (by decide)), fun h => H.f6 (up_old h (by decide)), fun h => H.f7 (up_old h (by decide)), fun h => H.f8 (up_old h (by decide)), fun h => H.f9 (up_old h (by decide)), fun h => H.f11 (up_old h (by decide)), fun h => H.f13 (up_old h (by decide)), fun h => have g := H.p5 (up_old h (by decide)); ⟨up_keep g.1, g.2⟩, fun h => have g := H.p8 (up_old h (by decide)); ⟨up_keep g.1, g.2⟩, fun h => H.n8 fun h2 => h (up_keep h2), fun h => H.n9 fun h2 => h (up_keep h2), fun h => H.n10 fun h2 => h (up_keep h2), fun h => have g := H.y8 (up_old h (by decide)); ⟨g.1, up_keep g.2.1, up_keep g.2.2⟩, fun h => have g := H.y9 (up_old h (by decide)); ⟨g.1, up_keep g.2.1, up_keep g.2.2⟩, fun h => have g := H.y10 (up_old h (by decide)); ⟨g.1, up_keep g.2.1, up_keep g.2.2⟩, H.bx, H.rb, H.bl, H.sz, by rw [Array.size_setIfInBounds]; exact H.ls⟩⟩
    · have ho' : some _ = some o := ho
      injection ho' with ho'
      subst ho'
      have u4 : up l 4 := hall ⟨4, .data⟩ (by simp) rfl
      have u2 : up l 2 := hall ⟨2, .chain⟩ (by simp) rfl
      clear hall ho hlt
      obtain rfl := H.f4 u4
      refine wpOp_step rfl (fun K hK => ?_)
      go_simp
      refine (iclone_he _ L9 _ (R9.out.below H.bl) (by have := H9.out; omega)).mono ?_
      rintro e w2 ⟨au, cu, rfl, ho, b⟩
      exact hK _ _ ⟨_, _, _, _, _, _, _, _, _, _, _, _, _, _, _, rfl, ⟨fun h => H.f0 (up_old h (by decide)), fun h => H.f1 (up_old h (by decide)), fun h => (H.f2 (up_old h (by decide))).below b, fun h => H.f3 (up_old h (by decide)), fun h => H.f4 (up_old h (by decide)), fun _ => ⟨heowns_mono ho hsz, _, _, rfl⟩, fun h => H.f6 (up_old h (by decide)), fun h => H.f7 (up_old h (by decide)), fun h => (H.f8 (up_old h (by decide))).below b, fun h => H.f9 (up_old h (by decide)), fun h => H.f11 (up_old h (by decide)), fun h => H.f13 (up_old h (by decide)), fun _ => ⟨up_keep u2, (H.f2 u2).apart ho⟩, fun h => absurd (H.p8 (up_old h (by decide))).1 hno, fun h => H.n8 fun h2 => h (up_keep h2), fun h => H.n9 fun h2 => h (up_keep h2), fun h => H.n10 fun h2 => h (up_keep h2), fun h => have g := H.y8 (up_old h (by decide)); ⟨g.1, up_keep g.2.1, up_keep g.2.2⟩, fun h => absurd (H.y9 (up_old h (by decide))).2.1 hno, fun h => have g := H.y10 (up_old h (by decide)); ⟨g.1, up_keep g.2.1, up_keep g.2.2⟩, H.bx.below b H.bx.lt, H.rb.below b H.rb.lt, H.bl.trans (b.mono H.bl.size), Nat.le_trans H.sz b.size, by rw [Array.size_setIfInBounds]; exact H.ls⟩⟩
    · have ho' : some _ = some o := ho
      injection ho' with ho'
      subst ho'
      clear hall ho hlt
      refine wpOp_step rfl (fun K hK => ?_)
      go_simp
      exact hK _ _ ⟨_, _, _, _, _, _, _, _, _, _, _, _, _, _, _, rfl, ⟨fun h => H.f0 (up_old h (by decide)), fun h => H.f1 (up_old h (by decide)), fun h => H.f2 (up_old h (by decide)), fun h => H.f3 (up_old h (by decide)), fun h => H.f4 (up_old h (by decide)), fun h => H.f5 (up_old h (by decide)), fun _ => rfl, fun h => H.f7 (up_old h (by decide)), fun h => H.f8 (up_old h (by decide)), fun h => H.f9 (up_old h (by decide)), fun h => H.f11 (up_old h (by decide)), fun h => H.f13 (up_old h (by decide)), fun h => have g := H.p5 (up_old h (by decide)); ⟨up_keep g.1, g.2⟩, fun h => have g := H.p8 (up_old h (by decide)); ⟨up_keep g.1, g.2⟩, fun h => H.n8 fun h2 => h (up_keep h2), fun h => H.n9 fun h2 => h (up_keep h2), fun h => H.n10 fun h2 => h (up_keep h2), fun h => have g := H.y8 (up_old h (by decide)); ⟨g.1, up_keep g.2.1, up_keep g.2.2⟩, fun h => have g := H.y9 (up_old h (by decide)); ⟨g.1, up_keep g.2.1, up_keep g.2.2⟩, fun h => have g := H.y10 (up_old h (by decide)); ⟨g.1, up_keep g.2.1, up_keep g.2.2⟩, H.bx, H.rb, H.bl, H.sz, by rw [Array.size_setIfInBounds]; exact H.ls⟩⟩
    · have ho' : some _ = some o := ho
      injection ho' with ho'
      subst ho'
      have u6 : up l 6 := hall ⟨6, .data⟩ (by simp) rfl
      clear hall ho hlt
      obtain rfl := H.f6 u6
      have e := H.n10 fun h => hno (H.y10 h).2.2
      have hc := (H.bx.cell 10 (by simp)).1
      change World.cell? _ _ = some x10 at hc
      rw [e] at hc
      refine wpOp_step rfl (fun K hK => ?_)
      go_simp
      exact hK _ _ ⟨_, _, _, _, _, _, _, _, _, _, _, _, _, _, _, rfl, ⟨fun h => H.f0 (up_old h (by decide)), fun h => H.f1 (up_old h (by decide)), fun h => H.f2 (up_old h (by decide)), fun h => H.f3 (up_old h (by decide)), fun h => H.f4 (up_old h (by decide)), fun h => H.f5 (up_old h (by decide)), fun h => H.f6 (up_old h (by decide)), fun _ => rfl, fun h => H.f8 (up_old h (by decide)), fun h => H.f9 (up_old h (by decide)), fun h => H.f11 (up_old h (by decide)), fun h => H.f13 (up_old h (by decide)), fun h => have g := H.p5 (up_old h (by decide)); ⟨up_keep g.1, g.2⟩, fun h => have g := H.p8 (up_old h (by decide)); ⟨up_keep g.1, g.2⟩, fun h => H.n8 fun h2 => h (up_keep h2), fun h => H.n9 fun h2 => h (up_keep h2), fun h => H.n10 fun h2 => h (up_keep h2), fun h => have g := H.y8 (up_old h (by decide)); ⟨g.1, up_keep g.2.1, up_keep g.2.2⟩, fun h => have g := H.y9 (up_old h (by decide)); ⟨g.1, up_keep g.2.1, up_keep g.2.2⟩, fun h => have g := H.y10 (up_old h (by decide)); ⟨g.1, up_keep g.2.1, up_keep g.2.2⟩, H.bx, H.rb, H.bl, H.sz, by rw [Array.size_setIfInBounds]; exact H.ls⟩⟩
    · have ho' : some _ = some o := ho
      injection ho' with ho'
      subst ho'
      have u7 : up l 7 := hall ⟨7, .data⟩ (by simp) rfl
      have u5 : up l 5 := hall ⟨5, .chain⟩ (by simp) rfl
      clear hall ho hlt
      obtain rfl := H.f7 u7
      refine wpOp_step rfl (fun K hK => ?_)
      go_simp
      refine (iclone_he _ L10 _ (R10.out.below H.bl) (by have := H10.out; omega)).mono ?_
      rintro e w2 ⟨au, cu, rfl, ho, b⟩
      exact hK _ _ ⟨_, _, _, _, _, _, _, _, _, _, _, _, _, _, _, rfl, ⟨fun h => H.f0 (up_old h (by decide)), fun h => H.f1 (up_old h (by decide)), fun h => (H.f2 (up_old h (by decide))).below b, fun h => H.f3 (up_old h (by decide)), fun h => H.f4 (up_old h (by decide)), fun h => (H.f5 (up_old h (by decide))).below b, fun h => H.f6 (up_old h (by decide)), fun h => H.f7 (up_old h (by decide)), fun _ => ⟨heowns_mono ho hsz, _, _, rfl⟩, fun h => H.f9 (up_old h (by decide)), fun h => H.f11 (up_old h (by decide)), fun h => H.f13 (up_old h (by decide)), fun h => have g := H.p5 (up_old h (by decide)); ⟨up_keep g.1, g.2⟩, fun _ => ⟨up_keep u5, (H.f2 (H.p5 u5).1).apart ho, (H.f5 u5).apart ho⟩, fun h => H.n8 fun h2 => h (up_keep h2), fun h => H.n9 fun h2 => h (up_keep h2), fun h => H.n10 fun h2 => h (up_keep h2), fun h => have g := H.y8 (up_old h (by decide)); ⟨g.1, up_keep g.2.1, up_keep g.2.2⟩, fun h => have g := H.y9 (up_old h (by decide)); ⟨g.1, up_keep g.2.1, up_keep g.2.2⟩, fun h => absurd (H.y10 (up_old h (by decide))).2.1 hno, H.bx.below b H.bx.lt, H.rb.below b H.rb.lt, H.bl.trans (b.mono H.bl.size), Nat.le_trans H.sz b.size, by rw [Array.size_setIfInBounds]; exact H.ls⟩⟩
    · have ho' : some _ = some o := ho
      injection ho' with ho'
      subst ho'
      clear hall ho hlt
      refine wpOp_step rfl (fun K hK => ?_)
      go_simp
      exact hK _ _ ⟨_, _, _, _, _, _, _, _, _, _, _, _, _, _, _, rfl, ⟨fun h => H.f0 (up_old h (by decide)), fun h => H.f1 (up_old h (by decide)), fun h => H.f2 (up_old h (by decide)), fun h => H.f3 (up_old h (by decide)), fun h => H.f4 (up_old h (by decide)), fun h => H.f5 (up_old h (by decide)), fun h => H.f6 (up_old h (by decide)), fun h => H.f7 (up_old h (by decide)), fun h => H.f8 (up_old h (by decide)), fun _ => rfl, fun h => H.f11 (up_old h (by decide)), fun h => H.f13 (up_old h (by decide)), fun h => have g := H.p5 (up_old h (by decide)); ⟨up_keep g.1, g.2⟩, fun h => have g := H.p8 (up_old h (by decide)); ⟨up_keep g.1, g.2⟩, fun h => H.n8 fun h2 => h (up_keep h2), fun h => H.n9 fun h2 => h (up_keep h2), fun h => H.n10 fun h2 => h (up_keep h2), fun h => have g := H.y8 (up_old h (by decide)); ⟨g.1, up_keep g.2.1, up_keep g.2.2⟩, fun h => have g := H.y9 (up_old h (by decide)); ⟨g.1, up_keep g.2.1, up_keep g.2.2⟩, fun h => have g := H.y10 (up_old h (by decide)); ⟨g.1, up_keep g.2.1, up_keep g.2.2⟩, H.bx, H.rb, H.bl, H.sz, by rw [Array.size_setIfInBounds]; exact H.ls⟩⟩
    · have ho' : some _ = some o := ho
      injection ho' with ho'
      subst ho'
      have u9 : up l 9 := hall ⟨9, .data⟩ (by simp) rfl
      have u2 : up l 2 := hall ⟨2, .data⟩ (by simp) rfl
      have u1 : up l 1 := hall ⟨1, .phase⟩ (by simp) rfl
      clear hall ho hlt
      obtain rfl := H.f9 u9
      have hr := H.f2 u2
      obtain ⟨_, ar, kr, rfl⟩ := id hr
      obtain ⟨hc, hf⟩ := H.bx.cell 8 (by simp)
      change World.cell? _ _ = some x8 at hc
      clear hr
      refine wpOp_step rfl (fun K hK => ?_)
      go_simp
      exact hK _ _ ⟨_, _, _, _, _, _, _, _, _, _, _, _, _, _, _, rfl, ⟨fun h => H.f0 (up_old h (by decide)), fun h => H.f1 (up_old h (by decide)), fun h => (H.f2 (up_old h (by decide))).set (by omega), fun h => H.f3 (up_old h (by decide)), fun h => H.f4 (up_old h (by decide)), fun h => (H.f5 (up_old h (by decide))).set (by omega), fun h => H.f6 (up_old h (by decide)), fun h => H.f7 (up_old h (by decide)), fun h => (H.f8 (up_old h (by decide))).set (by omega), fun h => H.f9 (up_old h (by decide)), fun h => H.f11 (up_old h (by decide)), fun h => H.f13 (up_old h (by decide)), fun h => have g := H.p5 (up_old h (by decide)); ⟨up_keep g.1, g.2⟩, fun h => have g := H.p8 (up_old h (by decide)); ⟨up_keep g.1, g.2⟩, fun h => absurd (up_set (by rw [H.ls]; decide)) h, fun h => H.n9 fun h2 => h (up_keep h2), fun h => H.n10 fun h2 => h (up_keep h2), fun _ => ⟨rfl, up_keep u2, up_keep u1⟩, fun h => have g := H.y9 (up_old h (by decide)); ⟨g.1, up_keep g.2.1, up_keep g.2.2⟩, fun h => have g := H.y10 (up_old h (by decide)); ⟨g.1, up_keep g.2.1, up_keep g.2.2⟩, H.bx.set 8 (by simp) _, H.rb.but ((But.refl (fun k => k = w.heap.size) wr).setCell (P := fun k => k = w.heap.size) (p := ⟨w.heap.size, 8, none⟩) rfl _) (by omega), H.bl.setCell (Nat.le_refl _) _, by simp [World.setCell]; exact H.sz, by rw [Array.size_setIfInBounds]; exact H.ls⟩⟩
    · have ho' : some _ = some o := ho
      injection ho' with ho'
      subst ho'
      clear hall ho hlt
      refine wpOp_step rfl (fun K hK => ?_)
      go_simp
      exact hK _ _ ⟨_, _, _, _, _, _, _, _, _, _, _, _, _, _, _, rfl, ⟨fun h => H.f0 (up_old h (by decide)), fun h => H.f1 (up_old h (by decide)), fun h => H.f2 (up_old h (by decide)), fun h => H.f3 (up_old h (by decide)), fun h => H.f4 (up_old h (by decide)), fun h => H.f5 (up_old h (by decide)), fun h => H.f6 (up_old h (by decide)), fun h => H.f7 (up_old h (by decide)), fun h => H.f8 (up_old h (by decide)), fun h => H.f9 (up_old h (by decide)), fun _ => rfl, fun h => H.f13 (up_old h (by decide)), fun h => have g := H.p5 (up_old h (by decide)); ⟨up_keep g.1, g.2⟩, fun h => have g := H.p8 (up_old h (by decide)); ⟨up_keep g.1, g.2⟩, fun h => H.n8 fun h2 => h (up_keep h2), fun h => H.n9 fun h2 => h (up_keep h2), fun h => H.n10 fun h2 => h (up_keep h2), fun h => have g := H.y8 (up_old h (by decide)); ⟨g.1, up_keep g.2.1, up_keep g.2.2⟩, fun h => have g := H.y9 (up_old h (by decide)); ⟨g.1, up_keep g.2.1, up_keep g.2.2⟩, fun h => have g := H.y10 (up_old h (by decide)); ⟨g.1, up_keep g.2.1, up_keep g.2.2⟩, H.bx, H.rb, H.bl, H.sz, by rw [Array.size_setIfInBounds]; exact H.ls⟩⟩
    · have ho' : some _ = some o := ho
      injection ho' with ho'
      subst ho'
      have u11 : up l 11 := hall ⟨11, .data⟩ (by simp) rfl
      have u5 : up l 5 := hall ⟨5, .data⟩ (by simp) rfl
      have u4 : up l 4 := hall ⟨4, .phase⟩ (by simp) rfl
      clear hall ho hlt
      obtain rfl := H.f11 u11
      have hr := H.f5 u5
      obtain ⟨_, ar, kr, rfl⟩ := id hr
      obtain ⟨hc, hf⟩ := H.bx.cell 9 (by simp)
      change World.cell? _ _ = some x9 at hc
      clear hr
      refine wpOp_step rfl (fun K hK => ?_)
      go_simp
      exact hK _ _ ⟨_, _, _, _, _, _, _, _, _, _, _, _, _, _, _, rfl, ⟨fun h => H.f0 (up_old h (by decide)), fun h => H.f1 (up_old h (by decide)), fun h => (H.f2 (up_old h (by decide))).set (by omega), fun h => H.f3 (up_old h (by decide)), fun h => H.f4 (up_old h (by decide)), fun h => (H.f5 (up_old h (by decide))).set (by omega), fun h => H.f6 (up_old h (by decide)), fun h => H.f7 (up_old h (by decide)), fun h => (H.f8 (up_old h (by decide))).set (by omega), fun h => H.f9 (up_old h (by decide)), fun h => H.f11 (up_old h (by decide)), fun h => H.f13 (up_old h (by decide)), fun h => have g := H.p5 (up_old h (by decide)); ⟨up_keep g.1, g.2⟩, fun h => have g := H.p8 (up_old h (by decide)); ⟨up_keep g.1, g.2⟩, fun h => H.n8 fun h2 => h (up_keep h2), fun h => absurd (up_set (by rw [H.ls]; decide)) h, fun h => H.n10 fun h2 => h (up_keep h2), fun h => have g := H.y8 (up_old h (by decide)); ⟨g.1, up_keep g.2.1, up_keep g.2.2⟩, fun _ => ⟨rfl, up_keep u5, up_keep u4⟩, fun h => have g := H.y10 (up_old h (by decide)); ⟨g.1, up_keep g.2.1, up_keep g.2.2⟩, H.bx.set 9 (by simp) _, H.rb.but ((But.refl (fun k => k = w.heap.size) wr).setCell (P := fun k => k = w.heap.size) (p := ⟨w.heap.size, 9, none⟩) rfl _) (by omega), H.bl.setCell (Nat.le_refl _) _, by simp [World.setCell]; exact H.sz, by rw [Array.size_setIfInBounds]; exact H.ls⟩⟩
    · have ho' : some _ = some o := ho
      injection ho' with ho'
      subst ho'
      clear hall ho hlt
      refine wpOp_step rfl (fun K hK => ?_)
      go_simp
      exact hK _ _ ⟨_, _, _, _, _, _, _, _, _, _, _, _, _, _, _, rfl, ⟨fun h => H.f0 (up_old h (by decide)), fun h => H.f1 (up_old h (by decide)), fun h => H.f2 (up_old h (by decide)), fun h => H.f3 (up_old h (by decide)), fun h => H.f4 (up_old h (by decide)), fun h => H.f5 (up_old h (by decide)), fun h => H.f6 (up_old h (by decide)), fun h => H.f7 (up_old h (by decide)), fun h => H.f8 (up_old h (by decide)), fun h => H.f9 (up_old h (by decide)), fun h => H.f11 (up_old h (by decide)), fun _ => rfl, fun h => have g := H.p5 (up_old h (by decide)); ⟨up_keep g.1, g.2⟩, fun h => have g := H.p8 (up_old h (by decide)); ⟨up_keep g.1, g.2⟩, fun h => H.n8 fun h2 => h (up_keep h2), fun h => H.n9 fun h2 => h (up_keep h2), fun h => H.n10 fun h2 => h (up_keep h2), fun h => have g := H.y8 (up_old h (by decide)); ⟨g.1, up_keep g.2.1, up_keep g.2.2⟩, fun h => have g := H.y9 (up_old h (by decide)); ⟨g.1, up_keep g.2.1, up_keep g.2.2⟩, fun h => have g := H.y10 (up_old h (by decide)); ⟨g.1, up_keep g.2.1, up_keep g.2.2⟩, H.bx, H.rb, H.bl, H.sz, by rw [Array.size_setIfInBounds]; exact H.ls⟩⟩
    · have ho' : some _ = some o := ho
      injection ho' with ho'
      subst ho'
      have u13 : up l 13 := hall ⟨13, .data⟩ (by simp) rfl
      have u8 : up l 8 := hall ⟨8, .data⟩ (by simp) rfl
      have u7 : up l 7 := hall ⟨7, .phase⟩ (by simp) rfl
      clear hall ho hlt
      obtain rfl := H.f13 u13
      have hr := H.f8 u8
      obtain ⟨_, ar, kr, rfl⟩ := id hr
      obtain ⟨hc, hf⟩ := H.bx.cell 10 (by simp)
      change World.cell? _ _ = some x10 at hc
      clear hr
      refine wpOp_step rfl (fun K hK => ?_)
      go_simp
      exact hK _ _ ⟨_, _, _, _, _, _, _, _, _, _, _, _, _, _, _, rfl, ⟨fun h => H.f0 (up_old h (by decide)), fun h => H.f1 (up_old h (by decide)), fun h => (H.f2 (up_old h (by decide))).set (by omega), fun h => H.f3 (up_old h (by decide)), fun h => H.f4 (up_old h (by decide)), fun h => (H.f5 (up_old h (by decide))).set (by omega), fun h => H.f6 (up_old h (by decide)), fun h => H.f7 (up_old h (by decide)), fun h => (H.f8 (up_old h (by decide))).set (by omega), fun h => H.f9 (up_old h (by decide)), fun h => H.f11 (up_old h (by decide)), fun h => H.f13 (up_old h (by decide)), fun h => have g := H.p5 (up_old h (by decide)); ⟨up_keep g.1, g.2⟩, fun h => have g := H.p8 (up_old h (by decide)); ⟨up_keep g.1, g.2⟩, fun h => H.n8 fun h2 => h (up_keep h2), fun h => H.n9 fun h2 => h (up_keep h2), fun h => absurd (up_set (by rw [H.ls]; decide)) h, fun h => have g := H.y8 (up_old h (by decide)); ⟨g.1, up_keep g.2.1, up_keep g.2.2⟩, fun h => have g := H.y9 (up_old h (by decide)); ⟨g.1, up_keep g.2.1, up_keep g.2.2⟩, fun _ => ⟨rfl, up_keep u8, up_keep u7⟩, H.bx.set 10 (by simp) _, H.rb.but ((But.refl (fun k => k = w.heap.size) wr).setCell (P := fun k => k = w.heap.size) (p := ⟨w.heap.size, 10, none⟩) rfl _) (by omega), H.bl.setCell (Nat.le_refl _) _, by simp [World.setCell]; exact H.sz, by rw [Array.size_setIfInBounds]; exact H.ls⟩⟩
end Go.Proofs.Ytdlkilacnnjglaa
