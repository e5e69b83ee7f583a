/-
  laws.toTurns: copied into memory of its own. Nothing old is written.
-/
import Derived.Test.YteeaebelknpdjbaBoxL
import Derived.Test.YteeaebelknpdjbaIntsTo
import Derived.Test.YteeaebelknpdjbaInfoII
namespace Go.Proofs.Yteeaebelknpdjba
open Go.RowKit

set_option maxRecDepth 100000 in
set_option maxHeartbeats 8000000 in
theorem toTurns_any (va : Value) (D : TuD) (w : World) (ha : TuReads w va D) (hx : D.f1.length ≤ 1048576) (hn : tuN D ≤ 1048576) :
    Calls Try.prog 11 #[va] w fun e w' => ∃ v, e = .returned v ∧ TuOwn (Iv w.heap.size w'.heap.size) w' v D ∧ Below w.heap.size w w' := by
  obtain ⟨v0, v1, v2, v3, rfl, h0, h1, h2, h3⟩ := ha
  have hN : D.f0.length + preL D.f1 D.f1.length + D.f2.length + D.f3.length ≤ 1048576 := hn
  have H0 := hid h0
  have H1 := hid h1
  have H2 := hid h2
  have H3 := hid h3
  have HX : Hid (∀ i, i < D.f1.length → (D.f1.getD i []).length ≤ 1048576) := fun i hi => by have := preL_row D.f1 i hi; omega
  obtain ⟨z4, hz4⟩ : ∃ z4, z4 = D.f4 := ⟨_, rfl⟩
  have HZ4 := hid hz4
  rw [← hz4]
  clear hn h0 h1 h2 h3 hz4
  obtain ⟨W, hW⟩ : ∃ W, W = ((w.alloc (.cells #[v0, v1, v2, v3, .int .i64 z4] 25)).alloc (.cells #[.slice none 0 0, .slice none 0 0, .slice none 0 0, .slice none 0 0, .int .i64 0] 28)).alloc (.cells #[.slice none 0 0, .slice none 0 0, .slice none 0 0, .slice none 0 0, .int .i64 0] 28) := ⟨_, rfl⟩
  have hs0 : W.heap.size = w.heap.size + 3 := by rw [hW]; simp
  have PA : Hid (BoxL W w.heap.size [v0, v1, v2, v3, .int .i64 z4]) := by
    rw [hW]
    exact ((boxL_new w [v0, v1, v2, v3, .int .i64 z4] 25).below ((Below.refl (w.heap.size + 1) _).alloc (by simp) _) (by omega)).below ((Below.refl (w.heap.size + 1) _).alloc (by simp) _) (by omega)
  have PR : Hid (BoxL W (w.heap.size + 1) [.slice none 0 0, .slice none 0 0, .slice none 0 0, .slice none 0 0, .int .i64 0]) := by
    rw [hW]
    have h := boxL_new (w.alloc (.cells #[v0, v1, v2, v3, .int .i64 z4] 25)) [.slice none 0 0, .slice none 0 0, .slice none 0 0, .slice none 0 0, .int .i64 0] 28
    rw [World.size_alloc] at h
    exact h.below ((Below.refl (w.heap.size + 2) _).alloc (by simp) _) (by omega)
  have PO : Hid (BoxL W (w.heap.size + 2) [.slice none 0 0, .slice none 0 0, .slice none 0 0, .slice none 0 0, .int .i64 0]) := by
    rw [hW]
    have h := boxL_new ((w.alloc (.cells #[v0, v1, v2, v3, .int .i64 z4] 25)).alloc (.cells #[.slice none 0 0, .slice none 0 0, .slice none 0 0, .slice none 0 0, .int .i64 0] 28)) [.slice none 0 0, .slice none 0 0, .slice none 0 0, .slice none 0 0, .int .i64 0] 28
    rw [World.size_alloc, World.size_alloc] at h
    exact h
  have BW : Hid (Below w.heap.size w W) := by rw [hW]; exact (((Below.refl _ _).alloc (Nat.le_refl _) _).alloc (by simp) _).alloc (by simp; omega) _
  have HW := hid hW
  clear hW
  have pa := (PA.out.cell 0 (by simp)).1
  change World.cell? _ _ = some v0 at pa
  rw [HW.out] at pa
  go_enter Try.func11, Try.ntmps11
  go_wp2_with fail
  rw [← HW.out]
  clear pa HW
  refine (ktoIntS_any _ D.f0 _ (H0.out.below BW.out) (by omega)).mono ?_
  rintro e w1 ⟨u0, rfl, o, b⟩
  obtain ⟨a0, n0, k0, rfl⟩ := o.sform
  have hs1 : W.heap.size ≤ w1.heap.size := b.size
  replace PA := hid (PA.out.below b (by omega))
  replace PR := hid (PR.out.below b (by omega))
  replace PO := hid (PO.out.below b (by omega))
  replace BW : Hid (Below w.heap.size w w1) := BW.out.trans (b.mono BW.out.size)
  have O0 := hid o
  clear o b
  obtain ⟨po, fo⟩ := PO.out.cell 0 (by simp)
  change World.cell? _ _ = some (.slice none 0 0) at po
  have pa := (PA.out.cell 1 (by simp)).1
  change World.cell? _ _ = some v1 at pa
  have op : OnlyP (fun j => j = w.heap.size + 2) w1 (w1.setCell ⟨w.heap.size + 2, 0, none⟩ (.slice a0 n0 k0)) := onlyP_set _ _ _ _
  have qA := hid (PA.out.of_block (op.2.1 _ (by omega)))
  have qR := hid (PR.out.of_block (op.2.1 _ (by omega)))
  have qO : Hid (BoxL (w1.setCell ⟨w.heap.size + 2, 0, none⟩ (.slice a0 n0 k0)) (w.heap.size + 2) [.slice a0 n0 k0, .slice none 0 0, .slice none 0 0, .slice none 0 0, .int .i64 0]) := PO.out.set 0 (by simp) _
  have qB : Hid (Below w.heap.size w (w1.setCell ⟨w.heap.size + 2, 0, none⟩ (.slice a0 n0 k0))) := BW.out.setCell (by show w.heap.size ≤ w.heap.size + 2; omega) _
  replace O0 := hid (O0.out.at fun g g1 g2 _ => op.2.1 g (by omega))
  clear op
  go_wp2_with fail
  obtain ⟨W1, hW⟩ : ∃ W, W = w1.setCell ⟨w.heap.size + 2, 0, none⟩ (.slice a0 n0 k0) := ⟨_, rfl⟩
  have hz1 : W1.heap.size = w1.heap.size := by rw [hW]; exact World.size_setCell _ _ _
  rw [← hW] at qA qR qO qB O0 ⊢
  replace PA := qA
  replace PR := qR
  replace PO := qO
  replace BW := qB
  clear hW qA qR qO qB po fo pa
  refine (toIntSS_any _ D.f1 _ (H1.out.below BW.out) hx HX.out).mono ?_
  rintro e w2 ⟨u1, rfl, c1, iv, o, oa, b⟩
  obtain ⟨a1, n1, k1, rfl⟩ := o.sform
  have hs2 : W1.heap.size ≤ w2.heap.size := b.size
  replace PA := hid (PA.out.below b (by omega))
  replace PR := hid (PR.out.below b (by omega))
  replace PO := hid (PO.out.below b (by omega))
  replace BW : Hid (Below w.heap.size w w2) := BW.out.trans (b.mono BW.out.size)
  replace O0 := hid (O0.out.below b)
  have O1 := hid o
  have OA := hid oa
  clear o b oa
  obtain ⟨po, fo⟩ := PO.out.cell 1 (by simp)
  change World.cell? _ _ = some (.slice none 0 0) at po
  have pa := (PA.out.cell 2 (by simp)).1
  change World.cell? _ _ = some v2 at pa
  have op : OnlyP (fun j => j = w.heap.size + 2) w2 (w2.setCell ⟨w.heap.size + 2, 1, none⟩ (.slice a1 n1 k1)) := onlyP_set _ _ _ _
  have qA := hid (PA.out.of_block (op.2.1 _ (by omega)))
  have qR := hid (PR.out.of_block (op.2.1 _ (by omega)))
  have qO : Hid (BoxL (w2.setCell ⟨w.heap.size + 2, 1, none⟩ (.slice a1 n1 k1)) (w.heap.size + 2) [.slice a0 n0 k0, .slice a1 n1 k1, .slice none 0 0, .slice none 0 0, .int .i64 0]) := PO.out.set 1 (by simp) _
  have qB : Hid (Below w.heap.size w (w2.setCell ⟨w.heap.size + 2, 1, none⟩ (.slice a1 n1 k1))) := BW.out.setCell (by show w.heap.size ≤ w.heap.size + 2; omega) _
  replace O0 := hid (O0.out.at fun g g1 g2 _ => op.2.1 g (by omega))
  replace O1 := hid (O1.out.at (fun g g1 g2 _ => op.2.1 g (by have := OA.out.inn 0 (by omega); simp only [ivc] at this; omega)) (fun r hr g g1 g2 _ => op.2.1 g (by have := OA.out.inn (r + 1) (by omega); simp only [ivc] at this; omega)))
  clear op
  go_wp2_with fail
  obtain ⟨W2, hW⟩ : ∃ W, W = w2.setCell ⟨w.heap.size + 2, 1, none⟩ (.slice a1 n1 k1) := ⟨_, rfl⟩
  have hz2 : W2.heap.size = w2.heap.size := by rw [hW]; exact World.size_setCell _ _ _
  rw [← hW] at qA qR qO qB O0 O1 ⊢
  replace PA := qA
  replace PR := qR
  replace PO := qO
  replace BW := qB
  clear hW qA qR qO qB po fo pa
  refine (ktoIntS_any _ D.f2 _ (H2.out.below BW.out) (by omega)).mono ?_
  rintro e w3 ⟨u2, rfl, o, b⟩
  obtain ⟨a2, n2, k2, rfl⟩ := o.sform
  have hs3 : W2.heap.size ≤ w3.heap.size := b.size
  replace PA := hid (PA.out.below b (by omega))
  replace PR := hid (PR.out.below b (by omega))
  replace PO := hid (PO.out.below b (by omega))
  replace BW : Hid (Below w.heap.size w w3) := BW.out.trans (b.mono BW.out.size)
  replace O0 := hid (O0.out.below b)
  replace O1 := hid (O1.out.below b)
  have O2 := hid o
  clear o b
  obtain ⟨po, fo⟩ := PO.out.cell 2 (by simp)
  change World.cell? _ _ = some (.slice none 0 0) at po
  have pa := (PA.out.cell 3 (by simp)).1
  change World.cell? _ _ = some v3 at pa
  have op : OnlyP (fun j => j = w.heap.size + 2) w3 (w3.setCell ⟨w.heap.size + 2, 2, none⟩ (.slice a2 n2 k2)) := onlyP_set _ _ _ _
  have qA := hid (PA.out.of_block (op.2.1 _ (by omega)))
  have qR := hid (PR.out.of_block (op.2.1 _ (by omega)))
  have qO : Hid (BoxL (w3.setCell ⟨w.heap.size + 2, 2, none⟩ (.slice a2 n2 k2)) (w.heap.size + 2) [.slice a0 n0 k0, .slice a1 n1 k1, .slice a2 n2 k2, .slice none 0 0, .int .i64 0]) := PO.out.set 2 (by simp) _
  have qB : Hid (Below w.heap.size w (w3.setCell ⟨w.heap.size + 2, 2, none⟩ (.slice a2 n2 k2))) := BW.out.setCell (by show w.heap.size ≤ w.heap.size + 2; omega) _
  replace O0 := hid (O0.out.at fun g g1 g2 _ => op.2.1 g (by omega))
  replace O1 := hid (O1.out.at (fun g g1 g2 _ => op.2.1 g (by have := OA.out.inn 0 (by omega); simp only [ivc] at this; omega)) (fun r hr g g1 g2 _ => op.2.1 g (by have := OA.out.inn (r + 1) (by omega); simp only [ivc] at this; omega)))
  replace O2 := hid (O2.out.at fun g g1 g2 _ => op.2.1 g (by omega))
  clear op
  go_wp2_with fail
  obtain ⟨W3, hW⟩ : ∃ W, W = w3.setCell ⟨w.heap.size + 2, 2, none⟩ (.slice a2 n2 k2) := ⟨_, rfl⟩
  have hz3 : W3.heap.size = w3.heap.size := by rw [hW]; exact World.size_setCell _ _ _
  rw [← hW] at qA qR qO qB O0 O1 O2 ⊢
  replace PA := qA
  replace PR := qR
  replace PO := qO
  replace BW := qB
  clear hW qA qR qO qB po fo pa
  refine (ktoIntS_any _ D.f3 _ (H3.out.below BW.out) (by omega)).mono ?_
  rintro e w4 ⟨u3, rfl, o, b⟩
  obtain ⟨a3, n3, k3, rfl⟩ := o.sform
  have hs4 : W3.heap.size ≤ w4.heap.size := b.size
  replace PA := hid (PA.out.below b (by omega))
  replace PR := hid (PR.out.below b (by omega))
  replace PO := hid (PO.out.below b (by omega))
  replace BW : Hid (Below w.heap.size w w4) := BW.out.trans (b.mono BW.out.size)
  replace O0 := hid (O0.out.below b)
  replace O1 := hid (O1.out.below b)
  replace O2 := hid (O2.out.below b)
  have O3 := hid o
  clear o b
  obtain ⟨po, fo⟩ := PO.out.cell 3 (by simp)
  change World.cell? _ _ = some (.slice none 0 0) at po
  have op : OnlyP (fun j => j = w.heap.size + 2) w4 (w4.setCell ⟨w.heap.size + 2, 3, none⟩ (.slice a3 n3 k3)) := onlyP_set _ _ _ _
  have qA := hid (PA.out.of_block (op.2.1 _ (by omega)))
  have qR := hid (PR.out.of_block (op.2.1 _ (by omega)))
  have qO : Hid (BoxL (w4.setCell ⟨w.heap.size + 2, 3, none⟩ (.slice a3 n3 k3)) (w.heap.size + 2) [.slice a0 n0 k0, .slice a1 n1 k1, .slice a2 n2 k2, .slice a3 n3 k3, .int .i64 0]) := PO.out.set 3 (by simp) _
  have qB : Hid (Below w.heap.size w (w4.setCell ⟨w.heap.size + 2, 3, none⟩ (.slice a3 n3 k3))) := BW.out.setCell (by show w.heap.size ≤ w.heap.size + 2; omega) _
  replace O0 := hid (O0.out.at fun g g1 g2 _ => op.2.1 g (by omega))
  replace O1 := hid (O1.out.at (fun g g1 g2 _ => op.2.1 g (by have := OA.out.inn 0 (by omega); simp only [ivc] at this; omega)) (fun r hr g g1 g2 _ => op.2.1 g (by have := OA.out.inn (r + 1) (by omega); simp only [ivc] at this; omega)))
  replace O2 := hid (O2.out.at fun g g1 g2 _ => op.2.1 g (by omega))
  replace O3 := hid (O3.out.at fun g g1 g2 _ => op.2.1 g (by omega))
  clear op
  obtain ⟨V, hV⟩ : ∃ V, V = w4.setCell ⟨w.heap.size + 2, 3, none⟩ (.slice a3 n3 k3) := ⟨_, rfl⟩
  have hzV : V.heap.size = w4.heap.size := by rw [hV]; exact World.size_setCell _ _ _
  rw [← hV] at qA qR qO qB O0 O1 O2 O3
  have op : OnlyP (fun j => j = w.heap.size + 2) V (V.setCell ⟨w.heap.size + 2, 4, none⟩ (.int .i64 z4)) := onlyP_set _ _ _ _
  replace qA := hid (qA.out.of_block (op.2.1 _ (by omega)))
  replace qR := hid (qR.out.of_block (op.2.1 _ (by omega)))
  replace qO : Hid (BoxL (V.setCell ⟨w.heap.size + 2, 4, none⟩ (.int .i64 z4)) (w.heap.size + 2) [.slice a0 n0 k0, .slice a1 n1 k1, .slice a2 n2 k2, .slice a3 n3 k3, .int .i64 z4]) := qO.out.set 4 (by simp) _
  replace qB : Hid (Below w.heap.size w (V.setCell ⟨w.heap.size + 2, 4, none⟩ (.int .i64 z4))) := qB.out.setCell (by show w.heap.size ≤ w.heap.size + 2; omega) _
  replace O0 := hid (O0.out.at fun g g1 g2 _ => op.2.1 g (by omega))
  replace O1 := hid (O1.out.at (fun g g1 g2 _ => op.2.1 g (by have := OA.out.inn 0 (by omega); simp only [ivc] at this; omega)) (fun r hr g g1 g2 _ => op.2.1 g (by have := OA.out.inn (r + 1) (by omega); simp only [ivc] at this; omega)))
  replace O2 := hid (O2.out.at fun g g1 g2 _ => op.2.1 g (by omega))
  replace O3 := hid (O3.out.at fun g g1 g2 _ => op.2.1 g (by omega))
  clear op
  obtain ⟨V4, hV4⟩ : ∃ Vx, Vx = V.setCell ⟨w.heap.size + 2, 4, none⟩ (.int .i64 z4) := ⟨_, rfl⟩
  have hzV4 : V4.heap.size = V.heap.size := by rw [hV4]; exact World.size_setCell _ _ _
  rw [← hV4] at qA qR qO qB O0 O1 O2 O3
  obtain ⟨po0, fo0⟩ := PO.out.cell 0 (by simp)
  change World.cell? _ _ = some (.slice a0 n0 k0) at po0
  obtain ⟨pr0, fr0⟩ := PR.out.cell 0 (by simp)
  change World.cell? _ _ = some (.slice none 0 0) at pr0
  obtain ⟨po1, fo1⟩ := PO.out.cell 1 (by simp)
  change World.cell? _ _ = some (.slice a1 n1 k1) at po1
  obtain ⟨pr1, fr1⟩ := PR.out.cell 1 (by simp)
  change World.cell? _ _ = some (.slice none 0 0) at pr1
  obtain ⟨po2, fo2⟩ := PO.out.cell 2 (by simp)
  change World.cell? _ _ = some (.slice a2 n2 k2) at po2
  obtain ⟨pr2, fr2⟩ := PR.out.cell 2 (by simp)
  change World.cell? _ _ = some (.slice none 0 0) at pr2
  obtain ⟨pr3, fr3⟩ := PR.out.cell 3 (by simp)
  change World.cell? _ _ = some (.slice none 0 0) at pr3
  have pa4 := (PA.out.cell 4 (by simp)).1
  change World.cell? _ _ = some (.int .i64 z4) at pa4
  obtain ⟨po4, fo4⟩ := PO.out.cell 4 (by simp)
  change World.cell? _ _ = some (.int .i64 0) at po4
  obtain ⟨pr4, fr4⟩ := PR.out.cell 4 (by simp)
  change World.cell? _ _ = some (.int .i64 0) at pr4
  have QR : Hid (BoxL ((((((V4).setCell ⟨w.heap.size + 1, 0, none⟩ (.slice a0 n0 k0)).setCell ⟨w.heap.size + 1, 1, none⟩ (.slice a1 n1 k1)).setCell ⟨w.heap.size + 1, 2, none⟩ (.slice a2 n2 k2)).setCell ⟨w.heap.size + 1, 3, none⟩ (.slice a3 n3 k3)).setCell ⟨w.heap.size + 1, 4, none⟩ (.int .i64 z4)) (w.heap.size + 1) [.slice a0 n0 k0, .slice a1 n1 k1, .slice a2 n2 k2, .slice a3 n3 k3, .int .i64 z4]) := (((((qR.out.set 0 (by simp) (.slice a0 n0 k0)).set 1 (by simp) (.slice a1 n1 k1)).set 2 (by simp) (.slice a2 n2 k2)).set 3 (by simp) (.slice a3 n3 k3)).set 4 (by simp) (.int .i64 z4))
  have op : OnlyP (fun j => j = w.heap.size + 1) V4 ((((((V4).setCell ⟨w.heap.size + 1, 0, none⟩ (.slice a0 n0 k0)).setCell ⟨w.heap.size + 1, 1, none⟩ (.slice a1 n1 k1)).setCell ⟨w.heap.size + 1, 2, none⟩ (.slice a2 n2 k2)).setCell ⟨w.heap.size + 1, 3, none⟩ (.slice a3 n3 k3)).setCell ⟨w.heap.size + 1, 4, none⟩ (.int .i64 z4)) := (((((OnlyP.refl _ _).trans (onlyP_set _ _ _ _)).trans (onlyP_set _ _ _ _)).trans (onlyP_set _ _ _ _)).trans (onlyP_set _ _ _ _)).trans (onlyP_set _ _ _ _)
  replace O0 := hid (O0.out.at fun g g1 g2 _ => op.2.1 g (by omega))
  replace O1 := hid (O1.out.at (fun g g1 g2 _ => op.2.1 g (by have := OA.out.inn 0 (by omega); simp only [ivc] at this; omega)) (fun r hr g g1 g2 _ => op.2.1 g (by have := OA.out.inn (r + 1) (by omega); simp only [ivc] at this; omega)))
  replace O2 := hid (O2.out.at fun g g1 g2 _ => op.2.1 g (by omega))
  replace O3 := hid (O3.out.at fun g g1 g2 _ => op.2.1 g (by omega))
  have QB : Hid (Below w.heap.size w ((((((V4).setCell ⟨w.heap.size + 1, 0, none⟩ (.slice a0 n0 k0)).setCell ⟨w.heap.size + 1, 1, none⟩ (.slice a1 n1 k1)).setCell ⟨w.heap.size + 1, 2, none⟩ (.slice a2 n2 k2)).setCell ⟨w.heap.size + 1, 3, none⟩ (.slice a3 n3 k3)).setCell ⟨w.heap.size + 1, 4, none⟩ (.int .i64 z4))) := qB.out.trans (op.below fun j h => by omega)
  have hzF : ((((((V4).setCell ⟨w.heap.size + 1, 0, none⟩ (.slice a0 n0 k0)).setCell ⟨w.heap.size + 1, 1, none⟩ (.slice a1 n1 k1)).setCell ⟨w.heap.size + 1, 2, none⟩ (.slice a2 n2 k2)).setCell ⟨w.heap.size + 1, 3, none⟩ (.slice a3 n3 k3)).setCell ⟨w.heap.size + 1, 4, none⟩ (.int .i64 z4)).heap.size = V4.heap.size := op.1
  have HZF := hid hzF
  clear op qA qR qO qB PA PO PR BW hzF
  obtain ⟨F, hF⟩ : ∃ F, F = (((((V4).setCell ⟨w.heap.size + 1, 0, none⟩ (.slice a0 n0 k0)).setCell ⟨w.heap.size + 1, 1, none⟩ (.slice a1 n1 k1)).setCell ⟨w.heap.size + 1, 2, none⟩ (.slice a2 n2 k2)).setCell ⟨w.heap.size + 1, 3, none⟩ (.slice a3 n3 k3)).setCell ⟨w.heap.size + 1, 4, none⟩ (.int .i64 z4) := ⟨_, rfl⟩
  rw [← hF] at QR QB HZF O0 O1 O2 O3
  go_wp2
  have e0 := (QR.out.cell 0 (by simp)).1
  change World.cell? _ _ = some (.slice a0 n0 k0) at e0
  have e1 := (QR.out.cell 1 (by simp)).1
  change World.cell? _ _ = some (.slice a1 n1 k1) at e1
  have e2 := (QR.out.cell 2 (by simp)).1
  change World.cell? _ _ = some (.slice a2 n2 k2) at e2
  have e3 := (QR.out.cell 3 (by simp)).1
  change World.cell? _ _ = some (.slice a3 n3 k3) at e3
  have e4 := (QR.out.cell 4 (by simp)).1
  change World.cell? _ _ = some (.int .i64 z4) at e4
  rw [hF, hV4, hV] at e0 e1 e2 e3 e4
  refine bodyPost_ret (v := .agg #[.slice a0 n0 k0, .slice a1 n1 k1, .slice a2 n2 k2, .slice a3 n3 k3, .int .i64 z4]) (by simp [results, Try.results11, go_sem, e0, e1, e2, e3, e4]) rfl ?_
  rw [← hV, ← hV4, ← hF]
  have hFs := HZF.out
  refine ⟨_, rfl, ⟨_, _, _, _, (W.heap.size, w1.heap.size), c1, (W2.heap.size, w3.heap.size), (W3.heap.size, w4.heap.size), iv, by rw [HZ4.out], ?_, O0.out, O1.out, O2.out, O3.out⟩, QB.out⟩
  refine ⟨fun j hj => ?_, fun j r hj hr hne => ?_⟩
  · rcases j with _ | _ | _ | _ | j
    · simp only [tuIv]; exact ⟨by omega, fun g g1 g2 => ⟨by omega, by omega⟩⟩
    · have := OA.out.inn 0 (by omega); simp only [ivc] at this; simp only [tuIv]; exact ⟨by omega, fun g g1 g2 => ⟨by omega, by omega⟩⟩
    · simp only [tuIv]; exact ⟨by omega, fun g g1 g2 => ⟨by omega, by omega⟩⟩
    · simp only [tuIv]; exact ⟨by omega, fun g g1 g2 => ⟨by omega, by omega⟩⟩
    · have := OA.out.inn (j + 1) (by omega); simp only [ivc] at this; simp only [tuIv]; exact ⟨by omega, fun g g1 g2 => ⟨by omega, by omega⟩⟩
  · rcases j with _ | _ | _ | _ | j <;> rcases r with _ | _ | _ | _ | r
    · omega
    · have h0 := OA.out.inn 0 (by omega); simp only [ivc] at h0; simp only [tuIv, Dj]; omega
    · simp only [tuIv, Dj]; omega
    · simp only [tuIv, Dj]; omega
    · have h0 := OA.out.inn (r + 1) (by omega); simp only [ivc] at h0; simp only [tuIv, Dj]; omega
    · have h0 := OA.out.inn 0 (by omega); simp only [ivc] at h0; simp only [tuIv, Dj]; omega
    · omega
    · have h0 := OA.out.inn 0 (by omega); simp only [ivc] at h0; simp only [tuIv, Dj]; omega
    · have h0 := OA.out.inn 0 (by omega); simp only [ivc] at h0; simp only [tuIv, Dj]; omega
    · have h := OA.out.dj 0 (r + 1) (by omega) (by omega) (by omega); simp only [ivc] at h; simp only [tuIv]; exact h
    · simp only [tuIv, Dj]; omega
    · have h0 := OA.out.inn 0 (by omega); simp only [ivc] at h0; simp only [tuIv, Dj]; omega
    · omega
    · simp only [tuIv, Dj]; omega
    · have h0 := OA.out.inn (r + 1) (by omega); simp only [ivc] at h0; simp only [tuIv, Dj]; omega
    · simp only [tuIv, Dj]; omega
    · have h0 := OA.out.inn 0 (by omega); simp only [ivc] at h0; simp only [tuIv, Dj]; omega
    · simp only [tuIv, Dj]; omega
    · omega
    · have h0 := OA.out.inn (r + 1) (by omega); simp only [ivc] at h0; simp only [tuIv, Dj]; omega
    · have h0 := OA.out.inn (j + 1) (by omega); simp only [ivc] at h0; simp only [tuIv, Dj]; omega
    · have h := OA.out.dj (j + 1) 0 (by omega) (by omega) (by omega); simp only [ivc] at h; simp only [tuIv]; exact h
    · have h0 := OA.out.inn (j + 1) (by omega); simp only [ivc] at h0; simp only [tuIv, Dj]; omega
    · have h0 := OA.out.inn (j + 1) (by omega); simp only [ivc] at h0; simp only [tuIv, Dj]; omega
    · have h := OA.out.dj (j + 1) (r + 1) (by omega) (by omega) (by omega); simp only [ivc] at h; simp only [tuIv]; exact h
end Go.Proofs.Yteeaebelknpdjba
