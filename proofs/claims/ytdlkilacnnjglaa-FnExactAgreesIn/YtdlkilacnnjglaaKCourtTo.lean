/-
  laws.toCourt: copied into memory of its own. Nothing old is written.
-/
import Derived.Test.YtdlkilacnnjglaaKCourtRows
import Derived.Test.YtdlkilacnnjglaaKCaseToS
import Derived.Test.YtdlkilacnnjglaaKSlipToS
namespace Go.Proofs.Ytdlkilacnnjglaa
open Go.RowKit

set_option maxRecDepth 100000 in
set_option maxHeartbeats 8000000 in
theorem toCourt_any (va : Value) (D : CoD) (w : World) (ha : CoReads w va D) (hn : coTot D ≤ 1048576) :
    Calls Try.prog 19 #[va] w fun e w' => ∃ v, e = .returned v ∧ CoOwn (Iv w.heap.size w'.heap.size) w' v D ∧ Below w.heap.size w w' := by
  obtain ⟨v1, v2, rfl, h1, h2⟩ := ha
  have hN : D.f1.length + D.f2.length ≤ 1048576 := hn
  have H1 := hid h1
  have H2 := hid h2
  obtain ⟨z0, hz0⟩ : ∃ z0, z0 = D.f0 := ⟨_, rfl⟩
  have HZ0 := hid hz0
  rw [← hz0]
  clear hn h1 h2 hz0
  obtain ⟨W, hW⟩ : ∃ W, W = ((w.alloc (.cells #[.int .i64 z0, v1, v2] 38)).alloc (.cells #[.int .i64 0, .slice none 0 0, .slice none 0 0] 26)).alloc (.cells #[.int .i64 z0, .slice none 0 0, .slice none 0 0] 26) := ⟨_, rfl⟩
  have hs0 : W.heap.size = w.heap.size + 3 := by rw [hW]; simp
  have PA : Hid (BoxL W w.heap.size [.int .i64 z0, v1, v2]) := by
    rw [hW]
    exact ((boxL_new w [.int .i64 z0, v1, v2] 38).below ((Below.refl (w.heap.size + 1) _).alloc (by simp) _) (by omega)).below ((Below.refl (w.heap.size + 1) _).alloc (by simp) _) (by omega)
  have PR : Hid (BoxL W (w.heap.size + 1) [.int .i64 0, .slice none 0 0, .slice none 0 0]) := by
    rw [hW]
    have h := boxL_new (w.alloc (.cells #[.int .i64 z0, v1, v2] 38)) [.int .i64 0, .slice none 0 0, .slice none 0 0] 26
    rw [World.size_alloc] at h
    exact h.below ((Below.refl (w.heap.size + 2) _).alloc (by simp) _) (by omega)
  have PO : Hid (BoxL W (w.heap.size + 2) [.int .i64 z0, .slice none 0 0, .slice none 0 0]) := by
    rw [hW]
    have h := boxL_new ((w.alloc (.cells #[.int .i64 z0, v1, v2] 38)).alloc (.cells #[.int .i64 0, .slice none 0 0, .slice none 0 0] 26)) [.int .i64 z0, .slice none 0 0, .slice none 0 0] 26
    rw [World.size_alloc, World.size_alloc] at h
    exact h
  have BW : Hid (Below w.heap.size w W) := by rw [hW]; exact (((Below.refl _ _).alloc (Nat.le_refl _) _).alloc (by simp) _).alloc (by simp; omega) _
  have HW := hid hW
  clear hW
  have pa := (PA.out.cell 1 (by simp)).1
  change World.cell? _ _ = some v1 at pa
  rw [HW.out] at pa
  go_enter Try.func19, Try.ntmps19
  go_wp2_with fail
  rw [← HW.out]
  clear pa HW
  refine (toCaseS_any _ D.f1 _ (H1.out.below BW.out) (by omega)).mono ?_
  rintro e w1 ⟨u1, rfl, o, b⟩
  obtain ⟨a1, n1, k1, rfl⟩ := o.sform
  have hs1 : W.heap.size ≤ w1.heap.size := b.size
  replace PA := hid (PA.out.below b (by omega))
  replace PR := hid (PR.out.below b (by omega))
  replace PO := hid (PO.out.below b (by omega))
  replace BW : Hid (Below w.heap.size w w1) := BW.out.trans (b.mono BW.out.size)
  have O1 := hid o
  clear o b
  obtain ⟨po, fo⟩ := PO.out.cell 1 (by simp)
  change World.cell? _ _ = some (.slice none 0 0) at po
  have pa := (PA.out.cell 2 (by simp)).1
  change World.cell? _ _ = some v2 at pa
  have op : OnlyP (fun j => j = w.heap.size + 2) w1 (w1.setCell ⟨w.heap.size + 2, 1, none⟩ (.slice a1 n1 k1)) := onlyP_set _ _ _ _
  have qA := hid (PA.out.of_block (op.2.1 _ (by omega)))
  have qR := hid (PR.out.of_block (op.2.1 _ (by omega)))
  have qO : Hid (BoxL (w1.setCell ⟨w.heap.size + 2, 1, none⟩ (.slice a1 n1 k1)) (w.heap.size + 2) [.int .i64 z0, .slice a1 n1 k1, .slice none 0 0]) := PO.out.set 1 (by simp) _
  have qB : Hid (Below w.heap.size w (w1.setCell ⟨w.heap.size + 2, 1, none⟩ (.slice a1 n1 k1))) := BW.out.setCell (by show w.heap.size ≤ w.heap.size + 2; omega) _
  replace O1 := hid (O1.out.at fun g g1 g2 _ => op.2.1 g (by omega))
  clear op
  go_wp2_with fail
  obtain ⟨W1, hW⟩ : ∃ W, W = w1.setCell ⟨w.heap.size + 2, 1, none⟩ (.slice a1 n1 k1) := ⟨_, rfl⟩
  have hz1 : W1.heap.size = w1.heap.size := by rw [hW]; exact World.size_setCell _ _ _
  rw [← hW] at qA qR qO qB O1 ⊢
  replace PA := qA
  replace PR := qR
  replace PO := qO
  replace BW := qB
  clear hW qA qR qO qB po fo pa
  refine (toSlipS_any _ D.f2 _ (H2.out.below BW.out) (by omega)).mono ?_
  rintro e w2 ⟨u2, rfl, o, b⟩
  obtain ⟨a2, n2, k2, rfl⟩ := o.sform
  have hs2 : W1.heap.size ≤ w2.heap.size := b.size
  replace PA := hid (PA.out.below b (by omega))
  replace PR := hid (PR.out.below b (by omega))
  replace PO := hid (PO.out.below b (by omega))
  replace BW : Hid (Below w.heap.size w w2) := BW.out.trans (b.mono BW.out.size)
  replace O1 := hid (O1.out.below b)
  have O2 := hid o
  clear o b
  obtain ⟨po, fo⟩ := PO.out.cell 2 (by simp)
  change World.cell? _ _ = some (.slice none 0 0) at po
  have op : OnlyP (fun j => j = w.heap.size + 2) w2 (w2.setCell ⟨w.heap.size + 2, 2, none⟩ (.slice a2 n2 k2)) := onlyP_set _ _ _ _
  have qA := hid (PA.out.of_block (op.2.1 _ (by omega)))
  have qR := hid (PR.out.of_block (op.2.1 _ (by omega)))
  have qO : Hid (BoxL (w2.setCell ⟨w.heap.size + 2, 2, none⟩ (.slice a2 n2 k2)) (w.heap.size + 2) [.int .i64 z0, .slice a1 n1 k1, .slice a2 n2 k2]) := PO.out.set 2 (by simp) _
  have qB : Hid (Below w.heap.size w (w2.setCell ⟨w.heap.size + 2, 2, none⟩ (.slice a2 n2 k2))) := BW.out.setCell (by show w.heap.size ≤ w.heap.size + 2; omega) _
  replace O1 := hid (O1.out.at fun g g1 g2 _ => op.2.1 g (by omega))
  replace O2 := hid (O2.out.at fun g g1 g2 _ => op.2.1 g (by omega))
  clear op
  obtain ⟨V, hV⟩ : ∃ V, V = w2.setCell ⟨w.heap.size + 2, 2, none⟩ (.slice a2 n2 k2) := ⟨_, rfl⟩
  have hzV : V.heap.size = w2.heap.size := by rw [hV]; exact World.size_setCell _ _ _
  rw [← hV] at qA qR qO qB O1 O2
  obtain ⟨po0, fo0⟩ := PO.out.cell 0 (by simp)
  change World.cell? _ _ = some (.int .i64 z0) at po0
  obtain ⟨pr0, fr0⟩ := PR.out.cell 0 (by simp)
  change World.cell? _ _ = some (.int .i64 0) at pr0
  obtain ⟨po1, fo1⟩ := PO.out.cell 1 (by simp)
  change World.cell? _ _ = some (.slice a1 n1 k1) at po1
  obtain ⟨pr1, fr1⟩ := PR.out.cell 1 (by simp)
  change World.cell? _ _ = some (.slice none 0 0) at pr1
  obtain ⟨pr2, fr2⟩ := PR.out.cell 2 (by simp)
  change World.cell? _ _ = some (.slice none 0 0) at pr2
  have QR : Hid (BoxL ((((V).setCell ⟨w.heap.size + 1, 0, none⟩ (.int .i64 z0)).setCell ⟨w.heap.size + 1, 1, none⟩ (.slice a1 n1 k1)).setCell ⟨w.heap.size + 1, 2, none⟩ (.slice a2 n2 k2)) (w.heap.size + 1) [.int .i64 z0, .slice a1 n1 k1, .slice a2 n2 k2]) := (((qR.out.set 0 (by simp) (.int .i64 z0)).set 1 (by simp) (.slice a1 n1 k1)).set 2 (by simp) (.slice a2 n2 k2))
  have op : OnlyP (fun j => j = w.heap.size + 1) V ((((V).setCell ⟨w.heap.size + 1, 0, none⟩ (.int .i64 z0)).setCell ⟨w.heap.size + 1, 1, none⟩ (.slice a1 n1 k1)).setCell ⟨w.heap.size + 1, 2, none⟩ (.slice a2 n2 k2)) := (((OnlyP.refl _ _).trans (onlyP_set _ _ _ _)).trans (onlyP_set _ _ _ _)).trans (onlyP_set _ _ _ _)
  replace O1 := hid (O1.out.at fun g g1 g2 _ => op.2.1 g (by omega))
  replace O2 := hid (O2.out.at fun g g1 g2 _ => op.2.1 g (by omega))
  have QB : Hid (Below w.heap.size w ((((V).setCell ⟨w.heap.size + 1, 0, none⟩ (.int .i64 z0)).setCell ⟨w.heap.size + 1, 1, none⟩ (.slice a1 n1 k1)).setCell ⟨w.heap.size + 1, 2, none⟩ (.slice a2 n2 k2))) := qB.out.trans (op.below fun j h => by omega)
  have hzF : ((((V).setCell ⟨w.heap.size + 1, 0, none⟩ (.int .i64 z0)).setCell ⟨w.heap.size + 1, 1, none⟩ (.slice a1 n1 k1)).setCell ⟨w.heap.size + 1, 2, none⟩ (.slice a2 n2 k2)).heap.size = V.heap.size := op.1
  have HZF := hid hzF
  clear op qA qR qO qB PA PO PR BW hzF
  obtain ⟨F, hF⟩ : ∃ F, F = (((V).setCell ⟨w.heap.size + 1, 0, none⟩ (.int .i64 z0)).setCell ⟨w.heap.size + 1, 1, none⟩ (.slice a1 n1 k1)).setCell ⟨w.heap.size + 1, 2, none⟩ (.slice a2 n2 k2) := ⟨_, rfl⟩
  rw [← hF] at QR QB HZF O1 O2
  go_wp2
  have e0 := (QR.out.cell 0 (by simp)).1
  change World.cell? _ _ = some (.int .i64 z0) at e0
  have e1 := (QR.out.cell 1 (by simp)).1
  change World.cell? _ _ = some (.slice a1 n1 k1) at e1
  have e2 := (QR.out.cell 2 (by simp)).1
  change World.cell? _ _ = some (.slice a2 n2 k2) at e2
  rw [hF, hV] at e0 e1 e2
  refine bodyPost_ret (v := .agg #[.int .i64 z0, .slice a1 n1 k1, .slice a2 n2 k2]) (by simp [results, Try.results19, go_sem, e0, e1, e2]) rfl ?_
  rw [← hV, ← hF]
  have hFs := HZF.out
  refine ⟨_, rfl, ⟨_, _, (W.heap.size, w1.heap.size), (W1.heap.size, w2.heap.size), by rw [HZ0.out], ?_, O1.out, O2.out⟩, QB.out⟩
  refine ⟨fun j hj => ?_, fun j r hj hr hne => ?_⟩
  · rcases j with _ | _ | j
    · simp only [coIv]; exact ⟨by omega, fun g g1 g2 => ⟨by omega, by omega⟩⟩
    · simp only [coIv]; exact ⟨by omega, fun g g1 g2 => ⟨by omega, by omega⟩⟩
    · omega
  · rcases j with _ | _ | j <;> rcases r with _ | _ | r
    · omega
    · simp only [coIv, Dj]; omega
    · omega
    · simp only [coIv, Dj]; omega
    · omega
    · omega
    · omega
    · omega
    · omega
end Go.Proofs.Ytdlkilacnnjglaa
