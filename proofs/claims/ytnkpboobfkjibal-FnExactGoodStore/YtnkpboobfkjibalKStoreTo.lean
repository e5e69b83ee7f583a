/-
  laws.toStore: copied into memory of its own. Nothing old is written.
-/
import Derived.Test.YtnkpboobfkjibalKBlocksRows
import Derived.Test.YtnkpboobfkjibalKBlocksToS
import Derived.Test.YtnkpboobfkjibalIntsTo
namespace Go.Proofs.Ytnkpboobfkjibal
open Go.RowKit

set_option maxRecDepth 100000 in
set_option maxHeartbeats 8000000 in
theorem toStore_any (va : Value) (D : StD) (w : World) (ha : StReads w va D) (hn : stTot D ≤ 1048576) :
    Calls Try.prog 6 #[va] w fun e w' => ∃ v, e = .returned v ∧ StOwn (Iv w.heap.size w'.heap.size) w' v D ∧ Below w.heap.size w w' := by
  obtain ⟨v0, v1, rfl, h0, h1⟩ := ha
  have hN : blsTot D.f0 + D.f1.length ≤ 1048576 := hn
  have H0 := hid h0
  have H1 := hid h1
  clear hn h0 h1
  obtain ⟨W, hW⟩ : ∃ W, W = ((w.alloc (.cells #[v0, v1] 25)).alloc (.cells #[.slice none 0 0, .slice none 0 0] 30)).alloc (.cells #[.slice none 0 0, .slice none 0 0] 30) := ⟨_, rfl⟩
  have hs0 : W.heap.size = w.heap.size + 3 := by rw [hW]; simp
  have PA : Hid (BoxL W w.heap.size [v0, v1]) := by
    rw [hW]
    exact ((boxL_new w [v0, v1] 25).below ((Below.refl (w.heap.size + 1) _).alloc (by simp) _) (by omega)).below ((Below.refl (w.heap.size + 1) _).alloc (by simp) _) (by omega)
  have PR : Hid (BoxL W (w.heap.size + 1) [.slice none 0 0, .slice none 0 0]) := by
    rw [hW]
    have h := boxL_new (w.alloc (.cells #[v0, v1] 25)) [.slice none 0 0, .slice none 0 0] 30
    rw [World.size_alloc] at h
    exact h.below ((Below.refl (w.heap.size + 2) _).alloc (by simp) _) (by omega)
  have PO : Hid (BoxL W (w.heap.size + 2) [.slice none 0 0, .slice none 0 0]) := by
    rw [hW]
    have h := boxL_new ((w.alloc (.cells #[v0, v1] 25)).alloc (.cells #[.slice none 0 0, .slice none 0 0] 30)) [.slice none 0 0, .slice none 0 0] 30
    rw [World.size_alloc, World.size_alloc] at h
    exact h
  have BW : Hid (Below w.heap.size w W) := by rw [hW]; exact (((Below.refl _ _).alloc (Nat.le_refl _) _).alloc (by simp) _).alloc (by simp; omega) _
  have HW := hid hW
  clear hW
  have pa := (PA.out.cell 0 (by simp)).1
  change World.cell? _ _ = some v0 at pa
  rw [HW.out] at pa
  go_enter Try.func6, Try.ntmps6
  go_wp2_with fail
  rw [← HW.out]
  clear pa HW
  refine (toBlockS_any _ D.f0 _ (H0.out.below BW.out) (by omega)).mono ?_
  rintro e w1 ⟨u0, rfl, o, b⟩
  obtain ⟨a0, n0, k0, rfl⟩ := o.sform
  have hs1 : W.heap.size ≤ w1.heap.size := b.size
  replace PA := hid (PA.out.below b (by omega))
  replace PR := hid (PR.out.below b (by omega))
  replace PO := hid (PO.out.below b (by omega))
  replace BW : Hid (Below w.heap.size w w1) := BW.out.trans (b.mono BW.out.size)
  have O0 := hid o
  clear o b
  obtain ⟨po, fo⟩ := PO.out.cell 0 (by simp)
  change World.cell? _ _ = some (.slice none 0 0) at po
  have pa := (PA.out.cell 1 (by simp)).1
  change World.cell? _ _ = some v1 at pa
  have op : OnlyP (fun j => j = w.heap.size + 2) w1 (w1.setCell ⟨w.heap.size + 2, 0, none⟩ (.slice a0 n0 k0)) := onlyP_set _ _ _ _
  have qA := hid (PA.out.of_block (op.2.1 _ (by omega)))
  have qR := hid (PR.out.of_block (op.2.1 _ (by omega)))
  have qO : Hid (BoxL (w1.setCell ⟨w.heap.size + 2, 0, none⟩ (.slice a0 n0 k0)) (w.heap.size + 2) [.slice a0 n0 k0, .slice none 0 0]) := PO.out.set 0 (by simp) _
  have qB : Hid (Below w.heap.size w (w1.setCell ⟨w.heap.size + 2, 0, none⟩ (.slice a0 n0 k0))) := BW.out.setCell (by show w.heap.size ≤ w.heap.size + 2; omega) _
  replace O0 := hid (O0.out.at fun g g1 g2 _ => op.2.1 g (by omega))
  clear op
  go_wp2_with fail
  obtain ⟨W1, hW⟩ : ∃ W, W = w1.setCell ⟨w.heap.size + 2, 0, none⟩ (.slice a0 n0 k0) := ⟨_, rfl⟩
  have hz1 : W1.heap.size = w1.heap.size := by rw [hW]; exact World.size_setCell _ _ _
  rw [← hW] at qA qR qO qB O0 ⊢
  replace PA := qA
  replace PR := qR
  replace PO := qO
  replace BW := qB
  clear hW qA qR qO qB po fo pa
  refine (ktoIntS_any _ D.f1 _ (H1.out.below BW.out) (by omega)).mono ?_
  rintro e w2 ⟨u1, rfl, o, b⟩
  obtain ⟨a1, n1, k1, rfl⟩ := o.sform
  have hs2 : W1.heap.size ≤ w2.heap.size := b.size
  replace PA := hid (PA.out.below b (by omega))
  replace PR := hid (PR.out.below b (by omega))
  replace PO := hid (PO.out.below b (by omega))
  replace BW : Hid (Below w.heap.size w w2) := BW.out.trans (b.mono BW.out.size)
  replace O0 := hid (O0.out.below b)
  have O1 := hid o
  clear o b
  obtain ⟨po, fo⟩ := PO.out.cell 1 (by simp)
  change World.cell? _ _ = some (.slice none 0 0) at po
  have op : OnlyP (fun j => j = w.heap.size + 2) w2 (w2.setCell ⟨w.heap.size + 2, 1, none⟩ (.slice a1 n1 k1)) := onlyP_set _ _ _ _
  have qA := hid (PA.out.of_block (op.2.1 _ (by omega)))
  have qR := hid (PR.out.of_block (op.2.1 _ (by omega)))
  have qO : Hid (BoxL (w2.setCell ⟨w.heap.size + 2, 1, none⟩ (.slice a1 n1 k1)) (w.heap.size + 2) [.slice a0 n0 k0, .slice a1 n1 k1]) := PO.out.set 1 (by simp) _
  have qB : Hid (Below w.heap.size w (w2.setCell ⟨w.heap.size + 2, 1, none⟩ (.slice a1 n1 k1))) := BW.out.setCell (by show w.heap.size ≤ w.heap.size + 2; omega) _
  replace O0 := hid (O0.out.at fun g g1 g2 _ => op.2.1 g (by omega))
  replace O1 := hid (O1.out.at fun g g1 g2 _ => op.2.1 g (by omega))
  clear op
  obtain ⟨V, hV⟩ : ∃ V, V = w2.setCell ⟨w.heap.size + 2, 1, none⟩ (.slice a1 n1 k1) := ⟨_, rfl⟩
  have hzV : V.heap.size = w2.heap.size := by rw [hV]; exact World.size_setCell _ _ _
  rw [← hV] at qA qR qO qB O0 O1
  obtain ⟨po0, fo0⟩ := PO.out.cell 0 (by simp)
  change World.cell? _ _ = some (.slice a0 n0 k0) at po0
  obtain ⟨pr0, fr0⟩ := PR.out.cell 0 (by simp)
  change World.cell? _ _ = some (.slice none 0 0) at pr0
  obtain ⟨pr1, fr1⟩ := PR.out.cell 1 (by simp)
  change World.cell? _ _ = some (.slice none 0 0) at pr1
  have QR : Hid (BoxL (((V).setCell ⟨w.heap.size + 1, 0, none⟩ (.slice a0 n0 k0)).setCell ⟨w.heap.size + 1, 1, none⟩ (.slice a1 n1 k1)) (w.heap.size + 1) [.slice a0 n0 k0, .slice a1 n1 k1]) := ((qR.out.set 0 (by simp) (.slice a0 n0 k0)).set 1 (by simp) (.slice a1 n1 k1))
  have op : OnlyP (fun j => j = w.heap.size + 1) V (((V).setCell ⟨w.heap.size + 1, 0, none⟩ (.slice a0 n0 k0)).setCell ⟨w.heap.size + 1, 1, none⟩ (.slice a1 n1 k1)) := ((OnlyP.refl _ _).trans (onlyP_set _ _ _ _)).trans (onlyP_set _ _ _ _)
  replace O0 := hid (O0.out.at fun g g1 g2 _ => op.2.1 g (by omega))
  replace O1 := hid (O1.out.at fun g g1 g2 _ => op.2.1 g (by omega))
  have QB : Hid (Below w.heap.size w (((V).setCell ⟨w.heap.size + 1, 0, none⟩ (.slice a0 n0 k0)).setCell ⟨w.heap.size + 1, 1, none⟩ (.slice a1 n1 k1))) := qB.out.trans (op.below fun j h => by omega)
  have hzF : (((V).setCell ⟨w.heap.size + 1, 0, none⟩ (.slice a0 n0 k0)).setCell ⟨w.heap.size + 1, 1, none⟩ (.slice a1 n1 k1)).heap.size = V.heap.size := op.1
  have HZF := hid hzF
  clear op qA qR qO qB PA PO PR BW hzF
  obtain ⟨F, hF⟩ : ∃ F, F = ((V).setCell ⟨w.heap.size + 1, 0, none⟩ (.slice a0 n0 k0)).setCell ⟨w.heap.size + 1, 1, none⟩ (.slice a1 n1 k1) := ⟨_, rfl⟩
  rw [← hF] at QR QB HZF O0 O1
  go_wp2
  have e0 := (QR.out.cell 0 (by simp)).1
  change World.cell? _ _ = some (.slice a0 n0 k0) at e0
  have e1 := (QR.out.cell 1 (by simp)).1
  change World.cell? _ _ = some (.slice a1 n1 k1) at e1
  rw [hF, hV] at e0 e1
  refine bodyPost_ret (v := .agg #[.slice a0 n0 k0, .slice a1 n1 k1]) (by simp [results, Try.results6, go_sem, e0, e1]) rfl ?_
  rw [← hV, ← hF]
  have hFs := HZF.out
  refine ⟨_, rfl, ⟨_, _, (W.heap.size, w1.heap.size), (W1.heap.size, w2.heap.size), by rw [], ?_, O0.out, O1.out⟩, QB.out⟩
  refine ⟨fun j hj => ?_, fun j r hj hr hne => ?_⟩
  · rcases j with _ | _ | j
    · simp only [stIv]; exact ⟨by omega, fun g g1 g2 => ⟨by omega, by omega⟩⟩
    · simp only [stIv]; exact ⟨by omega, fun g g1 g2 => ⟨by omega, by omega⟩⟩
    · omega
  · rcases j with _ | _ | j <;> rcases r with _ | _ | r
    · omega
    · simp only [stIv, Dj]; omega
    · omega
    · simp only [stIv, Dj]; omega
    · omega
    · omega
    · omega
    · omega
    · omega
end Go.Proofs.Ytnkpboobfkjibal
