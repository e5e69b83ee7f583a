/-
  laws.toShares: copied into memory of its own. Nothing old is written.
-/
import Derived.Test.YtepnhbicmlfnhahKSharesRows
import Derived.Test.YtepnhbicmlfnhahKIntToS
namespace Go.Proofs.Ytepnhbicmlfnhah
open Go.RowKit

set_option maxRecDepth 100000 in
set_option maxHeartbeats 8000000 in
theorem toShares_any (va : Value) (D : ShD) (w : World) (ha : ShReads w va D) (hn : shN D ≤ 1048576) :
    Calls Try.prog 6 #[va] w fun e w' => ∃ v, e = .returned v ∧ ShOwn (Iv w.heap.size w'.heap.size) w' v D ∧ Below w.heap.size w w' := by
  obtain ⟨v0, rfl, h0⟩ := ha
  have hN : D.f0.length ≤ 1048576 := hn
  have H0 := hid h0
  obtain ⟨z1, hz1⟩ : ∃ z1, z1 = D.f1 := ⟨_, rfl⟩
  have HZ1 := hid hz1
  rw [← hz1]
  clear hn h0 hz1
  obtain ⟨W, hW⟩ : ∃ W, W = ((w.alloc (.cells #[v0, .int .i64 z1] 24)).alloc (.cells #[.slice none 0 0, .int .i64 0] 28)).alloc (.cells #[.slice none 0 0, .int .i64 0] 28) := ⟨_, rfl⟩
  have hs0 : W.heap.size = w.heap.size + 3 := by rw [hW]; simp
  have PA : Hid (BoxL W w.heap.size [v0, .int .i64 z1]) := by
    rw [hW]
    exact ((boxL_new w [v0, .int .i64 z1] 24).below ((Below.refl (w.heap.size + 1) _).alloc (by simp) _) (by omega)).below ((Below.refl (w.heap.size + 1) _).alloc (by simp) _) (by omega)
  have PR : Hid (BoxL W (w.heap.size + 1) [.slice none 0 0, .int .i64 0]) := by
    rw [hW]
    have h := boxL_new (w.alloc (.cells #[v0, .int .i64 z1] 24)) [.slice none 0 0, .int .i64 0] 28
    rw [World.size_alloc] at h
    exact h.below ((Below.refl (w.heap.size + 2) _).alloc (by simp) _) (by omega)
  have PO : Hid (BoxL W (w.heap.size + 2) [.slice none 0 0, .int .i64 0]) := by
    rw [hW]
    have h := boxL_new ((w.alloc (.cells #[v0, .int .i64 z1] 24)).alloc (.cells #[.slice none 0 0, .int .i64 0] 28)) [.slice none 0 0, .int .i64 0] 28
    rw [World.size_alloc, World.size_alloc] at h
    exact h
  have BW : Hid (Below w.heap.size w W) := by rw [hW]; exact (((Below.refl _ _).alloc (Nat.le_refl _) _).alloc (by simp) _).alloc (by simp; omega) _
  have HW := hid hW
  clear hW
  have pa := (PA.out.cell 0 (by simp)).1
  change World.cell? _ _ = some v0 at pa
  rw [HW.out] at pa
  go_enter Try.func6, Try.ntmps6
  go_wp2_with fail
  rw [← HW.out]
  clear pa HW
  refine (ktoIntS_any _ D.f0 _ (H0.out.below BW.out) (by omega)).mono ?_
  rintro e w1 ⟨u0, rfl, o, b⟩
  obtain ⟨a0, n0, k0, rfl⟩ := o.sform
  have hs1 : W.heap.size ≤ w1.heap.size := b.size
  replace PA := hid (PA.out.below b (by omega))
  replace PR := hid (PR.out.below b (by omega))
  replace PO := hid (PO.out.below b (by omega))
  replace BW : Hid (Below w.heap.size w w1) := BW.out.trans (b.mono BW.out.size)
  have O0 := hid o
  clear o b
  obtain ⟨po, fo⟩ := PO.out.cell 0 (by simp)
  change World.cell? _ _ = some (.slice none 0 0) at po
  have op : OnlyP (fun j => j = w.heap.size + 2) w1 (w1.setCell ⟨w.heap.size + 2, 0, none⟩ (.slice a0 n0 k0)) := onlyP_set _ _ _ _
  have qA := hid (PA.out.of_block (op.2.1 _ (by omega)))
  have qR := hid (PR.out.of_block (op.2.1 _ (by omega)))
  have qO : Hid (BoxL (w1.setCell ⟨w.heap.size + 2, 0, none⟩ (.slice a0 n0 k0)) (w.heap.size + 2) [.slice a0 n0 k0, .int .i64 0]) := PO.out.set 0 (by simp) _
  have qB : Hid (Below w.heap.size w (w1.setCell ⟨w.heap.size + 2, 0, none⟩ (.slice a0 n0 k0))) := BW.out.setCell (by show w.heap.size ≤ w.heap.size + 2; omega) _
  replace O0 := hid (O0.out.at fun g g1 g2 _ => op.2.1 g (by omega))
  clear op
  obtain ⟨V, hV⟩ : ∃ V, V = w1.setCell ⟨w.heap.size + 2, 0, none⟩ (.slice a0 n0 k0) := ⟨_, rfl⟩
  have hzV : V.heap.size = w1.heap.size := by rw [hV]; exact World.size_setCell _ _ _
  rw [← hV] at qA qR qO qB O0
  have op : OnlyP (fun j => j = w.heap.size + 2) V (V.setCell ⟨w.heap.size + 2, 1, none⟩ (.int .i64 z1)) := onlyP_set _ _ _ _
  replace qA := hid (qA.out.of_block (op.2.1 _ (by omega)))
  replace qR := hid (qR.out.of_block (op.2.1 _ (by omega)))
  replace qO : Hid (BoxL (V.setCell ⟨w.heap.size + 2, 1, none⟩ (.int .i64 z1)) (w.heap.size + 2) [.slice a0 n0 k0, .int .i64 z1]) := qO.out.set 1 (by simp) _
  replace qB : Hid (Below w.heap.size w (V.setCell ⟨w.heap.size + 2, 1, none⟩ (.int .i64 z1))) := qB.out.setCell (by show w.heap.size ≤ w.heap.size + 2; omega) _
  replace O0 := hid (O0.out.at fun g g1 g2 _ => op.2.1 g (by omega))
  clear op
  obtain ⟨V1, hV1⟩ : ∃ Vx, Vx = V.setCell ⟨w.heap.size + 2, 1, none⟩ (.int .i64 z1) := ⟨_, rfl⟩
  have hzV1 : V1.heap.size = V.heap.size := by rw [hV1]; exact World.size_setCell _ _ _
  rw [← hV1] at qA qR qO qB O0
  obtain ⟨pr0, fr0⟩ := PR.out.cell 0 (by simp)
  change World.cell? _ _ = some (.slice none 0 0) at pr0
  have pa1 := (PA.out.cell 1 (by simp)).1
  change World.cell? _ _ = some (.int .i64 z1) at pa1
  obtain ⟨po1, fo1⟩ := PO.out.cell 1 (by simp)
  change World.cell? _ _ = some (.int .i64 0) at po1
  obtain ⟨pr1, fr1⟩ := PR.out.cell 1 (by simp)
  change World.cell? _ _ = some (.int .i64 0) at pr1
  have QR : Hid (BoxL (((V1).setCell ⟨w.heap.size + 1, 0, none⟩ (.slice a0 n0 k0)).setCell ⟨w.heap.size + 1, 1, none⟩ (.int .i64 z1)) (w.heap.size + 1) [.slice a0 n0 k0, .int .i64 z1]) := ((qR.out.set 0 (by simp) (.slice a0 n0 k0)).set 1 (by simp) (.int .i64 z1))
  have op : OnlyP (fun j => j = w.heap.size + 1) V1 (((V1).setCell ⟨w.heap.size + 1, 0, none⟩ (.slice a0 n0 k0)).setCell ⟨w.heap.size + 1, 1, none⟩ (.int .i64 z1)) := ((OnlyP.refl _ _).trans (onlyP_set _ _ _ _)).trans (onlyP_set _ _ _ _)
  replace O0 := hid (O0.out.at fun g g1 g2 _ => op.2.1 g (by omega))
  have QB : Hid (Below w.heap.size w (((V1).setCell ⟨w.heap.size + 1, 0, none⟩ (.slice a0 n0 k0)).setCell ⟨w.heap.size + 1, 1, none⟩ (.int .i64 z1))) := qB.out.trans (op.below fun j h => by omega)
  have hzF : (((V1).setCell ⟨w.heap.size + 1, 0, none⟩ (.slice a0 n0 k0)).setCell ⟨w.heap.size + 1, 1, none⟩ (.int .i64 z1)).heap.size = V1.heap.size := op.1
  have HZF := hid hzF
  clear op qA qR qO qB PA PO PR BW hzF
  obtain ⟨F, hF⟩ : ∃ F, F = ((V1).setCell ⟨w.heap.size + 1, 0, none⟩ (.slice a0 n0 k0)).setCell ⟨w.heap.size + 1, 1, none⟩ (.int .i64 z1) := ⟨_, rfl⟩
  rw [← hF] at QR QB HZF O0
  go_wp2
  have e0 := (QR.out.cell 0 (by simp)).1
  change World.cell? _ _ = some (.slice a0 n0 k0) at e0
  have e1 := (QR.out.cell 1 (by simp)).1
  change World.cell? _ _ = some (.int .i64 z1) at e1
  rw [hF, hV1, hV] at e0 e1
  refine bodyPost_ret (v := .agg #[.slice a0 n0 k0, .int .i64 z1]) (by simp [results, Try.results6, go_sem, e0, e1]) rfl ?_
  rw [← hV, ← hV1, ← hF]
  have hFs := HZF.out
  refine ⟨_, rfl, ⟨_, (W.heap.size, w1.heap.size), by rw [HZ1.out], ?_, O0.out⟩, QB.out⟩
  refine ⟨fun j hj => ?_, fun j r hj hr hne => ?_⟩
  · rcases j with _ | j
    · simp only [shIv]; exact ⟨by omega, fun g g1 g2 => ⟨by omega, by omega⟩⟩
    · omega
  · rcases j with _ | j <;> rcases r with _ | r
    · omega
    · omega
    · omega
    · omega
end Go.Proofs.Ytepnhbicmlfnhah
