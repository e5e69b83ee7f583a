/-
  laws.toBlock: copied into memory of its own. Nothing old is written.
-/
import Derived.Test.YtnkpboobfkjibalKSpanSf
import Derived.Test.YtnkpboobfkjibalKSpanE1
namespace Go.Proofs.Ytnkpboobfkjibal
open Go.RowKit

set_option maxRecDepth 100000 in
set_option maxHeartbeats 8000000 in
theorem toBlock_any (va : Value) (D : BlD) (w : World) (ha : BlReads w va D) (hn : blTot D ≤ 1048576) :
    Calls Try.prog 30 #[va] w fun e w' => ∃ v, e = .returned v ∧ BlOwn (Iv w.heap.size w'.heap.size) w' v D ∧ Below w.heap.size w w' := by
  obtain ⟨v3, rfl, h3⟩ := ha
  have hN : D.f2.size + D.f3.length ≤ 1048576 := hn
  have H3 := hid h3
  obtain ⟨z0, hz0⟩ : ∃ z0, z0 = D.f0 := ⟨_, rfl⟩
  have HZ0 := hid hz0
  rw [← hz0]
  obtain ⟨z1, hz1⟩ : ∃ z1, z1 = D.f1 := ⟨_, rfl⟩
  have HZ1 := hid hz1
  rw [← hz1]
  obtain ⟨z2, hz2⟩ : ∃ z2, z2 = D.f2 := ⟨_, rfl⟩
  have HZ2 := hid hz2
  rw [← hz2]
  clear hn h3 hz0 hz1 hz2
  obtain ⟨W, hW⟩ : ∃ W, W = ((w.alloc (.cells #[.int .i64 z0, .int .i64 z1, .string z2, v3] 53)).alloc (.cells #[.int .i64 0, .int .i64 0, .string ⟨#[]⟩, .slice none 0 0] 38)).alloc (.cells #[.int .i64 z0, .int .i64 z1, .string z2, .slice none 0 0] 38) := ⟨_, rfl⟩
  have hs0 : W.heap.size = w.heap.size + 3 := by rw [hW]; simp
  have PA : Hid (BoxL W w.heap.size [.int .i64 z0, .int .i64 z1, .string z2, v3]) := by
    rw [hW]
    exact ((boxL_new w [.int .i64 z0, .int .i64 z1, .string z2, v3] 53).below ((Below.refl (w.heap.size + 1) _).alloc (by simp) _) (by omega)).below ((Below.refl (w.heap.size + 1) _).alloc (by simp) _) (by omega)
  have PR : Hid (BoxL W (w.heap.size + 1) [.int .i64 0, .int .i64 0, .string ⟨#[]⟩, .slice none 0 0]) := by
    rw [hW]
    have h := boxL_new (w.alloc (.cells #[.int .i64 z0, .int .i64 z1, .string z2, v3] 53)) [.int .i64 0, .int .i64 0, .string ⟨#[]⟩, .slice none 0 0] 38
    rw [World.size_alloc] at h
    exact h.below ((Below.refl (w.heap.size + 2) _).alloc (by simp) _) (by omega)
  have PO : Hid (BoxL W (w.heap.size + 2) [.int .i64 z0, .int .i64 z1, .string z2, .slice none 0 0]) := by
    rw [hW]
    have h := boxL_new ((w.alloc (.cells #[.int .i64 z0, .int .i64 z1, .string z2, v3] 53)).alloc (.cells #[.int .i64 0, .int .i64 0, .string ⟨#[]⟩, .slice none 0 0] 38)) [.int .i64 z0, .int .i64 z1, .string z2, .slice none 0 0] 38
    rw [World.size_alloc, World.size_alloc] at h
    exact h
  have BW : Hid (Below w.heap.size w W) := by rw [hW]; exact (((Below.refl _ _).alloc (Nat.le_refl _) _).alloc (by simp) _).alloc (by simp; omega) _
  have HW := hid hW
  clear hW
  have pa := (PA.out.cell 3 (by simp)).1
  change World.cell? _ _ = some v3 at pa
  rw [HW.out] at pa
  go_enter Try.func30, Try.ntmps30
  go_wp2_with fail
  rw [← HW.out]
  clear pa HW
  refine (toSpanS_any _ D.f3 _ (H3.out.below BW.out) (by omega)).mono ?_
  rintro e w1 ⟨u3, rfl, o, b⟩
  obtain ⟨a3, n3, k3, rfl⟩ := o.sform
  have hs1 : W.heap.size ≤ w1.heap.size := b.size
  replace PA := hid (PA.out.below b (by omega))
  replace PR := hid (PR.out.below b (by omega))
  replace PO := hid (PO.out.below b (by omega))
  replace BW : Hid (Below w.heap.size w w1) := BW.out.trans (b.mono BW.out.size)
  have O3 := hid o
  clear o b
  obtain ⟨po, fo⟩ := PO.out.cell 3 (by simp)
  change World.cell? _ _ = some (.slice none 0 0) at po
  have op : OnlyP (fun j => j = w.heap.size + 2) w1 (w1.setCell ⟨w.heap.size + 2, 3, none⟩ (.slice a3 n3 k3)) := onlyP_set _ _ _ _
  have qA := hid (PA.out.of_block (op.2.1 _ (by omega)))
  have qR := hid (PR.out.of_block (op.2.1 _ (by omega)))
  have qO : Hid (BoxL (w1.setCell ⟨w.heap.size + 2, 3, none⟩ (.slice a3 n3 k3)) (w.heap.size + 2) [.int .i64 z0, .int .i64 z1, .string z2, .slice a3 n3 k3]) := PO.out.set 3 (by simp) _
  have qB : Hid (Below w.heap.size w (w1.setCell ⟨w.heap.size + 2, 3, none⟩ (.slice a3 n3 k3))) := BW.out.setCell (by show w.heap.size ≤ w.heap.size + 2; omega) _
  replace O3 := hid (O3.out.at fun g g1 g2 _ => op.2.1 g (by omega))
  clear op
  obtain ⟨V, hV⟩ : ∃ V, V = w1.setCell ⟨w.heap.size + 2, 3, none⟩ (.slice a3 n3 k3) := ⟨_, rfl⟩
  have hzV : V.heap.size = w1.heap.size := by rw [hV]; exact World.size_setCell _ _ _
  rw [← hV] at qA qR qO qB O3
  obtain ⟨po0, fo0⟩ := PO.out.cell 0 (by simp)
  change World.cell? _ _ = some (.int .i64 z0) at po0
  obtain ⟨pr0, fr0⟩ := PR.out.cell 0 (by simp)
  change World.cell? _ _ = some (.int .i64 0) at pr0
  obtain ⟨po1, fo1⟩ := PO.out.cell 1 (by simp)
  change World.cell? _ _ = some (.int .i64 z1) at po1
  obtain ⟨pr1, fr1⟩ := PR.out.cell 1 (by simp)
  change World.cell? _ _ = some (.int .i64 0) at pr1
  obtain ⟨po2, fo2⟩ := PO.out.cell 2 (by simp)
  change World.cell? _ _ = some (.string z2) at po2
  obtain ⟨pr2, fr2⟩ := PR.out.cell 2 (by simp)
  change World.cell? _ _ = some (.string ⟨#[]⟩) at pr2
  obtain ⟨pr3, fr3⟩ := PR.out.cell 3 (by simp)
  change World.cell? _ _ = some (.slice none 0 0) at pr3
  have QR : Hid (BoxL (((((V).setCell ⟨w.heap.size + 1, 0, none⟩ (.int .i64 z0)).setCell ⟨w.heap.size + 1, 1, none⟩ (.int .i64 z1)).setCell ⟨w.heap.size + 1, 2, none⟩ (.string z2)).setCell ⟨w.heap.size + 1, 3, none⟩ (.slice a3 n3 k3)) (w.heap.size + 1) [.int .i64 z0, .int .i64 z1, .string z2, .slice a3 n3 k3]) := ((((qR.out.set 0 (by simp) (.int .i64 z0)).set 1 (by simp) (.int .i64 z1)).set 2 (by simp) (.string z2)).set 3 (by simp) (.slice a3 n3 k3))
  have op : OnlyP (fun j => j = w.heap.size + 1) V (((((V).setCell ⟨w.heap.size + 1, 0, none⟩ (.int .i64 z0)).setCell ⟨w.heap.size + 1, 1, none⟩ (.int .i64 z1)).setCell ⟨w.heap.size + 1, 2, none⟩ (.string z2)).setCell ⟨w.heap.size + 1, 3, none⟩ (.slice a3 n3 k3)) := ((((OnlyP.refl _ _).trans (onlyP_set _ _ _ _)).trans (onlyP_set _ _ _ _)).trans (onlyP_set _ _ _ _)).trans (onlyP_set _ _ _ _)
  replace O3 := hid (O3.out.at fun g g1 g2 _ => op.2.1 g (by omega))
  have QB : Hid (Below w.heap.size w (((((V).setCell ⟨w.heap.size + 1, 0, none⟩ (.int .i64 z0)).setCell ⟨w.heap.size + 1, 1, none⟩ (.int .i64 z1)).setCell ⟨w.heap.size + 1, 2, none⟩ (.string z2)).setCell ⟨w.heap.size + 1, 3, none⟩ (.slice a3 n3 k3))) := qB.out.trans (op.below fun j h => by omega)
  have hzF : (((((V).setCell ⟨w.heap.size + 1, 0, none⟩ (.int .i64 z0)).setCell ⟨w.heap.size + 1, 1, none⟩ (.int .i64 z1)).setCell ⟨w.heap.size + 1, 2, none⟩ (.string z2)).setCell ⟨w.heap.size + 1, 3, none⟩ (.slice a3 n3 k3)).heap.size = V.heap.size := op.1
  have HZF := hid hzF
  clear op qA qR qO qB PA PO PR BW hzF
  obtain ⟨F, hF⟩ : ∃ F, F = ((((V).setCell ⟨w.heap.size + 1, 0, none⟩ (.int .i64 z0)).setCell ⟨w.heap.size + 1, 1, none⟩ (.int .i64 z1)).setCell ⟨w.heap.size + 1, 2, none⟩ (.string z2)).setCell ⟨w.heap.size + 1, 3, none⟩ (.slice a3 n3 k3) := ⟨_, rfl⟩
  rw [← hF] at QR QB HZF O3
  go_wp2
  have e0 := (QR.out.cell 0 (by simp)).1
  change World.cell? _ _ = some (.int .i64 z0) at e0
  have e1 := (QR.out.cell 1 (by simp)).1
  change World.cell? _ _ = some (.int .i64 z1) at e1
  have e2 := (QR.out.cell 2 (by simp)).1
  change World.cell? _ _ = some (.string z2) at e2
  have e3 := (QR.out.cell 3 (by simp)).1
  change World.cell? _ _ = some (.slice a3 n3 k3) at e3
  rw [hF, hV] at e0 e1 e2 e3
  refine bodyPost_ret (v := .agg #[.int .i64 z0, .int .i64 z1, .string z2, .slice a3 n3 k3]) (by simp [results, Try.results30, go_sem, e0, e1, e2, e3]) rfl ?_
  rw [← hV, ← hF]
  have hFs := HZF.out
  refine ⟨_, rfl, ⟨_, (W.heap.size, w1.heap.size), by rw [HZ0.out, HZ1.out, HZ2.out], ?_, O3.out⟩, QB.out⟩
  refine ⟨fun j hj => ?_, fun j r hj hr hne => ?_⟩
  · rcases j with _ | j
    · simp only [blIv]; exact ⟨by omega, fun g g1 g2 => ⟨by omega, by omega⟩⟩
    · omega
  · rcases j with _ | j <;> rcases r with _ | r
    · omega
    · omega
    · omega
    · omega
end Go.Proofs.Ytnkpboobfkjibal
