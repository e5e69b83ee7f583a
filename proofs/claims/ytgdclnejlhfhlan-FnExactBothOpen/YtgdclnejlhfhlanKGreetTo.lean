/-
  laws.toGreet: copied into memory of its own. Nothing old is written.
-/
import Derived.Test.YtgdclnejlhfhlanKGreetRows
import Derived.Test.YtgdclnejlhfhlanKHelloToS
namespace Go.Proofs.Ytgdclnejlhfhlan
open Go.RowKit

set_option maxRecDepth 100000 in
set_option maxHeartbeats 8000000 in
theorem toGreet_any (va : Value) (D : GrD) (w : World) (ha : GrReads w va D) (hn : grTot D ≤ 1048576) :
    Calls Try.prog 11 #[va] w fun e w' => ∃ v, e = .returned v ∧ GrOwn (Iv w.heap.size w'.heap.size) w' v D ∧ Below w.heap.size w w' := by
  obtain ⟨v8, v9, v10, rfl, h8, h9, h10⟩ := ha
  have hN : D.f8.length + D.f9.length + D.f10.length ≤ 1048576 := hn
  have H8 := hid h8
  have H9 := hid h9
  have H10 := hid h10
  obtain ⟨z0, hz0⟩ : ∃ z0, z0 = D.f0 := ⟨_, rfl⟩
  have HZ0 := hid hz0
  rw [← hz0]
  obtain ⟨z1, hz1⟩ : ∃ z1, z1 = D.f1 := ⟨_, rfl⟩
  have HZ1 := hid hz1
  rw [← hz1]
  obtain ⟨z2, hz2⟩ : ∃ z2, z2 = D.f2 := ⟨_, rfl⟩
  have HZ2 := hid hz2
  rw [← hz2]
  obtain ⟨z3, hz3⟩ : ∃ z3, z3 = D.f3 := ⟨_, rfl⟩
  have HZ3 := hid hz3
  rw [← hz3]
  obtain ⟨z4, hz4⟩ : ∃ z4, z4 = D.f4 := ⟨_, rfl⟩
  have HZ4 := hid hz4
  rw [← hz4]
  obtain ⟨z5, hz5⟩ : ∃ z5, z5 = D.f5 := ⟨_, rfl⟩
  have HZ5 := hid hz5
  rw [← hz5]
  obtain ⟨z6, hz6⟩ : ∃ z6, z6 = D.f6 := ⟨_, rfl⟩
  have HZ6 := hid hz6
  rw [← hz6]
  obtain ⟨z7, hz7⟩ : ∃ z7, z7 = D.f7 := ⟨_, rfl⟩
  have HZ7 := hid hz7
  rw [← hz7]
  clear hn h8 h9 h10 hz0 hz1 hz2 hz3 hz4 hz5 hz6 hz7
  obtain ⟨W, hW⟩ : ∃ W, W = ((w.alloc (.cells #[.int .i64 z0, .int .i64 z1, .int .i64 z2, .int .i64 z3, .int .i64 z4, .int .i64 z5, .int .i64 z6, .int .i64 z7, v8, v9, v10] 24)).alloc (.cells #[.int .i64 0, .int .i64 0, .int .i64 0, .int .i64 0, .int .i64 0, .int .i64 0, .int .i64 0, .int .i64 0, .slice none 0 0, .slice none 0 0, .slice none 0 0] 29)).alloc (.cells #[.int .i64 z0, .int .i64 z1, .int .i64 z2, .int .i64 z3, .int .i64 z4, .int .i64 z5, .int .i64 z6, .int .i64 z7, .slice none 0 0, .slice none 0 0, .slice none 0 0] 29) := ⟨_, rfl⟩
  have hs0 : W.heap.size = w.heap.size + 3 := by rw [hW]; simp
  have PA : Hid (BoxL W w.heap.size [.int .i64 z0, .int .i64 z1, .int .i64 z2, .int .i64 z3, .int .i64 z4, .int .i64 z5, .int .i64 z6, .int .i64 z7, v8, v9, v10]) := by
    rw [hW]
    exact ((boxL_new w [.int .i64 z0, .int .i64 z1, .int .i64 z2, .int .i64 z3, .int .i64 z4, .int .i64 z5, .int .i64 z6, .int .i64 z7, v8, v9, v10] 24).below ((Below.refl (w.heap.size + 1) _).alloc (by simp) _) (by omega)).below ((Below.refl (w.heap.size + 1) _).alloc (by simp) _) (by omega)
  have PR : Hid (BoxL W (w.heap.size + 1) [.int .i64 0, .int .i64 0, .int .i64 0, .int .i64 0, .int .i64 0, .int .i64 0, .int .i64 0, .int .i64 0, .slice none 0 0, .slice none 0 0, .slice none 0 0]) := by
    rw [hW]
    have h := boxL_new (w.alloc (.cells #[.int .i64 z0, .int .i64 z1, .int .i64 z2, .int .i64 z3, .int .i64 z4, .int .i64 z5, .int .i64 z6, .int .i64 z7, v8, v9, v10] 24)) [.int .i64 0, .int .i64 0, .int .i64 0, .int .i64 0, .int .i64 0, .int .i64 0, .int .i64 0, .int .i64 0, .slice none 0 0, .slice none 0 0, .slice none 0 0] 29
    rw [World.size_alloc] at h
    exact h.below ((Below.refl (w.heap.size + 2) _).alloc (by simp) _) (by omega)
  have PO : Hid (BoxL W (w.heap.size + 2) [.int .i64 z0, .int .i64 z1, .int .i64 z2, .int .i64 z3, .int .i64 z4, .int .i64 z5, .int .i64 z6, .int .i64 z7, .slice none 0 0, .slice none 0 0, .slice none 0 0]) := by
    rw [hW]
    have h := boxL_new ((w.alloc (.cells #[.int .i64 z0, .int .i64 z1, .int .i64 z2, .int .i64 z3, .int .i64 z4, .int .i64 z5, .int .i64 z6, .int .i64 z7, v8, v9, v10] 24)).alloc (.cells #[.int .i64 0, .int .i64 0, .int .i64 0, .int .i64 0, .int .i64 0, .int .i64 0, .int .i64 0, .int .i64 0, .slice none 0 0, .slice none 0 0, .slice none 0 0] 29)) [.int .i64 z0, .int .i64 z1, .int .i64 z2, .int .i64 z3, .int .i64 z4, .int .i64 z5, .int .i64 z6, .int .i64 z7, .slice none 0 0, .slice none 0 0, .slice none 0 0] 29
    rw [World.size_alloc, World.size_alloc] at h
    exact h
  have BW : Hid (Below w.heap.size w W) := by rw [hW]; exact (((Below.refl _ _).alloc (Nat.le_refl _) _).alloc (by simp) _).alloc (by simp; omega) _
  have HW := hid hW
  clear hW
  have pa := (PA.out.cell 8 (by simp)).1
  change World.cell? _ _ = some v8 at pa
  rw [HW.out] at pa
  go_enter Try.func11, Try.ntmps11
  go_wp2_with fail
  rw [← HW.out]
  clear pa HW
  refine (toHelloS_any _ D.f8 _ (H8.out.below BW.out) (by omega)).mono ?_
  rintro e w1 ⟨u8, rfl, o, b⟩
  obtain ⟨a8, n8, k8, rfl⟩ := o.sform
  have hs1 : W.heap.size ≤ w1.heap.size := b.size
  replace PA := hid (PA.out.below b (by omega))
  replace PR := hid (PR.out.below b (by omega))
  replace PO := hid (PO.out.below b (by omega))
  replace BW : Hid (Below w.heap.size w w1) := BW.out.trans (b.mono BW.out.size)
  have O8 := hid o
  clear o b
  obtain ⟨po, fo⟩ := PO.out.cell 8 (by simp)
  change World.cell? _ _ = some (.slice none 0 0) at po
  have pa := (PA.out.cell 9 (by simp)).1
  change World.cell? _ _ = some v9 at pa
  have op : OnlyP (fun j => j = w.heap.size + 2) w1 (w1.setCell ⟨w.heap.size + 2, 8, none⟩ (.slice a8 n8 k8)) := onlyP_set _ _ _ _
  have qA := hid (PA.out.of_block (op.2.1 _ (by omega)))
  have qR := hid (PR.out.of_block (op.2.1 _ (by omega)))
  have qO : Hid (BoxL (w1.setCell ⟨w.heap.size + 2, 8, none⟩ (.slice a8 n8 k8)) (w.heap.size + 2) [.int .i64 z0, .int .i64 z1, .int .i64 z2, .int .i64 z3, .int .i64 z4, .int .i64 z5, .int .i64 z6, .int .i64 z7, .slice a8 n8 k8, .slice none 0 0, .slice none 0 0]) := PO.out.set 8 (by simp) _
  have qB : Hid (Below w.heap.size w (w1.setCell ⟨w.heap.size + 2, 8, none⟩ (.slice a8 n8 k8))) := BW.out.setCell (by show w.heap.size ≤ w.heap.size + 2; omega) _
  replace O8 := hid (O8.out.at fun g g1 g2 _ => op.2.1 g (by omega))
  clear op
  go_wp2_with fail
  obtain ⟨W1, hW⟩ : ∃ W, W = w1.setCell ⟨w.heap.size + 2, 8, none⟩ (.slice a8 n8 k8) := ⟨_, rfl⟩
  have hz1 : W1.heap.size = w1.heap.size := by rw [hW]; exact World.size_setCell _ _ _
  rw [← hW] at qA qR qO qB O8 ⊢
  replace PA := qA
  replace PR := qR
  replace PO := qO
  replace BW := qB
  clear hW qA qR qO qB po fo pa
  refine (toHelloS_any _ D.f9 _ (H9.out.below BW.out) (by omega)).mono ?_
  rintro e w2 ⟨u9, rfl, o, b⟩
  obtain ⟨a9, n9, k9, rfl⟩ := o.sform
  have hs2 : W1.heap.size ≤ w2.heap.size := b.size
  replace PA := hid (PA.out.below b (by omega))
  replace PR := hid (PR.out.below b (by omega))
  replace PO := hid (PO.out.below b (by omega))
  replace BW : Hid (Below w.heap.size w w2) := BW.out.trans (b.mono BW.out.size)
  replace O8 := hid (O8.out.below b)
  have O9 := hid o
  clear o b
  obtain ⟨po, fo⟩ := PO.out.cell 9 (by simp)
  change World.cell? _ _ = some (.slice none 0 0) at po
  have pa := (PA.out.cell 10 (by simp)).1
  change World.cell? _ _ = some v10 at pa
  have op : OnlyP (fun j => j = w.heap.size + 2) w2 (w2.setCell ⟨w.heap.size + 2, 9, none⟩ (.slice a9 n9 k9)) := onlyP_set _ _ _ _
  have qA := hid (PA.out.of_block (op.2.1 _ (by omega)))
  have qR := hid (PR.out.of_block (op.2.1 _ (by omega)))
  have qO : Hid (BoxL (w2.setCell ⟨w.heap.size + 2, 9, none⟩ (.slice a9 n9 k9)) (w.heap.size + 2) [.int .i64 z0, .int .i64 z1, .int .i64 z2, .int .i64 z3, .int .i64 z4, .int .i64 z5, .int .i64 z6, .int .i64 z7, .slice a8 n8 k8, .slice a9 n9 k9, .slice none 0 0]) := PO.out.set 9 (by simp) _
  have qB : Hid (Below w.heap.size w (w2.setCell ⟨w.heap.size + 2, 9, none⟩ (.slice a9 n9 k9))) := BW.out.setCell (by show w.heap.size ≤ w.heap.size + 2; omega) _
  replace O8 := hid (O8.out.at fun g g1 g2 _ => op.2.1 g (by omega))
  replace O9 := hid (O9.out.at fun g g1 g2 _ => op.2.1 g (by omega))
  clear op
  go_wp2_with fail
  obtain ⟨W2, hW⟩ : ∃ W, W = w2.setCell ⟨w.heap.size + 2, 9, none⟩ (.slice a9 n9 k9) := ⟨_, rfl⟩
  have hz2 : W2.heap.size = w2.heap.size := by rw [hW]; exact World.size_setCell _ _ _
  rw [← hW] at qA qR qO qB O8 O9 ⊢
  replace PA := qA
  replace PR := qR
  replace PO := qO
  replace BW := qB
  clear hW qA qR qO qB po fo pa
  refine (toHelloS_any _ D.f10 _ (H10.out.below BW.out) (by omega)).mono ?_
  rintro e w3 ⟨u10, rfl, o, b⟩
  obtain ⟨a10, n10, k10, rfl⟩ := o.sform
  have hs3 : W2.heap.size ≤ w3.heap.size := b.size
  replace PA := hid (PA.out.below b (by omega))
  replace PR := hid (PR.out.below b (by omega))
  replace PO := hid (PO.out.below b (by omega))
  replace BW : Hid (Below w.heap.size w w3) := BW.out.trans (b.mono BW.out.size)
  replace O8 := hid (O8.out.below b)
  replace O9 := hid (O9.out.below b)
  have O10 := hid o
  clear o b
  obtain ⟨po, fo⟩ := PO.out.cell 10 (by simp)
  change World.cell? _ _ = some (.slice none 0 0) at po
  have op : OnlyP (fun j => j = w.heap.size + 2) w3 (w3.setCell ⟨w.heap.size + 2, 10, none⟩ (.slice a10 n10 k10)) := onlyP_set _ _ _ _
  have qA := hid (PA.out.of_block (op.2.1 _ (by omega)))
  have qR := hid (PR.out.of_block (op.2.1 _ (by omega)))
  have qO : Hid (BoxL (w3.setCell ⟨w.heap.size + 2, 10, none⟩ (.slice a10 n10 k10)) (w.heap.size + 2) [.int .i64 z0, .int .i64 z1, .int .i64 z2, .int .i64 z3, .int .i64 z4, .int .i64 z5, .int .i64 z6, .int .i64 z7, .slice a8 n8 k8, .slice a9 n9 k9, .slice a10 n10 k10]) := PO.out.set 10 (by simp) _
  have qB : Hid (Below w.heap.size w (w3.setCell ⟨w.heap.size + 2, 10, none⟩ (.slice a10 n10 k10))) := BW.out.setCell (by show w.heap.size ≤ w.heap.size + 2; omega) _
  replace O8 := hid (O8.out.at fun g g1 g2 _ => op.2.1 g (by omega))
  replace O9 := hid (O9.out.at fun g g1 g2 _ => op.2.1 g (by omega))
  replace O10 := hid (O10.out.at fun g g1 g2 _ => op.2.1 g (by omega))
  clear op
  obtain ⟨V, hV⟩ : ∃ V, V = w3.setCell ⟨w.heap.size + 2, 10, none⟩ (.slice a10 n10 k10) := ⟨_, rfl⟩
  have hzV : V.heap.size = w3.heap.size := by rw [hV]; exact World.size_setCell _ _ _
  rw [← hV] at qA qR qO qB O8 O9 O10
  obtain ⟨po0, fo0⟩ := PO.out.cell 0 (by simp)
  change World.cell? _ _ = some (.int .i64 z0) at po0
  obtain ⟨pr0, fr0⟩ := PR.out.cell 0 (by simp)
  change World.cell? _ _ = some (.int .i64 0) at pr0
  obtain ⟨po1, fo1⟩ := PO.out.cell 1 (by simp)
  change World.cell? _ _ = some (.int .i64 z1) at po1
  obtain ⟨pr1, fr1⟩ := PR.out.cell 1 (by simp)
  change World.cell? _ _ = some (.int .i64 0) at pr1
  obtain ⟨po2, fo2⟩ := PO.out.cell 2 (by simp)
  change World.cell? _ _ = some (.int .i64 z2) at po2
  obtain ⟨pr2, fr2⟩ := PR.out.cell 2 (by simp)
  change World.cell? _ _ = some (.int .i64 0) at pr2
  obtain ⟨po3, fo3⟩ := PO.out.cell 3 (by simp)
  change World.cell? _ _ = some (.int .i64 z3) at po3
  obtain ⟨pr3, fr3⟩ := PR.out.cell 3 (by simp)
  change World.cell? _ _ = some (.int .i64 0) at pr3
  obtain ⟨po4, fo4⟩ := PO.out.cell 4 (by simp)
  change World.cell? _ _ = some (.int .i64 z4) at po4
  obtain ⟨pr4, fr4⟩ := PR.out.cell 4 (by simp)
  change World.cell? _ _ = some (.int .i64 0) at pr4
  obtain ⟨po5, fo5⟩ := PO.out.cell 5 (by simp)
  change World.cell? _ _ = some (.int .i64 z5) at po5
  obtain ⟨pr5, fr5⟩ := PR.out.cell 5 (by simp)
  change World.cell? _ _ = some (.int .i64 0) at pr5
  obtain ⟨po6, fo6⟩ := PO.out.cell 6 (by simp)
  change World.cell? _ _ = some (.int .i64 z6) at po6
  obtain ⟨pr6, fr6⟩ := PR.out.cell 6 (by simp)
  change World.cell? _ _ = some (.int .i64 0) at pr6
  obtain ⟨po7, fo7⟩ := PO.out.cell 7 (by simp)
  change World.cell? _ _ = some (.int .i64 z7) at po7
  obtain ⟨pr7, fr7⟩ := PR.out.cell 7 (by simp)
  change World.cell? _ _ = some (.int .i64 0) at pr7
  obtain ⟨po8, fo8⟩ := PO.out.cell 8 (by simp)
  change World.cell? _ _ = some (.slice a8 n8 k8) at po8
  obtain ⟨pr8, fr8⟩ := PR.out.cell 8 (by simp)
  change World.cell? _ _ = some (.slice none 0 0) at pr8
  obtain ⟨po9, fo9⟩ := PO.out.cell 9 (by simp)
  change World.cell? _ _ = some (.slice a9 n9 k9) at po9
  obtain ⟨pr9, fr9⟩ := PR.out.cell 9 (by simp)
  change World.cell? _ _ = some (.slice none 0 0) at pr9
  obtain ⟨pr10, fr10⟩ := PR.out.cell 10 (by simp)
  change World.cell? _ _ = some (.slice none 0 0) at pr10
  have QR : Hid (BoxL ((((((((((((V).setCell ⟨w.heap.size + 1, 0, none⟩ (.int .i64 z0)).setCell ⟨w.heap.size + 1, 1, none⟩ (.int .i64 z1)).setCell ⟨w.heap.size + 1, 2, none⟩ (.int .i64 z2)).setCell ⟨w.heap.size + 1, 3, none⟩ (.int .i64 z3)).setCell ⟨w.heap.size + 1, 4, none⟩ (.int .i64 z4)).setCell ⟨w.heap.size + 1, 5, none⟩ (.int .i64 z5)).setCell ⟨w.heap.size + 1, 6, none⟩ (.int .i64 z6)).setCell ⟨w.heap.size + 1, 7, none⟩ (.int .i64 z7)).setCell ⟨w.heap.size + 1, 8, none⟩ (.slice a8 n8 k8)).setCell ⟨w.heap.size + 1, 9, none⟩ (.slice a9 n9 k9)).setCell ⟨w.heap.size + 1, 10, none⟩ (.slice a10 n10 k10)) (w.heap.size + 1) [.int .i64 z0, .int .i64 z1, .int .i64 z2, .int .i64 z3, .int .i64 z4, .int .i64 z5, .int .i64 z6, .int .i64 z7, .slice a8 n8 k8, .slice a9 n9 k9, .slice a10 n10 k10]) := (((((((((((qR.out.set 0 (by simp) (.int .i64 z0)).set 1 (by simp) (.int .i64 z1)).set 2 (by simp) (.int .i64 z2)).set 3 (by simp) (.int .i64 z3)).set 4 (by simp) (.int .i64 z4)).set 5 (by simp) (.int .i64 z5)).set 6 (by simp) (.int .i64 z6)).set 7 (by simp) (.int .i64 z7)).set 8 (by simp) (.slice a8 n8 k8)).set 9 (by simp) (.slice a9 n9 k9)).set 10 (by simp) (.slice a10 n10 k10))
  have op : OnlyP (fun j => j = w.heap.size + 1) V ((((((((((((V).setCell ⟨w.heap.size + 1, 0, none⟩ (.int .i64 z0)).setCell ⟨w.heap.size + 1, 1, none⟩ (.int .i64 z1)).setCell ⟨w.heap.size + 1, 2, none⟩ (.int .i64 z2)).setCell ⟨w.heap.size + 1, 3, none⟩ (.int .i64 z3)).setCell ⟨w.heap.size + 1, 4, none⟩ (.int .i64 z4)).setCell ⟨w.heap.size + 1, 5, none⟩ (.int .i64 z5)).setCell ⟨w.heap.size + 1, 6, none⟩ (.int .i64 z6)).setCell ⟨w.heap.size + 1, 7, none⟩ (.int .i64 z7)).setCell ⟨w.heap.size + 1, 8, none⟩ (.slice a8 n8 k8)).setCell ⟨w.heap.size + 1, 9, none⟩ (.slice a9 n9 k9)).setCell ⟨w.heap.size + 1, 10, none⟩ (.slice a10 n10 k10)) := (((((((((((OnlyP.refl _ _).trans (onlyP_set _ _ _ _)).trans (onlyP_set _ _ _ _)).trans (onlyP_set _ _ _ _)).trans (onlyP_set _ _ _ _)).trans (onlyP_set _ _ _ _)).trans (onlyP_set _ _ _ _)).trans (onlyP_set _ _ _ _)).trans (onlyP_set _ _ _ _)).trans (onlyP_set _ _ _ _)).trans (onlyP_set _ _ _ _)).trans (onlyP_set _ _ _ _)
  replace O8 := hid (O8.out.at fun g g1 g2 _ => op.2.1 g (by omega))
  replace O9 := hid (O9.out.at fun g g1 g2 _ => op.2.1 g (by omega))
  replace O10 := hid (O10.out.at fun g g1 g2 _ => op.2.1 g (by omega))
  have QB : Hid (Below w.heap.size w ((((((((((((V).setCell ⟨w.heap.size + 1, 0, none⟩ (.int .i64 z0)).setCell ⟨w.heap.size + 1, 1, none⟩ (.int .i64 z1)).setCell ⟨w.heap.size + 1, 2, none⟩ (.int .i64 z2)).setCell ⟨w.heap.size + 1, 3, none⟩ (.int .i64 z3)).setCell ⟨w.heap.size + 1, 4, none⟩ (.int .i64 z4)).setCell ⟨w.heap.size + 1, 5, none⟩ (.int .i64 z5)).setCell ⟨w.heap.size + 1, 6, none⟩ (.int .i64 z6)).setCell ⟨w.heap.size + 1, 7, none⟩ (.int .i64 z7)).setCell ⟨w.heap.size + 1, 8, none⟩ (.slice a8 n8 k8)).setCell ⟨w.heap.size + 1, 9, none⟩ (.slice a9 n9 k9)).setCell ⟨w.heap.size + 1, 10, none⟩ (.slice a10 n10 k10))) := qB.out.trans (op.below fun j h => by omega)
  have hzF : ((((((((((((V).setCell ⟨w.heap.size + 1, 0, none⟩ (.int .i64 z0)).setCell ⟨w.heap.size + 1, 1, none⟩ (.int .i64 z1)).setCell ⟨w.heap.size + 1, 2, none⟩ (.int .i64 z2)).setCell ⟨w.heap.size + 1, 3, none⟩ (.int .i64 z3)).setCell ⟨w.heap.size + 1, 4, none⟩ (.int .i64 z4)).setCell ⟨w.heap.size + 1, 5, none⟩ (.int .i64 z5)).setCell ⟨w.heap.size + 1, 6, none⟩ (.int .i64 z6)).setCell ⟨w.heap.size + 1, 7, none⟩ (.int .i64 z7)).setCell ⟨w.heap.size + 1, 8, none⟩ (.slice a8 n8 k8)).setCell ⟨w.heap.size + 1, 9, none⟩ (.slice a9 n9 k9)).setCell ⟨w.heap.size + 1, 10, none⟩ (.slice a10 n10 k10)).heap.size = V.heap.size := op.1
  have HZF := hid hzF
  clear op qA qR qO qB PA PO PR BW hzF
  obtain ⟨F, hF⟩ : ∃ F, F = (((((((((((V).setCell ⟨w.heap.size + 1, 0, none⟩ (.int .i64 z0)).setCell ⟨w.heap.size + 1, 1, none⟩ (.int .i64 z1)).setCell ⟨w.heap.size + 1, 2, none⟩ (.int .i64 z2)).setCell ⟨w.heap.size + 1, 3, none⟩ (.int .i64 z3)).setCell ⟨w.heap.size + 1, 4, none⟩ (.int .i64 z4)).setCell ⟨w.heap.size + 1, 5, none⟩ (.int .i64 z5)).setCell ⟨w.heap.size + 1, 6, none⟩ (.int .i64 z6)).setCell ⟨w.heap.size + 1, 7, none⟩ (.int .i64 z7)).setCell ⟨w.heap.size + 1, 8, none⟩ (.slice a8 n8 k8)).setCell ⟨w.heap.size + 1, 9, none⟩ (.slice a9 n9 k9)).setCell ⟨w.heap.size + 1, 10, none⟩ (.slice a10 n10 k10) := ⟨_, rfl⟩
  rw [← hF] at QR QB HZF O8 O9 O10
  go_wp2
  have e0 := (QR.out.cell 0 (by simp)).1
  change World.cell? _ _ = some (.int .i64 z0) at e0
  have e1 := (QR.out.cell 1 (by simp)).1
  change World.cell? _ _ = some (.int .i64 z1) at e1
  have e2 := (QR.out.cell 2 (by simp)).1
  change World.cell? _ _ = some (.int .i64 z2) at e2
  have e3 := (QR.out.cell 3 (by simp)).1
  change World.cell? _ _ = some (.int .i64 z3) at e3
  have e4 := (QR.out.cell 4 (by simp)).1
  change World.cell? _ _ = some (.int .i64 z4) at e4
  have e5 := (QR.out.cell 5 (by simp)).1
  change World.cell? _ _ = some (.int .i64 z5) at e5
  have e6 := (QR.out.cell 6 (by simp)).1
  change World.cell? _ _ = some (.int .i64 z6) at e6
  have e7 := (QR.out.cell 7 (by simp)).1
  change World.cell? _ _ = some (.int .i64 z7) at e7
  have e8 := (QR.out.cell 8 (by simp)).1
  change World.cell? _ _ = some (.slice a8 n8 k8) at e8
  have e9 := (QR.out.cell 9 (by simp)).1
  change World.cell? _ _ = some (.slice a9 n9 k9) at e9
  have e10 := (QR.out.cell 10 (by simp)).1
  change World.cell? _ _ = some (.slice a10 n10 k10) at e10
  rw [hF, hV] at e0 e1 e2 e3 e4 e5 e6 e7 e8 e9 e10
  refine bodyPost_ret (v := .agg #[.int .i64 z0, .int .i64 z1, .int .i64 z2, .int .i64 z3, .int .i64 z4, .int .i64 z5, .int .i64 z6, .int .i64 z7, .slice a8 n8 k8, .slice a9 n9 k9, .slice a10 n10 k10]) (by simp [results, Try.results11, go_sem, e0, e1, e2, e3, e4, e5, e6, e7, e8, e9, e10]) rfl ?_
  rw [← hV, ← hF]
  have hFs := HZF.out
  refine ⟨_, rfl, ⟨_, _, _, (W.heap.size, w1.heap.size), (W1.heap.size, w2.heap.size), (W2.heap.size, w3.heap.size), by rw [HZ0.out, HZ1.out, HZ2.out, HZ3.out, HZ4.out, HZ5.out, HZ6.out, HZ7.out], ?_, O8.out, O9.out, O10.out⟩, QB.out⟩
  refine ⟨fun j hj => ?_, fun j r hj hr hne => ?_⟩
  · rcases j with _ | _ | _ | j
    · simp only [grIv]; exact ⟨by omega, fun g g1 g2 => ⟨by omega, by omega⟩⟩
    · simp only [grIv]; exact ⟨by omega, fun g g1 g2 => ⟨by omega, by omega⟩⟩
    · simp only [grIv]; exact ⟨by omega, fun g g1 g2 => ⟨by omega, by omega⟩⟩
    · omega
  · rcases j with _ | _ | _ | j <;> rcases r with _ | _ | _ | r
    · omega
    · simp only [grIv, Dj]; omega
    · simp only [grIv, Dj]; omega
    · omega
    · simp only [grIv, Dj]; omega
    · omega
    · simp only [grIv, Dj]; omega
    · omega
    · simp only [grIv, Dj]; omega
    · simp only [grIv, Dj]; omega
    · omega
    · omega
    · omega
    · omega
    · omega
    · omega
end Go.Proofs.Ytgdclnejlhfhlan
