/-
  laws.markGreet, laws.heldGreet: all numbers in its rows are numbered, and told to be so. Nothing else is written.
-/
import Derived.Test.YtbpbhbflfhfcfaaKGreetRows
import Derived.Test.YtbpbhbflfhfcfaaKHelloMark
namespace Go.Proofs.Ytbpbhbflfhfcfaa
open Go.RowKit

def grMk (k : Int) (D : GrD) : GrD := ⟨D.f0, D.f1, D.f2, D.f3, D.f4, D.f5, D.f6, D.f7, hemarks k D.f8.length, hemarks (k + (3 * D.f8.length : Nat)) D.f9.length, hemarks (k + (3 * D.f8.length + 3 * D.f9.length : Nat)) D.f10.length⟩
set_option maxRecDepth 100000 in
set_option maxHeartbeats 8000000 in
theorem markGreet_any (S : Nat → Prop) (lo : Nat) (v : Value) (D : GrD) (k m : Int) (w : World) (ho : GrOwn S w v D) (hS : ∀ g, S g → lo ≤ g ∧ g < w.heap.size) (hlo : lo ≤ w.heap.size) (hn : grTot D ≤ 1048576) (h0 : 0 ≤ k) (h1 : k ≤ 100000000) (hm : m = k + (grN D : Nat)) :
    Calls Try.prog 28 #[v, .int .i64 k] w fun e w' => e = .returned (.int .i64 m) ∧ GrOwn S w' v (grMk k D) ∧ Below lo w w' ∧ OnlyS S w w' := by
  obtain ⟨v8, v9, v10, c8, c9, c10, rfl, ha, h8, h9, h10⟩ := ho
  have n8 : c8.1 ≤ c8.2 ∧ ∀ g, c8.1 ≤ g → g < c8.2 → S g := ha.inn 0 (by omega)
  have n9 : c9.1 ≤ c9.2 ∧ ∀ g, c9.1 ≤ g → g < c9.2 → S g := ha.inn 1 (by omega)
  have n10 : c10.1 ≤ c10.2 ∧ ∀ g, c10.1 ≤ g → g < c10.2 → S g := ha.inn 2 (by omega)
  have d8_9 : c8.2 ≤ c9.1 ∨ c9.2 ≤ c8.1 := ha.dj 0 1 (by omega) (by omega) (by omega)
  have d8_10 : c8.2 ≤ c10.1 ∨ c10.2 ≤ c8.1 := ha.dj 0 2 (by omega) (by omega) (by omega)
  have d9_10 : c9.2 ≤ c10.1 ∨ c10.2 ≤ c9.1 := ha.dj 1 2 (by omega) (by omega) (by omega)
  have HA := hid ha
  have hN : D.f8.length + D.f9.length + D.f10.length ≤ 1048576 := hn
  obtain ⟨k1, hk1⟩ : ∃ k1 : Int, k1 = (k + (3 * D.f8.length : Nat)) := ⟨_, rfl⟩
  have HK1 := hid hk1
  have hq1 : k1 = k + (3 * D.f8.length : Nat) := by omega
  have HQ1 := hid hq1
  have hb1 : 0 ≤ k1 ∧ k1 ≤ 200000000 := by omega
  obtain ⟨k2, hk2⟩ : ∃ k2 : Int, k2 = (k + (3 * D.f8.length + 3 * D.f9.length : Nat)) := ⟨_, rfl⟩
  have HK2 := hid hk2
  have hq2 : k2 = k1 + (3 * D.f9.length : Nat) := by omega
  have HQ2 := hid hq2
  have hb2 : 0 ≤ k2 ∧ k2 ≤ 200000000 := by omega
  have hk3 : m = (k + (3 * D.f8.length + 3 * D.f9.length + 3 * D.f10.length : Nat)) := hm
  have HK3 := hid hk3
  have hq3 : m = k2 + (3 * D.f10.length : Nat) := by omega
  have HQ3 := hid hq3
  have hb3 : 0 ≤ m ∧ m ≤ 200000000 := by omega
  clear ha hm hn hk1 hk2 hk3 hq1 hq2 hq3
  have PB := hid (boxL_new w [.int .i64 D.f0, .int .i64 D.f1, .int .i64 D.f2, .int .i64 D.f3, .int .i64 D.f4, .int .i64 D.f5, .int .i64 D.f6, .int .i64 D.f7, v8, v9, v10] 50)
  obtain ⟨W, hW⟩ : ∃ W, W = w.alloc (.cells #[.int .i64 D.f0, .int .i64 D.f1, .int .i64 D.f2, .int .i64 D.f3, .int .i64 D.f4, .int .i64 D.f5, .int .i64 D.f6, .int .i64 D.f7, v8, v9, v10] 50) := ⟨_, rfl⟩
  have bW : Below w.heap.size w W := by rw [hW]; exact (Below.refl _ _).alloc (Nat.le_refl _) _
  have BW := hid bW
  have H8 := hid (h8.below bW)
  have H9 := hid (h9.below bW)
  have H10 := hid (h10.below bW)
  have ON : Hid (OnlyP S W W) := OnlyP.refl _ _
  rw [← hW] at PB
  have HW := hid hW
  clear bW hW h8 h9 h10
  go_enter Try.func28, Try.ntmps28
  have p := (PB.out.cell 8 (by simp)).1
  change World.cell? _ _ = some v8 at p
  rw [HW.out] at p
  go_wp2_with fail
  rw [← HW.out]
  refine (markHelloS_any c8.1 c8.2 _ D.f8 k k1 _ H8.out (by omega) (by omega) (by omega) HQ1.out).mono ?_
  rintro e w1 ⟨rfl, o, b, on⟩
  have op := OnlyP.of b on
  replace H8 := hid o
  replace H9 := hid (H9.out.onlyP op (fun g g1 g2 h => by omega))
  replace H10 := hid (H10.out.onlyP op (fun g g1 g2 h => by omega))
  have oq : OnlyP S _ w1 := op.mono (fun g h => n8.2 g h.1 h.2)
  replace PB := hid (PB.out.of_block (oq.2.1 w.heap.size (fun h => Nat.lt_irrefl _ (hS _ h).2)))
  replace ON := hid (ON.out.trans oq)
  clear o op oq b on p
  have p := (PB.out.cell 9 (by simp)).1
  change World.cell? _ _ = some v9 at p
  go_wp2_with fail
  refine (markHelloS_any c9.1 c9.2 _ D.f9 k1 k2 _ H9.out (by omega) (by omega) (by omega) HQ2.out).mono ?_
  rintro e w2 ⟨rfl, o, b, on⟩
  have op := OnlyP.of b on
  replace H8 := hid (H8.out.onlyP op (fun g g1 g2 h => by omega))
  replace H9 := hid o
  replace H10 := hid (H10.out.onlyP op (fun g g1 g2 h => by omega))
  have oq : OnlyP S _ w2 := op.mono (fun g h => n9.2 g h.1 h.2)
  replace PB := hid (PB.out.of_block (oq.2.1 w.heap.size (fun h => Nat.lt_irrefl _ (hS _ h).2)))
  replace ON := hid (ON.out.trans oq)
  clear o op oq b on p
  have p := (PB.out.cell 10 (by simp)).1
  change World.cell? _ _ = some v10 at p
  go_wp2_with fail
  refine (markHelloS_any c10.1 c10.2 _ D.f10 k2 m _ H10.out (by omega) (by omega) (by omega) HQ3.out).mono ?_
  rintro e w3 ⟨rfl, o, b, on⟩
  have op := OnlyP.of b on
  replace H8 := hid (H8.out.onlyP op (fun g g1 g2 h => by omega))
  replace H9 := hid (H9.out.onlyP op (fun g g1 g2 h => by omega))
  replace H10 := hid o
  have oq : OnlyP S _ w3 := op.mono (fun g h => n10.2 g h.1 h.2)
  replace PB := hid (PB.out.of_block (oq.2.1 w.heap.size (fun h => Nat.lt_irrefl _ (hS _ h).2)))
  replace ON := hid (ON.out.trans oq)
  clear o op oq b on p
  go_wp2
  go_ret
  have bL : Below lo w w3 := (BW.out.mono hlo).trans (ON.out.below fun j h => (hS j h).1)
  exact ⟨rfl, ⟨v8, v9, v10, c8, c9, c10, rfl, HA.out, H8.out, by have h := H9.out; rw [HK1.out] at h; exact h, by have h := H10.out; rw [HK2.out] at h; exact h⟩, bL, fun j hj ho => (ON.out.2.1 j ho).trans (BW.out.block j hj)⟩
end Go.Proofs.Ytbpbhbflfhfcfaa
