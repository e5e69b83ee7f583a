/-
  laws.markShares, laws.heldShares: all numbers in its rows are numbered, and told to be so. Nothing else is written.
-/
import Derived.Test.YtepnhbicmlfnhagKSharesRows
import Derived.Test.YtepnhbicmlfnhagKIntMark
namespace Go.Proofs.Ytepnhbicmlfnhag
open Go.RowKit

def shMk (k : Int) (D : ShD) : ShD := ⟨kmarks k D.f0.length, D.f1⟩
set_option maxRecDepth 100000 in
set_option maxHeartbeats 8000000 in
theorem markShares_any (S : Nat → Prop) (lo : Nat) (v : Value) (D : ShD) (k m : Int) (w : World) (ho : ShOwn S w v D) (hS : ∀ g, S g → lo ≤ g ∧ g < w.heap.size) (hlo : lo ≤ w.heap.size) (hn : shN D ≤ 1048576) (h0 : 0 ≤ k) (h1 : k ≤ 100000000) (hm : m = k + (shN D : Nat)) :
    Calls Try.prog 14 #[v, .int .i64 k] w fun e w' => e = .returned (.int .i64 m) ∧ ShOwn S w' v (shMk k D) ∧ Below lo w w' ∧ OnlyS S w w' := by
  obtain ⟨v0, c0, rfl, ha, h0⟩ := ho
  have n0 : c0.1 ≤ c0.2 ∧ ∀ g, c0.1 ≤ g → g < c0.2 → S g := ha.inn 0 (by omega)
  have HA := hid ha
  have hN : D.f0.length ≤ 1048576 := hn
  have hk1 : m = (k + (D.f0.length : Nat)) := hm
  have HK1 := hid hk1
  have hq1 : m = k + (D.f0.length : Nat) := by omega
  have HQ1 := hid hq1
  have hb1 : 0 ≤ m ∧ m ≤ 200000000 := by omega
  clear ha hm hn hk1 hq1
  have PB := hid (boxL_new w [v0, .int .i64 D.f1] 26)
  obtain ⟨W, hW⟩ : ∃ W, W = w.alloc (.cells #[v0, .int .i64 D.f1] 26) := ⟨_, rfl⟩
  have bW : Below w.heap.size w W := by rw [hW]; exact (Below.refl _ _).alloc (Nat.le_refl _) _
  have BW := hid bW
  have H0 := hid (h0.below bW)
  have ON : Hid (OnlyP S W W) := OnlyP.refl _ _
  rw [← hW] at PB
  have HW := hid hW
  clear bW hW h0
  go_enter Try.func14, Try.ntmps14
  have p := (PB.out.cell 0 (by simp)).1
  change World.cell? _ _ = some v0 at p
  rw [HW.out] at p
  go_wp2_with fail
  rw [← HW.out]
  refine (kmarkIntS_any c0.1 c0.2 _ D.f0 k m _ H0.out (by omega) (by omega) (by omega) HQ1.out).mono ?_
  rintro e w1 ⟨rfl, o, b, on⟩
  have op := OnlyP.of b on
  replace H0 := hid o
  have oq : OnlyP S _ w1 := op.mono (fun g h => n0.2 g h.1 h.2)
  replace PB := hid (PB.out.of_block (oq.2.1 w.heap.size (fun h => Nat.lt_irrefl _ (hS _ h).2)))
  replace ON := hid (ON.out.trans oq)
  clear o op oq b on p
  go_wp2
  go_ret
  have bL : Below lo w w1 := (BW.out.mono hlo).trans (ON.out.below fun j h => (hS j h).1)
  exact ⟨rfl, ⟨v0, c0, rfl, HA.out, H0.out⟩, bL, fun j hj ho => (ON.out.2.1 j ho).trans (BW.out.block j hj)⟩
set_option maxRecDepth 100000 in
set_option maxHeartbeats 8000000 in
theorem heldShares_any (v : Value) (D : ShD) (k m : Int) (w : World) (hr : ShReads w v (shMk k D)) (hn : shN D ≤ 1048576) (h0 : 0 ≤ k) (h1 : k ≤ 100000000) (hm : m = k + (shN D : Nat)) :
    Calls Try.prog 15 #[v, .int .i64 k] w fun e w' => e = .returned (.int .i64 m) ∧ Below w.heap.size w w' := by
  obtain ⟨v0, rfl, h0⟩ := hr
  have hN : D.f0.length ≤ 1048576 := hn
  have hk1 : m = (k + (D.f0.length : Nat)) := hm
  have hq1 : m = k + (D.f0.length : Nat) := by omega
  have HQ1 := hid hq1
  have hb1 : 0 ≤ m ∧ m ≤ 200000000 := by omega
  have hd1 : decide (m < 0) = false := by rw [decide_eq_false_iff_not]; omega
  have H0 : Hid (KReads w v0 (kmarks k D.f0.length)) := by show KReads w v0 (kmarks k D.f0.length); exact h0
  clear hm hn hk1 hq1 h0
  show Calls Try.prog 15 #[.agg #[v0, .int .i64 D.f1], .int .i64 k] w _
  have PB := hid (boxL_new w [v0, .int .i64 D.f1] 26)
  have BW : Hid (Below w.heap.size w (w.alloc (.cells #[v0, .int .i64 D.f1] 26))) := (Below.refl _ _).alloc (Nat.le_refl _) _
  have p0 := (PB.out.cell 0 (by simp)).1
  change World.cell? _ _ = some v0 at p0
  go_enter Try.func15, Try.ntmps15
  go_wp2_with fail
  refine (kheldIntS_any _ D.f0.length k m _ (H0.out.below BW.out) (by omega) (by omega) (by omega) HQ1.out).mono ?_
  rintro e w' ⟨rfl, hw⟩; obtain rfl := hw.symm
  go_wp2
  go_ret
  exact ⟨rfl, BW.out⟩
end Go.Proofs.Ytepnhbicmlfnhag
