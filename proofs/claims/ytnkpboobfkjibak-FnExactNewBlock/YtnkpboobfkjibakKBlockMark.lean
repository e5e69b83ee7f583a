/-
  laws.markBlock, laws.heldBlock: all numbers in its rows are numbered, and told to be so. Nothing else is written.
-/
import Derived.Test.YtnkpboobfkjibakKBlockRows
import Derived.Test.YtnkpboobfkjibakKSpanMark
namespace Go.Proofs.Ytnkpboobfkjibak
open Go.RowKit

def blMk (k : Int) (D : BlD) : BlD := ⟨D.f0, D.f1, D.f2, spmarks k D.f3.length⟩
set_option maxRecDepth 100000 in
set_option maxHeartbeats 8000000 in
theorem markBlock_any (S : Nat → Prop) (lo : Nat) (v : Value) (D : BlD) (k m : Int) (w : World) (ho : BlOwn S w v D) (hS : ∀ g, S g → lo ≤ g ∧ g < w.heap.size) (hlo : lo ≤ w.heap.size) (hn : blTot D ≤ 1048576) (h0 : 0 ≤ k) (h1 : k ≤ 100000000) (hm : m = k + (blN D : Nat)) :
    Calls Try.prog 22 #[v, .int .i64 k] w fun e w' => e = .returned (.int .i64 m) ∧ BlOwn S w' v (blMk k D) ∧ Below lo w w' ∧ OnlyS S w w' := by
  obtain ⟨v3, c3, rfl, ha, h3⟩ := ho
  have n3 : c3.1 ≤ c3.2 ∧ ∀ g, c3.1 ≤ g → g < c3.2 → S g := ha.inn 0 (by omega)
  have HA := hid ha
  have hN : D.f2.size + D.f3.length ≤ 1048576 := hn
  have hk1 : m = (k + (2 * D.f3.length : Nat)) := hm
  have HK1 := hid hk1
  have hq1 : m = k + (2 * D.f3.length : Nat) := by omega
  have HQ1 := hid hq1
  have hb1 : 0 ≤ m ∧ m ≤ 200000000 := by omega
  clear ha hm hn hk1 hq1
  have PB := hid (boxL_new w [.int .i64 D.f0, .int .i64 D.f1, .string D.f2, v3] 37)
  obtain ⟨W, hW⟩ : ∃ W, W = w.alloc (.cells #[.int .i64 D.f0, .int .i64 D.f1, .string D.f2, v3] 37) := ⟨_, rfl⟩
  have bW : Below w.heap.size w W := by rw [hW]; exact (Below.refl _ _).alloc (Nat.le_refl _) _
  have BW := hid bW
  have H3 := hid (h3.below bW)
  have ON : Hid (OnlyP S W W) := OnlyP.refl _ _
  rw [← hW] at PB
  have HW := hid hW
  clear bW hW h3
  go_enter Try.func22, Try.ntmps22
  have p := (PB.out.cell 3 (by simp)).1
  change World.cell? _ _ = some v3 at p
  rw [HW.out] at p
  go_wp2_with fail
  rw [← HW.out]
  refine (markSpanS_any c3.1 c3.2 _ D.f3 k m _ H3.out (by omega) (by omega) (by omega) HQ1.out).mono ?_
  rintro e w1 ⟨rfl, o, b, on⟩
  have op := OnlyP.of b on
  replace H3 := hid o
  have oq : OnlyP S _ w1 := op.mono (fun g h => n3.2 g h.1 h.2)
  replace PB := hid (PB.out.of_block (oq.2.1 w.heap.size (fun h => Nat.lt_irrefl _ (hS _ h).2)))
  replace ON := hid (ON.out.trans oq)
  clear o op oq b on p
  go_wp2
  go_ret
  have bL : Below lo w w1 := (BW.out.mono hlo).trans (ON.out.below fun j h => (hS j h).1)
  exact ⟨rfl, ⟨v3, c3, rfl, HA.out, H3.out⟩, bL, fun j hj ho => (ON.out.2.1 j ho).trans (BW.out.block j hj)⟩
end Go.Proofs.Ytnkpboobfkjibak
