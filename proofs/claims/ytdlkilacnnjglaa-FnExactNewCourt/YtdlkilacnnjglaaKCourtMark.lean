/-
  laws.markCourt, laws.heldCourt: all numbers in its rows are numbered, and told to be so. Nothing else is written.
-/
import Derived.Test.YtdlkilacnnjglaaKCourtRows
import Derived.Test.YtdlkilacnnjglaaKCaseHeld
import Derived.Test.YtdlkilacnnjglaaKCaseMark
import Derived.Test.YtdlkilacnnjglaaKSlipHeld
import Derived.Test.YtdlkilacnnjglaaKSlipMark
namespace Go.Proofs.Ytdlkilacnnjglaa
open Go.RowKit

def coMk (k : Int) (D : CoD) : CoD := ⟨D.f0, camarks k D.f1.length, slmarks (k + (4 * D.f1.length : Nat)) D.f2.length⟩
set_option maxRecDepth 100000 in
set_option maxHeartbeats 8000000 in
theorem markCourt_any (S : Nat → Prop) (lo : Nat) (v : Value) (D : CoD) (k m : Int) (w : World) (ho : CoOwn S w v D) (hS : ∀ g, S g → lo ≤ g ∧ g < w.heap.size) (hlo : lo ≤ w.heap.size) (hn : coTot D ≤ 1048576) (h0 : 0 ≤ k) (h1 : k ≤ 100000000) (hm : m = k + (coN D : Nat)) :
    Calls Try.prog 15 #[v, .int .i64 k] w fun e w' => e = .returned (.int .i64 m) ∧ CoOwn S w' v (coMk k D) ∧ Below lo w w' ∧ OnlyS S w w' := by
  obtain ⟨v1, v2, c1, c2, rfl, ha, h1, h2⟩ := ho
  have n1 : c1.1 ≤ c1.2 ∧ ∀ g, c1.1 ≤ g → g < c1.2 → S g := ha.inn 0 (by omega)
  have n2 : c2.1 ≤ c2.2 ∧ ∀ g, c2.1 ≤ g → g < c2.2 → S g := ha.inn 1 (by omega)
  have d1_2 : c1.2 ≤ c2.1 ∨ c2.2 ≤ c1.1 := ha.dj 0 1 (by omega) (by omega) (by omega)
  have HA := hid ha
  have hN : D.f1.length + D.f2.length ≤ 1048576 := hn
  obtain ⟨k1, hk1⟩ : ∃ k1 : Int, k1 = (k + (4 * D.f1.length : Nat)) := ⟨_, rfl⟩
  have HK1 := hid hk1
  have hq1 : k1 = k + (4 * D.f1.length : Nat) := by omega
  have HQ1 := hid hq1
  have hb1 : 0 ≤ k1 ∧ k1 ≤ 200000000 := by omega
  have hk2 : m = (k + (4 * D.f1.length + 3 * D.f2.length : Nat)) := hm
  have HK2 := hid hk2
  have hq2 : m = k1 + (3 * D.f2.length : Nat) := by omega
  have HQ2 := hid hq2
  have hb2 : 0 ≤ m ∧ m ≤ 200000000 := by omega
  clear ha hm hn hk1 hk2 hq1 hq2
  have PB := hid (boxL_new w [.int .i64 D.f0, v1, v2] 26)
  obtain ⟨W, hW⟩ : ∃ W, W = w.alloc (.cells #[.int .i64 D.f0, v1, v2] 26) := ⟨_, rfl⟩
  have bW : Below w.heap.size w W := by rw [hW]; exact (Below.refl _ _).alloc (Nat.le_refl _) _
  have BW := hid bW
  have H1 := hid (h1.below bW)
  have H2 := hid (h2.below bW)
  have ON : Hid (OnlyP S W W) := OnlyP.refl _ _
  rw [← hW] at PB
  have HW := hid hW
  clear bW hW h1 h2
  go_enter Try.func15, Try.ntmps15
  have p := (PB.out.cell 1 (by simp)).1
  change World.cell? _ _ = some v1 at p
  rw [HW.out] at p
  go_wp2_with fail
  rw [← HW.out]
  refine (markCaseS_any c1.1 c1.2 _ D.f1 k k1 _ H1.out (by omega) (by omega) (by omega) HQ1.out).mono ?_
  rintro e w1 ⟨rfl, o, b, on⟩
  have op := OnlyP.of b on
  replace H1 := hid o
  replace H2 := hid (H2.out.onlyP op (fun g g1 g2 h => by omega))
  have oq : OnlyP S _ w1 := op.mono (fun g h => n1.2 g h.1 h.2)
  replace PB := hid (PB.out.of_block (oq.2.1 w.heap.size (fun h => Nat.lt_irrefl _ (hS _ h).2)))
  replace ON := hid (ON.out.trans oq)
  clear o op oq b on p
  have p := (PB.out.cell 2 (by simp)).1
  change World.cell? _ _ = some v2 at p
  go_wp2_with fail
  refine (markSlipS_any c2.1 c2.2 _ D.f2 k1 m _ H2.out (by omega) (by omega) (by omega) HQ2.out).mono ?_
  rintro e w2 ⟨rfl, o, b, on⟩
  have op := OnlyP.of b on
  replace H1 := hid (H1.out.onlyP op (fun g g1 g2 h => by omega))
  replace H2 := hid o
  have oq : OnlyP S _ w2 := op.mono (fun g h => n2.2 g h.1 h.2)
  replace PB := hid (PB.out.of_block (oq.2.1 w.heap.size (fun h => Nat.lt_irrefl _ (hS _ h).2)))
  replace ON := hid (ON.out.trans oq)
  clear o op oq b on p
  go_wp2
  go_ret
  have bL : Below lo w w2 := (BW.out.mono hlo).trans (ON.out.below fun j h => (hS j h).1)
  exact ⟨rfl, ⟨v1, v2, c1, c2, rfl, HA.out, H1.out, by have h := H2.out; rw [HK1.out] at h; exact h⟩, bL, fun j hj ho => (ON.out.2.1 j ho).trans (BW.out.block j hj)⟩
end Go.Proofs.Ytdlkilacnnjglaa
