/-
  impl's (Block).isDone and IsDone: whether a block has all. Nothing old is written.
-/
import Derived.Test.YtnkpboobfkjibalIGoodBl
namespace Go.Proofs.Ytnkpboobfkjibal
open Go.RowKit

set_option maxRecDepth 100000 in
set_option maxHeartbeats 4000000 in
theorem idoneBl_eq (v : Value) (D : BlD) (t : Bool) (h : doneBl D = t) (w : World) (hr : BlReads w v D) (hb : belB D.f3 D.f1 = true) (hl : 1 ≤ D.f1 ∧ D.f1 ≤ 40) :
    Calls Try.prog 20 #[v] w fun e w' => e = .returned (.bool t) ∧ Below w.heap.size w w' := by
  obtain ⟨v3, rfl, r3⟩ := hr
  have R3 := hid r3
  have HCH := hid (bel_chain hb)
  have HM : Hid ((((missL D.f3 D.f1).length : Int) == 0) = t) := by
    show _ = _
    unfold doneBl at h
    rw [done_miss hb (by omega) (by omega)] at h
    rw [← h, Bool.eq_iff_iff, beq_iff_eq, decide_eq_true_eq]
    omega
  obtain ⟨l, hl0⟩ : ∃ l, l = D.f1 := ⟨_, rfl⟩
  rw [← hl0] at HM hl ⊢
  have PB := hid (boxL_new w [.int .i64 D.f0, .int .i64 l, .string D.f2, v3] 38)
  have BW : Hid (Below w.heap.size w (w.alloc (.cells #[.int .i64 D.f0, .int .i64 l, .string D.f2, v3] 38))) := (Below.refl _ _).alloc (Nat.le_refl _) _
  clear h hb r3 hl0
  obtain ⟨q0, q1, q2, q3⟩ := PB.out.four
  go_enter Try.func20, Try.ntmps20
  go_wp2_with fail
  refine (missing_any _ D.f3 l _ (R3.out.below BW.out).s HCH.out (by omega) (by omega)).mono ?_
  rintro e w4 ⟨vm, rfl, om, bb⟩
  replace BW := hid (BW.out.trans (bb.mono BW.out.size))
  obtain ⟨am, cm, rfl, _, _⟩ := om.reads
  clear q0 q1 q2 q3 bb om
  have hm := HM.out
  go_wp2
  go_ret
  exact ⟨rfl, BW.out⟩
end Go.Proofs.Ytnkpboobfkjibal
