/-
  spec.l13Done, spec.IsDone: whether a block has all. Nothing old is written.
-/
import Derived.Test.YtnkpboobfkjibakSGoodBl
import Derived.Test.YtnkpboobfkjibakSpanLen
import Derived.Deep.RegionWith
namespace Go.Proofs.Ytnkpboobfkjibak
open Go.RowKit

set_option maxRecDepth 100000 in
set_option maxHeartbeats 4000000 in
theorem sdoneBl_eq (v : Value) (D : BlD) (t : Bool) (h : doneBl D = t) (w : World) (hr : BlReads w v D) (hc : chainB (-1) D.f3 = true) :
    Calls Try.prog 63 #[v] w fun e w' => e = .returned (.bool t) ∧ Below w.heap.size w w' := by
  obtain ⟨v3, rfl, r3⟩ := hr
  have R3 := hid r3
  unfold doneBl at h
  obtain ⟨l, hl⟩ : ∃ l, l = D.f1 := ⟨_, rfl⟩
  obtain ⟨n, hn⟩ : ∃ n, n = lenL D.f3 := ⟨_, rfl⟩
  rw [← hl, ← hn] at h
  rw [← hl]
  have PB := hid (boxL_new w [.int .i64 D.f0, .int .i64 l, .string D.f2, v3] 37)
  obtain ⟨W, hW⟩ : ∃ W, W = w.alloc (.cells #[.int .i64 D.f0, .int .i64 l, .string D.f2, v3] 37) := ⟨_, rfl⟩
  have BW : Hid (Below w.heap.size w W) := by rw [hW]; exact (Below.refl _ _).alloc (Nat.le_refl _) _
  have HT : Hid ((n == l) = t) := by show _ = _; rw [← h, Bool.eq_iff_iff, beq_iff_eq, decide_eq_true_eq]
  have HN := hid hn
  have HC := hid hc
  clear h hn hl r3 hc
  obtain ⟨q0, q1, q2, q3⟩ := PB.out.four
  go_enter Try.func63, Try.ntmps63
  go_wp2_with fail
  rw [← hW] at PB q0 q1 q2 q3 ⊢
  clear hW
  have bd : Below W.heap.size W W.drew := (Below.refl _ _).drew
  go_region_with (go_at_call 80; refine (slen_any _ D.f3 _ (R3.out.below (BW.out.trans (bd.mono BW.out.size))).s HC.out).mono ?_; rintro e w1 ⟨rfl, bb⟩; rw [← HN.out]; have B1 := hid (BW.out.trans ((bd.trans bb).mono BW.out.size)); obtain ⟨y0, y1, y2, y3⟩ := (PB.out.below (bd.trans bb) PB.out.lt).four; clear bb)
  all_goals rw [HT.out]
  all_goals go_wp2
  all_goals go_ret
  all_goals exact ⟨rfl, B1.out⟩

set_option maxRecDepth 100000 in
set_option maxHeartbeats 4000000 in
theorem sisdone_eq (v : Value) (D : BlD) (t b : Bool) (ht : goodBl D = t) (hb : (goodBl D && doneBl D) = b) (w : World) (hr : BlReads w v D) :
    Calls Try.prog 32 #[v] w fun e w' => e = .returned (.tuple #[.bool b, .bool t]) ∧ Below w.heap.size w w' := by
  have HR := hid hr
  obtain ⟨v3, rfl, r3⟩ := hr
  have PB := hid (boxL_new w [.int .i64 D.f0, .int .i64 D.f1, .string D.f2, v3] 37)
  have BW : Hid (Below w.heap.size w (w.alloc (.cells #[.int .i64 D.f0, .int .i64 D.f1, .string D.f2, v3] 37))) := (Below.refl _ _).alloc (Nat.le_refl _) _
  have Ht := hid ht
  have Hb := hid hb
  clear ht hb r3
  obtain ⟨q0, q1, q2, q3⟩ := PB.out.four
  go_enter Try.func32, Try.ntmps32
  go_wp2_with fail
  refine (sgoodBl_eq _ D t Ht.out _ (HR.out.below BW.out)).mono ?_
  rintro e w1 ⟨rfl, bb⟩
  replace BW := hid (BW.out.trans (bb.mono BW.out.size))
  replace PB := hid (PB.out.below bb PB.out.lt)
  clear q0 q1 q2 q3 bb
  obtain ⟨q0, q1, q2, q3⟩ := PB.out.four
  cases t
  · have HV : Hid (b = false) := by show _ = _; rw [← Hb.out, Ht.out]; rfl
    go_wp2
    go_ret2
    exact ⟨by rw [HV.out]; rfl, BW.out⟩
  have hc : chainB (-1) D.f3 = true := by have h := Ht.out; unfold goodBl at h; simp only [Bool.and_eq_true] at h; exact bel_chain h.2.2.1
  have HC := hid hc
  have HD : Hid (doneBl D = b) := by show _ = _; rw [← Hb.out, Ht.out]; rfl
  clear hc
  go_wp2_with fail
  refine (sdoneBl_eq _ D b HD.out _ (HR.out.below BW.out) HC.out).mono ?_
  rintro e w2 ⟨rfl, bb⟩
  replace BW := hid (BW.out.trans (bb.mono BW.out.size))
  clear q0 q1 q2 q3 bb
  go_wp2
  go_ret2
  exact ⟨rfl, BW.out⟩
end Go.Proofs.Ytnkpboobfkjibak
