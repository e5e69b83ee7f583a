/-
  impl's (Block).isDone and IsDone: whether a block has all. Nothing old is written.
  The law FnExactIsDone answers true at any block.
-/
import Derived.Test.YtnkpboobfkjibakIGoodBl
import Derived.Test.YtnkpboobfkjibakIsDoneLaw
import Derived.Test.YtnkpboobfkjibakSDoneBl
namespace Go.Proofs.Ytnkpboobfkjibak
open Go.RowKit

set_option maxRecDepth 100000 in
set_option maxHeartbeats 4000000 in
theorem idoneBl_eq (v : Value) (D : BlD) (t : Bool) (h : doneBl D = t) (w : World) (hr : BlReads w v D) (hb : belB D.f3 D.f1 = true) (hl : 1 ≤ D.f1 ∧ D.f1 ≤ 40) :
    Calls Try.prog 64 #[v] w fun e w' => e = .returned (.bool t) ∧ Below w.heap.size w w' := by
  obtain ⟨v3, rfl, r3⟩ := hr
  have R3 := hid r3
  have HCH := hid (bel_chain hb)
  have HM : Hid ((((missL D.f3 D.f1).length : Int) == 0) = t) := by
    show _ = _
    unfold doneBl at h
    rw [done_miss hb (by omega) (by omega)] at h
    rw [← h, Bool.eq_iff_iff, beq_iff_eq, decide_eq_true_eq]
    omega
  obtain ⟨l, hl0⟩ : ∃ l, l = D.f1 := ⟨_, rfl⟩
  rw [← hl0] at HM hl ⊢
  have PB := hid (boxL_new w [.int .i64 D.f0, .int .i64 l, .string D.f2, v3] 37)
  have BW : Hid (Below w.heap.size w (w.alloc (.cells #[.int .i64 D.f0, .int .i64 l, .string D.f2, v3] 37))) := (Below.refl _ _).alloc (Nat.le_refl _) _
  clear h hb r3 hl0
  obtain ⟨q0, q1, q2, q3⟩ := PB.out.four
  go_enter Try.func64, Try.ntmps64
  go_wp2_with fail
  refine (missing_any _ D.f3 l _ (R3.out.below BW.out).s HCH.out (by omega) (by omega)).mono ?_
  rintro e w4 ⟨vm, rfl, om, bb⟩
  replace BW := hid (BW.out.trans (bb.mono BW.out.size))
  obtain ⟨am, cm, rfl, _, _⟩ := om.reads
  clear q0 q1 q2 q3 bb om
  have hm := HM.out
  go_wp2
  go_ret
  exact ⟨rfl, BW.out⟩

set_option maxRecDepth 100000 in
set_option maxHeartbeats 4000000 in
theorem iisdone_eq (v : Value) (D : BlD) (t b : Bool) (ht : goodBl D = t) (hb : (goodBl D && doneBl D) = b) (w : World) (hr : BlReads w v D) :
    Calls Try.prog 33 #[v] w fun e w' => e = .returned (.tuple #[.bool b, .bool t]) ∧ Below w.heap.size w w' := by
  have HR := hid hr
  obtain ⟨v3, rfl, r3⟩ := hr
  have PB := hid (boxL_new w [.int .i64 D.f0, .int .i64 D.f1, .string D.f2, v3] 37)
  have BW : Hid (Below w.heap.size w (w.alloc (.cells #[.int .i64 D.f0, .int .i64 D.f1, .string D.f2, v3] 37))) := (Below.refl _ _).alloc (Nat.le_refl _) _
  have Ht := hid ht
  have Hb := hid hb
  clear ht hb r3
  obtain ⟨q0, q1, q2, q3⟩ := PB.out.four
  go_enter Try.func33, Try.ntmps33
  go_wp2_with fail
  refine (igoodBl_eq _ D t Ht.out _ (HR.out.below BW.out)).mono ?_
  rintro e w1 ⟨rfl, bb⟩
  replace BW := hid (BW.out.trans (bb.mono BW.out.size))
  replace PB := hid (PB.out.below bb PB.out.lt)
  clear q0 q1 q2 q3 bb
  obtain ⟨q0, q1, q2, q3⟩ := PB.out.four
  cases t
  · have HV : Hid (b = false) := by show _ = _; rw [← Hb.out, Ht.out]; rfl
    go_wp2
    go_ret2
    exact ⟨by rw [HV.out]; rfl, BW.out⟩
  have hg := Ht.out
  unfold goodBl idB at hg
  simp only [Bool.and_eq_true, decide_eq_true_eq] at hg
  have HE := hid hg.2.2.1
  have hl := hg.1.2
  have HD : Hid (doneBl D = b) := by show _ = _; rw [← Hb.out, Ht.out]; rfl
  have HL := hid hl
  clear hg hl
  go_wp2_with fail
  refine (idoneBl_eq _ D b HD.out _ (HR.out.below BW.out) HE.out HL.out).mono ?_
  rintro e w2 ⟨rfl, bb⟩
  replace BW := hid (BW.out.trans (bb.mono BW.out.size))
  clear q0 q1 q2 q3 bb
  go_wp2
  go_ret2
  exact ⟨rfl, BW.out⟩
end Go.Proofs.Ytnkpboobfkjibak
namespace Go.Proofs.Ytnkpboobfkjibak
open Go.RowKit

theorem FnExactIsDone_walk (v0 : Value) (D0 : BlD) (w : World) (h0 : BlArg w v0 D0) :
    Calls Try.prog 8 #[v0] w fun e w' => e = .returned (.bool true) ∧ Below w.heap.size w w' :=
  FnExactIsDone_law v0 D0 w h0 (goodBl D0 && doneBl D0) (goodBl D0) (fun v w r => sisdone_eq v D0 _ _ rfl rfl w r) (fun v w r => iisdone_eq v D0 _ _ rfl rfl w r)
end Go.Proofs.Ytnkpboobfkjibak
