/-
  spec.GoodSender: whether a sender is as said. Nothing old is written.
-/
import Derived.Test.YthmkeinhjlmgmahSIn
import Derived.Test.YthmkeinhjlmgmahKSpanConv
import Derived.Test.YthmkeinhjlmgmahHasMath
namespace Go.Proofs.Ythmkeinhjlmgmah
open Go.RowKit

set_option maxRecDepth 100000 in
set_option maxHeartbeats 8000000 in
theorem sgoodSd_eq (v : Value) (D : SdD) (t : Bool) (h : goodSd D = t) (w : World) (hr : SdReads w v D) :
    Calls Try.prog 20 #[v] w fun e w' => e = .returned (.bool t) ∧ Below w.heap.size w w' := by
  obtain ⟨v1, v2, rfl, r1, r2⟩ := hr
  have R1 := hid r1
  have R2 := hid r2
  obtain ⟨a2, p2, rfl, l2, _⟩ := r2
  unfold goodSd at h
  obtain ⟨z, hz⟩ : ∃ z, z = D.f0 := ⟨_, rfl⟩
  rw [← hz] at h ⊢
  have PB := hid (boxL_new w [.int .i64 z, v1, .slice a2 D.f2.length p2] 34)
  have BW : Hid (Below w.heap.size w (w.alloc (.cells #[.int .i64 z, v1, .slice a2 D.f2.length p2] 34))) := (Below.refl _ _).alloc (Nat.le_refl _) _
  obtain ⟨b1, e1⟩ : ∃ b, decide (0 ≤ z ∧ z ≤ 60) = b := ⟨_, rfl⟩
  obtain ⟨b2, e2⟩ : ∃ b, belB D.f1 z = b := ⟨_, rfl⟩
  obtain ⟨b3, e3⟩ : ∃ b, risB D.f2 z = b := ⟨_, rfl⟩
  rw [e1, e2, e3] at h
  have HT := hid h
  have E1 := hid e1
  have E2 := hid e2
  have E3 := hid e3
  clear h e1 e2 e3 hz r1
  obtain ⟨q0, q1, q2⟩ := PB.out.three
  go_enter Try.func20, Try.ntmps20
  go_wp2_with fail
  refine (l1In_eq z 0 60 b1 E1.out _).mono ?_
  rintro e w' ⟨rfl, hw⟩; obtain rfl := hw.symm
  cases b1
  · have HV : Hid (t = false) := HT.out.symm
    go_wp2
    go_ret
    exact ⟨by rw [HV.out]; rfl, BW.out⟩
  have hz60 : 0 ≤ z ∧ z ≤ 60 := by have := E1.out; rwa [decide_eq_true_eq] at this
  go_wp2_with fail
  refine (sbel_eq _ D.f1 z b2 E2.out _ (R1.out.below BW.out)).mono ?_
  rintro e w1 ⟨rfl, bb⟩
  replace BW := hid (BW.out.trans (bb.mono BW.out.size))
  replace PB := hid (PB.out.below bb PB.out.lt)
  clear q0 q1 q2 bb
  obtain ⟨q0, q1, q2⟩ := PB.out.three
  cases b2
  · have HV : Hid (t = false) := HT.out.symm
    go_wp2
    go_ret
    exact ⟨by rw [HV.out]; rfl, BW.out⟩
  go_wp2_with fail
  refine (sris_eq _ D.f2 z b3 E3.out hz60 _ (R2.out.below BW.out)).mono ?_
  rintro e w' ⟨rfl, hw⟩; obtain rfl := hw.symm
  cases b3
  · have HV : Hid (t = false) := HT.out.symm
    go_wp2
    go_ret
    exact ⟨by rw [HV.out]; rfl, BW.out⟩
  have HT2 : Hid (noneU D.f1 D.f2 D.f2.length = t) := HT.out
  clear HT
  go_wp2
  clear q0 q1 q2
  go_loopw [28] (fun i wr => ∃ k : Nat, k ≤ D.f2.length ∧ i = .int .i64 k ∧ noneU D.f1 D.f2 k = true ∧ Below w1.heap.size w1 wr) (fun i _ => D.f2.length - (intOf i).toNat)
  case atStart => exact ⟨0, Nat.zero_le _, rfl, rfl, Below.refl _ _⟩
  case round =>
    obtain ⟨k, hk, rfl, hu, hb⟩ := hrel
    have HU := hid hu
    have HB := hid hb
    have HBW := hid (BW.out.trans (hb.mono BW.out.size))
    clear hu hb
    obtain ⟨q0, q1, q2⟩ := (PB.out.below HB.out PB.out.lt).three
    by_cases hlt : k < D.f2.length
    · obtain ⟨g, o, cap', e, hc⟩ := (R2.out.below HBW.out).cells k hlt
      cases e
      obtain ⟨x, hx⟩ : ∃ x, x = fl D.f2 k := ⟨_, rfl⟩
      have cx : wr.cell? ⟨g, o + k, none⟩ = some (.int .i64 x) := by rw [hx]; exact hc k hlt
      obtain ⟨b4, hb4⟩ : ∃ b, hasL D.f1 x = b := ⟨_, rfl⟩
      have HS : Hid (noneU D.f1 D.f2 (k + 1) = !b4) := by
        show (noneU D.f1 D.f2 k && _) = _
        rw [HU.out, ← hx, hb4]; rfl
      have HF : Hid (noneU D.f1 D.f2 (k + 1) = false → t = false) := fun h => by rw [← HT2.out]; exact noneU_no h _ (by omega)
      have m0 : (0 : Int) ≤ (k : Int) := by omega
      have n1 : (k : Int) < (D.f2.length : Int) := by omega
      have HB4 := hid hb4
      clear hx hc hb4
      go_wp2_with fail
      refine (shas_any _ D.f1 x _ (R1.out.below HBW.out).s).mono ?_
      rintro e w2 ⟨rfl, b5⟩
      rw [HB4.out]
      have HB5 := hid (HB.out.trans (b5.mono HB.out.size))
      have HBW5 := hid (HBW.out.trans (b5.mono HBW.out.size))
      clear b5 q0 q1 q2
      cases b4
      · go_wp2
        go_roundw
        case rel => exact ⟨k + 1, by omega, by go_num, HS.out, HB5.out⟩
        case measure => simp [intOf]; omega
      · have HV : Hid (t = false) := HF.out HS.out
        go_wp2
        go_ret
        exact ⟨by rw [HV.out]; rfl, HBW5.out⟩
    · have HV : Hid (t = true) := by show _ = _; rw [← HT2.out]; have h := HU.out; rw [show k = D.f2.length by omega] at h; exact h
      clear q0 q1 q2
      go_wp2
      go_ret
      exact ⟨by rw [HV.out]; rfl, HBW.out⟩
end Go.Proofs.Ythmkeinhjlmgmah
