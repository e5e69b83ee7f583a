/-
  impl.GoodBlock: whether a block is good. Nothing old is written.
-/
import Derived.Test.YtnkpboobfkjibalBlMath
import Derived.Test.YtnkpboobfkjibalKSpanConv
import Derived.Test.YtnkpboobfkjibalMissing
import Derived.Test.YtnkpboobfkjibalZeroTxt
namespace Go.Proofs.Ytnkpboobfkjibal
open Go.RowKit

set_option maxHeartbeats 4000000 in
theorem ilabelGood_eq (z l : Int) (t : Bool) (h : idB z l = t) (w : World) :
    Calls Try.prog 33 #[.agg #[.int .i64 z, .int .i64 l]] w fun e w' => e = .returned (.bool t) ∧ Below w.heap.size w w' := by
  have hA : t = (decide (z ≥ 0) && (decide (z ≤ 1000) && (decide (l ≥ 1) && decide (l ≤ 40)))) := by
    rw [← h]
    unfold idB
    rw [Bool.eq_iff_iff]
    simp only [Bool.and_eq_true, decide_eq_true_eq]
    omega
  have HA := hid hA
  have BW : Hid (Below w.heap.size w (w.alloc (.cells #[.int .i64 z, .int .i64 l] 61))) := (Below.refl _ _).alloc (Nat.le_refl _) _
  clear h hA
  obtain ⟨b1, e1⟩ : ∃ b, decide (z ≥ 0) = b := ⟨_, rfl⟩
  obtain ⟨b2, e2⟩ : ∃ b, decide (z ≤ 1000) = b := ⟨_, rfl⟩
  obtain ⟨b3, e3⟩ : ∃ b, decide (l ≥ 1) = b := ⟨_, rfl⟩
  obtain ⟨b4, e4⟩ : ∃ b, decide (l ≤ 40) = b := ⟨_, rfl⟩
  rw [e1, e2, e3, e4] at HA
  have PB := hid (boxL_new w [.int .i64 z, .int .i64 l] 61)
  obtain ⟨q0, q1⟩ := PB.out.two
  cases b1 <;> cases b2 <;> cases b3 <;> cases b4
  all_goals (have HV := HA.out; clear HA; simp only [Bool.and_true, Bool.and_false, Bool.and_self] at HV; have HV2 := hid HV; clear HV)
  all_goals go_enter Try.func33, Try.ntmps33
  all_goals go_wp2
  all_goals go_ret
  all_goals exact ⟨by rw [HV2.out]; rfl, BW.out⟩
theorem ilabel_eq (z l : Int) (s : ByteArray) (v3 : Value) (w : World) :
    Calls Try.prog 32 #[.agg #[.int .i64 z, .int .i64 l, .string s, v3]] w fun e w' => e = .returned (.agg #[.int .i64 z, .int .i64 l]) ∧ Below w.heap.size w w' := by
  go_enter Try.func32, Try.ntmps32
  go_wp2
  go_returns
  refine ⟨rfl, ?_⟩
  go_grown
set_option maxRecDepth 100000 in
set_option maxHeartbeats 8000000 in
theorem igoodBl_eq (v : Value) (D : BlD) (t : Bool) (h : goodBl D = t) (w : World) (hr : BlReads w v D) :
    Calls Try.prog 19 #[v] w fun e w' => e = .returned (.bool t) ∧ Below w.heap.size w w' := by
  obtain ⟨v3, rfl, r3⟩ := hr
  have R3 := hid r3
  unfold goodBl at h
  obtain ⟨z, hz⟩ : ∃ z, z = D.f0 := ⟨_, rfl⟩
  obtain ⟨l, hl⟩ : ∃ l, l = D.f1 := ⟨_, rfl⟩
  obtain ⟨s, hs⟩ : ∃ s, s = D.f2 := ⟨_, rfl⟩
  rw [← hz, ← hl, ← hs] at h ⊢
  have PB := hid (boxL_new w [.int .i64 z, .int .i64 l, .string s, v3] 38)
  have BW : Hid (Below w.heap.size w (w.alloc (.cells #[.int .i64 z, .int .i64 l, .string s, v3] 38))) := (Below.refl _ _).alloc (Nat.le_refl _) _
  obtain ⟨b1, e1⟩ : ∃ b, idB z l = b := ⟨_, rfl⟩
  obtain ⟨b2, e2⟩ : ∃ b, decide ((s.size : Int) = l) = b := ⟨_, rfl⟩
  obtain ⟨b3, e3⟩ : ∃ b, belB D.f3 l = b := ⟨_, rfl⟩
  rw [e1, e2, e3] at h
  have HT := hid h
  have E1 := hid e1
  have E2 := hid e2
  have E3 := hid e3
  clear h e1 e2 e3 hz hl hs r3
  obtain ⟨q0, q1, q2, q3⟩ := PB.out.four
  go_enter Try.func19, Try.ntmps19
  go_wp2_with fail
  refine (ilabel_eq z l s v3 _).mono ?_
  rintro e w1 ⟨rfl, bb⟩
  replace BW := hid (BW.out.trans (bb.mono BW.out.size))
  replace PB := hid (PB.out.below bb PB.out.lt)
  clear q0 q1 q2 q3 bb
  go_wp2_with fail
  refine (ilabelGood_eq z l b1 E1.out _).mono ?_
  rintro e w2 ⟨rfl, bb⟩
  replace BW := hid (BW.out.trans (bb.mono BW.out.size))
  replace PB := hid (PB.out.below bb PB.out.lt)
  clear bb
  obtain ⟨q0, q1, q2, q3⟩ := PB.out.four
  cases b1
  · have HV : Hid (t = false) := HT.out.symm
    go_wp2
    go_ret
    exact ⟨by rw [HV.out]; rfl, BW.out⟩
  have hl40 : 1 ≤ l ∧ l ≤ 40 := by have h := E1.out; unfold idB at h; rw [Bool.and_eq_true, decide_eq_true_eq, decide_eq_true_eq] at h; exact h.2
  cases b2
  · have HV : Hid (t = false) := HT.out.symm
    have hd : ((s.size : Int) != l) = true := by have := E2.out; rw [decide_eq_false_iff_not] at this; simpa using this
    go_wp2
    go_ret
    exact ⟨by rw [HV.out]; rfl, BW.out⟩
  have hsl : (s.size : Int) = l := by have := E2.out; rwa [decide_eq_true_eq] at this
  have hd : ((s.size : Int) != l) = false := by simpa using hsl
  have HSL := hid hsl
  clear hsl
  go_wp2_with fail
  refine (ibel_eq _ D.f3 l b3 E3.out (by omega) _ (R3.out.below BW.out)).mono ?_
  rintro e w3 ⟨rfl, bb⟩
  replace BW := hid (BW.out.trans (bb.mono BW.out.size))
  replace PB := hid (PB.out.below bb PB.out.lt)
  clear q0 q1 q2 q3 bb hd
  obtain ⟨q0, q1, q2, q3⟩ := PB.out.four
  cases b3
  · have HV : Hid (t = false) := HT.out.symm
    go_wp2
    go_ret
    exact ⟨by rw [HV.out]; rfl, BW.out⟩
  obtain ⟨u, hu⟩ : ∃ u : Nat, l = (u : Nat) := ⟨l.toNat, by omega⟩
  have HCH := hid (bel_chain E3.out)
  have HT2 : Hid (gapsU s (missL D.f3 l) (missL D.f3 l).length = t) := by
    show _ = _
    rw [hu, gaps_blank (u := u) (by have := HSL.out; omega) HCH.out (by omega), ← HT.out, hu]
    rfl
  have HMI : Hid (∀ k, k < (missL D.f3 l).length → 0 ≤ ((missL D.f3 l).getD k (0, 0)).1 ∧ ((missL D.f3 l).getD k (0, 0)).1 < ((missL D.f3 l).getD k (0, 0)).2 ∧ ((missL D.f3 l).getD k (0, 0)).2 ≤ l) := fun k hk => miss_in HCH.out (by omega) k hk
  clear HT hu u
  go_wp2_with fail
  refine (missing_any _ D.f3 l _ (R3.out.below BW.out).s HCH.out (by omega) (by omega)).mono ?_
  rintro e w4 ⟨vm, rfl, om, bb⟩
  have OM := hid om.reads
  replace BW := hid (BW.out.trans (bb.mono BW.out.size))
  replace PB := hid (PB.out.below bb PB.out.lt)
  clear q0 q1 q2 q3 bb om
  generalize missL D.f3 l = gs at *
  obtain ⟨am, cm, rfl, hgl, _⟩ := id OM.out
  obtain ⟨q0, q1, q2, q3⟩ := PB.out.four
  go_wp2
  clear q0 q1 q2 q3
  go_loopw [31] (fun i wr => ∃ k : Nat, k ≤ gs.length ∧ i = .int .i64 k ∧ gapsU s gs k = true ∧ Below w4.heap.size w4 wr) (fun i _ => gs.length - (intOf i).toNat)
  case atStart => exact ⟨0, by omega, rfl, rfl, Below.refl _ _⟩
  case round =>
    obtain ⟨k, hk, rfl, hu, hb⟩ := hrel
    have HU := hid hu
    have HB := hid hb
    have HBW := hid (BW.out.trans (hb.mono BW.out.size))
    have hws := hb.size
    clear hu hb
    have hlw : w.heap.size < wr.heap.size := (PB.out.below HB.out PB.out.lt).lt
    obtain ⟨q0, q1, q2, q3⟩ := (PB.out.below HB.out PB.out.lt).four
    by_cases hlt : k < gs.length
    · obtain ⟨g, o, cap', e, hc⟩ := sreads_cells (OM.out.below HB.out) k hlt
      cases e
      have hm := HMI.out k hlt
      have c1 := (hc k hlt).1
      have c2 := (hc k hlt).2
      have HS : Hid (gapsU s gs (k + 1) = zeroB (s.extract (gs.getD k (0, 0)).1.toNat (gs.getD k (0, 0)).2.toNat)) := by
        show (gapsU s gs k && _) = _
        rw [HU.out]; rfl
      have HF : Hid (gapsU s gs (k + 1) = false → t = false) := fun h => by rw [← HT2.out]; exact gapsU_no h _ (by omega)
      clear hc
      generalize (gs.getD k (0, 0)).1 = p at c1 HS hm
      generalize (gs.getD k (0, 0)).2 = q at c2 HS hm
      obtain ⟨p, rfl⟩ := Int.eq_ofNat_of_zero_le hm.1
      obtain ⟨q, rfl⟩ := Int.eq_ofNat_of_zero_le (show 0 ≤ q by omega)
      have hqs : q ≤ s.size := by have := HSL.out; omega
      have hpq : p ≤ q := by omega
      obtain ⟨b4, hb4⟩ : ∃ b, zeroB (s.extract p q) = b := ⟨_, rfl⟩
      have HH : Hid (gapsU s gs (k + 1) = b4) := by show _ = _; rw [HS.out, ← hb4]; rfl
      have HB4 := hid hb4
      clear HS hb4
      go_wp2_with fail
      refine (izero_any _ b4 HB4.out _).mono ?_
      rintro e w5 ⟨rfl, b6⟩
      have hsz : wr.heap.size ≤ w5.heap.size := by have := b6.size; simp at this; omega
      have HB6 : Hid (Below w4.heap.size w4 w5) := (HB.out.alloc hws _).trans (b6.mono (by simp; omega))
      have HBW6 := hid (BW.out.trans (HB6.out.mono BW.out.size))
      clear b6 q0 q1 q2 q3 c1 c2
      cases b4
      · have HV : Hid (t = false) := HF.out HH.out
        go_wp2
        go_ret
        exact ⟨by rw [HV.out]; rfl, HBW6.out⟩
      · go_wp2
        go_roundw
        case rel => exact ⟨k + 1, by omega, by go_num, HH.out, HB6.out⟩
        case measure => simp [intOf]; omega
    · have HV : Hid (t = true) := by show _ = _; rw [← HT2.out]; have h := HU.out; rw [show k = gs.length by omega] at h; exact h
      clear q0 q1 q2 q3
      go_wp2
      go_ret
      exact ⟨by rw [HV.out]; rfl, HBW.out⟩
end Go.Proofs.Ytnkpboobfkjibal
