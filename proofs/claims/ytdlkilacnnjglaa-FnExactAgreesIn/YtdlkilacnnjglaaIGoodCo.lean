/-
  impl.GoodCourt: whether a court is good. Nothing old is written.
-/
import Derived.Test.YtdlkilacnnjglaaICoCont
namespace Go.Proofs.Ytdlkilacnnjglaa
open Go.RowKit

set_option maxRecDepth 100000 in
set_option maxHeartbeats 8000000 in
theorem igoodCo_eq (v : Value) (D : CoD) (t : Bool) (h : goodC D = t) (w : World) (hr : CoReads w v D) :
    Calls Try.prog 20 #[v] w fun e w' => e = .returned (.bool t) ∧ Below w.heap.size w w' := by
  obtain ⟨v1, v2, rfl, r1, r2⟩ := hr
  obtain ⟨now, cs, ls⟩ := D
  simp only at r1 r2 ⊢
  have R1 := hid r1
  have R2 := hid r2
  obtain ⟨a1, p1, rfl, l1, _⟩ := r1
  obtain ⟨a2, p2, rfl, l2, _⟩ := r2
  unfold goodC at h
  simp only at h
  have hx : ((decide (now < 0) || decide (now > 200)) || (decide ((cs.length : Int) > 6) || decide ((ls.length : Int) > 30))) = !(decide (cs.length ≤ 6) && (decide (0 ≤ now ∧ now ≤ 200) && decide (ls.length ≤ 30))) := by
    rw [Bool.eq_iff_iff]
    simp only [Bool.or_eq_true, Bool.not_eq_true', Bool.and_eq_false_iff, decide_eq_true_eq, decide_eq_false_iff_not]
    omega
  obtain ⟨b1, e1⟩ : ∃ b, decide (now < 0) = b := ⟨_, rfl⟩
  obtain ⟨b2, e2⟩ : ∃ b, decide (now > 200) = b := ⟨_, rfl⟩
  obtain ⟨b3, e3⟩ : ∃ b, decide ((cs.length : Int) > 6) = b := ⟨_, rfl⟩
  obtain ⟨b4, e4⟩ : ∃ b, decide ((ls.length : Int) > 30) = b := ⟨_, rfl⟩
  obtain ⟨b5, e5⟩ : ∃ b, cs.all (caseB now) = b := ⟨_, rfl⟩
  obtain ⟨b6, e6⟩ : ∃ b, ls.all (slipB cs) = b := ⟨_, rfl⟩
  rw [e1, e2, e3, e4] at hx
  obtain ⟨b7, e7⟩ : ∃ b, (decide (cs.length ≤ 6) && (decide (0 ≤ now ∧ now ≤ 200) && decide (ls.length ≤ 30))) = b := ⟨_, rfl⟩
  rw [e5, e6, e7] at h
  rw [e7] at hx
  have HT := hid h
  have HX := hid hx
  have E5 := hid e5
  have E6 := hid e6
  have PB := hid (boxL_new w [.int .i64 now, .slice a1 cs.length p1, .slice a2 ls.length p2] 26)
  have BW : Hid (Below w.heap.size w (w.alloc (.cells #[.int .i64 now, .slice a1 cs.length p1, .slice a2 ls.length p2] 26))) := (Below.refl _ _).alloc (Nat.le_refl _) _
  obtain ⟨W0, hW0⟩ : ∃ W, W = w.alloc (.cells #[.int .i64 now, .slice a1 cs.length p1, .slice a2 ls.length p2] 26) := ⟨_, rfl⟩
  rw [← hW0] at PB BW
  have HW0 := hid hW0
  clear h hx hW0 e5 e6 e7
  go_enter Try.func20, Try.ntmps20
  go_upto_region 1 with fail
  rw [← HW0.out]
  clear HW0
  obtain ⟨q0, q1, q2⟩ := PB.out.three
  by_cases hb : (b1 || b2 || (b3 || b4)) = true
  · have HV : Hid (t = false) := by
      show _ = _
      have h1 := HX.out
      rw [hb] at h1
      have h7 : b7 = false := by cases b7 <;> simp at h1 ⊢
      rw [← HT.out, h7]; simp
    cases b1 <;> cases b2 <;> cases b3 <;> cases b4
    all_goals first
      | (exact absurd hb (by decide))
      | (clear hb
         go_wp2
         go_ret
         exact ⟨by rw [HV.out]; rfl, BW.out⟩)
  · have HV : Hid ((b5 && b6) = t) := by
      show _ = _
      have h1 := HX.out
      have hb' : (b1 || b2 || (b3 || b4)) = false := by cases h : (b1 || b2 || (b3 || b4)) <;> simp_all
      rw [hb'] at h1
      have h7 : b7 = true := by cases b7 <;> simp at h1 ⊢
      rw [← HT.out, h7, Bool.and_true]
    obtain ⟨rfl, rfl, rfl, rfl⟩ : b1 = false ∧ b2 = false ∧ b3 = false ∧ b4 = false := by
      cases b1 <;> cases b2 <;> cases b3 <;> cases b4 <;> simp at hb ⊢
    clear hb
    go_wp2_with fail
    refine (icontW_any now _ _ _ cs b5 E5.out _ (R1.out.below BW.out)).mono ?_
    rintro e w1 ⟨rfl, bb⟩
    replace BW := hid (BW.out.trans (bb.mono BW.out.size))
    replace PB := hid (PB.out.below bb PB.out.lt)
    clear bb q0 q1 q2
    obtain ⟨q0, q1, q2⟩ := PB.out.three
    cases b5
    · have HV2 : Hid (t = false) := HV.out.symm
      go_wp2
      go_ret
      exact ⟨by rw [HV2.out]; rfl, BW.out⟩
    go_wp2_with fail
    refine (icontS_any now _ _ cs _ ls b6 E6.out _ (R2.out.below BW.out) (R1.out.below BW.out)).mono ?_
    rintro e w2 ⟨rfl, bb⟩
    replace BW := hid (BW.out.trans (bb.mono BW.out.size))
    clear bb q0 q1 q2
    have HV2 : Hid (b6 = t) := HV.out
    go_wp2
    go_ret
    exact ⟨by rw [← HV2.out]; simp, BW.out⟩
end Go.Proofs.Ytdlkilacnnjglaa
