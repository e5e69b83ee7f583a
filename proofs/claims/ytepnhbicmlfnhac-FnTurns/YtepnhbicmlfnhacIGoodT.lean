/-
  impl.GoodTurns: whether turns are as the document says. Nothing old is written.
  impl.TotalSent: all that was sent. Nothing old is written.
-/
import Derived.Test.YtepnhbicmlfnhacTurnFns
import Derived.Test.YtepnhbicmlfnhacTurnIG
import Derived.Test.YtepnhbicmlfnhacFlowFns
namespace Go.Proofs.Ytepnhbicmlfnhac
open Go.RowKit

set_option maxRecDepth 100000 in
set_option maxHeartbeats 8000000 in
theorem igoodT_eq (v : Value) (D : TuD) (t : Bool) (h : goodTu D = t) (w : World) (hr : TuReads w v D) :
    Calls Try.prog 41 #[v] w fun e w' => e = .returned (.bool t) ∧ Below w.heap.size w w' := by
  have HT := hid h
  clear h
  obtain ⟨v0, v1, v2, v3, rfl, r0, r1, r2, r3⟩ := hr
  have HR0 := hid r0
  have HR1 := hid r1
  have HR2 := hid r2
  have HR3 := hid r3
  obtain ⟨a0, p0, rfl, _, _⟩ := r0
  obtain ⟨a1, p1, rfl, _, _⟩ := r1
  obtain ⟨a2, p2, rfl, _, _⟩ := r2
  obtain ⟨a3, p3, rfl, _, _⟩ := r3
  have PB := hid (boxL_new w [.slice a0 D.f0.length p0, .slice a1 D.f1.length p1, .slice a2 D.f2.length p2, .slice a3 D.f3.length p3, .int .i64 D.f4] 55)
  have BW : Hid (Below w.heap.size w (w.alloc (.cells #[.slice a0 D.f0.length p0, .slice a1 D.f1.length p1, .slice a2 D.f2.length p2, .slice a3 D.f3.length p3, .int .i64 D.f4] 55))) := (Below.refl _ _).alloc (Nat.le_refl _) _
  obtain ⟨q0, q1, q2, q3, q4⟩ := PB.out.five
  obtain ⟨z, hz⟩ : ∃ z, z = D.f4 := ⟨_, rfl⟩
  have HZ := hid hz
  rw [← hz] at PB BW q0 q1 q2 q3 q4 ⊢
  clear hz
  obtain ⟨W, hW⟩ : ∃ W, W = w.alloc (.cells #[.slice a0 D.f0.length p0, .slice a1 D.f1.length p1, .slice a2 D.f2.length p2, .slice a3 D.f3.length p3, .int .i64 z] 55) := ⟨_, rfl⟩
  have HW := hid hW
  clear hW
  go_enter Try.func41, Try.ntmps41
  go_wp2_with fail
  rw [← HW.out]
  rw [← HW.out] at BW q0 q1 q2 q3 q4
  clear HW PB
  obtain ⟨b0, hb0⟩ : ∃ b, newOk D.f0 = b := ⟨_, rfl⟩
  have HB0 := hid hb0
  clear hb0
  refine (iquanta_eq _ D.f0 b0 HB0.out _ (HR0.out.below BW.out)).mono ?_
  rintro e w' ⟨rfl, hw⟩; obtain rfl := hw.symm
  cases b0
  · have HV : Hid (t = false) := by show _ = _; rw [← HT.out]; exact goodTu_new HB0.out
    go_wp2
    go_ret
    exact ⟨by rw [HV.out]; rfl, BW.out⟩
  by_cases l1 : (D.f1.length : Int) = (D.f0.length : Int)
  rotate_left
  · have HV : Hid (t = false) := by show _ = _; rw [← HT.out]; exact goodTu_len (.inl (by omega))
    go_wp2
    go_ret
    exact ⟨by rw [HV.out]; rfl, BW.out⟩
  by_cases l2 : (D.f2.length : Int) = (D.f0.length : Int)
  rotate_left
  · have HV : Hid (t = false) := by show _ = _; rw [← HT.out]; exact goodTu_len (.inr (.inl (by omega)))
    go_wp2
    go_ret
    exact ⟨by rw [HV.out]; rfl, BW.out⟩
  by_cases l3 : (D.f3.length : Int) = (D.f0.length : Int)
  rotate_left
  · have HV : Hid (t = false) := by show _ = _; rw [← HT.out]; exact goodTu_len (.inr (.inr (by omega)))
    go_wp2
    go_ret
    exact ⟨by rw [HV.out]; rfl, BW.out⟩
  have L1 : Hid (D.f1.length = D.f0.length) := by show _ = _; omega
  have L2 : Hid (D.f2.length = D.f0.length) := by show _ = _; omega
  have L3 : Hid (D.f3.length = D.f0.length) := by show _ = _; omega
  have hn : D.f0.length ≤ 4 := by
    have := HB0.out
    unfold newOk at this
    simp only [Bool.and_eq_true, decide_eq_true_eq] at this
    omega
  rw [L1.out] at q1
  rw [L2.out] at q2
  rw [L3.out] at q3
  simp only [L1.out, L2.out, L3.out]
  clear l1 l2 l3
  go_wp2_with fail
  go_loopw [37] (fun i wr => ∃ k : Nat, k ≤ D.f0.length ∧ i = .int .i64 k ∧ (∀ j, j < k → rokT D j = true) ∧ W = wr) (fun i _ => D.f0.length - (intOf i).toNat)
  case atStart => exact ⟨0, by omega, rfl, fun j hj => by omega, rfl⟩
  case round =>
    obtain ⟨k, hk, rfl, hok, rfl⟩ := hrel
    have HO := hid hok
    clear hok
    by_cases hlt : k < D.f0.length
    · obtain ⟨g1, o1, c1, e1, hc1⟩ := (HR1.out.below BW.out).cells k (by rw [L1.out]; exact hlt)
      cases e1
      obtain ⟨u, cu, hu⟩ := hc1 k (by rw [L1.out]; exact hlt)
      obtain ⟨g2, o2, c2, e2, hc2⟩ := (HR2.out.below BW.out).cells k (by rw [L2.out]; exact hlt)
      cases e2
      obtain ⟨g3, o3, c3, e3, hc3⟩ := (HR3.out.below BW.out).cells k (by rw [L3.out]; exact hlt)
      cases e3
      obtain ⟨xc, hxc⟩ : ∃ x, x = D.f2.getD k 0 := ⟨_, rfl⟩
      obtain ⟨xs, hxs⟩ : ∃ x, x = D.f3.getD k 0 := ⟨_, rfl⟩
      have k2 : W.cell? ⟨g2, o2 + k, none⟩ = some (.int .i64 xc) := by rw [hxc]; exact hc2 k (by rw [L2.out]; exact hlt)
      have k3 : W.cell? ⟨g3, o3 + k, none⟩ = some (.int .i64 xs) := by rw [hxs]; exact hc3 k (by rw [L3.out]; exact hlt)
      have HU := hid hu
      obtain ⟨au, nu, ku, eu⟩ : ∃ a n k, u = .slice a n k := by obtain ⟨a, k, e, _⟩ := hu; exact ⟨a, _, k, e⟩
      subst eu
      obtain ⟨b1, hb1⟩ : ∃ b, packB (D.f1.getD k []) = b := ⟨_, rfl⟩
      obtain ⟨b2, hb2⟩ : ∃ b, credB xc (D.f1.getD k []) = b := ⟨_, rfl⟩
      have HK1 := hid hb1
      have HK2 := hid hb2
      have HRK : Hid (rokT D k = (b1 && (b2 && decide (0 ≤ xs ∧ xs ≤ 1000000)))) := by
        show _ = _
        rw [← hb1, ← hb2, hxc, hxs]
        rfl
      have n0 : (0 : Int) ≤ (k : Int) := by omega
      have n1 : (k : Int) < (D.f0.length : Int) := by omega
      clear hc1 hc2 hc3 hu hb1 hb2 hxc hxs
      go_wp2_with fail
      refine (ipackets_eq _ _ b1 HK1.out _ HU.out).mono ?_
      rintro e w' ⟨rfl, hw⟩; obtain rfl := hw.symm
      cases b1
      · have HV : Hid (t = false) := by show _ = _; rw [← HT.out]; exact goodTu_row (k := k) (by rw [L1.out]; exact hlt) (by rw [HRK.out]; rfl)
        go_wp2
        go_ret
        exact ⟨by rw [HV.out]; rfl, BW.out⟩
      go_wp2_with fail
      refine (icredit_eq xc _ _ b2 HK2.out _ HU.out).mono ?_
      rintro e w' ⟨rfl, hw⟩; obtain rfl := hw.symm
      cases b2
      · have HV : Hid (t = false) := by show _ = _; rw [← HT.out]; exact goodTu_row (k := k) (by rw [L1.out]; exact hlt) (by rw [HRK.out]; rfl)
        go_wp2
        go_ret
        exact ⟨by rw [HV.out]; rfl, BW.out⟩
      by_cases s1 : xs < 0
      · have HV : Hid (t = false) := by show _ = _; rw [← HT.out]; exact goodTu_row (k := k) (by rw [L1.out]; exact hlt) (by rw [HRK.out, decide_eq_false (by omega)]; rfl)
        have d1 : decide (xs < 0) = true := by simpa using s1
        go_wp2
        go_ret
        exact ⟨by rw [HV.out]; rfl, BW.out⟩
      have d1 : decide (xs < 0) = false := by simpa using s1
      by_cases s2 : 1000000 < xs
      · have HV : Hid (t = false) := by show _ = _; rw [← HT.out]; exact goodTu_row (k := k) (by rw [L1.out]; exact hlt) (by rw [HRK.out, decide_eq_false (by omega)]; rfl)
        have d2 : decide (1000000 < xs) = true := by simpa using s2
        go_wp2
        go_ret
        exact ⟨by rw [HV.out]; rfl, BW.out⟩
      have d2 : decide (1000000 < xs) = false := by simpa using s2
      have HS : Hid (rokT D k = true) := by show _ = _; rw [HRK.out, decide_eq_true (by omega)]; rfl
      go_wp2
      go_roundw
      case rel => exact ⟨k + 1, by omega, by go_num, fun j hj => by
        by_cases e : j = k
        · subst e; exact HS.out
        · exact HO.out j (by omega), by first | rfl | trivial⟩
      case measure => simp [intOf]; omega
    · obtain rfl : k = D.f0.length := by omega
      have HV : Hid (t = decide (0 ≤ z ∧ z < (D.f0.length : Int))) := by show _ = _; rw [← HT.out, HZ.out]; exact goodTu_at HB0.out L1.out L2.out L3.out (fun j hj => HO.out j (by rw [← L1.out]; exact hj))
      by_cases s1 : 0 ≤ z
      · have d1 : decide (0 ≤ z) = true := by simpa using s1
        by_cases s2 : z < (D.f0.length : Int)
        · have d2 : decide (z < (D.f0.length : Int)) = true := by simpa using s2
          go_wp2
          go_ret
          exact ⟨by rw [HV.out, decide_eq_true ⟨s1, s2⟩]; rfl, BW.out⟩
        · have d2 : decide (z < (D.f0.length : Int)) = false := by simpa using s2
          go_wp2
          go_ret
          exact ⟨by rw [HV.out, decide_eq_false (by omega)]; rfl, BW.out⟩
      · have d1 : decide (0 ≤ z) = false := by simpa using s1
        go_wp2
        go_ret
        exact ⟨by rw [HV.out, decide_eq_false (by omega)]; rfl, BW.out⟩
end Go.Proofs.Ytepnhbicmlfnhac
namespace Go.Proofs.Ytepnhbicmlfnhac
open Go.RowKit

set_option maxRecDepth 100000 in
set_option maxHeartbeats 4000000 in
theorem itotal_eq (v : Value) (D : TuD) (w : World) (hr : TuReads w v D) :
    Calls Try.prog 36 #[v] w fun e w' => e = .returned (.tuple #[.int .i64 (totV D), .bool (goodTu D)]) ∧ Below w.heap.size w w' := by
  have HR := hid hr
  obtain ⟨v0, v1, v2, v3, rfl, _, _, _, r3⟩ := hr
  have R3 := hid r3
  clear r3
  have PB := hid (boxL_new w [v0, v1, v2, v3, .int .i64 D.f4] 55)
  have BW : Hid (Below w.heap.size w (w.alloc (.cells #[v0, v1, v2, v3, .int .i64 D.f4] 55))) := (Below.refl _ _).alloc (Nat.le_refl _) _
  obtain ⟨q0, q1, q2, q3, q4⟩ := PB.out.five
  obtain ⟨t, ht⟩ : ∃ t, goodTu D = t := ⟨_, rfl⟩
  obtain ⟨s, hs⟩ : ∃ s, totV D = s := ⟨_, rfl⟩
  have HT := hid ht
  have HS := hid hs
  rw [ht, hs]
  clear ht hs
  go_enter Try.func36, Try.ntmps36
  go_wp2_with fail
  refine (igoodT_eq _ D t HT.out _ (HR.out.below BW.out)).mono ?_
  rintro e w1 ⟨rfl, b1⟩
  have B1 : Hid (Below w.heap.size w w1) := BW.out.trans (b1.mono BW.out.size)
  have PB1 := hid (PB.out.below b1 PB.out.lt)
  clear b1 q0 q1 q2 q3 q4
  obtain ⟨q0, q1, q2, q3, q4⟩ := PB1.out.five
  cases t
  · have HV : Hid (s = 0) := by show _ = _; rw [← HS.out, totV, HT.out]; rfl
    go_wp2
    go_ret2
    exact ⟨by rw [HV.out]; rfl, B1.out⟩
  · have hg := goodT_of HT.out
    have HG := hid hg
    have HV : Hid (psum (fl D.f3) D.f3.length = s) := by show _ = _; rw [← HS.out, totV, HT.out]; rfl
    have hl : D.f3.length ≤ 4 := by rw [hg.l3]; exact hg.n.2
    clear hg
    go_wp2_with fail
    refine (isum8_eq _ D.f3 _ (R3.out.below B1.out) (fun k hk => by have := sent_inT HG.out k; omega) s HV.out).mono ?_
    rintro e w' ⟨rfl, hw⟩; obtain rfl := hw.symm
    go_wp2
    go_ret2
    exact ⟨rfl, B1.out⟩
end Go.Proofs.Ytepnhbicmlfnhac
