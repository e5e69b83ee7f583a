/-
  spec.l1Sum: numbers added up. Nothing is written.
  spec.TotalSent: all that was sent. Nothing old is written.
  spec.l8Waiting, spec.WaitingIn: all that waits. Nothing old is written.
-/
import Derived.Test.YtepnhbicmlfnhacFlowFns
import Derived.Test.YtepnhbicmlfnhacKIntRows
import Derived.Test.YtepnhbicmlfnhacTurnFns
import Derived.Test.YtepnhbicmlfnhacSGoodT
namespace Go.Proofs.Ytepnhbicmlfnhac
open Go.RowKit

set_option maxRecDepth 100000 in
set_option maxHeartbeats 4000000 in
theorem l1Sum_eq (v : Value) (xs : List Int) (w : World) (hr : KReads w v xs) (hb : ∀ k, k ≤ xs.length → 0 ≤ psum (fl xs) k ∧ psum (fl xs) k ≤ 1000000000) (s : Int) (hs : psum (fl xs) xs.length = s) :
    Calls Try.prog 90 #[v] w fun e w' => e = .returned (.int .i64 s) ∧ w' = w := by
  have HR := hid hr
  have HP := hid hb
  have HS0 := hid hs
  obtain ⟨a, cap, rfl, _, _⟩ := hr
  clear hb hs
  go_enter Try.func90, Try.ntmps90
  go_wp2
  go_loopw [3, 8] (fun t i wr => ∃ k : Nat, k ≤ xs.length ∧ i = .int .i64 k ∧ t = .int .i64 (psum (fl xs) k) ∧ w = wr) (fun _ i _ => xs.length - (intOf i).toNat)
  case atStart => exact ⟨0, by omega, rfl, rfl, rfl⟩
  case round =>
    obtain ⟨k, hk, rfl, rfl, rfl⟩ := hrel
    by_cases hlt : k < xs.length
    · obtain ⟨g, o, cap', e, hc⟩ := HR.out.cells k hlt
      cases e
      have HS : Hid (psum (fl xs) (k + 1) = psum (fl xs) k + fl xs k) := rfl
      have hp1 := HP.out (k + 1) (by omega)
      have hp0 := HP.out k (by omega)
      rw [HS.out] at hp1
      obtain ⟨x, hx⟩ : ∃ x, x = fl xs k := ⟨_, rfl⟩
      have cx : w.cell? ⟨g, o + k, none⟩ = some (.int .i64 x) := by rw [hx]; exact hc k hlt
      obtain ⟨s1, hs1⟩ : ∃ s1, s1 = psum (fl xs) k := ⟨_, rfl⟩
      rw [← hs1, ← hx] at HS hp1
      rw [← hs1] at hp0 ⊢
      have hw1 : IntKind.i64.wrap (s1 + x) = s1 + x := by rw [IntKind.wrap_i64]; omega
      clear hc hx hs1 hp0 hp1
      go_wp2
      go_roundw
      case rel => exact ⟨k + 1, by omega, by go_num, by rw [HS.out], by first | rfl | trivial⟩
      case measure => simp [intOf]; omega
    · obtain rfl : k = xs.length := by omega
      go_wp2
      go_ret
      exact ⟨by rw [← HS0.out]; rfl, rfl⟩
end Go.Proofs.Ytepnhbicmlfnhac
namespace Go.Proofs.Ytepnhbicmlfnhac
open Go.RowKit

set_option maxRecDepth 100000 in
set_option maxHeartbeats 4000000 in
theorem stotal_eq (v : Value) (D : TuD) (w : World) (hr : TuReads w v D) :
    Calls Try.prog 37 #[v] w fun e w' => e = .returned (.tuple #[.int .i64 (totV D), .bool (goodTu D)]) ∧ Below w.heap.size w w' := by
  have HR := hid hr
  obtain ⟨v0, v1, v2, v3, rfl, _, _, _, r3⟩ := hr
  have R3 := hid r3
  clear r3
  have PB := hid (boxL_new w [v0, v1, v2, v3, .int .i64 D.f4] 55)
  have BW : Hid (Below w.heap.size w (w.alloc (.cells #[v0, v1, v2, v3, .int .i64 D.f4] 55))) := (Below.refl _ _).alloc (Nat.le_refl _) _
  obtain ⟨q0, q1, q2, q3, q4⟩ := PB.out.five
  obtain ⟨t, ht⟩ : ∃ t, goodTu D = t := ⟨_, rfl⟩
  obtain ⟨s, hs⟩ : ∃ s, totV D = s := ⟨_, rfl⟩
  have HT := hid ht
  have HS := hid hs
  rw [ht, hs]
  clear ht hs
  go_enter Try.func37, Try.ntmps37
  go_wp2_with fail
  refine (sgoodT_eq _ D t HT.out _ (HR.out.below BW.out)).mono ?_
  rintro e w1 ⟨rfl, b1⟩
  have B1 : Hid (Below w.heap.size w w1) := BW.out.trans (b1.mono BW.out.size)
  have PB1 := hid (PB.out.below b1 PB.out.lt)
  clear b1 q0 q1 q2 q3 q4
  obtain ⟨q0, q1, q2, q3, q4⟩ := PB1.out.five
  cases t
  · have HV : Hid (s = 0) := by show _ = _; rw [← HS.out, totV, HT.out]; rfl
    go_wp2
    go_ret2
    exact ⟨by rw [HV.out]; rfl, B1.out⟩
  · have hg := goodT_of HT.out
    have HG := hid hg
    have HV : Hid (psum (fl D.f3) D.f3.length = s) := by show _ = _; rw [← HS.out, totV, HT.out]; rfl
    have hl : D.f3.length ≤ 4 := by rw [hg.l3]; exact hg.n.2
    clear hg
    go_wp2_with fail
    refine (l1Sum_eq _ D.f3 _ (R3.out.below B1.out) (fun k hk => by have := sent_inT HG.out k; omega) s HV.out).mono ?_
    rintro e w' ⟨rfl, hw⟩; obtain rfl := hw.symm
    go_wp2
    go_ret2
    exact ⟨rfl, B1.out⟩
end Go.Proofs.Ytepnhbicmlfnhac
namespace Go.Proofs.Ytepnhbicmlfnhac
open Go.RowKit

set_option maxRecDepth 100000 in
set_option maxHeartbeats 4000000 in
theorem l8Waiting_eq (v : Value) (D : TuD) (w : World) (hr : TuReads w v D) (hg : GoodT D) (s : Int) (hs : waitT D = s) :
    Calls Try.prog 92 #[v] w fun e w' => e = .returned (.int .i64 s) ∧ Below w.heap.size w w' := by
  obtain ⟨v0, v1, v2, v3, rfl, _, r1, _, _⟩ := hr
  have HG := hid hg
  have HS0 := hid hs
  have R1 := hid r1
  obtain ⟨a1, p1, rfl, _, _⟩ := r1
  have hl : D.f1.length ≤ 4 := by rw [hg.l1]; exact hg.n.2
  clear hg hs
  have PB := hid (boxL_new w [v0, .slice a1 D.f1.length p1, v2, v3, .int .i64 D.f4] 55)
  have BW : Hid (Below w.heap.size w (w.alloc (.cells #[v0, .slice a1 D.f1.length p1, v2, v3, .int .i64 D.f4] 55))) := (Below.refl _ _).alloc (Nat.le_refl _) _
  obtain ⟨q0, q1, q2, q3, q4⟩ := PB.out.five
  obtain ⟨W, hW⟩ : ∃ W, W = w.alloc (.cells #[v0, .slice a1 D.f1.length p1, v2, v3, .int .i64 D.f4] 55) := ⟨_, rfl⟩
  have HW := hid hW
  clear hW
  go_enter Try.func92, Try.ntmps92
  go_wp2
  rw [← HW.out]
  rw [← HW.out] at BW
  clear HW PB q0 q1 q2 q3 q4
  go_loopw [3, 9] (fun t i wr => ∃ k : Nat, k ≤ D.f1.length ∧ i = .int .i64 k ∧ t = .int .i64 (psum (rowT D) k) ∧ W = wr) (fun _ i _ => D.f1.length - (intOf i).toNat)
  case atStart => exact ⟨0, by omega, rfl, rfl, rfl⟩
  case round =>
    obtain ⟨k, hk, rfl, rfl, rfl⟩ := hrel
    by_cases hlt : k < D.f1.length
    · obtain ⟨g, o, cap', e, hc⟩ := (R1.out.below BW.out).cells k hlt
      cases e
      obtain ⟨u, cu, hu⟩ := hc k hlt
      have HU := hid hu
      have HS : Hid (psum (rowT D) (k + 1) = psum (rowT D) k + rowT D k) := rfl
      have hp0 := wait_inT HG.out k
      have hx0 := row_in HG.out k (D.f1.getD k []).length
      obtain ⟨x, hx⟩ : ∃ x, x = rowT D k := ⟨_, rfl⟩
      have HX : Hid (psum (fl (D.f1.getD k [])) (D.f1.getD k []).length = x) := by show _ = _; rw [hx]; rfl
      rw [HX.out] at hx0
      obtain ⟨s1, hs1⟩ : ∃ s1, s1 = psum (rowT D) k := ⟨_, rfl⟩
      rw [← hs1, ← hx] at HS
      rw [← hs1] at hp0 ⊢
      have hw1 : IntKind.i64.wrap (s1 + x) = s1 + x := by rw [IntKind.wrap_i64]; omega
      have n0 : (0 : Int) ≤ (k : Int) := by omega
      have n1 : (k : Int) < (D.f1.length : Int) := by omega
      clear hc hu hx hs1 hp0
      go_wp2_with fail
      refine (l1Sum_eq u _ _ HU.out (fun m _ => by have := row_in HG.out k m; omega) x HX.out).mono ?_
      rintro e w' ⟨rfl, hw⟩; obtain rfl := hw.symm
      go_wp2
      go_roundw
      case rel => exact ⟨k + 1, by omega, by go_num, by rw [HS.out], by first | rfl | trivial⟩
      case measure => simp [intOf]; omega
    · obtain rfl : k = D.f1.length := by omega
      go_wp2
      go_ret
      exact ⟨by rw [← HS0.out]; rfl, BW.out⟩
set_option maxRecDepth 100000 in
set_option maxHeartbeats 4000000 in
theorem swaiting_eq (v : Value) (D : TuD) (w : World) (hr : TuReads w v D) :
    Calls Try.prog 39 #[v] w fun e w' => e = .returned (.tuple #[.int .i64 (waitV D), .bool (goodTu D)]) ∧ Below w.heap.size w w' := by
  have HR := hid hr
  obtain ⟨v0, v1, v2, v3, rfl, _, _, _, _⟩ := hr
  have PB := hid (boxL_new w [v0, v1, v2, v3, .int .i64 D.f4] 55)
  have BW : Hid (Below w.heap.size w (w.alloc (.cells #[v0, v1, v2, v3, .int .i64 D.f4] 55))) := (Below.refl _ _).alloc (Nat.le_refl _) _
  obtain ⟨q0, q1, q2, q3, q4⟩ := PB.out.five
  obtain ⟨t, ht⟩ : ∃ t, goodTu D = t := ⟨_, rfl⟩
  obtain ⟨s, hs⟩ : ∃ s, waitV D = s := ⟨_, rfl⟩
  have HT := hid ht
  have HS := hid hs
  rw [ht, hs]
  clear ht hs
  go_enter Try.func39, Try.ntmps39
  go_wp2_with fail
  refine (sgoodT_eq _ D t HT.out _ (HR.out.below BW.out)).mono ?_
  rintro e w1 ⟨rfl, b1⟩
  have B1 : Hid (Below w.heap.size w w1) := BW.out.trans (b1.mono BW.out.size)
  have PB1 := hid (PB.out.below b1 PB.out.lt)
  clear b1 q0 q1 q2 q3 q4
  obtain ⟨q0, q1, q2, q3, q4⟩ := PB1.out.five
  cases t
  · have HV : Hid (s = 0) := by show _ = _; rw [← HS.out, waitV, HT.out]; rfl
    go_wp2
    go_ret2
    exact ⟨by rw [HV.out]; rfl, B1.out⟩
  · have HG := hid (goodT_of HT.out)
    have HV : Hid (waitT D = s) := by show _ = _; rw [← HS.out, waitV, HT.out]; rfl
    go_wp2_with fail
    refine (l8Waiting_eq _ D _ (HR.out.below B1.out) HG.out s HV.out).mono ?_
    rintro e w2 ⟨rfl, b2⟩
    have B2 : Hid (Below w.heap.size w w2) := B1.out.trans (b2.mono B1.out.size)
    clear b2
    go_wp2
    go_ret2
    exact ⟨rfl, B2.out⟩
end Go.Proofs.Ytepnhbicmlfnhac
