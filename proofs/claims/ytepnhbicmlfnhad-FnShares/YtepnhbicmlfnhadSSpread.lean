/-
  spec.l10Spread, spec.SpreadOf: how far windows spread. Nothing old is written.
-/
import Derived.Test.YtepnhbicmlfnhadSGoodSh
import Derived.Test.YtepnhbicmlfnhadSLeast9
import Derived.Test.YtepnhbicmlfnhadSMost9
namespace Go.Proofs.Ytepnhbicmlfnhad
open Go.RowKit

set_option maxRecDepth 100000 in
set_option maxHeartbeats 4000000 in
theorem sspread_good (v : Value) (D : ShD) (w : World) (hr : ShReads w v D) (hg : GoodS D) (r : Int) (hrr : sprS D = r) :
    Calls Try.prog 38 #[v] w fun e w' => e = .returned (.int .i64 r) ∧ Below w.heap.size w w' := by
  obtain ⟨v0, rfl, r0⟩ := hr
  have HR := hid r0
  have hl1 := hg.l1
  have hl5 := hg.l5
  have HE := hid hg.ends
  have HX : Hid (mxL D.f0 D.f0.length - mnL D.f0 D.f0.length = r) := hrr
  obtain ⟨g, off, cap, rfl, hc⟩ := r0.cells 0 hl1
  obtain ⟨z, hz⟩ : ∃ z, z = D.f1 := ⟨_, rfl⟩
  rw [← hz]
  have PB := hid (boxL_new w [.slice (some ⟨g, off, none⟩) D.f0.length cap, .int .i64 z] 25)
  obtain ⟨q0, q1⟩ := PB.out.two
  have BW : Hid (Below w.heap.size w (w.alloc (.cells #[.slice (some ⟨g, off, none⟩) D.f0.length cap, .int .i64 z] 25))) := (Below.refl _ _).alloc (Nat.le_refl _) _
  obtain ⟨W, hW⟩ : ∃ W, W = w.alloc (.cells #[.slice (some ⟨g, off, none⟩) D.f0.length cap, .int .i64 z] 25) := ⟨_, rfl⟩
  rw [← hW] at BW PB
  have HC : Hid (∀ i, i < D.f0.length → KCells W g (off + i) (fl D.f0 i)) := fun i hi => (hc i hi).below BW.out (hc i hi).lt
  have c0 : W.cell? ⟨g, off, none⟩ = some (.int .i64 (fl D.f0 0)) := HC.out 0 hl1
  obtain ⟨x0, hx0⟩ : ∃ x0, x0 = fl D.f0 0 := ⟨_, rfl⟩
  rw [← hx0] at c0
  have HX0 := hid hx0
  have n0 : (0 : Int) < (D.f0.length : Int) := by omega
  rw [hW] at c0
  have HW := hid hW
  clear hc hrr hg hx0 hW hz r0
  go_enter Try.func38, Try.ntmps38
  go_wp2
  rw [← HW.out] at c0 q0 q1 ⊢
  clear c0 q0 q1 HW
  go_loopw [3, 4, 18] (fun lo hi i wr => ∃ k : Nat, k ≤ D.f0.length ∧ i = .int .i64 k ∧ lo = .int .i64 (mnL D.f0 k) ∧ hi = .int .i64 (mxL D.f0 k) ∧ W = wr) (fun _ _ i _ => D.f0.length - (intOf i).toNat)
  case atStart => exact ⟨0, Nat.zero_le _, rfl, by rw [HX0.out]; rfl, by rw [HX0.out]; rfl, rfl⟩
  case round =>
    obtain ⟨k, hk, rfl, rfl, rfl, rfl⟩ := hrel
    by_cases hlt : k < D.f0.length
    · obtain ⟨x, hx⟩ : ∃ x, x = fl D.f0 k := ⟨_, rfl⟩
      have cx : W.cell? ⟨g, off + k, none⟩ = some (.int .i64 x) := by rw [hx]; exact HC.out k hlt
      obtain ⟨lo, hlo⟩ : ∃ lo, lo = mnL D.f0 k := ⟨_, rfl⟩
      obtain ⟨hi, hhi⟩ : ∃ hi, hi = mxL D.f0 k := ⟨_, rfl⟩
      have HLO : Hid (mnL D.f0 (k + 1) = min lo x) := by rw [hlo, hx]; exact rfl
      have HHI : Hid (mxL D.f0 (k + 1) = max hi x) := by rw [hhi, hx]; exact rfl
      rw [← hlo, ← hhi]
      have m0 : (0 : Int) ≤ (k : Int) := by omega
      have m1 : (k : Int) < (D.f0.length : Int) := by omega
      clear hx hlo hhi
      go_wp2_with fail
      refine (sleast_eq lo x _ rfl _).mono ?_
      rintro e w' ⟨rfl, hw⟩; obtain rfl := hw.symm
      go_wp2_with fail
      refine (smost_eq hi x _ rfl _).mono ?_
      rintro e w' ⟨rfl, hw⟩; obtain rfl := hw.symm
      go_wp2
      go_roundw
      case rel => exact ⟨k + 1, by omega, by go_num, by rw [HLO.out], by rw [HHI.out], by first | rfl | trivial⟩
      case measure => simp [intOf]; omega
    · obtain rfl : k = D.f0.length := by omega
      obtain ⟨lo, hlo⟩ : ∃ lo, lo = mnL D.f0 D.f0.length := ⟨_, rfl⟩
      obtain ⟨hi, hhi⟩ : ∃ hi, hi = mxL D.f0 D.f0.length := ⟨_, rfl⟩
      rw [← hlo, ← hhi]
      have hw1 : IntKind.i64.wrap (hi - lo) = r := by have h1 := HE.out; have h2 := HX.out; rw [← hlo, ← hhi] at h1 h2; rw [IntKind.wrap_i64]; omega
      clear hlo hhi
      go_wp2
      go_ret
      exact ⟨rfl, BW.out⟩
def sprR (D : ShD) : Int := bif goodS D then sprS D else 0
set_option maxRecDepth 100000 in
set_option maxHeartbeats 4000000 in
theorem sspread_any (v : Value) (D : ShD) (w : World) (hr : ShReads w v D) (r : Int) (t : Bool) (hr0 : sprR D = r) (ht : goodS D = t) :
    Calls Try.prog 11 #[v] w fun e w' => e = .returned (.tuple #[.int .i64 r, .bool t]) ∧ Below w.heap.size w w' := by
  have HR := hid hr
  have HT := hid ht
  have HX := hid hr0
  obtain ⟨v0, rfl, _⟩ := hr
  obtain ⟨z, hz⟩ : ∃ z, z = D.f1 := ⟨_, rfl⟩
  rw [← hz] at HR ⊢
  have PB := hid (boxL_new w [v0, .int .i64 z] 25)
  obtain ⟨q0, q1⟩ := PB.out.two
  have BW : Hid (Below w.heap.size w (w.alloc (.cells #[v0, .int .i64 z] 25))) := (Below.refl _ _).alloc (Nat.le_refl _) _
  clear ht hr0 hz
  go_enter Try.func11, Try.ntmps11
  go_wp2_with fail
  refine (sgoodS_eq _ D t HT.out _ (HR.out.below BW.out)).mono ?_
  rintro e w1 ⟨rfl, b1⟩
  replace BW := hid (BW.out.trans (b1.mono BW.out.size))
  replace PB := hid (PB.out.below b1 PB.out.lt)
  clear q0 q1 b1
  obtain ⟨q0, q1⟩ := PB.out.two
  cases t
  · have HV : Hid (r = 0) := by show _ = _; rw [← HX.out]; unfold sprR; rw [HT.out]; rfl
    go_wp2
    go_ret2
    exact ⟨by rw [HV.out]; rfl, BW.out⟩
  · have HV : Hid (sprS D = r) := by show _ = _; rw [← HX.out]; unfold sprR; rw [HT.out]; rfl
    go_wp2_with fail
    refine (sspread_good _ D _ (HR.out.below BW.out) ((goodS_iff D).1 HT.out) r HV.out).mono ?_
    rintro e w2 ⟨rfl, b2⟩
    replace BW := hid (BW.out.trans (b2.mono BW.out.size))
    clear q0 q1 b2
    go_wp2
    go_ret2
    exact ⟨rfl, BW.out⟩
end Go.Proofs.Ytepnhbicmlfnhad
