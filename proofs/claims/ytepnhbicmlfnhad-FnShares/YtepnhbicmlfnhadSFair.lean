/-
  spec.l10Fairness, spec.FairnessOf: how fair shares are, in two numbers. Nothing old is written.
-/
import Derived.Test.YtepnhbicmlfnhadSGoodSh
import Derived.Test.YtepnhbicmlfnhadFlowFns
namespace Go.Proofs.Ytepnhbicmlfnhad
open Go.RowKit

set_option maxRecDepth 100000 in
set_option maxHeartbeats 4000000 in
theorem sfair_good (v : Value) (D : ShD) (w : World) (hr : ShReads w v D) (hg : GoodS D) (p q : Int) (hp : fairP D = p) (hq : fairQ D = q) :
    Calls Try.prog 35 #[v] w fun e w' => e = .returned (.tuple #[.int .i64 p, .int .i64 q]) ∧ Below w.heap.size w w' := by
  obtain ⟨v0, rfl, r0⟩ := hr
  have HR := hid r0
  have HG := hid hg
  have hl1 := hg.l1
  have hl5 := hg.l5
  obtain ⟨g, off, cap, rfl, hc⟩ := r0.cells 0 hl1
  obtain ⟨z, hz⟩ : ∃ z, z = D.f1 := ⟨_, rfl⟩
  rw [← hz]
  obtain ⟨s, hs⟩ : ∃ s, sumW D = s := ⟨_, rfl⟩
  have HS : Hid (psum (fl D.f0) D.f0.length = s) := hs
  have hw1 : IntKind.i64.wrap (s * s) = p := by have := hg.fair; rw [IntKind.wrap_i64, ← hs]; unfold fairP at this hp; omega
  obtain ⟨sq, hsq⟩ : ∃ sq, sqW D = sq := ⟨_, rfl⟩
  have HSQ : Hid (psum (fl (D.f0.map sqOf)) D.f0.length = sq) := hsq
  have hw2 : IntKind.i64.wrap ((D.f0.length : Int) * sq) = q := by have := hg.fair; rw [IntKind.wrap_i64, ← hsq]; unfold fairQ at this hq; omega
  have PB := hid (boxL_new w [.slice (some ⟨g, off, none⟩) D.f0.length cap, .int .i64 z] 25)
  obtain ⟨q0, q1⟩ := PB.out.two
  have BW : Hid (Below w.heap.size w (w.alloc (.cells #[.slice (some ⟨g, off, none⟩) D.f0.length cap, .int .i64 z] 25))) := (Below.refl _ _).alloc (Nat.le_refl _) _
  obtain ⟨W, hW⟩ : ∃ W, W = w.alloc (.cells #[.slice (some ⟨g, off, none⟩) D.f0.length cap, .int .i64 z] 25) := ⟨_, rfl⟩
  have HC : Hid (∀ i, i < D.f0.length → KCells W g (off + i) (fl D.f0 i)) := fun i hi => by rw [hW]; exact (hc i hi).below BW.out (hc i hi).lt
  have HW := hid hW
  clear hc hg hW hz r0 hs hsq hp hq
  go_enter Try.func35, Try.ntmps35
  go_wp2_with fail
  refine (l1Sum_eq _ D.f0 _ (HR.out.below BW.out) (fun k hk => by have := HG.out.psums k hk; omega) s HS.out).mono ?_
  rintro e w' ⟨rfl, hw⟩; obtain rfl := hw.symm
  go_wp2
  rw [← HW.out] at q0 q1 BW PB ⊢
  clear HW
  go_loopw [5, 14] (fun t i wr => ∃ k : Nat, k ≤ D.f0.length ∧ i = .int .i64 k ∧ t = .int .i64 (psum (fl (D.f0.map sqOf)) k) ∧ W = wr) (fun _ i _ => D.f0.length - (intOf i).toNat)
  case atStart => exact ⟨0, Nat.zero_le _, rfl, rfl, rfl⟩
  case round =>
    obtain ⟨k, hk, rfl, rfl, rfl⟩ := hrel
    by_cases hlt : k < D.f0.length
    · obtain ⟨x, hx⟩ : ∃ x, x = fl D.f0 k := ⟨_, rfl⟩
      have cx : W.cell? ⟨g, off + k, none⟩ = some (.int .i64 x) := by rw [hx]; exact HC.out k hlt
      obtain ⟨t, ht⟩ : ∃ t, t = psum (fl (D.f0.map sqOf)) k := ⟨_, rfl⟩
      have hb := HG.out.win k hlt
      rw [← hx] at hb
      have hb2 := sq_bd hb.1 hb.2
      unfold sqOf at hb2
      have ht2 := HG.out.psq k hk
      rw [← ht] at ht2
      obtain ⟨y, hy⟩ : ∃ y, y = x * x := ⟨_, rfl⟩
      have hw3 : IntKind.i64.wrap (x * x) = y := by rw [IntKind.wrap_i64]; omega
      have hw4 : IntKind.i64.wrap (t + y) = t + y := by rw [IntKind.wrap_i64]; omega
      have HN : Hid (psum (fl (D.f0.map sqOf)) (k + 1) = t + y) := by
        show psum (fl (D.f0.map sqOf)) k + fl (D.f0.map sqOf) k = _
        rw [← ht, fl_map _ _ _ hlt, ← hx, hy]; rfl
      rw [← ht]
      have m0 : (0 : Int) ≤ (k : Int) := by omega
      have m1 : (k : Int) < (D.f0.length : Int) := by omega
      clear hx ht hb hb2 ht2 hy hw1 hw2
      go_wp2
      go_roundw
      case rel => exact ⟨k + 1, by omega, by go_num, by rw [HN.out], by first | rfl | trivial⟩
      case measure => simp [intOf]; omega
    · obtain rfl : k = D.f0.length := by omega
      rw [HSQ.out]
      go_wp2_with fail
      go_big_region
      go_wp2
      go_ret2
      exact ⟨rfl, BW.out.drew⟩
def fpS (D : ShD) : Int := bif goodS D then fairP D else 0
def fqS (D : ShD) : Int := bif goodS D then fairQ D else 0
set_option maxRecDepth 100000 in
set_option maxHeartbeats 4000000 in
theorem sfair_any (v : Value) (D : ShD) (w : World) (hr : ShReads w v D) (p q : Int) (t : Bool) (hp : fpS D = p) (hq : fqS D = q) (ht : goodS D = t) :
    Calls Try.prog 9 #[v] w fun e w' => e = .returned (.tuple #[.int .i64 p, .int .i64 q, .bool t]) ∧ Below w.heap.size w w' := by
  have HR := hid hr
  have HT := hid ht
  have HP := hid hp
  have HQ := hid hq
  obtain ⟨v0, rfl, _⟩ := hr
  obtain ⟨z, hz⟩ : ∃ z, z = D.f1 := ⟨_, rfl⟩
  rw [← hz] at HR ⊢
  have PB := hid (boxL_new w [v0, .int .i64 z] 25)
  obtain ⟨q0, q1⟩ := PB.out.two
  have BW : Hid (Below w.heap.size w (w.alloc (.cells #[v0, .int .i64 z] 25))) := (Below.refl _ _).alloc (Nat.le_refl _) _
  clear ht hp hq hz
  go_enter Try.func9, Try.ntmps9
  go_wp2_with fail
  refine (sgoodS_eq _ D t HT.out _ (HR.out.below BW.out)).mono ?_
  rintro e w1 ⟨rfl, b1⟩
  replace BW := hid (BW.out.trans (b1.mono BW.out.size))
  replace PB := hid (PB.out.below b1 PB.out.lt)
  clear q0 q1 b1
  obtain ⟨q0, q1⟩ := PB.out.two
  cases t
  · have HV : Hid (p = 0) := by show _ = _; rw [← HP.out]; unfold fpS; rw [HT.out]; rfl
    have HV2 : Hid (q = 0) := by show _ = _; rw [← HQ.out]; unfold fqS; rw [HT.out]; rfl
    go_wp2
    go_ret3
    exact ⟨by rw [HV.out, HV2.out]; rfl, BW.out⟩
  · have HV : Hid (fairP D = p) := by show _ = _; rw [← HP.out]; unfold fpS; rw [HT.out]; rfl
    have HV2 : Hid (fairQ D = q) := by show _ = _; rw [← HQ.out]; unfold fqS; rw [HT.out]; rfl
    go_wp2_with fail
    refine (sfair_good _ D _ (HR.out.below BW.out) ((goodS_iff D).1 HT.out) p q HV.out HV2.out).mono ?_
    rintro e w2 ⟨rfl, b2⟩
    replace BW := hid (BW.out.trans (b2.mono BW.out.size))
    clear q0 q1 b2
    go_wp2
    go_ret3
    exact ⟨rfl, BW.out⟩
end Go.Proofs.Ytepnhbicmlfnhad
