/-
  The builtins min and max of two numbers. Nothing is written.
  impl.overtakenBy: below which number letters are overtaken. Nothing is written.
  impl.LateBy: the most by which a letter comes late. Nothing old is written.
-/
import Derived.Test.YtijojdempijhbadInts
import Derived.Test.YtijojdempijhbadSmallSd
import Derived.Test.YtijojdempijhbadIPutS
namespace Go.Proofs.Ytijojdempijhbad
open Go.RowKit

theorem min9_run (p q r : Int) (h : min p q = r) : ∀ (ts : Array TypeId) (ty : TypeId) (w : World), (Builtin.min_ ts ty #[.int .i64 p, .int .i64 q]).run Try.prog w = .ok (.int .i64 r) w := fun ts ty w => by
  have : (if q < p then q else p) = r := by split <;> omega
  simp [Builtin.min_, Builtin.min2, this]
theorem max9_run (p q r : Int) (h : max p q = r) : ∀ (ts : Array TypeId) (ty : TypeId) (w : World), (Builtin.max_ ts ty #[.int .i64 p, .int .i64 q]).run Try.prog w = .ok (.int .i64 r) w := fun ts ty w => by
  have : (if p < q then q else p) = r := by split <;> omega
  simp [Builtin.max_, Builtin.max2, this]
end Go.Proofs.Ytijojdempijhbad
namespace Go.Proofs.Ytijojdempijhbad
open Go.RowKit

set_option maxRecDepth 100000 in
set_option maxHeartbeats 4000000 in
theorem iover_eq (v : Value) (xs : List Sp) (n : Nat) (h : max (endN xs - 3) 0 = (n : Int)) (hz : 0 ≤ endN xs ∧ endN xs ≤ 1000000) (w : World) (hr : SpReads w v xs) :
    Calls Try.prog 121 #[v] w fun e w' => e = .returned (.int .i64 (n : Nat)) ∧ w' = w := by
  have HR := hid hr
  obtain ⟨a, cap, rfl, hl, _⟩ := hr
  obtain ⟨z, hzz⟩ : ∃ z, endN xs = z := ⟨_, rfl⟩
  rw [hzz] at h hz
  have HZ := hid hzz
  obtain ⟨y, hy⟩ : ∃ y, y = z - 3 := ⟨_, rfl⟩
  have hw1 : IntKind.i64.wrap (z - 3) = y := by rw [hy, IntKind.wrap_i64]; omega
  rw [← hy] at h
  have hx1 := max9_run y 0 (n : Int) h
  clear hzz hy h hz
  go_enter Try.func121, Try.ntmps121
  go_wp2_with fail
  refine (iend_eq _ xs z HZ.out _ HR.out).mono ?_
  rintro e w' ⟨rfl, hw⟩; obtain rfl := hw.symm
  go_wp2
  go_ret
  exact ⟨rfl, rfl⟩
end Go.Proofs.Ytijojdempijhbad
namespace Go.Proofs.Ytijojdempijhbad
open Go.RowKit

def topI (l : List Int) (k : Nat) : Int := max 0 (topU l k)
set_option maxRecDepth 100000 in
set_option maxHeartbeats 4000000 in
theorem ilate11_any (v : Value) (xs : List Int) (w : World) (hr : KReads w v xs) (hw : ∀ x ∈ xs, inW x) (r : Int) (t : Bool) (hx : lateN xs = r) (ht : oruB xs 60 = t) :
    Calls Try.prog 49 #[v] w fun e w' => e = .returned (.tuple #[.int .i64 r, .bool t]) ∧ Below w.heap.size w w' := by
  have HX := hid hx
  have HT := hid ht
  have HR := hid hr
  have HWI := hid hw
  obtain ⟨a, cap, rfl, hl, _⟩ := hr
  clear hx ht hw
  go_enter Try.func49, Try.ntmps49
  go_wp2_with fail
  refine (igoodLet_eq _ xs 60 t HT.out (by omega) HWI.out _ HR.out).mono ?_
  rintro e w1 ⟨rfl, b1⟩
  have HB := hid b1
  replace HR := hid (HR.out.below b1)
  clear b1
  cases t
  · have HV : Hid (r = 0) := by show _ = _; rw [← HX.out]; unfold lateN; rw [HT.out]; rfl
    go_wp2
    go_ret2
    exact ⟨by rw [HV.out]; rfl, HB.out⟩
  have HV : Hid (r = mostU xs xs.length) := by show _ = _; rw [← HX.out]; unfold lateN; rw [HT.out]; rfl
  have HI : Hid (∀ i, i < xs.length → 0 ≤ fl xs i ∧ fl xs i ≤ 59) := fun i hi => by have := oruU_at xs.length HT.out i hi; omega
  go_wp2
  go_loopw [4, 5, 13] (fun mv tv i wr => ∃ k : Nat, k ≤ xs.length ∧ i = .int .i64 k ∧ mv = .int .i64 (mostU xs k) ∧ tv = .int .i64 (topI xs k) ∧ w1 = wr) (fun _ _ i _ => xs.length - (intOf i).toNat)
  case atStart => exact ⟨0, Nat.zero_le _, rfl, rfl, rfl, rfl⟩
  case round =>
    obtain ⟨k, hk, rfl, rfl, rfl, rfl⟩ := hrel
    by_cases hlt : k < xs.length
    · obtain ⟨g, o, cap', e, hc⟩ := HR.out.cells k hlt
      cases e
      obtain ⟨x, hx⟩ : ∃ x, x = fl xs k := ⟨_, rfl⟩
      have cx : w1.cell? ⟨g, o + k, none⟩ = some (.int .i64 x) := by rw [hx]; exact hc k hlt
      have hb := HI.out k hlt
      have htp := topU_in k fun i hi => HI.out i (by omega)
      obtain ⟨mo, hmo⟩ : ∃ y, y = mostU xs k := ⟨_, rfl⟩
      obtain ⟨tp, htop⟩ : ∃ y, y = topI xs k := ⟨_, rfl⟩
      obtain ⟨df, hdf⟩ : ∃ y, y = tp - x := ⟨_, rfl⟩
      have htq : tp = max 0 (topU xs k) := htop
      have HM : Hid (max mo df = mostU xs (k + 1)) := by
        show _ = max (mostU xs k) (topU xs k - fl xs k)
        rw [hdf, hmo, htq, hx]
        omega
      have HTP : Hid (max tp x = topI xs (k + 1)) := by
        show _ = max 0 (max (topU xs k) (fl xs k))
        rw [htq, hx]
        omega
      rw [← hmo] at htp
      rw [← hx] at hb
      have hw1 : IntKind.i64.wrap (tp - x) = df := by rw [hdf, IntKind.wrap_i64]; omega
      obtain ⟨m2, hm2⟩ : ∃ y, y = mostU xs (k + 1) := ⟨_, rfl⟩
      obtain ⟨t2, ht2⟩ : ∃ y, y = topI xs (k + 1) := ⟨_, rfl⟩
      rw [← hm2] at HM
      rw [← ht2] at HTP
      have hx1 := max9_run mo df m2 HM.out
      have hx2 := max9_run tp x t2 HTP.out
      have HM2 := hid hm2
      have HT2 := hid ht2
      rw [← hmo, ← htop]
      have m0 : (0 : Int) ≤ (k : Int) := by omega
      have n1 : (k : Int) < (xs.length : Int) := by omega
      clear hx hc hb htp hmo htop hdf htq hm2 ht2
      go_wp2
      go_roundw
      case rel => exact ⟨k + 1, by omega, by go_num, by rw [HM2.out], by rw [HT2.out], by first | rfl | trivial⟩
      case measure => simp [intOf]; omega
    · obtain rfl : k = xs.length := by omega
      rw [← HV.out]
      go_wp2
      go_ret2
      exact ⟨rfl, HB.out⟩
end Go.Proofs.Ytijojdempijhbad
