/-
  spec.LateBy: the most by which a letter comes late. Nothing is written.
-/
import Derived.Test.YthmkeinhjlmgmaiSOru11
import Derived.Test.YthmkeinhjlmgmaiSMost9
namespace Go.Proofs.Ythmkeinhjlmgmai
open Go.RowKit

set_option maxRecDepth 100000 in
set_option maxHeartbeats 4000000 in
theorem slate11_any (v : Value) (xs : List Int) (w : World) (hr : KReads w v xs) (r : Int) (t : Bool) (hx : lateN xs = r) (ht : oruB xs 60 = t) :
    Calls Try.prog 16 #[v] w fun e w' => e = .returned (.tuple #[.int .i64 r, .bool t]) ∧ Below w.heap.size w w' := by
  have HX := hid hx
  have HT := hid ht
  have HR := hid hr
  obtain ⟨a, cap, rfl, hl, _⟩ := hr
  clear hx ht
  go_enter Try.func16, Try.ntmps16
  go_wp2_with fail
  refine (soru_eq _ xs 60 t HT.out (by omega) _ HR.out).mono ?_
  rintro e w' ⟨rfl, hw⟩; obtain rfl := hw.symm
  cases t
  · have HV : Hid (r = 0) := by show _ = _; rw [← HX.out]; unfold lateN; rw [HT.out]; rfl
    go_wp2
    go_ret2
    exact ⟨by rw [HV.out]; rfl, Below.refl _ _⟩
  have HV : Hid (r = mostU xs xs.length) := by show _ = _; rw [← HX.out]; unfold lateN; rw [HT.out]; rfl
  have HI : Hid (∀ i, i < xs.length → 0 ≤ fl xs i ∧ fl xs i ≤ 59) := fun i hi => by have := oruU_at xs.length HT.out i hi; omega
  go_wp2
  go_loopw [4, 5, 13] (fun mv tv i wr => ∃ k : Nat, k ≤ xs.length ∧ i = .int .i64 k ∧ mv = .int .i64 (mostU xs k) ∧ tv = .int .i64 (topU xs k) ∧ w = wr) (fun _ _ i _ => xs.length - (intOf i).toNat)
  case atStart => exact ⟨0, Nat.zero_le _, rfl, rfl, rfl, rfl⟩
  case round =>
    obtain ⟨k, hk, rfl, rfl, rfl, rfl⟩ := hrel
    by_cases hlt : k < xs.length
    · obtain ⟨g, o, cap', e, hc⟩ := HR.out.cells k hlt
      cases e
      obtain ⟨x, hx⟩ : ∃ x, x = fl xs k := ⟨_, rfl⟩
      have cx : w.cell? ⟨g, o + k, none⟩ = some (.int .i64 x) := by rw [hx]; exact hc k hlt
      have hb := HI.out k hlt
      have htp := topU_in k fun i hi => HI.out i (by omega)
      obtain ⟨mo, hmo⟩ : ∃ y, y = mostU xs k := ⟨_, rfl⟩
      obtain ⟨tp, htop⟩ : ∃ y, y = topU xs k := ⟨_, rfl⟩
      rw [← hmo, ← htop] at htp
      rw [← hx] at hb
      obtain ⟨df, hdf⟩ : ∃ y, y = tp - x := ⟨_, rfl⟩
      have hw1 : IntKind.i64.wrap (tp - x) = df := by rw [hdf, IntKind.wrap_i64]; omega
      have HM : Hid (mostU xs (k + 1) = max mo df) := by rw [hdf, hmo, htop, hx]; exact rfl
      have HTP : Hid (topU xs (k + 1) = max tp x) := by rw [htop, hx]; exact rfl
      rw [← hmo, ← htop]
      have m0 : (0 : Int) ≤ (k : Int) := by omega
      have n1 : (k : Int) < (xs.length : Int) := by omega
      clear hx hc hb htp hmo htop hdf
      go_wp2_with fail
      refine (smost_eq mo df _ rfl _).mono ?_
      rintro e w' ⟨rfl, hw⟩; obtain rfl := hw.symm
      go_wp2_with fail
      refine (smost_eq tp x _ rfl _).mono ?_
      rintro e w' ⟨rfl, hw⟩; obtain rfl := hw.symm
      go_wp2
      go_roundw
      case rel => exact ⟨k + 1, by omega, by go_num, by rw [HM.out], by rw [HTP.out], by first | rfl | trivial⟩
      case measure => simp [intOf]; omega
    · obtain rfl : k = xs.length := by omega
      rw [← HV.out]
      go_wp2
      go_ret2
      exact ⟨rfl, Below.refl _ _⟩
end Go.Proofs.Ythmkeinhjlmgmai
