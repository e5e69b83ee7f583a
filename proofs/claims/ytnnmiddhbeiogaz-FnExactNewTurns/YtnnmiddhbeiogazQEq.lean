/-
  laws.eqIntSS: rows of rows that read alike are told to be the same. Nothing old is written.
-/
import Derived.Test.YtnnmiddhbeiogazQForm
import Derived.Test.YtnnmiddhbeiogazKIntEq
import Derived.Deep.RegionWith
namespace Go.Proofs.Ytnnmiddhbeiogaz
open Go.RowKit

set_option maxRecDepth 100000 in
set_option maxHeartbeats 8000000 in
theorem eqIntSS_same (va vb : Value) (xss : List (List KEl)) (w : World) (ha : QReads w va xss) (hb : QReads w vb xss) (hx : xss.length ≤ 1048576) :
    Calls Try.prog 50 #[va, vb] w fun e w' => e = .returned (.bool true) ∧ Below w.heap.size w w' := by
  have HA := hid ha
  have HB := hid hb
  obtain ⟨a, cap, rfl, _, _⟩ := ha
  obtain ⟨b, cap', rfl, _, _⟩ := hb
  go_enter Try.func50, Try.ntmps50
  go_wp2
  go_loopw [5] (fun i wr => ∃ k : Nat, k ≤ xss.length ∧ i = .int .i64 k ∧ Below w.heap.size w wr) (fun i _ => xss.length - (intOf i).toNat)
  case atStart => exact ⟨0, Nat.zero_le _, rfl, Below.refl _ _⟩
  case round =>
    obtain ⟨k, hk, rfl, hbel⟩ := hrel
    have HW := hid hbel
    clear hbel
    by_cases hlt : k < xss.length
    · obtain ⟨g, o, cap2, e, hc⟩ := (HA.out.below HW.out).cells k hlt
      cases e
      obtain ⟨u, cu, hu⟩ := hc k hlt
      obtain ⟨g', o', cap3, e, hc'⟩ := (HB.out.below HW.out).cells k hlt
      cases e
      obtain ⟨u', cu', hu'⟩ := hc' k hlt
      have HU := hid hu
      have HU' := hid hu'
      have n0 : (0 : Int) ≤ (k : Int) := by omega
      have n1 : (k : Int) < (xss.length : Int) := by omega
      clear hc hu hc' hu'
      go_wp2_with fail
      go_region_with (go_at_call 16; refine (keqIntS_same u u' _ _ (HU.out.below (Below.refl _ _).drew) (HU'.out.below (Below.refl _ _).drew)).mono ?_; rintro e w2 ⟨rfl, b2⟩; have B2 := hid b2; clear b2)
      all_goals
        have HW2 : Hid (Below w.heap.size w w2) := HW.out.drew.trans (B2.out.mono HW.out.size)
        go_wp2
        go_roundw
        case rel => exact ⟨k + 1, by omega, by go_num, HW2.out⟩
        case measure => simp [intOf]; omega
    · obtain rfl : k = xss.length := by omega
      go_wp2
      go_ret
      exact ⟨rfl, HW.out⟩
end Go.Proofs.Ytnnmiddhbeiogaz
