/-
  slices.stableCmpFunc, slices.SortStableFunc over at most ten numbers that rise from nought. Nothing but their row is written.
-/
import Derived.Test.YtflhlinkolbbialISort6
namespace Go.Proofs.Ytflhlinkolbbial
open Go.RowKit

set_option maxRecDepth 100000 in
set_option maxHeartbeats 8000000 in
theorem stable_any (g n cap bk : Nat) (f : Nat → Int) (w : World) (hn : n ≤ 10) (ho : IRow w g n cap (ofN (List.range n))) (hk : KeyIn g w bk n f) :
    Calls Try.prog 74 #[.slice (some ⟨g, 0, none⟩) n cap, .int .i64 n, cmpV bk] w fun e w' => e = .returned (.tuple #[]) ∧ IRow w' g n cap (ofN (byEnd f n)) ∧ But (At g) w w' := by
  have HO := hid ho
  have HK := hid hk
  clear ho hk
  have d0 : decide ((20 : Int) ≤ (n : Int)) = false := by rw [decide_eq_false_iff_not]; omega
  have d1 : decide ((20 : Int) < (n : Int)) = false := by rw [decide_eq_false_iff_not]; omega
  go_enter Try.func74, Try.ntmps74
  go_wp2
  go_loopw [7, 8] (fun a b wr => a = .int .i64 0 ∧ b = .int .i64 20 ∧ w = wr) (fun _ _ _ => 0)
  case atStart => exact ⟨rfl, rfl, rfl⟩
  case round =>
    obtain ⟨rfl, rfl, rfl⟩ := hrel
    go_wp2_with fail
    refine (isort_any g n cap bk f _ hn HO.out HK.out).mono ?_
    rintro e w1 ⟨rfl, hr1, b1⟩
    have R1 := hid hr1
    have B1 := hid b1
    clear hr1 b1
    go_wp2
    go_loopw [6] (fun a wr => a = .int .i64 20 ∧ w1 = wr) (fun _ _ => 0)
    case atStart => exact ⟨rfl, rfl⟩
    case round =>
      obtain ⟨rfl, rfl⟩ := hrel
      go_wp2
      go_end0
      exact ⟨rfl, R1.out, B1.out⟩
set_option maxHeartbeats 2000000 in
theorem sortStable_any (g n cap bk : Nat) (f : Nat → Int) (w : World) (hn : n ≤ 10) (ho : IRow w g n cap (ofN (List.range n))) (hk : KeyIn g w bk n f) :
    Calls Try.prog 63 #[.slice (some ⟨g, 0, none⟩) n cap, cmpV bk] w fun e w' => e = .returned (.tuple #[]) ∧ IRow w' g n cap (ofN (byEnd f n)) ∧ But (At g) w w' := by
  have HO := hid ho
  have HK := hid hk
  clear ho hk
  go_enter Try.func63, Try.ntmps63
  go_wp2_with fail
  refine (stable_any g n cap bk f _ hn HO.out HK.out).mono ?_
  rintro e w1 ⟨rfl, hr1, b1⟩
  have R1 := hid hr1
  have B1 := hid b1
  clear hr1 b1
  go_wp2
  go_end0
  exact ⟨rfl, R1.out, B1.out⟩
end Go.Proofs.Ytflhlinkolbbial
