/-
  spec.LongestOf: how long a task takes at most, and whether within bounds. Nothing old is written.
-/
import Derived.Test.YtmcmkobdkkibkabSThere
import Derived.Test.YtmcmkobdkkibkabSLong
import Derived.Test.YtmcmkobdkkibkabLongFns
import Derived.OwnWalk
namespace Go.Proofs.Ytmcmkobdkkibkab
open Go.RowKit

set_option maxHeartbeats 1000000 in
theorem slongfn_no (v : Value) (xs : List AgEl) (k : Int) (w : World) (hr : AgReads w v xs) (hn : thereA xs k = false) :
    Calls Try.prog 38 #[v, .int .i64 k] w fun e w' => e = .returned (.tuple #[.int .i64 0, .bool false, .bool false]) ∧ Below w.heap.size w w' := by
  have HR := hid hr
  clear hr
  go_enter Try.func38, Try.ntmps38
  go_wp2_with fail
  refine (sthere_eq _ xs k false hn _ HR.out).mono ?_
  rintro e w1 ⟨rfl, b1⟩
  have B1 := hid b1
  clear b1
  go_wp2
  go_ret3
  exact ⟨rfl, B1.out⟩
set_option maxHeartbeats 1000000 in
theorem slongfn_yes (v : Value) (xs : List AgEl) (k : Nat) (w : World) (hr : AgReads w v xs) (hg : goodA xs = true) (hk : k < xs.length) :
    Calls Try.prog 38 #[v, .int .i64 (k : Nat)] w fun e w' => e = .returned (.tuple #[.int .i64 (lgN xs k), .bool (lgB xs k), .bool true]) ∧ Below w.heap.size w w' := by
  have HR := hid hr
  have HG := hid hg
  have HT : Hid (thereA xs (k : Nat) = true) := by show _ = _; unfold thereA; rw [hg, decide_eq_true (p := (0 : Int) ≤ (k : Int)) (by omega), decide_eq_true (p := (k : Int) < (xs.length : Int)) (by omega)]; rfl
  obtain ⟨r, hr'⟩ : ∃ r, r = longA xs k := ⟨_, rfl⟩
  have HN : Hid (lgN xs k = if r < 0 then 0 else r) := by show _ = _; unfold lgN; rw [hr']
  have HB : Hid (lgB xs k = decide (0 ≤ r)) := by show _ = _; unfold lgB; rw [hr']
  have HV := hid hr'
  clear hr hg hr'
  go_enter Try.func38, Try.ntmps38
  go_wp2_with fail
  refine (sthere_eq _ xs k true HT.out _ HR.out).mono ?_
  rintro e w1 ⟨rfl, b1⟩
  have B1 := hid b1
  clear b1
  go_wp2_with fail
  refine (slongest_any _ xs k _ (HR.out.below B1.out) HG.out hk).mono ?_
  rintro e w2 ⟨rfl, b2⟩
  rw [← HV.out]
  have B2 : Hid (Below w.heap.size w w2) := B1.out.trans (b2.mono B1.out.size)
  clear b2
  by_cases h0 : r < 0
  · have d0 : decide (r < 0) = true := by simpa using h0
    have HN' : Hid (lgN xs k = 0) := by show _ = _; rw [HN.out, if_pos h0]
    have HB' : Hid (lgB xs k = false) := by show _ = _; rw [HB.out, decide_eq_false (by omega)]
    go_wp2
    go_ret3
    exact ⟨by rw [HN'.out, HB'.out]; rfl, B2.out⟩
  · have d0 : decide (r < 0) = false := by simpa using h0
    have HN' : Hid (lgN xs k = r) := by show _ = _; rw [HN.out, if_neg h0]
    have HB' : Hid (lgB xs k = true) := by show _ = _; rw [HB.out, decide_eq_true (by omega)]
    go_wp2
    go_ret3
    exact ⟨by rw [HN'.out, HB'.out]; rfl, B2.out⟩
end Go.Proofs.Ytmcmkobdkkibkab
