/-
  impl.isWithin: whether a burst lies within. Nothing is written.
-/
import Derived.Test.YthmkeinhjlmgmajHitMath
namespace Go.Proofs.Ythmkeinhjlmgmaj
open Go.RowKit

theorem wf_bounds {n : Int} (h : (Lit.int .i64 n).wf = true) : -9223372036854775808 ≤ n ∧ n ≤ 9223372036854775807 := by
  simp [Lit.wf, IntKind.min, IntKind.max, IntKind.signed, IntKind.bits] at h
  omega
set_option maxHeartbeats 2000000 in
theorem iwithin_eq (many : Nat) (frm long : Int) (t : Bool) (hm : many ≤ 9223372036854775807) (h1 : (Lit.int .i64 frm).wf = true) (h : withB many frm long = t) (w : World) : Calls Try.prog 37 #[.int .i64 (many : Nat), .int .i64 frm, .int .i64 long] w fun e w' => e = .returned (.bool t) ∧ w' = w := by
  have HT : Hid (decide (0 ≤ frm ∧ 0 ≤ long ∧ long ≤ many - frm) = t) := h
  have hfw := wf_bounds h1
  clear h h1
  by_cases a1 : 0 ≤ frm
  rotate_left
  · have HV : Hid (t = false) := by show _ = _; rw [← HT.out, decide_eq_false (by omega)]
    have d1 : decide (0 ≤ frm) = false := by simpa using a1
    clear HT
    go_enter Try.func37, Try.ntmps37
    go_wp2
    go_ret
    exact ⟨by rw [HV.out]; rfl, rfl⟩
  have d1 : decide (0 ≤ frm) = true := by simpa using a1
  by_cases a2 : 0 ≤ long
  rotate_left
  · have HV : Hid (t = false) := by show _ = _; rw [← HT.out, decide_eq_false (by omega)]
    have d2 : decide (0 ≤ long) = false := by simpa using a2
    clear HT
    go_enter Try.func37, Try.ntmps37
    go_wp2
    go_ret
    exact ⟨by rw [HV.out]; rfl, rfl⟩
  have d2 : decide (0 ≤ long) = true := by simpa using a2
  have hw : IntKind.i64.wrap ((many : Int) - frm) = many - frm := by rw [IntKind.wrap_i64]; omega
  have HV : Hid (decide (long ≤ many - frm) = t) := by show _ = _; rw [← HT.out]; simp [a1, a2]
  clear HT
  by_cases a3 : long ≤ many - frm
  · have d3 : decide (long ≤ many - frm) = true := by simpa using a3
    go_enter Try.func37, Try.ntmps37
    go_wp2
    go_ret
    exact ⟨by rw [← HV.out]; simp [a3], rfl⟩
  · have d3 : decide (long ≤ many - frm) = false := by simpa using a3
    go_enter Try.func37, Try.ntmps37
    go_wp2
    go_ret
    exact ⟨by rw [← HV.out]; simp [a3], rfl⟩
end Go.Proofs.Ythmkeinhjlmgmaj
