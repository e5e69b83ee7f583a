/-
  cmp.Compare, and what a closure of impl.comparing tells: which of two numbers has the lesser key. Nothing is written.
-/
import Derived.Test.YtflhlinkolbbiaeBut5
import Derived.Deep.Draws
import Derived.Test.YtflhlinkolbbiaeByMath
namespace Go.Proofs.Ytflhlinkolbbiae
open Go.RowKit

theorem isnan5_any (n : Int) (w : World) : Calls Try.prog 131 #[.int .i64 n] w fun e w' => e = .returned (.bool false) ∧ w' = w := by
  go_enter Try.func131, Try.ntmps131
  go_wp2
  go_ret
  exact ⟨by simp, rfl⟩
def cmpI5 (a b : Int) : Int := if a < b then -1 else if b < a then 1 else 0
theorem cmpI5_lt (a b : Int) : decide (cmpI5 a b < 0) = decide (a < b) := by
  unfold cmpI5
  split
  · simp [*]
  · split <;> simp <;> omega
theorem cmpI5_gt (a b : Int) : decide (0 < cmpI5 a b) = decide (b < a) := by
  unfold cmpI5
  split
  · simp <;> omega
  · split
    · simp [*]
    · simp <;> omega
set_option maxHeartbeats 1000000 in
theorem compare5_any (a b : Int) (w : World) : Calls Try.prog 125 #[.int .i64 a, .int .i64 b] w fun e w' => e = .returned (.int .i64 (cmpI5 a b)) ∧ w' = w := by
  by_cases h1 : a < b
  · have hv : Hid (cmpI5 a b = -1) := by show _ = _; unfold cmpI5; rw [if_pos h1]
    go_enter Try.func125, Try.ntmps125
    go_wp2_with (go_at_call 131; refine (isnan5_any _ _).mono ?_; rintro e w' ⟨rfl, hw⟩; obtain rfl := hw.symm)
    go_ret
    exact ⟨by rw [hv.out]; rfl, rfl⟩
  · by_cases h2 : b < a
    · have hv : Hid (cmpI5 a b = 1) := by show _ = _; unfold cmpI5; rw [if_neg h1, if_pos h2]
      go_enter Try.func125, Try.ntmps125
      go_wp2_with (go_at_call 131; refine (isnan5_any _ _).mono ?_; rintro e w' ⟨rfl, hw⟩; obtain rfl := hw.symm)
      go_ret
      exact ⟨by rw [hv.out]; rfl, rfl⟩
    · have hv : Hid (cmpI5 a b = 0) := by show _ = _; unfold cmpI5; rw [if_neg h1, if_neg h2]
      go_enter Try.func125, Try.ntmps125
      go_wp2_with (go_at_call 131; refine (isnan5_any _ _).mono ?_; rintro e w' ⟨rfl, hw⟩; obtain rfl := hw.symm)
      go_ret
      exact ⟨by rw [hv.out]; rfl, rfl⟩

/-- A closure that holds numbers against each other by a key that lies in box bk. -/
abbrev cmpV (bk : Nat) : Value := .func (.func 124) #[] #[.pointer (some ⟨bk, 0, none⟩)]
/-- Whatever is written in block g, the closure compares the numbers below n by f. -/
def KeyIn (g : Nat) (w0 : World) (bk n : Nat) (f : Nat → Int) : Prop := ∀ (w : World), But (fun k => k = g) w0 w → ∀ i j, i < n → j < n →
  Calls Try.prog 124 #[.int .i64 (i : Nat), .int .i64 (j : Nat), .pointer (some ⟨bk, 0, none⟩)] w fun e w' => e = .returned (.int .i64 (cmpI5 (f i) (f j))) ∧ ∃ q, w' = w.drewN q
theorem But.drewN {P : Nat → Prop} {a b : World} (h : But P a b) (n : Nat) : But P a (b.drewN n) := h.trans ⟨⟨rfl, rfl, rfl, Nat.le_refl _, fun _ _ => rfl⟩, fun _ _ _ => rfl⟩
theorem comparing_any (fg : Nat) (cs : Array Value) (w : World) : Calls Try.prog 112 #[.func (.func fg) #[] cs] w fun e w' => e = .returned (cmpV w.heap.size) ∧ w' = w.alloc (.cells #[.func (.func fg) #[] cs] 90) := by
  go_enter Try.func112, Try.ntmps112
  go_wp2
  go_ret
  exact ⟨rfl, rfl⟩
end Go.Proofs.Ytflhlinkolbbiae
