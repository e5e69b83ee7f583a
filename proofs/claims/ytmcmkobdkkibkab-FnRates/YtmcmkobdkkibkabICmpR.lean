/-
  The key of a task, and the closure that compares by it. Nothing is written.
-/
import Derived.Test.YtmcmkobdkkibkabICmp6
import Derived.Test.YtmcmkobdkkibkabAgnLoad
import Derived.Deep.QuietTactic
import Derived.BigQuiet
namespace Go.Proofs.Ytmcmkobdkkibkab
open Go.RowKit

theorem keyR_any (bl : Nat) (a : Option Addr) (n cap : Nat) (xs : List AgEl) (k : Nat) (w : World) (hn : xs.length = n) (hk : k < n) (cb : w.cell? ⟨bl, 0, none⟩ = some (.slice a n cap)) (hr : AgReads w (.slice a n cap) xs) :
    Calls Try.prog 103 #[.int .i64 (k : Nat), .pointer (some ⟨bl, 0, none⟩)] w fun e w' => e = .returned (.int .i64 (everyA xs k)) ∧ w' = w := by
  subst hn
  obtain ⟨g, o, cap', e, hc⟩ := hr.cells k hk
  cases e
  obtain ⟨c0, c1⟩ := hc k hk
  obtain ⟨p, hp⟩ : ∃ p, p = (xs.getD k (0, 0)).1 := ⟨_, rfl⟩
  obtain ⟨q, hq⟩ : ∃ q, q = (xs.getD k (0, 0)).2 := ⟨_, rfl⟩
  rw [← hp] at c0
  rw [← hq] at c1
  have HP : Hid (needA xs k = p) := by rw [hp]; rfl
  have HQ : Hid (everyA xs k = q) := by rw [hq]; rfl
  have n0 : (0 : Int) ≤ (k : Int) := by omega
  have n1 : (k : Int) < (xs.length : Int) := by omega
  clear hp hq hc hr
  go_enter Try.func103, Try.ntmps103
  go_wp2
  go_ret
  exact ⟨by rw [HQ.out]; rfl, rfl⟩
set_option maxHeartbeats 2000000 in
theorem cmpR_any (bk bl : Nat) (a : Option Addr) (n cap : Nat) (xs : List AgEl) (i j : Nat) (w : World) (hn : xs.length = n) (hi : i < n) (hj : j < n) (ck : w.cell? ⟨bk, 0, none⟩ = some (.func (.func 103) #[] #[.pointer (some ⟨bl, 0, none⟩)])) (cb : w.cell? ⟨bl, 0, none⟩ = some (.slice a n cap)) (hr : AgReads w (.slice a n cap) xs) :
    Calls Try.prog 130 #[.int .i64 (i : Nat), .int .i64 (j : Nat), .pointer (some ⟨bk, 0, none⟩)] w fun e w' => e = .returned (.int .i64 (cmpI5 (everyA xs i) (everyA xs j))) ∧ ∃ q, w' = w.drewN q := by
  have HR := hid hr
  have HN := hid hn
  have CB := hid cb
  clear hr hn cb
  go_enter Try.func130, Try.ntmps130
  go_wp2_with fail
  go_quiet (first
    | (go_at_call 131; exact Calls.quiet_of_same (compare5_any _ _ _))
    | (refine Calls.quiet_of_same (keyR_any bl a n cap xs _ _ HN.out ?_ CB.out HR.out); first | exact hi | exact hj))
  go_wp2
  go_ret
  exact ⟨rfl, _, rfl⟩
/-- The closure in whatever world has all but block g as it was. -/
theorem keyInR (g bk bl : Nat) (a : Option Addr) (n cap : Nat) (xs : List AgEl) (w0 : World) (hn : xs.length = n) (h1 : bk ≠ g) (h2 : bl ≠ g) (ck : w0.cell? ⟨bk, 0, none⟩ = some (.func (.func 103) #[] #[.pointer (some ⟨bl, 0, none⟩)])) (cb : w0.cell? ⟨bl, 0, none⟩ = some (.slice a n cap)) (hr : ∀ w, But (fun k => k = g) w0 w → AgReads w (.slice a n cap) xs) :
    KeyIn g w0 bk n (everyA xs) := fun w hb i j hi hj =>
  cmpR_any bk bl a n cap xs i j w hn hi hj ((hb.cell (p := ⟨bk, 0, none⟩) h1 (lt_of_cell ck)).trans ck) ((hb.cell (p := ⟨bl, 0, none⟩) h2 (lt_of_cell cb)).trans cb) (hr w hb)
end Go.Proofs.Ytmcmkobdkkibkab
