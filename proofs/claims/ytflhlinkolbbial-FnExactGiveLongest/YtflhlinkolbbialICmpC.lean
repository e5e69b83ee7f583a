/-
  The key of a chore, and the closure that compares by it. Nothing is written.
-/
import Derived.Test.YtflhlinkolbbialICmp6
import Derived.Test.YtflhlinkolbbialGiveFns
import Derived.Deep.QuietTactic
import Derived.BigQuiet
namespace Go.Proofs.Ytflhlinkolbbial
open Go.RowKit

theorem keyC_any (bl : Nat) (a : Option Addr) (n cap : Nat) (ls : List Nat) (hs : ∀ k, k < ls.length → ls.getD k 0 ≤ 50) (k : Nat) (w : World) (hn : (ofN ls).length = n) (hk : k < n) (cb : w.cell? ⟨bl, 0, none⟩ = some (.slice a n cap)) (hr : KReads w (.slice a n cap) (ofN ls)) :
    Calls Try.prog 65 #[.int .i64 (k : Nat), .pointer (some ⟨bl, 0, none⟩)] w fun e w' => e = .returned (.int .i64 (keyL ls k)) ∧ w' = w := by
  obtain ⟨g, o, cap', e, hc⟩ := hr.cells k (by rw [hn]; exact hk)
  rw [hn] at e
  cases e
  have c0 := hc k (by rw [hn]; exact hk)
  rw [ofN_at] at c0
  have hsz := hs k (by rw [List.length_map] at hn; omega)
  obtain ⟨p, hp⟩ : ∃ p, p = ls.getD k 0 := ⟨_, rfl⟩
  rw [← hp] at c0 hsz
  have HQ : Hid (keyL ls k = -(p : Int)) := by show _ = _; unfold keyL; rw [← hp]
  have hw1 : IntKind.i64.wrap (-(p : Int)) = -(p : Int) := by rw [IntKind.wrap_i64]; omega
  have n0 : (0 : Int) ≤ (k : Int) := by omega
  have n1 : (k : Int) < (n : Int) := by omega
  clear hp hc hr hn hs
  have C0 : w.cell? ⟨g, o + k, none⟩ = some (.int .i64 (p : Nat)) := c0
  clear c0
  go_enter Try.func65, Try.ntmps65
  go_wp2
  go_ret
  exact ⟨by rw [HQ.out]; rfl, rfl⟩
set_option maxHeartbeats 2000000 in
theorem cmpC_any (bk bl : Nat) (a : Option Addr) (n cap : Nat) (ls : List Nat) (hs : ∀ k, k < ls.length → ls.getD k 0 ≤ 50) (i j : Nat) (w : World) (hn : (ofN ls).length = n) (hi : i < n) (hj : j < n) (ck : w.cell? ⟨bk, 0, none⟩ = some (.func (.func 65) #[] #[.pointer (some ⟨bl, 0, none⟩)])) (cb : w.cell? ⟨bl, 0, none⟩ = some (.slice a n cap)) (hr : KReads w (.slice a n cap) (ofN ls)) :
    Calls Try.prog 75 #[.int .i64 (i : Nat), .int .i64 (j : Nat), .pointer (some ⟨bk, 0, none⟩)] w fun e w' => e = .returned (.int .i64 (cmpI5 (keyL ls i) (keyL ls j))) ∧ ∃ q, w' = w.drewN q := by
  have HR := hid hr
  have HN := hid hn
  have CB := hid cb
  have HSm := hid hs
  clear hr hn cb hs
  go_enter Try.func75, Try.ntmps75
  go_wp2_with fail
  go_quiet (first
    | (go_at_call 76; exact Calls.quiet_of_same (compare5_any _ _ _))
    | (refine Calls.quiet_of_same (keyC_any bl a n cap ls HSm.out _ _ HN.out ?_ CB.out HR.out); first | exact hi | exact hj))
  go_wp2
  go_ret
  exact ⟨rfl, _, rfl⟩
/-- The closure in whatever world has all but block g as it was. -/
theorem keyInC (g bk bl : Nat) (a : Option Addr) (n cap : Nat) (ls : List Nat) (hs : ∀ k, k < ls.length → ls.getD k 0 ≤ 50) (w0 : World) (hn : (ofN ls).length = n) (h1 : bk ≠ g) (h2 : bl ≠ g) (ck : w0.cell? ⟨bk, 0, none⟩ = some (.func (.func 65) #[] #[.pointer (some ⟨bl, 0, none⟩)])) (cb : w0.cell? ⟨bl, 0, none⟩ = some (.slice a n cap)) (hr : ∀ w, But (fun k => k = g) w0 w → KReads w (.slice a n cap) (ofN ls)) :
    KeyIn g w0 bk n (keyL ls) := fun w hb i j hi hj =>
  cmpC_any bk bl a n cap ls hs i j w hn hi hj ((hb.cell (p := ⟨bk, 0, none⟩) h1 (lt_of_cell ck)).trans ck) ((hb.cell (p := ⟨bl, 0, none⟩) h2 (lt_of_cell cb)).trans cb) (hr w hb)
end Go.Proofs.Ytflhlinkolbbial
