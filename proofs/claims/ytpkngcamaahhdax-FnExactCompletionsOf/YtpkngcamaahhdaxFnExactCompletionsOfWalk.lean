/-
  The law FnExactCompletionsOf answers true at every list of tasks and every order.
-/
import Derived.Test.YtpkngcamaahhdaxCompletionsOfLaw
import Derived.Test.YtpkngcamaahhdaxSComp
import Derived.Test.YtpkngcamaahhdaxIComp
namespace Go.Proofs.Ytpkngcamaahhdax
open Go.RowKit

theorem FnExactCompletionsOf_walk (a0 : Option Addr) (len0 cap0 : Nat) (xs0 : List TkEl) (a1 : Option Addr) (len1 cap1 : Nat) (xs1 : List Int) (w : World) (h0 : TkArg w a0 len0 cap0 xs0) (h1 : KArg w a1 len1 cap1 xs1) :
    Calls Try.prog 4 #[.slice a0 len0 cap0, .slice a1 len1 cap1] w fun e w' => e = .returned (.bool true) ∧ Below w.heap.size w w' := by
  cases hg : goodT xs0 && ordB xs0.length xs1 with
  | true =>
    rw [Bool.and_eq_true] at hg
    obtain ⟨hg, hb⟩ := hg
    obtain ⟨os, rfl, ho⟩ := ordB_of hb
    have hl := goodT_len hg
    exact FnExactCompletionsOf_law a0 len0 cap0 xs0 a1 len1 cap1 _ w h0 h1 (doneL xs0 os) (by rw [doneL, List.length_map, List.length_range]; omega) true (fun v0 v1 w r0 r1 => scomp_yes v0 v1 xs0 os w r0 r1 hg ho) (fun v0 v1 w r0 r1 => icomp_yes v0 v1 xs0 os w r0 r1 hg ho)
  | false => exact FnExactCompletionsOf_law a0 len0 cap0 xs0 a1 len1 cap1 xs1 w h0 h1 [] (by simp) false (fun v0 v1 w r0 r1 => scomp_no v0 v1 xs0 xs1 w r0 r1 hg) (fun v0 v1 w r0 r1 => icomp_no v0 v1 xs0 xs1 w r0 r1 hg)
end Go.Proofs.Ytpkngcamaahhdax
