/-
  The law FnExactMooreOrder answers true at every list of tasks.
-/
import Derived.Test.YtpkngcamaahhdawMooreOrderLaw
import Derived.Test.YtpkngcamaahhdawSMooreFn
import Derived.Test.YtpkngcamaahhdawIMooreFn
namespace Go.Proofs.Ytpkngcamaahhdaw
open Go.RowKit

theorem FnExactMooreOrder_walk (a0 : Option Addr) (len0 cap0 : Nat) (xs0 : List TkEl) (w : World) (h0 : TkArg w a0 len0 cap0 xs0) :
    Calls Try.prog 8 #[.slice a0 len0 cap0] w fun e w' => e = .returned (.bool true) ∧ Below w.heap.size w w' := by
  cases hg : goodT xs0 with
  | true => exact FnExactMooreOrder_law a0 len0 cap0 xs0 w h0 (ofN ((mooreL xs0).1 ++ (mooreL xs0).2)) (by have := goodT_len hg; have h := (mooreL_perm hg).length_eq; rw [ofN, List.length_map, h, List.length_range]; omega) ((mooreL xs0).1.length : Nat) true (fun v0 w r0 => smoorefn_yes v0 xs0 w r0 hg) (fun v0 w r0 => imoorefn_yes v0 xs0 w r0 hg)
  | false => exact FnExactMooreOrder_law a0 len0 cap0 xs0 w h0 [] (by simp) 0 false (fun v0 w r0 => smoorefn_no v0 xs0 w r0 hg) (fun v0 w r0 => imoorefn_no v0 xs0 w r0 hg)
end Go.Proofs.Ytpkngcamaahhdaw
