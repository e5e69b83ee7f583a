/-
  What WorstDelay, Conforms, PassThrough and TakeBucket tell: plain words.
-/
import Derived.Test.YtcieefggijjekacFlowFns
import Derived.Test.YtcieefggijjekacFlowMath
import Derived.Test.YtcieefggijjekacBkForm
namespace Go.Proofs.Ytcieefggijjekac

def passF (xs : List Int) (s : Int) : Bool := flowB xs && decide (1 ≤ s ∧ s ≤ 60)
def takeF (x : BkEl) (n : Int) : Bool := bktB x && decide (0 ≤ n ∧ n ≤ x.2.2)
def confF (rate depth : Int) (xs : List Int) : Bool := (List.range xs.length).all fun a => (List.range xs.length).all fun b => decide (a ≤ b → psum (fl xs) (b + 1) - psum (fl xs) a ≤ depth + rate * ((b : Int) - a))
def outF (ys : List Int) : Bool := ys.all fun k => decide (0 ≤ k ∧ k ≤ 2400)
def goneF (xs ys : List Int) : Bool := (List.range xs.length).all fun t => decide (psum (fl ys) (t + 1) ≤ psum (fl xs) (t + 1))
def delF (xs ys : List Int) : Bool := flowB xs && outF ys && decide (ys.length = xs.length) && goneF xs ys
def delG (xs ys : List Int) : Int := if delF xs ys then wstU (fl xs) (fl ys) xs.length xs.length else 0
end Go.Proofs.Ytcieefggijjekac
