/-
  What functions of chapter 7 tell, by their numbers: the forms in which both sides are told.
-/
import Derived.Test.YtcieefggijjekacFlowFns
import Derived.Test.YtcieefggijjekacBkForm
import Derived.Test.YtcieefggijjekacKApart
import Derived.Test.YtcieefggijjekacDelFns
namespace Go.Proofs.Ytcieefggijjekac
open Go.RowKit

structure ShapeTells (f : Nat) : Prop where
  no : ∀ (r d : Int) (v : Value) (xs : List Int) (w : World), KReads w v xs → (rateB r d && flowB xs) = false → Calls Try.prog f #[.int .i64 r, .int .i64 d, v] w fun e w' => ∃ u0 u1, e = .returned (.tuple #[u0, u1, .bool false]) ∧ KOwn w.heap.size w'.heap.size w' u0 [] ∧ KOwn w.heap.size w'.heap.size w' u1 [] ∧ Apart7 u0 u1 ∧ Below w.heap.size w w'
  yes : ∀ (r d : Int) (v : Value) (xs : List Int) (w : World), KReads w v xs → rateB r d = true → flowB xs = true → Calls Try.prog f #[.int .i64 r, .int .i64 d, v] w fun e w' => ∃ u0 u1, e = .returned (.tuple #[u0, u1, .bool true]) ∧ KOwn w.heap.size w'.heap.size w' u0 (goL (goes r d (fl xs)) xs.length) ∧ KOwn w.heap.size w'.heap.size w' u1 (goL (fun t => (sh r d (fl xs) (t + 1)).2) xs.length) ∧ Apart7 u0 u1 ∧ Below w.heap.size w w'
structure PassTells (f : Nat) : Prop where
  no : ∀ (v : Value) (xs : List Int) (s : Int) (w : World), KReads w v xs → passF xs s = false → Calls Try.prog f #[v, .int .i64 s] w fun e w' => ∃ u0 u1, e = .returned (.tuple #[u0, u1, .bool false]) ∧ KOwn w.heap.size w'.heap.size w' u0 [] ∧ KOwn w.heap.size w'.heap.size w' u1 [] ∧ Apart7 u0 u1 ∧ Below w.heap.size w w'
  yes : ∀ (v : Value) (xs : List Int) (s : Int) (w : World), KReads w v xs → flowB xs = true → 1 ≤ s → s ≤ 60 → Calls Try.prog f #[v, .int .i64 s] w fun e w' => ∃ u0 u1, e = .returned (.tuple #[u0, u1, .bool true]) ∧ KOwn w.heap.size w'.heap.size w' u0 (goL (pgo s (fl xs)) xs.length) ∧ KOwn w.heap.size w'.heap.size w' u1 (goL (fun t => pw s (fl xs) (t + 1)) xs.length) ∧ Apart7 u0 u1 ∧ Below w.heap.size w w'
structure ConfTells (f : Nat) : Prop where
  no : ∀ (r d : Int) (v : Value) (xs : List Int) (w : World), KReads w v xs → (rateB r d && flowB xs) = false → Calls Try.prog f #[.int .i64 r, .int .i64 d, v] w fun e w' => e = .returned (.tuple #[.bool false, .bool false]) ∧ Below w.heap.size w w'
  yes : ∀ (r d : Int) (v : Value) (xs : List Int) (w : World), KReads w v xs → rateB r d = true → flowB xs = true → Calls Try.prog f #[.int .i64 r, .int .i64 d, v] w fun e w' => e = .returned (.tuple #[.bool (confF r d xs), .bool true]) ∧ Below w.heap.size w w'
/-- delF: whether flow and out are as said; delG: the greatest delay, 0 for such as are not. -/
def WorstTells (f : Nat) : Prop := ∀ (v u : Value) (xs ys : List Int) (w : World), KReads w v xs → KReads w u ys → Calls Try.prog f #[v, u] w fun e w' => e = .returned (.tuple #[.int .i64 (delG xs ys), .bool (delF xs ys)]) ∧ Below w.heap.size w w'
def GoodBTells (f : Nat) : Prop := ∀ (x : BkEl) (t : Bool), bktB x = t → ∀ (w : World), Calls Try.prog f #[bkV x] w fun e w' => e = .returned (.bool t) ∧ Below w.heap.size w w'
structure NewBTells (f : Nat) : Prop where
  no : ∀ (r d : Int), rateB r d = false → ∀ (w : World), Calls Try.prog f #[.int .i64 r, .int .i64 d] w fun e w' => e = .returned (.tuple #[bkV (0, 0, 0), .bool false]) ∧ Below w.heap.size w w'
  yes : ∀ (r d : Int), rateB r d = true → ∀ (w : World), Calls Try.prog f #[.int .i64 r, .int .i64 d] w fun e w' => e = .returned (.tuple #[bkV (r, d, d), .bool true]) ∧ Below w.heap.size w w'
structure TickBTells (f : Nat) : Prop where
  no : ∀ (x : BkEl), bktB x = false → ∀ (w : World), Calls Try.prog f #[bkV x] w fun e w' => e = .returned (.tuple #[bkV (0, 0, 0), .bool false]) ∧ Below w.heap.size w w'
  yes : ∀ (x : BkEl), bktB x = true → ∀ (w : World), Calls Try.prog f #[bkV x] w fun e w' => e = .returned (.tuple #[bkV (tickK x), .bool true]) ∧ Below w.heap.size w w'
structure TakeBTells (f : Nat) : Prop where
  no : ∀ (x : BkEl) (n : Int), takeF x n = false → ∀ (w : World), Calls Try.prog f #[bkV x, .int .i64 n] w fun e w' => e = .returned (.tuple #[bkV (0, 0, 0), .bool false]) ∧ Below w.heap.size w w'
  yes : ∀ (x : BkEl) (n : Int), takeF x n = true → ∀ (w : World), Calls Try.prog f #[bkV x, .int .i64 n] w fun e w' => e = .returned (.tuple #[bkV (x.1, x.2.1, x.2.2 - n), .bool true]) ∧ Below w.heap.size w w'
end Go.Proofs.Ytcieefggijjekac
