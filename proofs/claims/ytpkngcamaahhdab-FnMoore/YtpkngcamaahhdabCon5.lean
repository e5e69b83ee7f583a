/-
  What functions of chapter 5 tell, by their numbers: the forms in which both sides are told.
-/
import Derived.Test.YtpkngcamaahhdabSOrd
namespace Go.Proofs.Ytpkngcamaahhdab
open Go.RowKit

def GoodTells (f : Nat) : Prop := ∀ (v : Value) (xs : List TkEl) (t : Bool), goodT xs = t → ∀ (w : World), TkReads w v xs → Calls Try.prog f #[v] w fun e w' => e = .returned (.bool t) ∧ Below w.heap.size w w'
/-- Tasks and an order: a number for good ones, else nought. -/
structure NumTells (f : Nat) (Y : List TkEl → List Nat → Int) : Prop where
  no : ∀ (v vo : Value) (xs : List TkEl) (ys : List Int) (w : World), TkReads w v xs → KReads w vo ys → (goodT xs && ordB xs.length ys) = false → Calls Try.prog f #[v, vo] w fun e w' => e = .returned (.tuple #[.int .i64 0, .bool false]) ∧ Below w.heap.size w w'
  yes : ∀ (v vo : Value) (xs : List TkEl) (os : List Nat) (w : World), TkReads w v xs → KReads w vo (ofN os) → goodT xs = true → os.Perm (List.range xs.length) → Calls Try.prog f #[v, vo] w fun e w' => e = .returned (.tuple #[.int .i64 (Y xs os), .bool true]) ∧ Below w.heap.size w w'
structure OneTells (f : Nat) (Y : List TkEl → Int) : Prop where
  no : ∀ (v : Value) (xs : List TkEl) (w : World), TkReads w v xs → goodT xs = false → Calls Try.prog f #[v] w fun e w' => e = .returned (.tuple #[.int .i64 0, .bool false]) ∧ Below w.heap.size w w'
  yes : ∀ (v : Value) (xs : List TkEl) (w : World), TkReads w v xs → goodT xs = true → Calls Try.prog f #[v] w fun e w' => e = .returned (.tuple #[.int .i64 (Y xs), .bool true]) ∧ Below w.heap.size w w'
structure MooTells (f : Nat) : Prop where
  no : ∀ (v : Value) (xs : List TkEl) (w : World), TkReads w v xs → goodT xs = false → Calls Try.prog f #[v] w fun e w' => ∃ u0, e = .returned (.tuple #[u0, .int .i64 0, .bool false]) ∧ KOwn w.heap.size w'.heap.size w' u0 [] ∧ Below w.heap.size w w'
  yes : ∀ (v : Value) (xs : List TkEl) (w : World), TkReads w v xs → goodT xs = true → Calls Try.prog f #[v] w fun e w' => ∃ u0, e = .returned (.tuple #[u0, .int .i64 ((mooreL xs).1.length : Nat), .bool true]) ∧ KOwn w.heap.size w'.heap.size w' u0 (ofN ((mooreL xs).1 ++ (mooreL xs).2)) ∧ Below w.heap.size w w'
end Go.Proofs.Ytpkngcamaahhdab
