/-
  What functions of chapter 6 tell, by their numbers: the forms in which both sides are told.
-/
import Derived.Test.YtmcmkobdkkibkabSThere
import Derived.Test.YtmcmkobdkkibkabLongFns
import Derived.Test.YtmcmkobdkkibkabRunMath
import Derived.Test.YtmcmkobdkkibkabKIntRows
namespace Go.Proofs.Ytmcmkobdkkibkab
open Go.RowKit

def runB6 (xs : List AgEl) (n : Int) : Bool := goodA xs && decide (1 ≤ n ∧ n ≤ 200)
theorem runB6_of {xs : List AgEl} {n : Int} (h : runB6 xs n = true) : goodA xs = true ∧ ∃ m : Nat, n = m ∧ 1 ≤ m ∧ m ≤ 200 := by
  unfold runB6 at h
  rw [Bool.and_eq_true, decide_eq_true_eq] at h
  exact ⟨h.1, n.toNat, by omega, by omega, by omega⟩
def GoodATells (f : Nat) : Prop := ∀ (v : Value) (xs : List AgEl) (t : Bool), goodA xs = t → ∀ (w : World), AgReads w v xs → Calls Try.prog f #[v] w fun e w' => e = .returned (.bool t) ∧ Below w.heap.size w w'
structure LongTells (f : Nat) : Prop where
  no : ∀ (v : Value) (xs : List AgEl) (k : Int) (w : World), AgReads w v xs → thereA xs k = false → Calls Try.prog f #[v, .int .i64 k] w fun e w' => e = .returned (.tuple #[.int .i64 0, .bool false, .bool false]) ∧ Below w.heap.size w w'
  yes : ∀ (v : Value) (xs : List AgEl) (k : Nat) (w : World), AgReads w v xs → goodA xs = true → k < xs.length → Calls Try.prog f #[v, .int .i64 (k : Nat)] w fun e w' => e = .returned (.tuple #[.int .i64 (lgN xs k), .bool (lgB xs k), .bool true]) ∧ Below w.heap.size w w'
structure RunTells (f : Nat) : Prop where
  no : ∀ (v : Value) (xs : List AgEl) (n : Int) (w : World), AgReads w v xs → runB6 xs n = false → Calls Try.prog f #[v, .int .i64 n] w fun e w' => ∃ u0, e = .returned (.tuple #[u0, .bool false]) ∧ KOwn w.heap.size w'.heap.size w' u0 [] ∧ Below w.heap.size w w'
  yes : ∀ (v : Value) (xs : List AgEl) (n : Nat) (w : World), AgReads w v xs → goodA xs = true → 1 ≤ n → n ≤ 200 → Calls Try.prog f #[v, .int .i64 (n : Nat)] w fun e w' => ∃ u0, e = .returned (.tuple #[u0, .bool true]) ∧ KOwn w.heap.size w'.heap.size w' u0 (runL xs n) ∧ Below w.heap.size w w'
structure RateTells (f : Nat) : Prop where
  no : ∀ (v : Value) (xs : List AgEl) (w : World), AgReads w v xs → goodA xs = false → Calls Try.prog f #[v] w fun e w' => ∃ u0, e = .returned (.tuple #[u0, .bool false]) ∧ KOwn w.heap.size w'.heap.size w' u0 [] ∧ Below w.heap.size w w'
  yes : ∀ (v : Value) (xs : List AgEl) (w : World), AgReads w v xs → goodA xs = true → Calls Try.prog f #[v] w fun e w' => ∃ u0, e = .returned (.tuple #[u0, .bool true]) ∧ KOwn w.heap.size w'.heap.size w' u0 (ofN (byRateL xs)) ∧ Below w.heap.size w w'
structure LoadTells (f : Nat) : Prop where
  no : ∀ (v : Value) (xs : List AgEl) (w : World), AgReads w v xs → goodA xs = false → Calls Try.prog f #[v] w fun e w' => e = .returned (.tuple #[.int .i64 0, .int .i64 0, .bool false]) ∧ Below w.heap.size w w'
  yes : ∀ (v : Value) (xs : List AgEl) (w : World), AgReads w v xs → goodA xs = true → Calls Try.prog f #[v] w fun e w' => e = .returned (.tuple #[.int .i64 ((loadF (pairsA xs)).1 : Nat), .int .i64 ((loadF (pairsA xs)).2 : Nat), .bool true]) ∧ Below w.heap.size w w'
structure AllTells (f : Nat) : Prop where
  no : ∀ (v : Value) (xs : List AgEl) (w : World), AgReads w v xs → goodA xs = false → Calls Try.prog f #[v] w fun e w' => e = .returned (.tuple #[.bool false, .bool false]) ∧ Below w.heap.size w w'
  yes : ∀ (v : Value) (xs : List AgEl) (w : World), AgReads w v xs → goodA xs = true → Calls Try.prog f #[v] w fun e w' => e = .returned (.tuple #[.bool (allA xs), .bool true]) ∧ Below w.heap.size w w'
end Go.Proofs.Ytmcmkobdkkibkab
