/-
  Turns as plain words: whether they are good, what a turn does. No program.
-/
import Derived.Test.YtnnmiddhbeiogazKTurnsRows
namespace Go.Proofs.Ytnnmiddhbeiogaz

def newOk (xs : List Int) : Bool := decide (1 ≤ (xs.length : Int) ∧ (xs.length : Int) ≤ 4) && xs.all fun x => decide (20 ≤ x ∧ x ≤ 100)
def gt1 (D : TuD) : Bool := decide (1 ≤ (D.f0.length : Int) ∧ (D.f0.length : Int) ≤ 4)
def gt2 (D : TuD) : Bool := D.f0.all fun x => decide (20 ≤ x ∧ x ≤ 100)
def gt3 (D : TuD) : Bool := decide (D.f1.length = D.f0.length)
def gt4 (D : TuD) : Bool := decide (D.f2.length = D.f0.length)
def gt5 (D : TuD) : Bool := decide (D.f3.length = D.f0.length)
def gt6 (D : TuD) : Bool := D.f2.all fun x => decide (0 ≤ x ∧ x ≤ 19)
def gt7 (D : TuD) : Bool := D.f3.all fun x => decide (0 ≤ x ∧ x ≤ 1000000)
def gt8 (D : TuD) : Bool := decide (0 ≤ D.f4 ∧ D.f4 ≤ (D.f0.length : Int) - 1)
/-- A queue is as said, and has no credit where nothing waits. -/
def qokT (D : TuD) (k : Nat) : Bool := decide ((D.f1.getD k []).length ≤ 30) && ((D.f1.getD k []).all (fun x => decide (1 ≤ x ∧ x ≤ 20)) && (decide (0 < (D.f1.getD k []).length) || decide (D.f2.getD k 0 = 0)))
def gt9 (D : TuD) : Bool := (List.range D.f1.length).all (qokT D)
def goodTu (D : TuD) : Bool := gt1 D && (gt2 D && (gt3 D && (gt4 D && (gt5 D && (gt6 D && (gt7 D && (gt8 D && gt9 D)))))))
theorem gt9_no {D : TuD} {k : Nat} (hk : k < D.f1.length) (h : qokT D k = false) : gt9 D = false := by
  cases e : gt9 D with
  | false => rfl
  | true =>
    unfold gt9 at e
    rw [List.all_eq_true] at e
    have := e k (List.mem_range.2 hk)
    rw [h] at this
    cases this
theorem gt9_yes {D : TuD} (h : ∀ k, k < D.f1.length → qokT D k = true) : gt9 D = true := by
  unfold gt9
  rw [List.all_eq_true]
  exact fun k hk => h k (List.mem_range.1 hk)
end Go.Proofs.Ytnnmiddhbeiogaz
