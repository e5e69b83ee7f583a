/-
  AddSpan of both sides in one form: what is told, how many are new, whether it is told.
-/
import Derived.Test.YtndbdioignmaeaaIAddSpan
import Derived.Test.YtndbdioignmaeaaSAddSpan
namespace Go.Proofs.Ytndbdioignmaeaa
open Go.RowKit
set_option maxRecDepth 100000

def addOk (xs : List Sp) (x : Sp) : Bool := goodL xs && spB x && decide ((addL xs x).length ≤ 20)
def addY (xs : List Sp) (x : Sp) : List Sp := if addOk xs x = true then addL xs x else []
def addN (xs : List Sp) (x : Sp) : Int := if addOk xs x = true then lenL (addL xs x) - lenL xs else 0
theorem addY_le (xs : List Sp) (x : Sp) : (addY xs x).length ≤ 20 := by
  unfold addY
  split
  · rename_i h
    unfold addOk at h
    rw [Bool.and_eq_true] at h
    simpa using h.2
  · simp

theorem iaddSpan_any (v : Value) (xs : List Sp) (p q : Int) (w : World) (hr : SReads w v xs) :
    Calls Try.prog 21 #[v, .agg #[.int .i64 p, .int .i64 q]] w fun e w' => ∃ v', e = .returned (.tuple #[v', .int .i64 (addN xs (p, q)), .bool (addOk xs (p, q))]) ∧ SOwn w.heap.size w' v' (addY xs (p, q)) ∧ Below w.heap.size w w' := by
  unfold addY addN
  cases h : (goodL xs && spB (p, q)) with
  | false =>
    have e : addOk xs (p, q) = false := by unfold addOk; rw [h]; rfl
    rw [e]
    exact (iaddSpan_bad v xs p q w hr h).mono fun _ _ ⟨a, b⟩ => ⟨_, a, sown_nil _ _ _, b⟩
  | true =>
    have h' := h
    rw [Bool.and_eq_true] at h'
    by_cases h20 : (addL xs (p, q)).length ≤ 20
    · have e : addOk xs (p, q) = true := by unfold addOk; rw [h]; simpa using h20
      rw [e]
      exact iaddSpan_yes v xs p q w hr h'.1 h'.2 h20
    · have e : addOk xs (p, q) = false := by unfold addOk; rw [h]; simpa using h20
      rw [e]
      exact (iaddSpan_many v xs p q w hr h'.1 h'.2 h20).mono fun _ _ ⟨a, b⟩ => ⟨_, a, sown_nil _ _ _, b⟩
theorem saddSpan_any (v : Value) (xs : List Sp) (p q : Int) (w : World) (hr : SReads w v xs) :
    Calls Try.prog 22 #[v, .agg #[.int .i64 p, .int .i64 q]] w fun e w' => ∃ v', e = .returned (.tuple #[v', .int .i64 (addN xs (p, q)), .bool (addOk xs (p, q))]) ∧ SOwn w.heap.size w' v' (addY xs (p, q)) ∧ Below w.heap.size w w' := by
  unfold addY addN
  cases h : (goodL xs && spB (p, q)) with
  | false =>
    have e : addOk xs (p, q) = false := by unfold addOk; rw [h]; rfl
    rw [e]
    exact (saddSpan_bad v xs p q w hr h).mono fun _ _ ⟨a, b⟩ => ⟨_, a, sown_nil _ _ _, b⟩
  | true =>
    have h' := h
    rw [Bool.and_eq_true] at h'
    by_cases h20 : (addL xs (p, q)).length ≤ 20
    · have e : addOk xs (p, q) = true := by unfold addOk; rw [h]; simpa using h20
      rw [e]
      exact saddSpan_yes v xs p q w hr h'.1 h'.2 h20
    · have e : addOk xs (p, q) = false := by unfold addOk; rw [h]; simpa using h20
      rw [e]
      exact (saddSpan_many v xs p q w hr h'.1 h'.2 h20).mono fun _ _ ⟨a, b⟩ => ⟨_, a, sown_nil _ _ _, b⟩
end Go.Proofs.Ytndbdioignmaeaa
