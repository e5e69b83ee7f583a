/-
  spec.l2Tell, impl.ifNotTooMany over spans of one's own: both ways in one form.
-/
import Derived.Test.YtndbdioignmaeaaTell
namespace Go.Proofs.Ytndbdioignmaeaa
open Go.RowKit
set_option maxRecDepth 100000

def tellY (l : List Sp) : List Sp := if l.length ≤ 20 then l else []
def tellB (l : List Sp) : Bool := decide (l.length ≤ 20)
theorem tellY_len (l : List Sp) : (tellY l).length ≤ 20 := by
  unfold tellY
  split
  · assumption
  · simp
theorem itell_own (base : Nat) (v : Value) (xs : List Sp) (w : World) (ho : SOwn base w v xs) : Calls Try.prog 51 #[v] w fun e w' => ∃ v', e = .returned (.tuple #[v', .bool (tellB xs)]) ∧ SOwn base w v' (tellY xs) ∧ w' = w := by
  by_cases h : xs.length ≤ 20
  · refine (itell_yes v xs w ho.reads h).mono fun e w' he => ⟨v, ?_, ?_, he.2⟩
    · rw [he.1]; simp [tellB, h]
    · unfold tellY; rw [if_pos h]; exact ho
  · refine (itell_no v xs w ho.reads h).mono fun e w' he => ⟨.slice none 0 0, ?_, ?_, he.2⟩
    · rw [he.1]; simp [tellB, h]
    · unfold tellY; rw [if_neg h]; exact sown_nil _ _ _
theorem stell_own (base : Nat) (v : Value) (xs : List Sp) (w : World) (ho : SOwn base w v xs) : Calls Try.prog 53 #[v] w fun e w' => ∃ v', e = .returned (.tuple #[v', .bool (tellB xs)]) ∧ SOwn base w v' (tellY xs) ∧ w' = w := by
  by_cases h : xs.length ≤ 20
  · refine (stell_yes v xs w ho.reads h).mono fun e w' he => ⟨v, ?_, ?_, he.2⟩
    · rw [he.1]; simp [tellB, h]
    · unfold tellY; rw [if_pos h]; exact ho
  · refine (stell_no v xs w ho.reads h).mono fun e w' he => ⟨.slice none 0 0, ?_, ?_, he.2⟩
    · rw [he.1]; simp [tellB, h]
    · unfold tellY; rw [if_neg h]; exact sown_nil _ _ _
end Go.Proofs.Ytndbdioignmaeaa
