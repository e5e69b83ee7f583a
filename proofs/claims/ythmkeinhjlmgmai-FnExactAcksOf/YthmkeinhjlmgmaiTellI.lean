/-
  impl.ifNotTooMany: what is told of few spans. Nothing is written.
-/
import Derived.Test.YthmkeinhjlmgmaiSpans
namespace Go.Proofs.Ythmkeinhjlmgmai
open Go.RowKit
set_option maxRecDepth 100000

theorem itell_yes (v : Value) (xs : List Sp) (w : World) (hr : SReads w v xs) (h : xs.length ≤ 20) : Calls Try.prog 36 #[v] w fun e w' => e = .returned (.tuple #[v, .bool true]) ∧ w' = w := by
  obtain ⟨a, cap, rfl, _, _⟩ := hr
  go_enter Try.func36, Try.ntmps36
  go_wp2
  go_ret2
  exact ⟨rfl, rfl⟩
theorem itell_no (v : Value) (xs : List Sp) (w : World) (hr : SReads w v xs) (h : ¬ xs.length ≤ 20) : Calls Try.prog 36 #[v] w fun e w' => e = .returned (.tuple #[.slice none 0 0, .bool false]) ∧ w' = w := by
  obtain ⟨a, cap, rfl, _, _⟩ := hr
  go_enter Try.func36, Try.ntmps36
  go_wp2
  go_ret2
  exact ⟨rfl, rfl⟩
def tellY (l : List Sp) : List Sp := if l.length ≤ 20 then l else []
def tellB (l : List Sp) : Bool := decide (l.length ≤ 20)
theorem tellY_len (l : List Sp) : (tellY l).length ≤ 20 := by
  unfold tellY
  split
  · assumption
  · simp
theorem itell_own (base : Nat) (v : Value) (xs : List Sp) (w : World) (ho : SOwn base w v xs) : Calls Try.prog 36 #[v] w fun e w' => ∃ v', e = .returned (.tuple #[v', .bool (tellB xs)]) ∧ SOwn base w v' (tellY xs) ∧ w' = w := by
  by_cases h : xs.length ≤ 20
  · refine (itell_yes v xs w ho.reads h).mono fun e w' he => ⟨v, ?_, ?_, he.2⟩
    · rw [he.1]; simp [tellB, h]
    · unfold tellY; rw [if_pos h]; exact ho
  · refine (itell_no v xs w ho.reads h).mono fun e w' he => ⟨.slice none 0 0, ?_, ?_, he.2⟩
    · rw [he.1]; simp [tellB, h]
    · unfold tellY; rw [if_neg h]; exact sown_nil _ _ _
end Go.Proofs.Ythmkeinhjlmgmai
