/-
  Spans of letters that come one by one. Plain arithmetic.
-/
import Derived.Test.YthmkeinhjlmgmaiSdFns
namespace Go.Proofs.Ythmkeinhjlmgmai

theorem chain_len {p : Int} {l : List Sp} (h : chainB p l = true) : (l.length : Int) ≤ lenL l := by
  induction l generalizing p with
  | nil => simp [lenL]
  | cons x l ih =>
    rw [chain_cons] at h
    have h1 := ih h.2.2
    have h2 := (spB_iff x).1 h.2.1
    simp only [lenL, List.length_cons]
    omega
theorem chain_few {l : List Sp} (h : chainB (-1) l = true) : l.length ≤ 1000000 := by
  have h1 := chain_len h
  have h2 := len_bounds h (by omega)
  omega
theorem acks_chain {xs : List Int} : ∀ k, (∀ i, i < k → 0 ≤ fl xs i ∧ fl xs i ≤ 59) → chainB (-1) (acksU xs k) = true
  | 0, _ => rfl
  | k + 1, h => by
    have h1 := h k (by omega)
    exact addL_chain (acks_chain k fun i hi => h i (by omega)) ((spB_iff _).2 ⟨h1.1, by show fl xs k < fl xs k + 1; omega, by show fl xs k + 1 ≤ 1000000; omega⟩) (by show -1 < fl xs k; omega)
def acksB (xs : List Int) : Bool := oruB xs 60 && decide ((acksU xs xs.length).length ≤ 20)
def acksY (xs : List Int) : List Sp := bif acksB xs then acksU xs xs.length else []
end Go.Proofs.Ythmkeinhjlmgmai
