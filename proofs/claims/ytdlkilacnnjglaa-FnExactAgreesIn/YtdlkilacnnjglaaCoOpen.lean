/-
  The first case of a court that is not final. Plain facts.
-/
import Derived.Test.YtdlkilacnnjglaaCoFns
namespace Go.Proofs.Ytdlkilacnnjglaa
open Go.RowKit

def openB (x : CaEl) : Bool := decide (x.2.2.1 = 0)
def openC : List CaEl → Int
  | [] => -1
  | x :: xs => if openB x = true then 0 else if openC xs < 0 then -1 else openC xs + 1
theorem openC_lo : ∀ cs : List CaEl, -1 ≤ openC cs
  | [] => by decide
  | x :: xs => by
    have := openC_lo xs
    unfold openC
    split
    · omega
    · split <;> omega
theorem openC_at : ∀ (cs : List CaEl) (k : Nat), k < cs.length → (cs.take k).any openB = false → openB (cs.getD k (0, false, 0, 0)) = true → openC cs = k
  | [], _, h, _, _ => by simp at h
  | x :: xs, 0, _, _, h => by
    have h' : openB x = true := h
    unfold openC
    rw [if_pos h']
    rfl
  | x :: xs, k + 1, hk, ha, h => by
    simp only [List.take_succ_cons, List.any_cons, Bool.or_eq_false_iff] at ha
    have ih := openC_at xs k (by simpa using hk) ha.2 (by simpa using h)
    unfold openC
    rw [if_neg (by rw [ha.1]; decide), ih, if_neg (by omega)]
    simp
theorem openC_none : ∀ (cs : List CaEl), cs.any openB = false → openC cs = -1
  | [], _ => rfl
  | x :: xs, h => by
    simp only [List.any_cons, Bool.or_eq_false_iff] at h
    have ih := openC_none xs h.2
    unfold openC
    rw [if_neg (by rw [h.1]; decide), ih, if_pos (by omega)]
theorem openC_le (cs : List CaEl) (h : 0 ≤ openC cs) : ∃ k : Nat, openC cs = k ∧ k < cs.length ∧ openB (cs.getD k (0, false, 0, 0)) = true := by
  induction cs with
  | nil => exact absurd h (by decide)
  | cons x xs ih =>
    unfold openC at h ⊢
    by_cases hx : openB x = true
    · rw [if_pos hx]; exact ⟨0, rfl, by simp, hx⟩
    · rw [if_neg hx] at h ⊢
      by_cases h0 : openC xs < 0
      · rw [if_pos h0] at h; omega
      · rw [if_neg h0] at h ⊢
        obtain ⟨k, e, hk, ho⟩ := ih (by omega)
        exact ⟨k + 1, by rw [e]; simp, by simpa using hk, by simpa using ho⟩
theorem ca_anyT (f : CaEl → Bool) (xs : List CaEl) (k : Nat) (hk : k < xs.length) : (xs.take (k + 1)).any f = ((xs.take k).any f || f (xs.getD k (0, false, 0, 0))) := by
  rw [List.take_succ_eq_append_getElem hk, List.any_append]
  simp [List.getD_eq_getElem?_getD, hk]
theorem agree_of_good {D : CoD} (h : goodC D = true) : D.f1.all (fun x => !oddB x) = true := by
  unfold goodC at h
  rw [Bool.and_eq_true] at h
  rw [List.all_eq_true] at h ⊢
  intro x hx
  have h1 := h.1 x hx
  unfold caseB at h1
  simp only [Bool.and_eq_true] at h1
  exact h1.2.2.2.1
end Go.Proofs.Ytdlkilacnnjglaa
