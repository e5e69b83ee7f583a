/-
  Numbers in the order of their keys, of alike ones the first first: plain arithmetic, no program. (What MooreMath has of it, for chapters without tasks of its kind.)
-/
import Derived.Test.YtdlkilacnnjglaaKIntRows
namespace Go.Proofs.Ytdlkilacnnjglaa

def sumL (p : Nat → Int) : List Nat → Int
  | [] => 0
  | x :: l => p x + sumL p l
theorem sumL_app (p : Nat → Int) (a b : List Nat) : sumL p (a ++ b) = sumL p a + sumL p b := by
  induction a with
  | nil => simp [sumL]
  | cons x a ih => simp only [List.cons_append, sumL, ih]; omega
theorem sumL_perm {p : Nat → Int} {a b : List Nat} (h : a.Perm b) : sumL p a = sumL p b := by
  induction h with
  | nil => rfl
  | cons x _ ih => simp only [sumL, ih]
  | swap x y l => simp only [sumL]; omega
  | trans _ _ h1 h2 => exact h1.trans h2
/-- Nearer by its end, or of alike ones the first. -/
def before (e : Nat → Int) (a b : Nat) : Prop := e a < e b ∨ (e a = e b ∧ a < b)
theorem before_trans {e : Nat → Int} {a b c : Nat} (h1 : before e a b) (h2 : before e b c) : before e a c := by
  unfold before at *
  omega
/-- How many of a list stand ahead of the first one whose end is behind m. -/
def placeE (e : Nat → Int) (m : Int) : List Nat → Nat
  | [] => 0
  | x :: l => if e x ≤ m then placeE e m l + 1 else 0
theorem placeE_le (e : Nat → Int) (m : Int) : ∀ l, placeE e m l ≤ l.length
  | [] => Nat.le_refl _
  | x :: l => by
    have := placeE_le e m l
    unfold placeE
    split
    · simp only [List.length_cons]; omega
    · omega
theorem placeE_ahead (e : Nat → Int) (m : Int) : ∀ (l : List Nat) i, i < placeE e m l → e (l.getD i 0) ≤ m
  | [], i, h => absurd h (by simp [placeE])
  | x :: l, i, h => by
    unfold placeE at h
    split at h
    · cases i with
      | zero => assumption
      | succ i => exact placeE_ahead e m l i (by omega)
    · omega
theorem placeE_at (e : Nat → Int) (m : Int) : ∀ (l : List Nat), placeE e m l < l.length → m < e (l.getD (placeE e m l) 0)
  | [], h => absurd h (by simp [placeE])
  | x :: l, h => by
    unfold placeE at h ⊢
    split at h
    · rename_i hx
      rw [if_pos hx]
      exact placeE_at e m l (by simp only [List.length_cons] at h; omega)
    · rename_i hx
      rw [if_neg hx]
      show m < e x
      omega
/-- It is told by what stands ahead and what stands there. -/
theorem placeE_eq {e : Nat → Int} {m : Int} : ∀ {l : List Nat} {k : Nat}, k ≤ l.length → (∀ i, i < k → e (l.getD i 0) ≤ m) → (k < l.length → m < e (l.getD k 0)) → placeE e m l = k
  | [], k, h, _, _ => by simp only [List.length_nil] at h; simp [placeE]; omega
  | x :: l, k, h, h1, h2 => by
    unfold placeE
    cases k with
    | zero =>
      have := h2 (by simp)
      have h3 : m < e x := this
      rw [if_neg (by omega)]
    | succ k =>
      have h3 : e x ≤ m := h1 0 (by omega)
      rw [if_pos h3, placeE_eq (by simp only [List.length_cons] at h; omega) (fun i hi => h1 (i + 1) (by omega)) (fun hk => h2 (by simp only [List.length_cons]; omega))]
def insE (e : Nat → Int) (l : List Nat) (k : Nat) : List Nat := l.take (placeE e (e k) l) ++ k :: l.drop (placeE e (e k) l)
/-- The first n tasks by their ends, of alike ones the first first. -/
def byEnd (e : Nat → Int) : Nat → List Nat
  | 0 => []
  | n + 1 => insE e (byEnd e n) n
theorem insE_perm (e : Nat → Int) (l : List Nat) (k : Nat) : (insE e l k).Perm (l ++ [k]) := by
  unfold insE
  refine (List.perm_middle).trans ?_
  rw [List.take_append_drop]
  exact (List.perm_append_comm (l₁ := [k]) (l₂ := l))
theorem byEnd_perm (e : Nat → Int) : ∀ n, (byEnd e n).Perm (List.range n)
  | 0 => List.Perm.refl _
  | n + 1 => by
    rw [List.range_succ]
    exact (insE_perm e _ n).trans ((byEnd_perm e n).append_right [n])
theorem byEnd_len (e : Nat → Int) (n : Nat) : (byEnd e n).length = n := by rw [(byEnd_perm e n).length_eq, List.length_range]
theorem byEnd_lt (e : Nat → Int) (n : Nat) {k : Nat} (h : k ∈ byEnd e n) : k < n := List.mem_range.1 ((byEnd_perm e n).mem_iff.1 h)
theorem insE_sorted {e : Nat → Int} {l : List Nat} {k : Nat} (hl : l.Pairwise (before e)) (hk : ∀ x, x ∈ l → x < k) : (insE e l k).Pairwise (before e) := by
  unfold insE
  have htd : l.take (placeE e (e k) l) ++ l.drop (placeE e (e k) l) = l := List.take_append_drop ..
  have hsp : (l.take (placeE e (e k) l) ++ l.drop (placeE e (e k) l)).Pairwise (before e) := by rw [htd]; exact hl
  obtain ⟨h1, h2, h3⟩ := List.pairwise_append.1 hsp
  have hA : ∀ x, x ∈ l.take (placeE e (e k) l) → before e x k := by
    intro x hx
    obtain ⟨i, hi, rfl⟩ := List.mem_iff_getElem.1 hx
    rw [List.length_take] at hi
    have hle := placeE_ahead e (e k) l i (by omega)
    rw [List.getElem_take]
    have e1 : l.getD i 0 = l[i] := by simp [List.getD_eq_getElem?_getD, List.getElem?_eq_getElem (show i < l.length by omega)]
    rw [e1] at hle
    have := hk (l[i]) (List.getElem_mem _)
    unfold before
    omega
  have hB : ∀ x, x ∈ l.drop (placeE e (e k) l) → before e k x := by
    intro x hx
    by_cases hlt : placeE e (e k) l < l.length
    · have hat := placeE_at e (e k) l hlt
      have e1 : l.getD (placeE e (e k) l) 0 = l[placeE e (e k) l] := by simp [List.getD_eq_getElem?_getD, List.getElem?_eq_getElem hlt]
      rw [e1] at hat
      rw [← List.getElem_cons_drop hlt] at hx h2
      rcases List.mem_cons.1 hx with rfl | hx
      · exact .inl hat
      · have := (List.pairwise_cons.1 h2).1 x hx
        unfold before at this ⊢
        omega
    · rw [List.drop_eq_nil_of_le (by omega)] at hx
      cases hx
  refine List.pairwise_append.2 ⟨h1, List.pairwise_cons.2 ⟨hB, h2⟩, ?_⟩
  intro a ha b hb
  rcases List.mem_cons.1 hb with rfl | hb
  · exact hA a ha
  · exact h3 a ha b hb
theorem byEnd_sorted (e : Nat → Int) : ∀ n, (byEnd e n).Pairwise (before e)
  | 0 => List.Pairwise.nil
  | n + 1 => insE_sorted (byEnd_sorted e n) fun _ h => byEnd_lt e n h
theorem byEnd_ends (e : Nat → Int) (n : Nat) : (byEnd e n).Pairwise fun a b => e a ≤ e b := (byEnd_sorted e n).imp fun h => by unfold before at h; omega
/-- It is the only one. -/
theorem byEnd_only {e : Nat → Int} {n : Nat} {l : List Nat} (hp : l.Perm (List.range n)) (hs : l.Pairwise (before e)) : l = byEnd e n :=
  List.Perm.eq_of_pairwise (fun a b _ _ h1 h2 => by unfold before at h1 h2; omega) hs (byEnd_sorted e n) (hp.trans (byEnd_perm e n).symm)

abbrev ofN (a : List Nat) : List Int := a.map fun k : Nat => (k : Int)
end Go.Proofs.Ytdlkilacnnjglaa
