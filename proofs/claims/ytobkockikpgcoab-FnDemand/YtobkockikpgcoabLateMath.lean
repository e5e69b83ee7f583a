/-
  Schedules, slot by slot and job by job; one job more. Plain arithmetic, no program.
-/
import Derived.Test.YtobkockikpgcoabEdfMath
namespace Go.Proofs.Ytobkockikpgcoab

/-- Slots that tell for each of 24 a job's number, or -1. -/
def goodS (n : Nat) (s : List Int) : Bool := decide (s.length = 24) && s.all fun k => decide (-1 ≤ k ∧ k ≤ (n : Int) - 1)
theorem goodS_len {n : Nat} {s : List Int} (h : goodS n s = true) : s.length = 24 := by
  unfold goodS at h
  rw [Bool.and_eq_true, decide_eq_true_eq] at h
  exact h.1
theorem goodS_at {n : Nat} {s : List Int} (h : goodS n s = true) (t : Nat) (ht : t < 24) : -1 ≤ sl s t ∧ sl s t < n := by
  have hl := goodS_len h
  unfold goodS at h
  rw [Bool.and_eq_true, List.all_eq_true] at h
  have := h.2 (sl s t) (by unfold sl; simp [List.getD_eq_getElem?_getD, show t < s.length by omega])
  rw [decide_eq_true_eq] at this
  omega
/-- What one slot keeps to. -/
def slotOk (l : List JbEl) (s : List Int) (t : Nat) : Bool :=
  decide (sl s t < 0) || (decide ((l.getD (sl s t).toNat (0, 0, 0)).1 ≤ (t : Int)) && decide (cS (sl s) (sl s t).toNat t < (l.getD (sl s t).toNat (0, 0, 0)).2.1))
def schedU (l : List JbEl) (s : List Int) (n : Nat) : Bool := (List.range n).all (slotOk l s)
def schedB (l : List JbEl) (s : List Int) : Bool := schedU l s 24
theorem schedU_succ (l : List JbEl) (s : List Int) (n : Nat) : schedU l s (n + 1) = (schedU l s n && slotOk l s n) := by simp [schedU, List.range_succ, List.all_append]
theorem schedU_no {l : List JbEl} {s : List Int} {t n : Nat} (ht : t < n) (h : slotOk l s t = false) : schedU l s n = false := by
  rw [← Bool.not_eq_true]
  unfold schedU
  rw [List.all_eq_true]
  intro hh
  rw [hh t (List.mem_range.2 ht)] at h
  cases h
/-- What one job keeps to, at a slot of its own. -/
def jobOk (l : List JbEl) (s : List Int) (k t : Nat) : Bool := decide ((l.getD k (0, 0, 0)).1 ≤ (t : Int)) && decide (cS (sl s) k t < (l.getD k (0, 0, 0)).2.1)
theorem schedB_no {l : List JbEl} {s : List Int} {k t : Nat} (ht : t < 24) (e : sl s t = (k : Int)) (h : jobOk l s k t = false) : schedB l s = false := by
  refine schedU_no ht ?_
  unfold slotOk
  rw [e, Int.toNat_natCast]
  unfold jobOk at h
  rw [h]
  simp
theorem schedB_yes {l : List JbEl} {s : List Int} (hg : goodS l.length s = true) (h : ∀ k t, k < l.length → t < 24 → sl s t = (k : Int) → jobOk l s k t = true) : schedB l s = true := by
  unfold schedB schedU
  rw [List.all_eq_true]
  intro t ht
  have ht' := List.mem_range.1 ht
  have hr := goodS_at hg t ht'
  unfold slotOk
  by_cases h0 : sl s t < 0
  · simp [h0]
  · have := h (sl s t).toNat t (by omega) ht' (by omega)
    unfold jobOk at this
    rw [this]
    simp
theorem goodJ_app {l : List JbEl} {x : JbEl} : goodJ (l ++ [x]) = (goodJ l && (jobB x && decide (l.length ≠ 8))) := by
  unfold goodJ
  rw [Bool.eq_iff_iff]
  simp only [List.all_append, List.all_cons, List.all_nil, Bool.and_true, Bool.and_eq_true, decide_eq_true_eq, List.length_append, List.length_cons, List.length_nil]
  constructor
  · rintro ⟨⟨h1, h2⟩, h3⟩
    exact ⟨⟨h1, by omega⟩, h2, by omega⟩
  · rintro ⟨⟨h1, h2⟩, h3, h4⟩
    exact ⟨⟨h1, h3⟩, by omega⟩
def admB (l : List JbEl) (x : JbEl) : Bool := goodJ (l ++ [x]) && meetB (l ++ [x])
def admL (l : List JbEl) (x : JbEl) : List JbEl := if admB l x = true then l ++ [x] else []
theorem dem_app (f t : Int) (l : List JbEl) (x : JbEl) : dem f t (l ++ [x]) = dem f t l + need1 f t x := by
  unfold dem demU
  rw [List.length_append]
  show sumU _ l.length + need1 f t ((l ++ [x]).getD l.length (0, 0, 0)) = _
  rw [show (l ++ [x]).getD l.length (0, 0, 0) = x by simp [List.getD_eq_getElem?_getD]]
  congr 1
  refine sumU_congr fun j hj => ?_
  rw [show (l ++ [x]).getD j (0, 0, 0) = l.getD j (0, 0, 0) by simp [List.getD_eq_getElem?_getD, List.getElem?_append_left hj]]
/-- What is met with one more is met without it. -/
theorem meet_less {l : List JbEl} {x : JbEl} (h : admB l x = true) : goodJ l = true ∧ meetB l = true ∧ meetB (l ++ [x]) = true := by
  unfold admB at h
  rw [Bool.and_eq_true] at h
  have hg := h.1
  rw [goodJ_app, Bool.and_eq_true, Bool.and_eq_true] at hg
  refine ⟨hg.1, ?_, h.2⟩
  rw [meet_iff hg.1]
  intro f t h1 h2
  have := (meet_iff h.1).1 h.2 f t h1 h2
  unfold overB at this ⊢
  rw [decide_eq_false_iff_not] at this ⊢
  rw [dem_app] at this
  have hx := jobB_in hg.2.1
  have : 0 ≤ need1 f t x := by unfold need1; split <;> omega
  omega
end Go.Proofs.Ytobkockikpgcoab
