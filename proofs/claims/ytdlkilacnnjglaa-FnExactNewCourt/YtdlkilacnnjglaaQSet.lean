/-
  Rows of rows of numbers: a row put in the place of another. Plain facts on the memory.
-/
import Derived.Test.YtdlkilacnnjglaaQForm
namespace Go.Proofs.Ytdlkilacnnjglaa
open Go.RowKit

def upd {α : Type} (f : Nat → α) (i : Nat) (x : α) : Nat → α := fun j => if j = i then x else f j
theorem upd_same {α : Type} (f : Nat → α) (i : Nat) (x : α) : upd f i x i = x := if_pos rfl
theorem upd_other {α : Type} (f : Nat → α) {i j : Nat} (x : α) (h : j ≠ i) : upd f i x j = f j := if_neg h
def ivc (c : Nat × Nat) (iv : Nat → Nat × Nat) : Nat → Nat × Nat
  | 0 => c
  | j + 1 => iv j
theorem KOwn.form {lo hi : Nat} {w : World} {v : Value} {xs : List KEl} (h : KOwn lo hi w v xs) : ∃ a cap, v = .slice a xs.length cap := by
  obtain ⟨_, h⟩ := h
  rcases h with ⟨a, cap, rfl, rfl⟩ | ⟨g, cap, rfl, _⟩
  · exact ⟨a, cap, rfl⟩
  · exact ⟨_, cap, rfl⟩
theorem KOwn.sform {lo hi : Nat} {w : World} {v : Value} {xs : List KEl} (h : KOwn lo hi w v xs) : ∃ a n cap, v = .slice a n cap := by
  obtain ⟨a, cap, e⟩ := h.form
  exact ⟨a, _, cap, e⟩
theorem QRow.sform {w : World} {c : Nat × Nat} {v : Value} {xss : List (List KEl)} {iv : Nat → Nat × Nat} (h : QRow w c v xss iv) : ∃ a n cap, v = .slice a n cap := by
  obtain ⟨_, h⟩ := h
  rcases h with ⟨a, cap, rfl, rfl⟩ | ⟨B, cap, us, rfl, _⟩
  · exact ⟨a, _, cap, rfl⟩
  · exact ⟨_, _, cap, rfl⟩
theorem onlyP_set (w : World) (b k : Nat) (u : Value) : OnlyP (fun j => j = b) w (w.setCell ⟨b, k, none⟩ u) :=
  ⟨World.size_setCell _ _ _, fun j hj => Below.heap_setCell _ _ _ _ hj, by simp [World.setCell]⟩
theorem KOwn.setOther {lo hi B i : Nat} {w : World} {v u : Value} {xs : List KEl} (h : KOwn lo hi w v xs) (hB : B < lo ∨ hi ≤ B) : KOwn lo hi (w.setCell ⟨B, i, none⟩ u) v xs :=
  h.at fun g h1 h2 _ => Below.heap_setCell _ _ _ _ (by show g ≠ B; omega)
theorem QRow.set {w : World} {c : Nat × Nat} {B cap n : Nat} {xss : List (List KEl)} {iv : Nat → Nat × Nat} (h : QRow w c (.slice (some ⟨B, 0, none⟩) n cap) xss iv) (hn : xss.length = n) (i : Nat) (hi : i < n) (u : Value) (xs : List KEl) (r : Nat × Nat) (hu : KOwn r.1 r.2 w u xs)
    (hBr : B < r.1 ∨ r.2 ≤ B) (hBi : ∀ j, j < n → Dj c (iv j)) : QRow (w.setCell ⟨B, i, none⟩ u) c (.slice (some ⟨B, 0, none⟩) n cap) (xss.set i xs) (upd iv i r) := by
  obtain ⟨hl, h⟩ := h
  subst hn
  rcases h with ⟨a, cap', e, rfl⟩ | ⟨B', cap', us, e, hg, hf⟩
  · simp at hi
  · cases e
    refine ⟨by rw [List.length_set]; exact hl, .inr ⟨B, cap, upd us i u, by rw [List.length_set], by rw [List.length_set]; exact hg, fun j hj => ?_⟩⟩
    rw [List.length_set] at hj
    obtain ⟨h1, h2, h3⟩ := hf j hj
    have hfr : KFree (w.setCell ⟨B, i, none⟩ u) B j := by unfold KFree at h2 ⊢; simpa using h2
    by_cases e : j = i
    · subst e
      rw [upd_same, upd_same]
      refine ⟨World.cell?_setCell_same _ _ _ h1, hfr, ?_⟩
      have hx : (xss.set j xs).getD j [] = xs := by simp [List.getD_eq_getElem?_getD, hj]
      rw [hx]
      exact hu.setOther hBr
    · rw [upd_other _ _ e, upd_other _ _ e]
      have hx : (xss.set i xs).getD j [] = xss.getD j [] := by simp [List.getD_eq_getElem?_getD, Ne.symm e]
      rw [hx]
      refine ⟨?_, hfr, h3.setOther ?_⟩
      · rw [World.cell?_setCell_other _ _ _ _ (by simp <;> omega)]; exact h1
      · have hd : Dj c (iv j) := hBi j hj
        unfold Dj at hd
        omega
theorem QRow.cell {w : World} {c : Nat × Nat} {B cap n : Nat} {xss : List (List KEl)} {iv : Nat → Nat × Nat} (h : QRow w c (.slice (some ⟨B, 0, none⟩) n cap) xss iv) (hn : xss.length = n) (i : Nat) (hi : i < n) : ∃ u, w.cell? ⟨B, i, none⟩ = some u ∧ w.frozen? ⟨B, i, none⟩ = false ∧ (c.1 ≤ B ∧ B < c.2) ∧ KOwn (iv i).1 (iv i).2 w u (xss.getD i []) := by
  obtain ⟨_, h⟩ := h
  subst hn
  rcases h with ⟨a, cap', e, rfl⟩ | ⟨B', cap', us, e, hg, hf⟩
  · simp at hi
  · cases e
    obtain ⟨h1, h2, h3⟩ := hf i hi
    exact ⟨us i, h1, h2, ⟨hg.1, hg.2.1⟩, h3⟩
theorem Apart.put {lo hi n i : Nat} {c r : Nat × Nat} {iv : Nat → Nat × Nat} {hi' : Nat} (h : Apart lo hi (n + 1) (ivc c iv)) (hr : hi ≤ r.1 ∧ r.1 ≤ r.2 ∧ r.2 ≤ hi') (hi2 : i < n) : Apart lo hi' (n + 1) (ivc c (upd iv i r)) := by
  have hlo : lo ≤ hi := by have := h.inn 0 (by omega); omega
  refine ⟨fun j hj => ?_, fun j k hj hk hne => ?_⟩
  · rcases j with _ | j
    · have := h.inn 0 (by omega); simp only [ivc] at this ⊢; omega
    · by_cases e : j = i
      · subst e; simp only [ivc, upd_same]; omega
      · have := h.inn (j + 1) hj; simp only [ivc] at this; simp only [ivc, upd_other _ _ e]; omega
  · have a1 := h.inn j hj
    have a2 := h.inn k hk
    rcases j with _ | j
    · rcases k with _ | k
      · exact absurd rfl hne
      · by_cases e : k = i
        · subst e; simp only [ivc, upd_same] at a1 ⊢; unfold Dj; omega
        · have := h.dj 0 (k + 1) hj hk hne; simp only [ivc] at this; simpa only [ivc, upd_other _ _ e] using this
    · rcases k with _ | k
      · by_cases e : j = i
        · subst e; simp only [ivc, upd_same] at a2 ⊢; unfold Dj; omega
        · have := h.dj (j + 1) 0 hj hk hne; simp only [ivc] at this; simpa only [ivc, upd_other _ _ e] using this
      · by_cases e : j = i
        · by_cases e2 : k = i
          · omega
          · subst e; simp only [ivc, upd_same, upd_other _ _ e2] at a2 ⊢; unfold Dj; omega
        · by_cases e2 : k = i
          · subst e2; simp only [ivc, upd_same, upd_other _ _ e] at a1 ⊢; unfold Dj; omega
          · have := h.dj (j + 1) (k + 1) hj hk hne; simp only [ivc] at this; simpa only [ivc, upd_other _ _ e, upd_other _ _ e2] using this
theorem Apart.rows {lo hi n : Nat} {c : Nat × Nat} {iv : Nat → Nat × Nat} (h : Apart lo hi (n + 1) (ivc c iv)) : ∀ j, j < n → Dj c (iv j) := fun j hj => h.dj 0 (j + 1) (by omega) (by omega) (by omega)
/-- The first rows of xss, the others empty. -/
def qpart (xss : List (List KEl)) (i : Nat) : List (List KEl) := (List.range xss.length).map fun j => if j < i then xss.getD j [] else []
theorem length_qpart (xss : List (List KEl)) (i : Nat) : (qpart xss i).length = xss.length := by simp [qpart]
theorem qpart_get (xss : List (List KEl)) (i j : Nat) (hj : j < xss.length) : (qpart xss i).getD j [] = if j < i then xss.getD j [] else [] := by simp [qpart, List.getD_eq_getElem?_getD, hj]
theorem qpart_all (xss : List (List KEl)) : qpart xss xss.length = xss := by
  apply List.ext_getElem
  · simp [qpart]
  · intro j h1 h2
    simp [qpart, h2, List.getD_eq_getElem?_getD]
theorem qpart_succ (xss : List (List KEl)) (i : Nat) : (qpart xss i).set i (xss.getD i []) = qpart xss (i + 1) := by
  apply List.ext_getElem
  · simp [qpart]
  · intro j h1 h2
    have hj : j < xss.length := by simpa [qpart] using h2
    by_cases e : i = j
    · subst e; simp [qpart]
    · rw [List.getElem_set_ne e]
      simp only [qpart, List.getElem_map, List.getElem_range]
      by_cases hlt : j < i
      · rw [if_pos hlt, if_pos (by omega)]
      · rw [if_neg hlt, if_neg (by omega)]
theorem KOwn.to {lo hi lo' hi' : Nat} {w : World} {v : Value} {xs : List KEl} (h : KOwn lo hi w v xs) (h1 : lo' ≤ lo) (h2 : hi ≤ hi') : KOwn lo' hi' w v xs := h.mono h1 h2
end Go.Proofs.Ytdlkilacnnjglaa
