/-
  Rows of rows of numbers: a row put in the place of another. Plain facts on the memory.
  A row of Span is a slice. Plain facts.
  A struct in a box: its cells, one behind the other. Plain facts on the memory.
  Sender: what it reads as, and which lies in cells of its own. Plain facts on the memory.
-/
import Derived.Test.YtijojdempijhbadQForm
import Derived.Test.YtijojdempijhbadKSpanRows
import Derived.Test.YtijojdempijhbadInts
namespace Go.Proofs.Ytijojdempijhbad
open Go.RowKit

def upd {α : Type} (f : Nat → α) (i : Nat) (x : α) : Nat → α := fun j => if j = i then x else f j
theorem upd_same {α : Type} (f : Nat → α) (i : Nat) (x : α) : upd f i x i = x := if_pos rfl
theorem upd_other {α : Type} (f : Nat → α) {i j : Nat} (x : α) (h : j ≠ i) : upd f i x j = f j := if_neg h
def ivc (c : Nat × Nat) (iv : Nat → Nat × Nat) : Nat → Nat × Nat
  | 0 => c
  | j + 1 => iv j
theorem KOwn.form {lo hi : Nat} {w : World} {v : Value} {xs : List KEl} (h : KOwn lo hi w v xs) : ∃ a cap, v = .slice a xs.length cap := by
  obtain ⟨_, h⟩ := h
  rcases h with ⟨a, cap, rfl, rfl⟩ | ⟨g, cap, rfl, _⟩
  · exact ⟨a, cap, rfl⟩
  · exact ⟨_, cap, rfl⟩
theorem KOwn.sform {lo hi : Nat} {w : World} {v : Value} {xs : List KEl} (h : KOwn lo hi w v xs) : ∃ a n cap, v = .slice a n cap := by
  obtain ⟨a, cap, e⟩ := h.form
  exact ⟨a, _, cap, e⟩
theorem QRow.sform {w : World} {c : Nat × Nat} {v : Value} {xss : List (List KEl)} {iv : Nat → Nat × Nat} (h : QRow w c v xss iv) : ∃ a n cap, v = .slice a n cap := by
  obtain ⟨_, h⟩ := h
  rcases h with ⟨a, cap, rfl, rfl⟩ | ⟨B, cap, us, rfl, _⟩
  · exact ⟨a, _, cap, rfl⟩
  · exact ⟨_, _, cap, rfl⟩
theorem onlyP_set (w : World) (b k : Nat) (u : Value) : OnlyP (fun j => j = b) w (w.setCell ⟨b, k, none⟩ u) :=
  ⟨World.size_setCell _ _ _, fun j hj => Below.heap_setCell _ _ _ _ hj, by simp [World.setCell]⟩
theorem KOwn.setOther {lo hi B i : Nat} {w : World} {v u : Value} {xs : List KEl} (h : KOwn lo hi w v xs) (hB : B < lo ∨ hi ≤ B) : KOwn lo hi (w.setCell ⟨B, i, none⟩ u) v xs :=
  h.at fun g h1 h2 _ => Below.heap_setCell _ _ _ _ (by show g ≠ B; omega)
theorem QRow.set {w : World} {c : Nat × Nat} {B cap n : Nat} {xss : List (List KEl)} {iv : Nat → Nat × Nat} (h : QRow w c (.slice (some ⟨B, 0, none⟩) n cap) xss iv) (hn : xss.length = n) (i : Nat) (hi : i < n) (u : Value) (xs : List KEl) (r : Nat × Nat) (hu : KOwn r.1 r.2 w u xs)
    (hBr : B < r.1 ∨ r.2 ≤ B) (hBi : ∀ j, j < n → Dj c (iv j)) : QRow (w.setCell ⟨B, i, none⟩ u) c (.slice (some ⟨B, 0, none⟩) n cap) (xss.set i xs) (upd iv i r) := by
  obtain ⟨hl, h⟩ := h
  subst hn
  rcases h with ⟨a, cap', e, rfl⟩ | ⟨B', cap', us, e, hg, hf⟩
  · simp at hi
  · cases e
    refine ⟨by rw [List.length_set]; exact hl, .inr ⟨B, cap, upd us i u, by rw [List.length_set], by rw [List.length_set]; exact hg, fun j hj => ?_⟩⟩
    rw [List.length_set] at hj
    obtain ⟨h1, h2, h3⟩ := hf j hj
    have hfr : KFree (w.setCell ⟨B, i, none⟩ u) B j := by unfold KFree at h2 ⊢; simpa using h2
    by_cases e : j = i
    · subst e
      rw [upd_same, upd_same]
      refine ⟨World.cell?_setCell_same _ _ _ h1, hfr, ?_⟩
      have hx : (xss.set j xs).getD j [] = xs := by simp [List.getD_eq_getElem?_getD, hj]
      rw [hx]
      exact hu.setOther hBr
    · rw [upd_other _ _ e, upd_other _ _ e]
      have hx : (xss.set i xs).getD j [] = xss.getD j [] := by simp [List.getD_eq_getElem?_getD, Ne.symm e]
      rw [hx]
      refine ⟨?_, hfr, h3.setOther ?_⟩
      · rw [World.cell?_setCell_other _ _ _ _ (by simp <;> omega)]; exact h1
      · have hd : Dj c (iv j) := hBi j hj
        unfold Dj at hd
        omega
theorem QRow.cell {w : World} {c : Nat × Nat} {B cap n : Nat} {xss : List (List KEl)} {iv : Nat → Nat × Nat} (h : QRow w c (.slice (some ⟨B, 0, none⟩) n cap) xss iv) (hn : xss.length = n) (i : Nat) (hi : i < n) : ∃ u, w.cell? ⟨B, i, none⟩ = some u ∧ w.frozen? ⟨B, i, none⟩ = false ∧ (c.1 ≤ B ∧ B < c.2) ∧ KOwn (iv i).1 (iv i).2 w u (xss.getD i []) := by
  obtain ⟨_, h⟩ := h
  subst hn
  rcases h with ⟨a, cap', e, rfl⟩ | ⟨B', cap', us, e, hg, hf⟩
  · simp at hi
  · cases e
    obtain ⟨h1, h2, h3⟩ := hf i hi
    exact ⟨us i, h1, h2, ⟨hg.1, hg.2.1⟩, h3⟩
theorem Apart.put {lo hi n i : Nat} {c r : Nat × Nat} {iv : Nat → Nat × Nat} {hi' : Nat} (h : Apart lo hi (n + 1) (ivc c iv)) (hr : hi ≤ r.1 ∧ r.1 ≤ r.2 ∧ r.2 ≤ hi') (hi2 : i < n) : Apart lo hi' (n + 1) (ivc c (upd iv i r)) := by
  have hlo : lo ≤ hi := by have := h.inn 0 (by omega); omega
  refine ⟨fun j hj => ?_, fun j k hj hk hne => ?_⟩
  · rcases j with _ | j
    · have := h.inn 0 (by omega); simp only [ivc] at this ⊢; omega
    · by_cases e : j = i
      · subst e; simp only [ivc, upd_same]; omega
      · have := h.inn (j + 1) hj; simp only [ivc] at this; simp only [ivc, upd_other _ _ e]; omega
  · have a1 := h.inn j hj
    have a2 := h.inn k hk
    rcases j with _ | j
    · rcases k with _ | k
      · exact absurd rfl hne
      · by_cases e : k = i
        · subst e; simp only [ivc, upd_same] at a1 ⊢; unfold Dj; omega
        · have := h.dj 0 (k + 1) hj hk hne; simp only [ivc] at this; simpa only [ivc, upd_other _ _ e] using this
    · rcases k with _ | k
      · by_cases e : j = i
        · subst e; simp only [ivc, upd_same] at a2 ⊢; unfold Dj; omega
        · have := h.dj (j + 1) 0 hj hk hne; simp only [ivc] at this; simpa only [ivc, upd_other _ _ e] using this
      · by_cases e : j = i
        · by_cases e2 : k = i
          · omega
          · subst e; simp only [ivc, upd_same, upd_other _ _ e2] at a2 ⊢; unfold Dj; omega
        · by_cases e2 : k = i
          · subst e2; simp only [ivc, upd_same, upd_other _ _ e] at a1 ⊢; unfold Dj; omega
          · have := h.dj (j + 1) (k + 1) hj hk hne; simp only [ivc] at this; simpa only [ivc, upd_other _ _ e, upd_other _ _ e2] using this
theorem Apart.rows {lo hi n : Nat} {c : Nat × Nat} {iv : Nat → Nat × Nat} (h : Apart lo hi (n + 1) (ivc c iv)) : ∀ j, j < n → Dj c (iv j) := fun j hj => h.dj 0 (j + 1) (by omega) (by omega) (by omega)
/-- The first rows of xss, the others empty. -/
def qpart (xss : List (List KEl)) (i : Nat) : List (List KEl) := (List.range xss.length).map fun j => if j < i then xss.getD j [] else []
theorem length_qpart (xss : List (List KEl)) (i : Nat) : (qpart xss i).length = xss.length := by simp [qpart]
theorem qpart_get (xss : List (List KEl)) (i j : Nat) (hj : j < xss.length) : (qpart xss i).getD j [] = if j < i then xss.getD j [] else [] := by simp [qpart, List.getD_eq_getElem?_getD, hj]
theorem qpart_all (xss : List (List KEl)) : qpart xss xss.length = xss := by
  apply List.ext_getElem
  · simp [qpart]
  · intro j h1 h2
    simp [qpart, h2, List.getD_eq_getElem?_getD]
theorem qpart_succ (xss : List (List KEl)) (i : Nat) : (qpart xss i).set i (xss.getD i []) = qpart xss (i + 1) := by
  apply List.ext_getElem
  · simp [qpart]
  · intro j h1 h2
    have hj : j < xss.length := by simpa [qpart] using h2
    by_cases e : i = j
    · subst e; simp [qpart]
    · rw [List.getElem_set_ne e]
      simp only [qpart, List.getElem_map, List.getElem_range]
      by_cases hlt : j < i
      · rw [if_pos hlt, if_pos (by omega)]
      · rw [if_neg hlt, if_neg (by omega)]
theorem KOwn.to {lo hi lo' hi' : Nat} {w : World} {v : Value} {xs : List KEl} (h : KOwn lo hi w v xs) (h1 : lo' ≤ lo) (h2 : hi ≤ hi') : KOwn lo' hi' w v xs := h.mono h1 h2
end Go.Proofs.Ytijojdempijhbad
namespace Go.Proofs.Ytijojdempijhbad
open Go.RowKit

theorem SpOwn.sform {lo hi : Nat} {w : World} {v : Value} {xs : List SpEl} (h : SpOwn lo hi w v xs) : ∃ a n k, v = .slice a n k := by
  rcases h.2 with ⟨a, cap, rfl, _⟩ | ⟨g, cap, rfl, _⟩
  · exact ⟨_, _, _, rfl⟩
  · exact ⟨_, _, _, rfl⟩
theorem SpOwn.onlyP {lo hi : Nat} {w w' : World} {v : Value} {xs : List SpEl} {P : Nat → Prop} (h : SpOwn lo hi w v xs) (ho : OnlyP P w w') (hd : ∀ g, lo ≤ g → g < hi → ¬ P g) : SpOwn lo hi w' v xs := h.at fun g h1 h2 _ => ho.2.1 g (hd g h1 h2)
theorem SpOwn.onlyS {lo hi : Nat} {S : Nat → Prop} {w w' : World} {v : Value} {xs : List SpEl} (h : SpOwn lo hi w v xs) (ho : OnlyS S w w') (hd : ∀ g, lo ≤ g → g < hi → ¬ S g) : SpOwn lo hi w' v xs := h.at fun g h1 h2 h3 => ho g h3 (hd g h1 h2)
end Go.Proofs.Ytijojdempijhbad
namespace Go.Proofs.Ytijojdempijhbad
open Go.RowKit

def BoxL (w : World) (b : Nat) (vs : List Value) : Prop := 0 < vs.length ∧ ∀ i (h : i < vs.length), w.cell? ⟨b, i, none⟩ = some vs[i] ∧ w.frozen? ⟨b, i, none⟩ = false
theorem BoxL.cell {w : World} {b : Nat} {vs : List Value} (h : BoxL w b vs) (i : Nat) (hi : i < vs.length) : w.cell? ⟨b, i, none⟩ = some vs[i] ∧ w.frozen? ⟨b, i, none⟩ = false := h.2 i hi
theorem BoxL.lt {w : World} {b : Nat} {vs : List Value} (h : BoxL w b vs) : b < w.heap.size := lt_of_cell (h.2 0 h.1).1
theorem BoxL.below {w w' : World} {b B : Nat} {vs : List Value} (h : BoxL w b vs) (hb : Below B w w') (hB : b < B) : BoxL w' b vs :=
  ⟨h.1, fun i hi => ⟨(World.cell?_of_block (a := ⟨b, i, none⟩) (hb.block b hB)).trans (h.2 i hi).1, (World.frozen?_of_block (a := ⟨b, i, none⟩) (hb.block b hB)).trans (h.2 i hi).2⟩⟩
theorem BoxL.of_block {w w' : World} {b : Nat} {vs : List Value} (h : BoxL w b vs) (e : w'.heap[b]? = w.heap[b]?) : BoxL w' b vs :=
  ⟨h.1, fun i hi => ⟨(World.cell?_of_block (a := ⟨b, i, none⟩) e).trans (h.2 i hi).1, (World.frozen?_of_block (a := ⟨b, i, none⟩) e).trans (h.2 i hi).2⟩⟩
theorem boxL_new (w : World) (vs : List Value) (t : TypeId) (h : 0 < vs.length := by simp) : BoxL (w.alloc (.cells vs.toArray t)) w.heap.size vs := by
  refine ⟨h, fun i hi => ⟨?_, ?_⟩⟩
  · rw [World.cell?_alloc_new]
    simp [hi]
  · simp
theorem BoxL.set {w : World} {b : Nat} {vs : List Value} (h : BoxL w b vs) (i : Nat) (hi : i < vs.length) (u : Value) : BoxL (w.setCell ⟨b, i, none⟩ u) b (vs.set i u) := by
  refine ⟨by rw [List.length_set]; exact h.1, fun j hj => ?_⟩
  rw [List.length_set] at hj
  refine ⟨?_, by simpa using (h.2 j hj).2⟩
  by_cases e : j = i
  · subst e
    rw [List.getElem_set_self]
    exact World.cell?_setCell_same _ _ _ (h.2 j hi).1
  · rw [List.getElem_set_ne (Ne.symm e), World.cell?_setCell_other _ _ _ _ (by simp <;> omega)]
    exact (h.2 j hj).1
theorem BoxL.two {w : World} {b : Nat} {a0 a1 : Value} (h : BoxL w b [a0, a1]) : w.cell? ⟨b, 0, none⟩ = some a0 ∧ w.cell? ⟨b, 1, none⟩ = some a1 := ⟨(h.2 0 (by simp)).1, (h.2 1 (by simp)).1⟩
theorem BoxL.three {w : World} {b : Nat} {a0 a1 a2 : Value} (h : BoxL w b [a0, a1, a2]) : w.cell? ⟨b, 0, none⟩ = some a0 ∧ w.cell? ⟨b, 1, none⟩ = some a1 ∧ w.cell? ⟨b, 2, none⟩ = some a2 := ⟨(h.2 0 (by simp)).1, (h.2 1 (by simp)).1, (h.2 2 (by simp)).1⟩
theorem BoxL.four {w : World} {b : Nat} {a0 a1 a2 a3 : Value} (h : BoxL w b [a0, a1, a2, a3]) : w.cell? ⟨b, 0, none⟩ = some a0 ∧ w.cell? ⟨b, 1, none⟩ = some a1 ∧ w.cell? ⟨b, 2, none⟩ = some a2 ∧ w.cell? ⟨b, 3, none⟩ = some a3 := ⟨(h.2 0 (by simp)).1, (h.2 1 (by simp)).1, (h.2 2 (by simp)).1, (h.2 3 (by simp)).1⟩
theorem BoxL.five {w : World} {b : Nat} {a0 a1 a2 a3 a4 : Value} (h : BoxL w b [a0, a1, a2, a3, a4]) : w.cell? ⟨b, 0, none⟩ = some a0 ∧ w.cell? ⟨b, 1, none⟩ = some a1 ∧ w.cell? ⟨b, 2, none⟩ = some a2 ∧ w.cell? ⟨b, 3, none⟩ = some a3 ∧ w.cell? ⟨b, 4, none⟩ = some a4 := ⟨(h.2 0 (by simp)).1, (h.2 1 (by simp)).1, (h.2 2 (by simp)).1, (h.2 3 (by simp)).1, (h.2 4 (by simp)).1⟩
end Go.Proofs.Ytijojdempijhbad
namespace Go.Proofs.Ytijojdempijhbad
open Go.RowKit

structure SdD where
  f0 : Int
  f1 : List SpEl
  f2 : List Int
def SdReads (w : World) (v : Value) (D : SdD) : Prop := ∃ v1 v2, v = .agg #[.int .i64 D.f0, v1, v2] ∧ SpReads w v1 D.f1 ∧ KReads w v2 D.f2
def sdIv (c1 c2 : Nat × Nat) : Nat → Nat × Nat
  | 0 => c1
  | 1 => c2
  | _ => (0, 0)
def SdOwn (S : Nat → Prop) (w : World) (v : Value) (D : SdD) : Prop := ∃ v1 v2 c1 c2, v = .agg #[.int .i64 D.f0, v1, v2] ∧ Aset S (2) (sdIv c1 c2) ∧ SpOwn c1.1 c1.2 w v1 D.f1 ∧ KOwn c2.1 c2.2 w v2 D.f2
theorem SdOwn.reads {S : Nat → Prop} {w : World} {v : Value} {D : SdD} (h : SdOwn S w v D) : SdReads w v D := by
  obtain ⟨v1, v2, c1, c2, rfl, _, h1, h2⟩ := h
  exact ⟨v1, v2, rfl, h1.reads, h2.reads⟩
theorem SdOwn.mono {S S' : Nat → Prop} {w : World} {v : Value} {D : SdD} (h : SdOwn S w v D) (hs : ∀ g, S g → S' g) : SdOwn S' w v D := by
  obtain ⟨v1, v2, c1, c2, rfl, ha, hr⟩ := h
  exact ⟨v1, v2, c1, c2, rfl, ha.mono hs, hr⟩
theorem SdOwn.at {S : Nat → Prop} {w w' : World} {v : Value} {D : SdD} (h : SdOwn S w v D) (hk : ∀ g, S g → g < w.heap.size → w'.heap[g]? = w.heap[g]?) : SdOwn S w' v D := by
  obtain ⟨v1, v2, c1, c2, rfl, ha, h1, h2⟩ := h
  have n1 := ha.inn 0 (by omega)
  have n2 := ha.inn 1 (by omega)
  exact ⟨v1, v2, c1, c2, rfl, ha, h1.at fun g g1 g2 g3 => hk g (n1.2 g g1 g2) g3, h2.at fun g g1 g2 g3 => hk g (n2.2 g g1 g2) g3⟩
theorem SdOwn.below {S : Nat → Prop} {w w' : World} {v : Value} {D : SdD} (h : SdOwn S w v D) (hb : Below w.heap.size w w') : SdOwn S w' v D := h.at fun g _ hg => hb.block g hg
theorem SdOwn.onlyS {S S' : Nat → Prop} {w w' : World} {v : Value} {D : SdD} (h : SdOwn S w v D) (ho : OnlyS S' w w') (hd : ∀ g, S g → S' g → False) : SdOwn S w' v D := h.at fun g h1 h2 => ho g h2 (hd g h1)
theorem SdOwn.form {S : Nat → Prop} {w : World} {v : Value} {D : SdD} (h : SdOwn S w v D) : ∃ a1 n1 k1 a2 n2 k2, v = .agg #[.int .i64 D.f0, .slice a1 n1 k1, .slice a2 n2 k2] := by
  obtain ⟨v1, v2, c1, c2, rfl, _, h1, h2⟩ := h
  obtain ⟨a1, n1, k1, rfl⟩ := h1.sform
  obtain ⟨a2, n2, k2, rfl⟩ := h2.sform
  exact ⟨a1, n1, k1, a2, n2, k2, rfl⟩
theorem SdReads.below {w w' : World} {v : Value} {D : SdD} (h : SdReads w v D) (hb : Below w.heap.size w w') : SdReads w' v D := by
  obtain ⟨v1, v2, rfl, h1, h2⟩ := h
  exact ⟨v1, v2, rfl, h1.below hb, h2.below hb⟩
/-- How many numbers lie in its rows. -/
def sdN (D : SdD) : Nat := 2 * D.f1.length + D.f2.length
def sdTot (D : SdD) : Nat := D.f1.length + D.f2.length
end Go.Proofs.Ytijojdempijhbad
