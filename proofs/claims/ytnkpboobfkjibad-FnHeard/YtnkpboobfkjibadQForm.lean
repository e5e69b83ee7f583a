/-
  Rows of rows of numbers, each in cells of its own: plain facts on the memory.
  Rows of rows of numbers: a row put in the place of another. Plain facts on the memory.
-/
import Derived.Test.YtnkpboobfkjibadKIntRows
namespace Go.Proofs.Ytnkpboobfkjibad
open Go.RowKit

/-- Two stretches of blocks that do not meet. -/
def Dj (a b : Nat × Nat) : Prop := a.2 ≤ b.1 ∨ b.2 ≤ a.1
theorem Dj.symm {a b : Nat × Nat} (h : Dj a b) : Dj b a := Or.symm h
structure Apart (lo hi n : Nat) (iv : Nat → Nat × Nat) : Prop where
  inn : ∀ i, i < n → lo ≤ (iv i).1 ∧ (iv i).1 ≤ (iv i).2 ∧ (iv i).2 ≤ hi
  dj : ∀ i j, i < n → j < n → i ≠ j → Dj (iv i) (iv j)
theorem Apart.mono {lo hi lo' hi' n : Nat} {iv : Nat → Nat × Nat} (h : Apart lo hi n iv) (h1 : lo' ≤ lo) (h2 : hi ≤ hi') : Apart lo' hi' n iv := ⟨fun i hi => by have := h.inn i hi; omega, h.dj⟩
/-- Stretches that do not meet, all of blocks of S. -/
structure Aset (S : Nat → Prop) (n : Nat) (iv : Nat → Nat × Nat) : Prop where
  inn : ∀ i, i < n → (iv i).1 ≤ (iv i).2 ∧ ∀ g, (iv i).1 ≤ g → g < (iv i).2 → S g
  dj : ∀ i j, i < n → j < n → i ≠ j → Dj (iv i) (iv j)
theorem Aset.mono {S S' : Nat → Prop} {n : Nat} {iv : Nat → Nat × Nat} (h : Aset S n iv) (hs : ∀ g, S g → S' g) : Aset S' n iv := ⟨fun i hi => ⟨(h.inn i hi).1, fun g g1 g2 => hs g ((h.inn i hi).2 g g1 g2)⟩, h.dj⟩
def Iv (lo hi : Nat) : Nat → Prop := fun g => lo ≤ g ∧ g < hi
/-- Of the blocks that were there only those of S have turned; new ones may have come. -/
def OnlyS (S : Nat → Prop) (w w' : World) : Prop := ∀ j, j < w.heap.size → ¬ S j → w'.heap[j]? = w.heap[j]?
/-- Of what was there only blocks of P have turned, and none has come. -/
def OnlyP (P : Nat → Prop) (w w' : World) : Prop := w'.heap.size = w.heap.size ∧ (∀ j, ¬ P j → w'.heap[j]? = w.heap[j]?) ∧ (w'.os = w.os ∧ w'.tape = w.tape ∧ w'.output = w.output)
theorem OnlyP.refl (P : Nat → Prop) (w : World) : OnlyP P w w := ⟨rfl, fun _ _ => rfl, rfl, rfl, rfl⟩
theorem OnlyP.trans {P : Nat → Prop} {a b c : World} (h : OnlyP P a b) (k : OnlyP P b c) : OnlyP P a c := ⟨k.1.trans h.1, fun j hj => (k.2.1 j hj).trans (h.2.1 j hj), k.2.2.1.trans h.2.2.1, k.2.2.2.1.trans h.2.2.2.1, k.2.2.2.2.trans h.2.2.2.2⟩
theorem OnlyP.mono {P Q : Nat → Prop} {a b : World} (h : OnlyP P a b) (hq : ∀ j, P j → Q j) : OnlyP Q a b := ⟨h.1, fun j hj => h.2.1 j fun hp => hj (hq j hp), h.2.2⟩
theorem OnlyP.of {lo hi : Nat} {a b : World} (hb : Below lo a b) (ho : Only lo hi a b) : OnlyP (fun j => lo ≤ j ∧ j < hi) a b := ⟨ho.1, fun j hj => ho.2 j (by omega), hb.os, hb.tape, hb.output⟩
theorem OnlyP.below {P : Nat → Prop} {a b : World} (h : OnlyP P a b) {lo : Nat} (hp : ∀ j, P j → lo ≤ j) : Below lo a b := ⟨h.2.2.1, h.2.2.2.1, h.2.2.2.2, by rw [h.1]; exact Nat.le_refl _, fun k hk => h.2.1 k fun q => by have := hp k q; omega⟩
theorem OnlyP.only {P : Nat → Prop} {a b : World} (h : OnlyP P a b) {lo hi : Nat} (hp : ∀ j, P j → lo ≤ j ∧ j < hi) : Only lo hi a b := ⟨h.1, fun j hj => h.2.1 j fun q => by have := hp j q; omega⟩
theorem KOwn.onlyP {lo hi : Nat} {w w' : World} {v : Value} {xs : List KEl} {P : Nat → Prop} (h : KOwn lo hi w v xs) (ho : OnlyP P w w') (hd : ∀ g, lo ≤ g → g < hi → ¬ P g) : KOwn lo hi w' v xs := h.at fun g h1 h2 _ => ho.2.1 g (hd g h1 h2)

/-- Of the blocks that were there only those from lo on, below hi, have turned; new ones may have come. -/
def OnlyN (lo hi : Nat) (w w' : World) : Prop := ∀ j, j < w.heap.size → (j < lo ∨ hi ≤ j) → w'.heap[j]? = w.heap[j]?
theorem KOwn.onlyS {lo hi : Nat} {S : Nat → Prop} {w w' : World} {v : Value} {xs : List KEl} (h : KOwn lo hi w v xs) (ho : OnlyS S w w') (hd : ∀ g, lo ≤ g → g < hi → ¬ S g) : KOwn lo hi w' v xs := h.at fun g h1 h2 h3 => ho g h3 (hd g h1 h2)
theorem KOwn.onlyN {lo hi l h' : Nat} {w w' : World} {v : Value} {xs : List KEl} (h : KOwn lo hi w v xs) (ho : OnlyN l h' w w') (hd : hi ≤ l ∨ h' ≤ lo) : KOwn lo hi w' v xs := h.at fun g h1 h2 h3 => ho g h3 (by omega)
/-- The slice v reads as xss, a row each. -/
def QReads (w : World) (v : Value) (xss : List (List KEl)) : Prop :=
  ∃ a cap, v = .slice a xss.length cap ∧ (xss.length ≤ 1152921504606846975 ∧ xss.length ≤ cap) ∧ (xss = [] ∨ ∃ b off, a = some ⟨b, off, none⟩ ∧ ∀ i, i < xss.length → ∃ u, w.cell? ⟨b, off + i, none⟩ = some u ∧ KReads w u (xss.getD i []))
theorem QReads.cells {w : World} {v : Value} {xss : List (List KEl)} (h : QReads w v xss) (k : Nat) (hk : k < xss.length) : ∃ b off cap, v = .slice (some ⟨b, off, none⟩) xss.length cap ∧ ∀ i, i < xss.length → ∃ u, w.cell? ⟨b, off + i, none⟩ = some u ∧ KReads w u (xss.getD i []) := by
  obtain ⟨a, cap, rfl, _, h⟩ := h
  rcases h with h | ⟨b, off, rfl, hc⟩
  · subst h; simp at hk
  · exact ⟨b, off, cap, rfl, hc⟩
theorem QReads.below {w w' : World} {v : Value} {xss : List (List KEl)} (h : QReads w v xss) (hb : Below w.heap.size w w') : QReads w' v xss := by
  obtain ⟨a, cap, rfl, hl, hx⟩ := h
  refine ⟨a, cap, rfl, hl, ?_⟩
  rcases hx with hx | ⟨b, off, rfl, hc⟩
  · exact .inl hx
  · refine .inr ⟨b, off, rfl, fun i hi => ?_⟩
    obtain ⟨u, h1, h2⟩ := hc i hi
    exact ⟨u, (World.cell?_of_block (a := ⟨b, off + i, none⟩) (hb.block b (lt_of_cell h1))).trans h1, h2.below hb⟩
/-- The slice v reads as xss; its own cells lie in the stretch c, those of row i in the stretch iv i. -/
def QRow (w : World) (c : Nat × Nat) (v : Value) (xss : List (List KEl)) (iv : Nat → Nat × Nat) : Prop :=
  xss.length ≤ 1152921504606846975 ∧ ((∃ a cap, v = .slice a 0 cap ∧ xss = []) ∨ ∃ B cap, ∃ us : Nat → Value, v = .slice (some ⟨B, 0, none⟩) xss.length cap ∧ (c.1 ≤ B ∧ B < c.2 ∧ xss.length ≤ cap) ∧ ∀ i, i < xss.length → w.cell? ⟨B, i, none⟩ = some (us i) ∧ KFree w B i ∧ KOwn (iv i).1 (iv i).2 w (us i) (xss.getD i []))
theorem qrow_nil (w : World) (c : Nat × Nat) (a : Option Addr) (cap : Nat) (iv : Nat → Nat × Nat) : QRow w c (.slice a 0 cap) [] iv := ⟨by simp, .inl ⟨a, cap, rfl, rfl⟩⟩
theorem QRow.reads {w : World} {c : Nat × Nat} {v : Value} {xss : List (List KEl)} {iv : Nat → Nat × Nat} (h : QRow w c v xss iv) : QReads w v xss := by
  obtain ⟨hl, h⟩ := h
  rcases h with ⟨a, cap, rfl, rfl⟩ | ⟨B, cap, us, rfl, hg, hf⟩
  · exact ⟨a, cap, rfl, by simp, .inl rfl⟩
  · exact ⟨_, cap, rfl, ⟨hl, hg.2.2⟩, .inr ⟨B, 0, rfl, fun i hi => ⟨us i, by rw [Nat.zero_add]; exact (hf i hi).1, (hf i hi).2.2.reads⟩⟩⟩
theorem QRow.at {w w' : World} {c : Nat × Nat} {v : Value} {xss : List (List KEl)} {iv : Nat → Nat × Nat} (h : QRow w c v xss iv) (hc : ∀ g, c.1 ≤ g → g < c.2 → g < w.heap.size → w'.heap[g]? = w.heap[g]?) (hi : ∀ i, i < xss.length → ∀ g, (iv i).1 ≤ g → g < (iv i).2 → g < w.heap.size → w'.heap[g]? = w.heap[g]?) : QRow w' c v xss iv := by
  obtain ⟨hl, h⟩ := h
  rcases h with h | ⟨B, cap, us, rfl, hg, hf⟩
  · exact ⟨hl, .inl h⟩
  · refine ⟨hl, .inr ⟨B, cap, us, rfl, hg, fun i hi' => ?_⟩⟩
    obtain ⟨h1, h2, h3⟩ := hf i hi'
    have e := hc B hg.1 hg.2.1 (lt_of_cell h1)
    exact ⟨(World.cell?_of_block (a := ⟨B, i, none⟩) e).trans h1, h2.of_block e, h3.at (hi i hi')⟩
theorem QRow.below {w w' : World} {c : Nat × Nat} {v : Value} {xss : List (List KEl)} {iv : Nat → Nat × Nat} (h : QRow w c v xss iv) (hb : Below w.heap.size w w') : QRow w' c v xss iv := h.at (fun g _ _ hg => hb.block g hg) (fun _ _ g _ _ hg => hb.block g hg)
theorem QRow.onlyP {w w' : World} {c : Nat × Nat} {v : Value} {xss : List (List KEl)} {iv : Nat → Nat × Nat} {P : Nat → Prop} (h : QRow w c v xss iv) (ho : OnlyP P w w') (hc : ∀ g, c.1 ≤ g → g < c.2 → ¬ P g) (hi : ∀ i, i < xss.length → ∀ g, (iv i).1 ≤ g → g < (iv i).2 → ¬ P g) : QRow w' c v xss iv :=
  h.at (fun g h1 h2 _ => ho.2.1 g (hc g h1 h2)) (fun i hi' g h1 h2 _ => ho.2.1 g (hi i hi' g h1 h2))
/-- How many numbers lie in the first rows. -/
def preL (xss : List (List KEl)) (i : Nat) : Nat := ((xss.take i).map List.length).sum
theorem preL_zero (xss : List (List KEl)) : preL xss 0 = 0 := by simp [preL]
theorem preL_succ (xss : List (List KEl)) (i : Nat) (h : i < xss.length) : preL xss (i + 1) = preL xss i + (xss.getD i []).length := by
  unfold preL
  rw [List.take_succ_eq_append_getElem h, List.map_append, List.sum_append]
  simp [List.getD_eq_getElem?_getD, h]
theorem preL_le (xss : List (List KEl)) : ∀ i j, i ≤ j → j ≤ xss.length → preL xss i ≤ preL xss j
  | i, 0, h, _ => by obtain rfl : i = 0 := by omega
                     exact Nat.le_refl _
  | i, j + 1, h, hj => by
    by_cases e : i = j + 1
    · rw [e]; exact Nat.le_refl _
    · have h1 := preL_le xss i j (by omega) (by omega)
      have h2 := preL_succ xss j (by omega)
      omega
theorem preL_row (xss : List (List KEl)) (i : Nat) (h : i < xss.length) : (xss.getD i []).length ≤ preL xss xss.length := by
  have h1 := preL_succ xss i h
  have h2 := preL_le xss (i + 1) xss.length (by omega) (Nat.le_refl _)
  omega
end Go.Proofs.Ytnkpboobfkjibad
namespace Go.Proofs.Ytnkpboobfkjibad
open Go.RowKit

def upd {α : Type} (f : Nat → α) (i : Nat) (x : α) : Nat → α := fun j => if j = i then x else f j
theorem upd_same {α : Type} (f : Nat → α) (i : Nat) (x : α) : upd f i x i = x := if_pos rfl
theorem upd_other {α : Type} (f : Nat → α) {i j : Nat} (x : α) (h : j ≠ i) : upd f i x j = f j := if_neg h
def ivc (c : Nat × Nat) (iv : Nat → Nat × Nat) : Nat → Nat × Nat
  | 0 => c
  | j + 1 => iv j
theorem KOwn.form {lo hi : Nat} {w : World} {v : Value} {xs : List KEl} (h : KOwn lo hi w v xs) : ∃ a cap, v = .slice a xs.length cap := by
  obtain ⟨_, h⟩ := h
  rcases h with ⟨a, cap, rfl, rfl⟩ | ⟨g, cap, rfl, _⟩
  · exact ⟨a, cap, rfl⟩
  · exact ⟨_, cap, rfl⟩
theorem KOwn.sform {lo hi : Nat} {w : World} {v : Value} {xs : List KEl} (h : KOwn lo hi w v xs) : ∃ a n cap, v = .slice a n cap := by
  obtain ⟨a, cap, e⟩ := h.form
  exact ⟨a, _, cap, e⟩
theorem QRow.sform {w : World} {c : Nat × Nat} {v : Value} {xss : List (List KEl)} {iv : Nat → Nat × Nat} (h : QRow w c v xss iv) : ∃ a n cap, v = .slice a n cap := by
  obtain ⟨_, h⟩ := h
  rcases h with ⟨a, cap, rfl, rfl⟩ | ⟨B, cap, us, rfl, _⟩
  · exact ⟨a, _, cap, rfl⟩
  · exact ⟨_, _, cap, rfl⟩
theorem onlyP_set (w : World) (b k : Nat) (u : Value) : OnlyP (fun j => j = b) w (w.setCell ⟨b, k, none⟩ u) :=
  ⟨World.size_setCell _ _ _, fun j hj => Below.heap_setCell _ _ _ _ hj, by simp [World.setCell]⟩
theorem KOwn.setOther {lo hi B i : Nat} {w : World} {v u : Value} {xs : List KEl} (h : KOwn lo hi w v xs) (hB : B < lo ∨ hi ≤ B) : KOwn lo hi (w.setCell ⟨B, i, none⟩ u) v xs :=
  h.at fun g h1 h2 _ => Below.heap_setCell _ _ _ _ (by show g ≠ B; omega)
theorem QRow.set {w : World} {c : Nat × Nat} {B cap n : Nat} {xss : List (List KEl)} {iv : Nat → Nat × Nat} (h : QRow w c (.slice (some ⟨B, 0, none⟩) n cap) xss iv) (hn : xss.length = n) (i : Nat) (hi : i < n) (u : Value) (xs : List KEl) (r : Nat × Nat) (hu : KOwn r.1 r.2 w u xs)
    (hBr : B < r.1 ∨ r.2 ≤ B) (hBi : ∀ j, j < n → Dj c (iv j)) : QRow (w.setCell ⟨B, i, none⟩ u) c (.slice (some ⟨B, 0, none⟩) n cap) (xss.set i xs) (upd iv i r) := by
  obtain ⟨hl, h⟩ := h
  subst hn
  rcases h with ⟨a, cap', e, rfl⟩ | ⟨B', cap', us, e, hg, hf⟩
  · simp at hi
  · cases e
    refine ⟨by rw [List.length_set]; exact hl, .inr ⟨B, cap, upd us i u, by rw [List.length_set], by rw [List.length_set]; exact hg, fun j hj => ?_⟩⟩
    rw [List.length_set] at hj
    obtain ⟨h1, h2, h3⟩ := hf j hj
    have hfr : KFree (w.setCell ⟨B, i, none⟩ u) B j := by unfold KFree at h2 ⊢; simpa using h2
    by_cases e : j = i
    · subst e
      rw [upd_same, upd_same]
      refine ⟨World.cell?_setCell_same _ _ _ h1, hfr, ?_⟩
      have hx : (xss.set j xs).getD j [] = xs := by simp [List.getD_eq_getElem?_getD, hj]
      rw [hx]
      exact hu.setOther hBr
    · rw [upd_other _ _ e, upd_other _ _ e]
      have hx : (xss.set i xs).getD j [] = xss.getD j [] := by simp [List.getD_eq_getElem?_getD, Ne.symm e]
      rw [hx]
      refine ⟨?_, hfr, h3.setOther ?_⟩
      · rw [World.cell?_setCell_other _ _ _ _ (by simp <;> omega)]; exact h1
      · have hd : Dj c (iv j) := hBi j hj
        unfold Dj at hd
        omega
theorem QRow.cell {w : World} {c : Nat × Nat} {B cap n : Nat} {xss : List (List KEl)} {iv : Nat → Nat × Nat} (h : QRow w c (.slice (some ⟨B, 0, none⟩) n cap) xss iv) (hn : xss.length = n) (i : Nat) (hi : i < n) : ∃ u, w.cell? ⟨B, i, none⟩ = some u ∧ w.frozen? ⟨B, i, none⟩ = false ∧ (c.1 ≤ B ∧ B < c.2) ∧ KOwn (iv i).1 (iv i).2 w u (xss.getD i []) := by
  obtain ⟨_, h⟩ := h
  subst hn
  rcases h with ⟨a, cap', e, rfl⟩ | ⟨B', cap', us, e, hg, hf⟩
  · simp at hi
  · cases e
    obtain ⟨h1, h2, h3⟩ := hf i hi
    exact ⟨us i, h1, h2, ⟨hg.1, hg.2.1⟩, h3⟩
theorem Apart.put {lo hi n i : Nat} {c r : Nat × Nat} {iv : Nat → Nat × Nat} {hi' : Nat} (h : Apart lo hi (n + 1) (ivc c iv)) (hr : hi ≤ r.1 ∧ r.1 ≤ r.2 ∧ r.2 ≤ hi') (hi2 : i < n) : Apart lo hi' (n + 1) (ivc c (upd iv i r)) := by
  have hlo : lo ≤ hi := by have := h.inn 0 (by omega); omega
  refine ⟨fun j hj => ?_, fun j k hj hk hne => ?_⟩
  · rcases j with _ | j
    · have := h.inn 0 (by omega); simp only [ivc] at this ⊢; omega
    · by_cases e : j = i
      · subst e; simp only [ivc, upd_same]; omega
      · have := h.inn (j + 1) hj; simp only [ivc] at this; simp only [ivc, upd_other _ _ e]; omega
  · have a1 := h.inn j hj
    have a2 := h.inn k hk
    rcases j with _ | j
    · rcases k with _ | k
      · exact absurd rfl hne
      · by_cases e : k = i
        · subst e; simp only [ivc, upd_same] at a1 ⊢; unfold Dj; omega
        · have := h.dj 0 (k + 1) hj hk hne; simp only [ivc] at this; simpa only [ivc, upd_other _ _ e] using this
    · rcases k with _ | k
      · by_cases e : j = i
        · subst e; simp only [ivc, upd_same] at a2 ⊢; unfold Dj; omega
        · have := h.dj (j + 1) 0 hj hk hne; simp only [ivc] at this; simpa only [ivc, upd_other _ _ e] using this
      · by_cases e : j = i
        · by_cases e2 : k = i
          · omega
          · subst e; simp only [ivc, upd_same, upd_other _ _ e2] at a2 ⊢; unfold Dj; omega
        · by_cases e2 : k = i
          · subst e2; simp only [ivc, upd_same, upd_other _ _ e] at a1 ⊢; unfold Dj; omega
          · have := h.dj (j + 1) (k + 1) hj hk hne; simp only [ivc] at this; simpa only [ivc, upd_other _ _ e, upd_other _ _ e2] using this
theorem Apart.rows {lo hi n : Nat} {c : Nat × Nat} {iv : Nat → Nat × Nat} (h : Apart lo hi (n + 1) (ivc c iv)) : ∀ j, j < n → Dj c (iv j) := fun j hj => h.dj 0 (j + 1) (by omega) (by omega) (by omega)
/-- The first rows of xss, the others empty. -/
def qpart (xss : List (List KEl)) (i : Nat) : List (List KEl) := (List.range xss.length).map fun j => if j < i then xss.getD j [] else []
theorem length_qpart (xss : List (List KEl)) (i : Nat) : (qpart xss i).length = xss.length := by simp [qpart]
theorem qpart_get (xss : List (List KEl)) (i j : Nat) (hj : j < xss.length) : (qpart xss i).getD j [] = if j < i then xss.getD j [] else [] := by simp [qpart, List.getD_eq_getElem?_getD, hj]
theorem qpart_all (xss : List (List KEl)) : qpart xss xss.length = xss := by
  apply List.ext_getElem
  · simp [qpart]
  · intro j h1 h2
    simp [qpart, h2, List.getD_eq_getElem?_getD]
theorem qpart_succ (xss : List (List KEl)) (i : Nat) : (qpart xss i).set i (xss.getD i []) = qpart xss (i + 1) := by
  apply List.ext_getElem
  · simp [qpart]
  · intro j h1 h2
    have hj : j < xss.length := by simpa [qpart] using h2
    by_cases e : i = j
    · subst e; simp [qpart]
    · rw [List.getElem_set_ne e]
      simp only [qpart, List.getElem_map, List.getElem_range]
      by_cases hlt : j < i
      · rw [if_pos hlt, if_pos (by omega)]
      · rw [if_neg hlt, if_neg (by omega)]
theorem KOwn.to {lo hi lo' hi' : Nat} {w : World} {v : Value} {xs : List KEl} (h : KOwn lo hi w v xs) (h1 : lo' ≤ lo) (h2 : hi ≤ hi') : KOwn lo' hi' w v xs := h.mono h1 h2
end Go.Proofs.Ytnkpboobfkjibad
