/-
  Rows of rows of numbers, each in cells of its own: plain facts on the memory.
  A row of numbers in blocks of a set. Plain facts on the memory.
-/
import Derived.Test.YtdlkilacnnjglaaKIntRows
namespace Go.Proofs.Ytdlkilacnnjglaa
open Go.RowKit

/-- Two stretches of blocks that do not meet. -/
def Dj (a b : Nat × Nat) : Prop := a.2 ≤ b.1 ∨ b.2 ≤ a.1
theorem Dj.symm {a b : Nat × Nat} (h : Dj a b) : Dj b a := Or.symm h
structure Apart (lo hi n : Nat) (iv : Nat → Nat × Nat) : Prop where
  inn : ∀ i, i < n → lo ≤ (iv i).1 ∧ (iv i).1 ≤ (iv i).2 ∧ (iv i).2 ≤ hi
  dj : ∀ i j, i < n → j < n → i ≠ j → Dj (iv i) (iv j)
theorem Apart.mono {lo hi lo' hi' n : Nat} {iv : Nat → Nat × Nat} (h : Apart lo hi n iv) (h1 : lo' ≤ lo) (h2 : hi ≤ hi') : Apart lo' hi' n iv := ⟨fun i hi => by have := h.inn i hi; omega, h.dj⟩
/-- Stretches that do not meet, all of blocks of S. -/
structure Aset (S : Nat → Prop) (n : Nat) (iv : Nat → Nat × Nat) : Prop where
  inn : ∀ i, i < n → (iv i).1 ≤ (iv i).2 ∧ ∀ g, (iv i).1 ≤ g → g < (iv i).2 → S g
  dj : ∀ i j, i < n → j < n → i ≠ j → Dj (iv i) (iv j)
theorem Aset.mono {S S' : Nat → Prop} {n : Nat} {iv : Nat → Nat × Nat} (h : Aset S n iv) (hs : ∀ g, S g → S' g) : Aset S' n iv := ⟨fun i hi => ⟨(h.inn i hi).1, fun g g1 g2 => hs g ((h.inn i hi).2 g g1 g2)⟩, h.dj⟩
def Iv (lo hi : Nat) : Nat → Prop := fun g => lo ≤ g ∧ g < hi
/-- Of the blocks that were there only those of S have turned; new ones may have come. -/
def OnlyS (S : Nat → Prop) (w w' : World) : Prop := ∀ j, j < w.heap.size → ¬ S j → w'.heap[j]? = w.heap[j]?
/-- Of what was there only blocks of P have turned, and none has come. -/
def OnlyP (P : Nat → Prop) (w w' : World) : Prop := w'.heap.size = w.heap.size ∧ (∀ j, ¬ P j → w'.heap[j]? = w.heap[j]?) ∧ (w'.os = w.os ∧ w'.tape = w.tape ∧ w'.output = w.output)
theorem OnlyP.refl (P : Nat → Prop) (w : World) : OnlyP P w w := ⟨rfl, fun _ _ => rfl, rfl, rfl, rfl⟩
theorem OnlyP.trans {P : Nat → Prop} {a b c : World} (h : OnlyP P a b) (k : OnlyP P b c) : OnlyP P a c := ⟨k.1.trans h.1, fun j hj => (k.2.1 j hj).trans (h.2.1 j hj), k.2.2.1.trans h.2.2.1, k.2.2.2.1.trans h.2.2.2.1, k.2.2.2.2.trans h.2.2.2.2⟩
theorem OnlyP.mono {P Q : Nat → Prop} {a b : World} (h : OnlyP P a b) (hq : ∀ j, P j → Q j) : OnlyP Q a b := ⟨h.1, fun j hj => h.2.1 j fun hp => hj (hq j hp), h.2.2⟩
theorem OnlyP.of {lo hi : Nat} {a b : World} (hb : Below lo a b) (ho : Only lo hi a b) : OnlyP (fun j => lo ≤ j ∧ j < hi) a b := ⟨ho.1, fun j hj => ho.2 j (by omega), hb.os, hb.tape, hb.output⟩
theorem OnlyP.below {P : Nat → Prop} {a b : World} (h : OnlyP P a b) {lo : Nat} (hp : ∀ j, P j → lo ≤ j) : Below lo a b := ⟨h.2.2.1, h.2.2.2.1, h.2.2.2.2, by rw [h.1]; exact Nat.le_refl _, fun k hk => h.2.1 k fun q => by have := hp k q; omega⟩
theorem OnlyP.only {P : Nat → Prop} {a b : World} (h : OnlyP P a b) {lo hi : Nat} (hp : ∀ j, P j → lo ≤ j ∧ j < hi) : Only lo hi a b := ⟨h.1, fun j hj => h.2.1 j fun q => by have := hp j q; omega⟩
theorem KOwn.onlyP {lo hi : Nat} {w w' : World} {v : Value} {xs : List KEl} {P : Nat → Prop} (h : KOwn lo hi w v xs) (ho : OnlyP P w w') (hd : ∀ g, lo ≤ g → g < hi → ¬ P g) : KOwn lo hi w' v xs := h.at fun g h1 h2 _ => ho.2.1 g (hd g h1 h2)

/-- Of the blocks that were there only those from lo on, below hi, have turned; new ones may have come. -/
def OnlyN (lo hi : Nat) (w w' : World) : Prop := ∀ j, j < w.heap.size → (j < lo ∨ hi ≤ j) → w'.heap[j]? = w.heap[j]?
theorem KOwn.onlyS {lo hi : Nat} {S : Nat → Prop} {w w' : World} {v : Value} {xs : List KEl} (h : KOwn lo hi w v xs) (ho : OnlyS S w w') (hd : ∀ g, lo ≤ g → g < hi → ¬ S g) : KOwn lo hi w' v xs := h.at fun g h1 h2 h3 => ho g h3 (hd g h1 h2)
theorem KOwn.onlyN {lo hi l h' : Nat} {w w' : World} {v : Value} {xs : List KEl} (h : KOwn lo hi w v xs) (ho : OnlyN l h' w w') (hd : hi ≤ l ∨ h' ≤ lo) : KOwn lo hi w' v xs := h.at fun g h1 h2 h3 => ho g h3 (by omega)
/-- The slice v reads as xss, a row each. -/
def QReads (w : World) (v : Value) (xss : List (List KEl)) : Prop :=
  ∃ a cap, v = .slice a xss.length cap ∧ (xss.length ≤ 1152921504606846975 ∧ xss.length ≤ cap) ∧ (xss = [] ∨ ∃ b off, a = some ⟨b, off, none⟩ ∧ ∀ i, i < xss.length → ∃ u, w.cell? ⟨b, off + i, none⟩ = some u ∧ KReads w u (xss.getD i []))
theorem QReads.cells {w : World} {v : Value} {xss : List (List KEl)} (h : QReads w v xss) (k : Nat) (hk : k < xss.length) : ∃ b off cap, v = .slice (some ⟨b, off, none⟩) xss.length cap ∧ ∀ i, i < xss.length → ∃ u, w.cell? ⟨b, off + i, none⟩ = some u ∧ KReads w u (xss.getD i []) := by
  obtain ⟨a, cap, rfl, _, h⟩ := h
  rcases h with h | ⟨b, off, rfl, hc⟩
  · subst h; simp at hk
  · exact ⟨b, off, cap, rfl, hc⟩
theorem QReads.below {w w' : World} {v : Value} {xss : List (List KEl)} (h : QReads w v xss) (hb : Below w.heap.size w w') : QReads w' v xss := by
  obtain ⟨a, cap, rfl, hl, hx⟩ := h
  refine ⟨a, cap, rfl, hl, ?_⟩
  rcases hx with hx | ⟨b, off, rfl, hc⟩
  · exact .inl hx
  · refine .inr ⟨b, off, rfl, fun i hi => ?_⟩
    obtain ⟨u, h1, h2⟩ := hc i hi
    exact ⟨u, (World.cell?_of_block (a := ⟨b, off + i, none⟩) (hb.block b (lt_of_cell h1))).trans h1, h2.below hb⟩
/-- The slice v reads as xss; its own cells lie in the stretch c, those of row i in the stretch iv i. -/
def QRow (w : World) (c : Nat × Nat) (v : Value) (xss : List (List KEl)) (iv : Nat → Nat × Nat) : Prop :=
  xss.length ≤ 1152921504606846975 ∧ ((∃ a cap, v = .slice a 0 cap ∧ xss = []) ∨ ∃ B cap, ∃ us : Nat → Value, v = .slice (some ⟨B, 0, none⟩) xss.length cap ∧ (c.1 ≤ B ∧ B < c.2 ∧ xss.length ≤ cap) ∧ ∀ i, i < xss.length → w.cell? ⟨B, i, none⟩ = some (us i) ∧ KFree w B i ∧ KOwn (iv i).1 (iv i).2 w (us i) (xss.getD i []))
theorem qrow_nil (w : World) (c : Nat × Nat) (a : Option Addr) (cap : Nat) (iv : Nat → Nat × Nat) : QRow w c (.slice a 0 cap) [] iv := ⟨by simp, .inl ⟨a, cap, rfl, rfl⟩⟩
theorem QRow.reads {w : World} {c : Nat × Nat} {v : Value} {xss : List (List KEl)} {iv : Nat → Nat × Nat} (h : QRow w c v xss iv) : QReads w v xss := by
  obtain ⟨hl, h⟩ := h
  rcases h with ⟨a, cap, rfl, rfl⟩ | ⟨B, cap, us, rfl, hg, hf⟩
  · exact ⟨a, cap, rfl, by simp, .inl rfl⟩
  · exact ⟨_, cap, rfl, ⟨hl, hg.2.2⟩, .inr ⟨B, 0, rfl, fun i hi => ⟨us i, by rw [Nat.zero_add]; exact (hf i hi).1, (hf i hi).2.2.reads⟩⟩⟩
theorem QRow.at {w w' : World} {c : Nat × Nat} {v : Value} {xss : List (List KEl)} {iv : Nat → Nat × Nat} (h : QRow w c v xss iv) (hc : ∀ g, c.1 ≤ g → g < c.2 → g < w.heap.size → w'.heap[g]? = w.heap[g]?) (hi : ∀ i, i < xss.length → ∀ g, (iv i).1 ≤ g → g < (iv i).2 → g < w.heap.size → w'.heap[g]? = w.heap[g]?) : QRow w' c v xss iv := by
  obtain ⟨hl, h⟩ := h
  rcases h with h | ⟨B, cap, us, rfl, hg, hf⟩
  · exact ⟨hl, .inl h⟩
  · refine ⟨hl, .inr ⟨B, cap, us, rfl, hg, fun i hi' => ?_⟩⟩
    obtain ⟨h1, h2, h3⟩ := hf i hi'
    have e := hc B hg.1 hg.2.1 (lt_of_cell h1)
    exact ⟨(World.cell?_of_block (a := ⟨B, i, none⟩) e).trans h1, h2.of_block e, h3.at (hi i hi')⟩
theorem QRow.below {w w' : World} {c : Nat × Nat} {v : Value} {xss : List (List KEl)} {iv : Nat → Nat × Nat} (h : QRow w c v xss iv) (hb : Below w.heap.size w w') : QRow w' c v xss iv := h.at (fun g _ _ hg => hb.block g hg) (fun _ _ g _ _ hg => hb.block g hg)
theorem QRow.onlyP {w w' : World} {c : Nat × Nat} {v : Value} {xss : List (List KEl)} {iv : Nat → Nat × Nat} {P : Nat → Prop} (h : QRow w c v xss iv) (ho : OnlyP P w w') (hc : ∀ g, c.1 ≤ g → g < c.2 → ¬ P g) (hi : ∀ i, i < xss.length → ∀ g, (iv i).1 ≤ g → g < (iv i).2 → ¬ P g) : QRow w' c v xss iv :=
  h.at (fun g h1 h2 _ => ho.2.1 g (hc g h1 h2)) (fun i hi' g h1 h2 _ => ho.2.1 g (hi i hi' g h1 h2))
/-- How many numbers lie in the first rows. -/
def preL (xss : List (List KEl)) (i : Nat) : Nat := ((xss.take i).map List.length).sum
theorem preL_zero (xss : List (List KEl)) : preL xss 0 = 0 := by simp [preL]
theorem preL_succ (xss : List (List KEl)) (i : Nat) (h : i < xss.length) : preL xss (i + 1) = preL xss i + (xss.getD i []).length := by
  unfold preL
  rw [List.take_succ_eq_append_getElem h, List.map_append, List.sum_append]
  simp [List.getD_eq_getElem?_getD, h]
theorem preL_le (xss : List (List KEl)) : ∀ i j, i ≤ j → j ≤ xss.length → preL xss i ≤ preL xss j
  | i, 0, h, _ => by obtain rfl : i = 0 := by omega
                     exact Nat.le_refl _
  | i, j + 1, h, hj => by
    by_cases e : i = j + 1
    · rw [e]; exact Nat.le_refl _
    · have h1 := preL_le xss i j (by omega) (by omega)
      have h2 := preL_succ xss j (by omega)
      omega
theorem preL_row (xss : List (List KEl)) (i : Nat) (h : i < xss.length) : (xss.getD i []).length ≤ preL xss xss.length := by
  have h1 := preL_succ xss i h
  have h2 := preL_le xss (i + 1) xss.length (by omega) (Nat.le_refl _)
  omega
end Go.Proofs.Ytdlkilacnnjglaa
namespace Go.Proofs.Ytdlkilacnnjglaa
open Go.RowKit

def KOwnS (S : Nat → Prop) (w : World) (v : Value) (xs : List KEl) : Prop := ∃ l e, KOwn l e w v xs ∧ ∀ g, l ≤ g → g < e → S g
theorem KOwnS.reads {S : Nat → Prop} {w : World} {v : Value} {xs : List KEl} (h : KOwnS S w v xs) : KReads w v xs := by
  obtain ⟨l, e, h, _⟩ := h
  exact h.reads
theorem KOwnS.below {S : Nat → Prop} {w w' : World} {v : Value} {xs : List KEl} (h : KOwnS S w v xs) (hb : Below w.heap.size w w') : KOwnS S w' v xs := by
  obtain ⟨l, e, h, hs⟩ := h
  exact ⟨l, e, h.below hb, hs⟩
theorem KOwnS.onlyS {S S' : Nat → Prop} {w w' : World} {v : Value} {xs : List KEl} (h : KOwnS S w v xs) (ho : OnlyS S' w w') (hd : ∀ g, S g → S' g → False) : KOwnS S w' v xs := by
  obtain ⟨l, e, h, hs⟩ := h
  exact ⟨l, e, h.at fun g g1 g2 g3 => ho g g3 (hd g (hs g g1 g2)), hs⟩
theorem KOwn.inS {lo hi : Nat} {w : World} {v : Value} {xs : List KEl} (h : KOwn lo hi w v xs) : KOwnS (Iv lo hi) w v xs := ⟨lo, hi, h, fun _ h1 h2 => ⟨h1, h2⟩⟩
theorem KOwnS.on {l e : Nat} {S : Nat → Prop} {w w' : World} (hS : ∀ g, l ≤ g → g < e → S g) (on : Only l e w w') : OnlyS S w w' := fun j _ hj => on.2 j (by
  by_cases h1 : j < l
  · exact .inl h1
  · by_cases h2 : e ≤ j
    · exact .inr h2
    · exact absurd (hS j (by omega) (by omega)) hj)
/-- Behind the numbering of a row in blocks of S, all from lo on: nothing ahead of lo is touched. -/
theorem KOwnS.frame {l e lo : Nat} {S : Nat → Prop} {w w' : World} {v : Value} {xs : List KEl} (_h : KOwn l e w v xs) (hS : ∀ g, l ≤ g → g < e → S g) (hlo : ∀ g, S g → lo ≤ g) (_hw : lo ≤ w.heap.size) (b : Below l w w') (on : Only l e w w') : Below lo w w' :=
  ⟨b.os, b.tape, b.output, b.size, fun k hk => on.2 k (by
    by_cases h1 : k < l
    · exact .inl h1
    · by_cases h2 : e ≤ k
      · exact .inr h2
      · have := hlo k (hS k (by omega) (by omega))
        omega)⟩
end Go.Proofs.Ytdlkilacnnjglaa
