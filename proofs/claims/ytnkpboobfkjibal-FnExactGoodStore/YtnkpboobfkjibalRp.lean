/-
  A kind of thing that lies in cells, and rows of such: what they read as, which they own. Plain facts on the memory.
-/
import Derived.Test.YtnkpboobfkjibalKIntRows
import Derived.Test.YtnkpboobfkjibalQForm
namespace Go.Proofs.Ytnkpboobfkjibal
open Go.RowKit

/-- The cells from an offset on. -/
def CellsL (w : World) (b o : Nat) (vs : List Value) : Prop := ∀ j (h : j < vs.length), w.cell? ⟨b, o + j, none⟩ = some vs[j]
def FreeL (w : World) (b o n : Nat) : Prop := ∀ j, j < n → w.frozen? ⟨b, o + j, none⟩ = false
theorem CellsL.of_block {w w' : World} {b o : Nat} {vs : List Value} (h : CellsL w b o vs) (e : w'.heap[b]? = w.heap[b]?) : CellsL w' b o vs :=
  fun j hj => (World.cell?_of_block (a := ⟨b, o + j, none⟩) e).trans (h j hj)
theorem FreeL.of_block {w w' : World} {b o n : Nat} (h : FreeL w b o n) (e : w'.heap[b]? = w.heap[b]?) : FreeL w' b o n :=
  fun j hj => (World.frozen?_of_block (a := ⟨b, o + j, none⟩) e).trans (h j hj)
theorem CellsL.lt {w : World} {b o : Nat} {vs : List Value} (h : CellsL w b o vs) (hn : 0 < vs.length) : b < w.heap.size := lt_of_cell (h 0 hn)
theorem CellsL.below {w w' : World} {b o B : Nat} {vs : List Value} (h : CellsL w b o vs) (hb : Below B w w') (hB : b < B) : CellsL w' b o vs := h.of_block (hb.block b hB)
theorem CellsL.set {w : World} {b o : Nat} {vs : List Value} (h : CellsL w b o vs) (j : Nat) (hj : j < vs.length) (u : Value) : CellsL (w.setCell ⟨b, o + j, none⟩ u) b o (vs.set j u) := by
  intro i hi
  have hi2 : i < vs.length := by rwa [List.length_set] at hi
  by_cases e : i = j
  · subst e
    rw [List.getElem_set_self]
    exact World.cell?_setCell_same _ _ _ (h i hi2)
  · rw [List.getElem_set_ne (Ne.symm e), World.cell?_setCell_other _ _ _ _ (by simp <;> omega)]
    exact h i hi2
theorem CellsL.one {w : World} {b o : Nat} {a0 : Value} (h : CellsL w b o [a0]) : w.cell? ⟨b, o, none⟩ = some a0 := h 0 (by simp)
theorem CellsL.two {w : World} {b o : Nat} {a0 a1 : Value} (h : CellsL w b o [a0, a1]) : w.cell? ⟨b, o, none⟩ = some a0 ∧ w.cell? ⟨b, o + 1, none⟩ = some a1 := ⟨h 0 (by simp), h 1 (by simp)⟩
theorem CellsL.three {w : World} {b o : Nat} {a0 a1 a2 : Value} (h : CellsL w b o [a0, a1, a2]) : w.cell? ⟨b, o, none⟩ = some a0 ∧ w.cell? ⟨b, o + 1, none⟩ = some a1 ∧ w.cell? ⟨b, o + 2, none⟩ = some a2 := ⟨h 0 (by simp), h 1 (by simp), h 2 (by simp)⟩
theorem CellsL.four {w : World} {b o : Nat} {a0 a1 a2 a3 : Value} (h : CellsL w b o [a0, a1, a2, a3]) : w.cell? ⟨b, o, none⟩ = some a0 ∧ w.cell? ⟨b, o + 1, none⟩ = some a1 ∧ w.cell? ⟨b, o + 2, none⟩ = some a2 ∧ w.cell? ⟨b, o + 3, none⟩ = some a3 := ⟨h 0 (by simp), h 1 (by simp), h 2 (by simp), h 3 (by simp)⟩
theorem CellsL.five {w : World} {b o : Nat} {a0 a1 a2 a3 a4 : Value} (h : CellsL w b o [a0, a1, a2, a3, a4]) : w.cell? ⟨b, o, none⟩ = some a0 ∧ w.cell? ⟨b, o + 1, none⟩ = some a1 ∧ w.cell? ⟨b, o + 2, none⟩ = some a2 ∧ w.cell? ⟨b, o + 3, none⟩ = some a3 ∧ w.cell? ⟨b, o + 4, none⟩ = some a4 := ⟨h 0 (by simp), h 1 (by simp), h 2 (by simp), h 3 (by simp), h 4 (by simp)⟩
theorem CellsL.six {w : World} {b o : Nat} {a0 a1 a2 a3 a4 a5 : Value} (h : CellsL w b o [a0, a1, a2, a3, a4, a5]) : w.cell? ⟨b, o, none⟩ = some a0 ∧ w.cell? ⟨b, o + 1, none⟩ = some a1 ∧ w.cell? ⟨b, o + 2, none⟩ = some a2 ∧ w.cell? ⟨b, o + 3, none⟩ = some a3 ∧ w.cell? ⟨b, o + 4, none⟩ = some a4 ∧ w.cell? ⟨b, o + 5, none⟩ = some a5 := ⟨h 0 (by simp), h 1 (by simp), h 2 (by simp), h 3 (by simp), h 4 (by simp), h 5 (by simp)⟩
theorem FreeL.one {w : World} {b o : Nat} (h : FreeL w b o 1) : w.frozen? ⟨b, o, none⟩ = false := h 0 (by omega)
theorem FreeL.two {w : World} {b o : Nat} (h : FreeL w b o 2) : w.frozen? ⟨b, o, none⟩ = false ∧ w.frozen? ⟨b, o + 1, none⟩ = false := ⟨h 0 (by omega), h 1 (by omega)⟩
theorem FreeL.three {w : World} {b o : Nat} (h : FreeL w b o 3) : w.frozen? ⟨b, o, none⟩ = false ∧ w.frozen? ⟨b, o + 1, none⟩ = false ∧ w.frozen? ⟨b, o + 2, none⟩ = false := ⟨h 0 (by omega), h 1 (by omega), h 2 (by omega)⟩
theorem FreeL.four {w : World} {b o : Nat} (h : FreeL w b o 4) : w.frozen? ⟨b, o, none⟩ = false ∧ w.frozen? ⟨b, o + 1, none⟩ = false ∧ w.frozen? ⟨b, o + 2, none⟩ = false ∧ w.frozen? ⟨b, o + 3, none⟩ = false := ⟨h 0 (by omega), h 1 (by omega), h 2 (by omega), h 3 (by omega)⟩
theorem FreeL.five {w : World} {b o : Nat} (h : FreeL w b o 5) : w.frozen? ⟨b, o, none⟩ = false ∧ w.frozen? ⟨b, o + 1, none⟩ = false ∧ w.frozen? ⟨b, o + 2, none⟩ = false ∧ w.frozen? ⟨b, o + 3, none⟩ = false ∧ w.frozen? ⟨b, o + 4, none⟩ = false := ⟨h 0 (by omega), h 1 (by omega), h 2 (by omega), h 3 (by omega), h 4 (by omega)⟩
theorem FreeL.six {w : World} {b o : Nat} (h : FreeL w b o 6) : w.frozen? ⟨b, o, none⟩ = false ∧ w.frozen? ⟨b, o + 1, none⟩ = false ∧ w.frozen? ⟨b, o + 2, none⟩ = false ∧ w.frozen? ⟨b, o + 3, none⟩ = false ∧ w.frozen? ⟨b, o + 4, none⟩ = false ∧ w.frozen? ⟨b, o + 5, none⟩ = false := ⟨h 0 (by omega), h 1 (by omega), h 2 (by omega), h 3 (by omega), h 4 (by omega), h 5 (by omega)⟩

/-- A kind of thing: its cells, what they read as, and that all memory behind them is its own, in blocks of a set. -/
structure Rp (α : Type) where
  n : Nat
  z : α
  R : World → List Value → α → Prop
  O : (Nat → Prop) → World → List Value → α → Prop
  npos : 0 < n
  len : ∀ {w : World} {vs : List Value} {x : α}, R w vs x → vs.length = n
  reads : ∀ {S : Nat → Prop} {w : World} {vs : List Value} {x : α}, O S w vs x → R w vs x
  below : ∀ {w w' : World} {vs : List Value} {x : α}, R w vs x → Below w.heap.size w w' → R w' vs x
  keep : ∀ {S : Nat → Prop} {w w' : World} {vs : List Value} {x : α}, O S w vs x → (∀ g, S g → g < w.heap.size → w'.heap[g]? = w.heap[g]?) → O S w' vs x
  mono : ∀ {S S' : Nat → Prop} {w : World} {vs : List Value} {x : α}, O S w vs x → (∀ j, S j → S' j) → O S' w vs x

variable {α : Type}
theorem Rp.olen (τ : Rp α) {S : Nat → Prop} {w : World} {vs : List Value} {x : α} (h : τ.O S w vs x) : vs.length = τ.n := τ.len (τ.reads h)
theorem Rp.obelow (τ : Rp α) {S : Nat → Prop} {w w' : World} {vs : List Value} {x : α} (h : τ.O S w vs x) (hb : Below w.heap.size w w') : τ.O S w' vs x := τ.keep h fun g _ hg => hb.block g hg
theorem Rp.oonly (τ : Rp α) {S S' : Nat → Prop} {w w' : World} {vs : List Value} {x : α} (h : τ.O S w vs x) (ho : OnlyS S' w w') (hd : ∀ g, S g → S' g → False) : τ.O S w' vs x := τ.keep h fun g h1 h2 => ho g h2 (hd g h1)
theorem Rp.oset (τ : Rp α) {S : Nat → Prop} {w : World} {vs : List Value} {x : α} (h : τ.O S w vs x) (p : Addr) (hp : ¬ S p.block) (u : Value) : τ.O S (w.setCell p u) vs x :=
  τ.keep h fun _ h1 _ => Below.heap_setCell _ _ _ _ (fun e => hp (e ▸ h1))

/-- Things that are literals. -/
def Rp.flat (enc : α → List Value) (n : Nat) (z : α) (hn : 0 < n) (hl : ∀ x, (enc x).length = n) : Rp α where
  n := n
  z := z
  R := fun _ vs x => vs = enc x
  O := fun _ _ vs x => vs = enc x
  npos := hn
  len := fun h => by rw [h]; exact hl _
  reads := fun h => h
  below := fun h _ => h
  keep := fun h _ => h
  mono := fun h _ => h

/-- The slice v reads as xs. -/
def RowR (τ : Rp α) (w : World) (v : Value) (xs : List α) : Prop :=
  ∃ a cap, v = .slice a xs.length cap ∧ (xs.length ≤ 1152921504606846975 ∧ xs.length ≤ cap) ∧ (xs = [] ∨ ∃ b off, a = some ⟨b, off, none⟩ ∧ ∀ i, i < xs.length → ∃ vs, CellsL w b (off + i * τ.n) vs ∧ τ.R w vs (xs.getD i τ.z))
theorem RowR.cells {τ : Rp α} {w : World} {v : Value} {xs : List α} (h : RowR τ w v xs) (k : Nat) (hk : k < xs.length) : ∃ b off cap, v = .slice (some ⟨b, off, none⟩) xs.length cap ∧ ∀ i, i < xs.length → ∃ vs, CellsL w b (off + i * τ.n) vs ∧ τ.R w vs (xs.getD i τ.z) := by
  obtain ⟨a, cap, rfl, _, h⟩ := h
  rcases h with h | ⟨b, off, rfl, hc⟩
  · subst h; simp at hk
  · exact ⟨b, off, cap, rfl, hc⟩
theorem RowR.form {τ : Rp α} {w : World} {v : Value} {xs : List α} (h : RowR τ w v xs) : ∃ a cap, v = .slice a xs.length cap := by
  obtain ⟨a, cap, e, _⟩ := h
  exact ⟨a, cap, e⟩
theorem RowR.below {τ : Rp α} {w w' : World} {v : Value} {xs : List α} (h : RowR τ w v xs) (hb : Below w.heap.size w w') : RowR τ w' v xs := by
  obtain ⟨a, cap, rfl, hl, hx⟩ := h
  refine ⟨a, cap, rfl, hl, ?_⟩
  rcases hx with hx | ⟨b, off, rfl, hc⟩
  · exact .inl hx
  · refine .inr ⟨b, off, rfl, fun i hi => ?_⟩
    obtain ⟨vs, h1, h2⟩ := hc i hi
    exact ⟨vs, h1.below hb (h1.lt (by rw [τ.len h2]; exact τ.npos)), τ.below h2 hb⟩
theorem rowR_nil (τ : Rp α) (w : World) (a : Option Addr) (cap : Nat) : RowR τ w (.slice a 0 cap) [] := ⟨a, cap, rfl, by simp, .inl rfl⟩

/-- A row in block g, with room; T tells of each of its things in which blocks its memory lies. -/
structure RowAt (τ : Rp α) (S : Nat → Prop) (w : World) (g cap : Nat) (T : Nat → Nat → Prop) (xs : List α) : Prop where
  len : xs.length ≤ 1152921504606846975
  room : xs.length ≤ cap
  inS : S g
  sub : ∀ i, i < xs.length → ∀ j, T i j → S j ∧ j ≠ g
  dj : ∀ i k, i < xs.length → k < xs.length → i ≠ k → ∀ j, T i j → T k j → False
  el : ∀ i, i < xs.length → ∃ vs, CellsL w g (i * τ.n) vs ∧ FreeL w g (i * τ.n) τ.n ∧ τ.O (T i) w vs (xs.getD i τ.z)
def RowO (τ : Rp α) (S : Nat → Prop) (w : World) (v : Value) (xs : List α) : Prop :=
  (∃ a cap, v = .slice a 0 cap ∧ xs = []) ∨ ∃ g cap T, v = .slice (some ⟨g, 0, none⟩) xs.length cap ∧ RowAt τ S w g cap T xs
theorem rowO_nil (τ : Rp α) (S : Nat → Prop) (w : World) (a : Option Addr) (cap : Nat) : RowO τ S w (.slice a 0 cap) [] := .inl ⟨a, cap, rfl, rfl⟩
theorem RowO.reads {τ : Rp α} {S : Nat → Prop} {w : World} {v : Value} {xs : List α} (h : RowO τ S w v xs) : RowR τ w v xs := by
  rcases h with ⟨a, cap, rfl, rfl⟩ | ⟨g, cap, T, rfl, h⟩
  · exact rowR_nil _ _ _ _
  · refine ⟨_, cap, rfl, ⟨h.len, h.room⟩, .inr ⟨g, 0, rfl, fun i hi => ?_⟩⟩
    obtain ⟨vs, h1, _, h3⟩ := h.el i hi
    exact ⟨vs, by rw [Nat.zero_add]; exact h1, τ.reads h3⟩
theorem RowAt.keep {τ : Rp α} {S : Nat → Prop} {w w' : World} {g cap : Nat} {T : Nat → Nat → Prop} {xs : List α} (h : RowAt τ S w g cap T xs) (hk : ∀ g, S g → g < w.heap.size → w'.heap[g]? = w.heap[g]?) : RowAt τ S w' g cap T xs :=
  ⟨h.len, h.room, h.inS, h.sub, h.dj, fun i hi => by
    obtain ⟨vs, h1, h2, h3⟩ := h.el i hi
    have e := hk g h.inS (h1.lt (by rw [τ.olen h3]; exact τ.npos))
    exact ⟨vs, h1.of_block e, h2.of_block e, τ.keep h3 fun j hj hl => hk j (h.sub i hi j hj).1 hl⟩⟩
theorem RowAt.below {τ : Rp α} {S : Nat → Prop} {w w' : World} {g cap : Nat} {T : Nat → Nat → Prop} {xs : List α} (h : RowAt τ S w g cap T xs) (hb : Below w.heap.size w w') : RowAt τ S w' g cap T xs := h.keep fun g _ hg => hb.block g hg
theorem RowAt.mono {τ : Rp α} {S S' : Nat → Prop} {w : World} {g cap : Nat} {T : Nat → Nat → Prop} {xs : List α} (h : RowAt τ S w g cap T xs) (hs : ∀ j, S j → S' j) : RowAt τ S' w g cap T xs :=
  ⟨h.len, h.room, hs _ h.inS, fun i hi j hj => ⟨hs _ (h.sub i hi j hj).1, (h.sub i hi j hj).2⟩, h.dj, h.el⟩
theorem RowO.keep {τ : Rp α} {S : Nat → Prop} {w w' : World} {v : Value} {xs : List α} (h : RowO τ S w v xs) (hk : ∀ g, S g → g < w.heap.size → w'.heap[g]? = w.heap[g]?) : RowO τ S w' v xs := by
  rcases h with h | ⟨g, cap, T, rfl, h⟩
  · exact .inl h
  · exact .inr ⟨g, cap, T, rfl, h.keep hk⟩
theorem RowO.mono {τ : Rp α} {S S' : Nat → Prop} {w : World} {v : Value} {xs : List α} (h : RowO τ S w v xs) (hs : ∀ g, S g → S' g) : RowO τ S' w v xs := by
  rcases h with h | ⟨g, cap, T, rfl, h⟩
  · exact .inl h
  · exact .inr ⟨g, cap, T, rfl, h.mono hs⟩
theorem RowO.below {τ : Rp α} {S : Nat → Prop} {w w' : World} {v : Value} {xs : List α} (h : RowO τ S w v xs) (hb : Below w.heap.size w w') : RowO τ S w' v xs := h.keep fun g _ hg => hb.block g hg
theorem RowO.only {τ : Rp α} {S S' : Nat → Prop} {w w' : World} {v : Value} {xs : List α} (h : RowO τ S w v xs) (ho : OnlyS S' w w') (hd : ∀ g, S g → S' g → False) : RowO τ S w' v xs := h.keep fun g h1 h2 => ho g h2 (hd g h1)
theorem RowO.sform {τ : Rp α} {S : Nat → Prop} {w : World} {v : Value} {xs : List α} (h : RowO τ S w v xs) : ∃ a n k, v = .slice a n k := by
  obtain ⟨a, cap, e⟩ := h.reads.form
  exact ⟨a, _, cap, e⟩
theorem RowO.form {τ : Rp α} {S : Nat → Prop} {w : World} {v : Value} {xs : List α} (h : RowO τ S w v xs) : ∃ a k, v = .slice a xs.length k := h.reads.form

/-- All of a row but the thing at i. -/
structure RowRest (τ : Rp α) (S : Nat → Prop) (w : World) (g cap : Nat) (T : Nat → Nat → Prop) (xs : List α) (i : Nat) : Prop where
  len : xs.length ≤ 1152921504606846975
  room : xs.length ≤ cap
  inS : S g
  lt : i < xs.length
  sub : ∀ k, k < xs.length → k ≠ i → ∀ j, T k j → S j ∧ j ≠ g
  dj : ∀ k l, k < xs.length → l < xs.length → k ≠ i → l ≠ i → k ≠ l → ∀ j, T k j → T l j → False
  el : ∀ k, k < xs.length → k ≠ i → ∃ vs, CellsL w g (k * τ.n) vs ∧ FreeL w g (k * τ.n) τ.n ∧ τ.O (T k) w vs (xs.getD k τ.z)
theorem RowAt.rest {τ : Rp α} {S : Nat → Prop} {w : World} {g cap : Nat} {T : Nat → Nat → Prop} {xs : List α} (h : RowAt τ S w g cap T xs) (i : Nat) (hi : i < xs.length) : RowRest τ S w g cap T xs i :=
  ⟨h.len, h.room, h.inS, hi, fun k hk _ => h.sub k hk, fun k l hk hl _ _ => h.dj k l hk hl, fun k hk _ => h.el k hk⟩
theorem RowRest.keep {τ : Rp α} {S : Nat → Prop} {w w' : World} {g cap i : Nat} {T : Nat → Nat → Prop} {xs : List α} (h : RowRest τ S w g cap T xs i) (he : g < w.heap.size → w'.heap[g]? = w.heap[g]?) (hk : ∀ k j, k < xs.length → k ≠ i → T k j → j < w.heap.size → w'.heap[j]? = w.heap[j]?) : RowRest τ S w' g cap T xs i :=
  ⟨h.len, h.room, h.inS, h.lt, h.sub, h.dj, fun k hk' hne => by
    obtain ⟨vs, h1, h2, h3⟩ := h.el k hk' hne
    have e := he (h1.lt (by rw [τ.olen h3]; exact τ.npos))
    exact ⟨vs, h1.of_block e, h2.of_block e, τ.keep h3 fun j hj hl => hk k j hk' hne hj hl⟩⟩
theorem RowRest.below {τ : Rp α} {S : Nat → Prop} {w w' : World} {g cap i : Nat} {T : Nat → Nat → Prop} {xs : List α} (h : RowRest τ S w g cap T xs i) (hb : Below w.heap.size w w') : RowRest τ S w' g cap T xs i := h.keep (fun hg => hb.block g hg) fun _ j _ _ _ hl => hb.block j hl
theorem RowRest.only {τ : Rp α} {S S' : Nat → Prop} {w w' : World} {g cap i : Nat} {T : Nat → Nat → Prop} {xs : List α} (h : RowRest τ S w g cap T xs i) (ho : OnlyS S' w w') (hg : ¬ S' g) (hd : ∀ k j, k < xs.length → k ≠ i → T k j → S' j → False) : RowRest τ S w' g cap T xs i :=
  h.keep (fun hl => ho g hl hg) fun k j hk hne ht hl => ho j hl (hd k j hk hne ht)
theorem RowRest.mono {τ : Rp α} {S S' : Nat → Prop} {w : World} {g cap i : Nat} {T : Nat → Nat → Prop} {xs : List α} (h : RowRest τ S w g cap T xs i) (hs : ∀ g, S g → S' g) : RowRest τ S' w g cap T xs i :=
  ⟨h.len, h.room, hs _ h.inS, h.lt, fun k hk hne j hj => ⟨hs _ (h.sub k hk hne j hj).1, (h.sub k hk hne j hj).2⟩, h.dj, h.el⟩
theorem RowRest.set {τ : Rp α} {S : Nat → Prop} {w : World} {g cap i : Nat} {T : Nat → Nat → Prop} {xs : List α} (h : RowRest τ S w g cap T xs i) (c : Nat) (h1 : i * τ.n ≤ c) (h2 : c < i * τ.n + τ.n) (u : Value) : RowRest τ S (w.setCell ⟨g, c, none⟩ u) g cap T xs i :=
  ⟨h.len, h.room, h.inS, h.lt, h.sub, h.dj, fun k hk hne => by
    obtain ⟨vs, q1, q2, q3⟩ := h.el k hk hne
    have hl := τ.olen q3
    refine ⟨vs, fun j hj => ?_, fun j hj => ?_, τ.oset q3 _ (fun ht => (h.sub k hk hne g ht).2 rfl) u⟩
    · rw [World.cell?_setCell_other _ _ _ _ ?_]
      · exact q1 j hj
      · have hj' : j < τ.n := by omega
        intro e
        have e2 : k * τ.n + j = c := by simpa using e.symm
        rcases Nat.lt_or_gt_of_ne hne with hlt | hlt
        · have := Nat.mul_le_mul_right τ.n (show k + 1 ≤ i by omega)
          rw [Nat.succ_mul] at this
          omega
        · have := Nat.mul_le_mul_right τ.n (show i + 1 ≤ k by omega)
          rw [Nat.succ_mul] at this
          omega
    · simpa using q2 j hj⟩
theorem RowRest.join {τ : Rp α} {S : Nat → Prop} {w : World} {g cap i : Nat} {T : Nat → Nat → Prop} {xs : List α} (h : RowRest τ S w g cap T xs i) {vs : List Value} {x : α} (hc : CellsL w g (i * τ.n) vs) (hf : FreeL w g (i * τ.n) τ.n) {T' : Nat → Prop} (ho : τ.O T' w vs x)
    (hs : ∀ j, T' j → S j ∧ j ≠ g) (hd : ∀ k j, k < xs.length → k ≠ i → T k j → T' j → False) : RowAt τ S w g cap (fun k => if k = i then T' else T k) (xs.set i x) := by
  refine ⟨by rw [List.length_set]; exact h.len, by rw [List.length_set]; exact h.room, h.inS, ?_, ?_, ?_⟩ <;> rw [List.length_set]
  · intro k hk j hj
    by_cases e : k = i
    · rw [if_pos e] at hj; exact hs j hj
    · rw [if_neg e] at hj; exact h.sub k hk e j hj
  · intro k l hk hl hne j h1 h2
    by_cases e : k = i
    · rw [if_pos e] at h1
      rw [if_neg (by omega)] at h2
      exact hd l j hl (by omega) h2 h1
    · rw [if_neg e] at h1
      by_cases e2 : l = i
      · rw [if_pos e2] at h2
        exact hd k j hk e h1 h2
      · rw [if_neg e2] at h2
        exact h.dj k l hk hl e e2 hne j h1 h2
  · intro k hk
    by_cases e : k = i
    · subst e
      rw [if_pos rfl]
      exact ⟨vs, hc, hf, by have hx : (xs.set k x).getD k τ.z = x := by simp [List.getD_eq_getElem?_getD, hk]
                            rw [hx]; exact ho⟩
    · rw [if_neg e]
      obtain ⟨us, q1, q2, q3⟩ := h.el k hk e
      exact ⟨us, q1, q2, by have hx : (xs.set i x).getD k τ.z = xs.getD k τ.z := by simp [List.getD_eq_getElem?_getD, Ne.symm e]
                            rw [hx]; exact q3⟩
theorem RowAt.close {τ : Rp α} {S : Nat → Prop} {w : World} {g cap n : Nat} {T : Nat → Nat → Prop} {xs : List α} (h : RowAt τ S w g cap T xs) (hn : xs.length = n) : RowO τ S w (.slice (some ⟨g, 0, none⟩) n cap) xs := by
  subst hn
  exact .inr ⟨g, cap, T, rfl, h⟩
/-- The first k of xs, then zero ones. -/
def rpart (τ : Rp α) (xs : List α) (k : Nat) : List α := xs.take k ++ List.replicate (xs.length - k) τ.z
theorem length_rpart (τ : Rp α) (xs : List α) (k : Nat) (h : k ≤ xs.length) : (rpart τ xs k).length = xs.length := by simp [rpart]; omega
theorem rpart_zero (τ : Rp α) (xs : List α) : rpart τ xs 0 = List.replicate xs.length τ.z := by simp [rpart]
theorem rpart_all (τ : Rp α) (xs : List α) : rpart τ xs xs.length = xs := by simp [rpart]
theorem rpart_step (τ : Rp α) (xs : List α) (k : Nat) (h : k < xs.length) (d : α) : (rpart τ xs k).set k (xs.getD k d) = rpart τ xs (k + 1) := by
  have e : List.replicate (xs.length - k) τ.z = τ.z :: List.replicate (xs.length - (k + 1)) τ.z := by rw [show xs.length - k = (xs.length - (k + 1)) + 1 by omega, List.replicate_succ]
  unfold rpart
  rw [e, List.set_append_right _ _ (by simp; omega)]
  simp [List.getD_eq_getElem?_getD, h, Nat.min_eq_left (Nat.le_of_lt h)]
  rw [List.take_succ_eq_append_getElem h, List.append_assoc]
  rfl
/-- A row that was made: all cells of each thing hold the zero one's. -/
theorem rowAt_made (τ : Rp α) (S : Nat → Prop) (w : World) (g cap n : Nat) (hn : n ≤ 1152921504606846975) (hc : n ≤ cap) (hS : S g) (zs : List Value) (hz : ∀ w', τ.O (fun _ => False) w' zs τ.z) (h : ∀ i, i < n → CellsL w g (i * τ.n) zs ∧ FreeL w g (i * τ.n) τ.n) : RowAt τ S w g cap (fun _ _ => False) (List.replicate n τ.z) := by
  refine ⟨by simpa using hn, by simpa using hc, hS, fun _ _ _ h => h.elim, fun _ _ _ _ _ _ h => h.elim, fun i hi => ?_⟩
  rw [List.length_replicate] at hi
  refine ⟨zs, (h i hi).1, (h i hi).2, ?_⟩
  have hx : (List.replicate n τ.z).getD i τ.z = τ.z := by simp [List.getD_eq_getElem?_getD, hi]
  rw [hx]
  exact hz _
/-- What is written out in cells, thing by thing, is a row in blocks of its own. -/
theorem getElem?_flatten (n : Nat) (vss : List (List Value)) (hl : ∀ vs ∈ vss, vs.length = n) (i j : Nat) (hi : i < vss.length) (hj : j < n) : (vss.flatten)[i * n + j]? = (vss.getD i [])[j]? := by
  induction vss generalizing i with
  | nil => simp at hi
  | cons vs vss ih =>
    have h0 := hl vs (by simp)
    rcases i with _ | i
    · rw [List.flatten_cons, Nat.zero_mul, Nat.zero_add, List.getElem?_append_left (by omega)]
      rfl
    · rw [List.flatten_cons, List.getElem?_append_right (by rw [h0, Nat.succ_mul]; omega), h0, show (i + 1) * n + j - n = i * n + j by rw [Nat.succ_mul]; omega]
      rw [ih (fun v hv => hl v (by simp [hv])) i (by simpa using hi)]
      rfl
theorem length_flattenN (n : Nat) (vss : List (List Value)) (hl : ∀ vs ∈ vss, vs.length = n) : vss.flatten.length = vss.length * n := by
  induction vss with
  | nil => simp
  | cons vs vss ih =>
    rw [List.flatten_cons, List.length_append, ih (fun v hv => hl v (by simp [hv])), hl vs (by simp), List.length_cons, Nat.succ_mul]
    omega
theorem cellsL_of_owned {w : World} {g : Nat} {cur : Array Value} {t m : Nat} {us : List Value} (hh : w.heap[g]? = some (.cells cur t (0, 0))) (ht : cur.toList.take m = us) (c n : Nat) (vs : List Value) (hv : vs.length = n) (hu : ∀ j, j < n → us[c + j]? = vs[j]?) : CellsL w g c vs ∧ FreeL w g c n := by
  refine ⟨fun j hj => ?_, fun j hj => ?_⟩
  · have h1 := hu j (by omega)
    rw [List.getElem?_eq_getElem hj, ← ht, List.getElem?_take] at h1
    split at h1
    · rw [← h1]
      simp [World.cell?, hh]
    · simp at h1
  · simp [World.frozen?, hh]
end Go.Proofs.Ytnkpboobfkjibal
