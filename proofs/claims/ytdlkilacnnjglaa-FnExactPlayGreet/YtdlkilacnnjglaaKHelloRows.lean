/-
  Slices of Hello (a struct of 3 numbers): what they read as, which are new: plain facts on the memory.
-/
import Derived.Test.YtdlkilacnnjglaaInts
namespace Go.Proofs.Ytdlkilacnnjglaa
open Go.RowKit

abbrev HeEl := Int × Int × Int
theorem info_hello : (Try.prog.info? 116).map (fun i => (i.zero, i.size, i.bytes)) = some (some (.agg #[.int .i64 0, .int .i64 0, .int .i64 0]), 3, 24) := by kernel_rfl

/-- The cells of one, from an offset on. -/
def HeCells (w : World) (b o : Nat) (x : HeEl) : Prop := w.cell? ⟨b, o, none⟩ = some (.int .i64 x.1) ∧ w.cell? ⟨b, o + 1, none⟩ = some (.int .i64 x.2.1) ∧ w.cell? ⟨b, o + 2, none⟩ = some (.int .i64 x.2.2)
def HeFree (w : World) (b o : Nat) : Prop := w.frozen? ⟨b, o, none⟩ = false ∧ w.frozen? ⟨b, o + 1, none⟩ = false ∧ w.frozen? ⟨b, o + 2, none⟩ = false
theorem HeCells.of_block {w w' : World} {b o : Nat} {x : HeEl} (h : HeCells w b o x) (e : w'.heap[b]? = w.heap[b]?) : HeCells w' b o x :=
  ⟨(World.cell?_of_block (a := ⟨b, o, none⟩) e).trans h.1, (World.cell?_of_block (a := ⟨b, o + 1, none⟩) e).trans h.2.1, (World.cell?_of_block (a := ⟨b, o + 2, none⟩) e).trans h.2.2⟩
theorem HeFree.of_block {w w' : World} {b o : Nat} (h : HeFree w b o) (e : w'.heap[b]? = w.heap[b]?) : HeFree w' b o :=
  ⟨(World.frozen?_of_block (a := ⟨b, o, none⟩) e).trans h.1, (World.frozen?_of_block (a := ⟨b, o + 1, none⟩) e).trans h.2.1, (World.frozen?_of_block (a := ⟨b, o + 2, none⟩) e).trans h.2.2⟩
theorem HeCells.lt {w : World} {b o : Nat} {x : HeEl} (h : HeCells w b o x) : b < w.heap.size := lt_of_cell h.1
theorem HeCells.below {w w' : World} {b o B : Nat} {x : HeEl} (h : HeCells w b o x) (hb : Below B w w') (hB : b < B) : HeCells w' b o x := h.of_block (hb.block b hB)

/-- The slice v reads as xs. -/
def HeReads (w : World) (v : Value) (xs : List HeEl) : Prop :=
  ∃ a cap, v = .slice a xs.length cap ∧ (xs.length ≤ 1152921504606846975 ∧ xs.length ≤ cap) ∧ (xs = [] ∨ ∃ b off, a = some ⟨b, off, none⟩ ∧ ∀ i, i < xs.length → HeCells w b (off + i * 3) (xs.getD i (0, 0, 0)))
/-- The slice v reads as xs, in cells of its own, in blocks from lo on, below hi, that may be written; or it is empty and has no room. -/
def HeOwn (lo hi : Nat) (w : World) (v : Value) (xs : List HeEl) : Prop :=
  xs.length ≤ 1152921504606846975 ∧ ((∃ a cap, v = .slice a 0 cap ∧ xs = []) ∨ ∃ g cap, v = .slice (some ⟨g, 0, none⟩) xs.length cap ∧ (lo ≤ g ∧ g < hi ∧ xs.length ≤ cap) ∧ ∀ i, i < xs.length → HeCells w g (i * 3) (xs.getD i (0, 0, 0)) ∧ HeFree w g (i * 3))

theorem HeReads.cells {w : World} {v : Value} {xs : List HeEl} (h : HeReads w v xs) (k : Nat) (hk : k < xs.length) : ∃ b off cap, v = .slice (some ⟨b, off, none⟩) xs.length cap ∧ ∀ i, i < xs.length → HeCells w b (off + i * 3) (xs.getD i (0, 0, 0)) := by
  obtain ⟨a, cap, rfl, _, h⟩ := h
  rcases h with h | ⟨b, off, rfl, hc⟩
  · subst h; simp at hk
  · exact ⟨b, off, cap, rfl, hc⟩
theorem HeReads.below {w w' : World} {v : Value} {xs : List HeEl} (h : HeReads w v xs) (hb : Below w.heap.size w w') : HeReads w' v xs := by
  obtain ⟨a, cap, rfl, hl, hx⟩ := h
  refine ⟨a, cap, rfl, hl, ?_⟩
  rcases hx with hx | ⟨b, off, rfl, hc⟩
  · exact .inl hx
  · exact .inr ⟨b, off, rfl, fun i hi => (hc i hi).of_block (hb.block b (hc i hi).lt)⟩
theorem hereads_nil (w : World) (a : Option Addr) (cap : Nat) : HeReads w (.slice a 0 cap) [] := ⟨a, cap, rfl, by simp, .inl rfl⟩
theorem HeOwn.reads {lo hi : Nat} {w : World} {v : Value} {xs : List HeEl} (h : HeOwn lo hi w v xs) : HeReads w v xs := by
  obtain ⟨hl, h⟩ := h
  rcases h with ⟨a, cap, rfl, rfl⟩ | ⟨g, cap, rfl, hg, hf⟩
  · exact ⟨a, cap, rfl, by simp, .inl rfl⟩
  · exact ⟨_, cap, rfl, ⟨hl, hg.2.2⟩, .inr ⟨g, 0, rfl, fun i hi => by rw [Nat.zero_add]; exact (hf i hi).1⟩⟩
theorem HeOwn.mono {lo hi lo' hi' : Nat} {w : World} {v : Value} {xs : List HeEl} (h : HeOwn lo hi w v xs) (h1 : lo' ≤ lo) (h2 : hi ≤ hi') : HeOwn lo' hi' w v xs := by
  obtain ⟨hl, h⟩ := h
  rcases h with h | ⟨g, cap, rfl, hg, hr⟩
  · exact ⟨hl, .inl h⟩
  · exact ⟨hl, .inr ⟨g, cap, rfl, by omega, hr⟩⟩
theorem HeOwn.at {lo hi : Nat} {w w' : World} {v : Value} {xs : List HeEl} (h : HeOwn lo hi w v xs) (hk : ∀ g, lo ≤ g → g < hi → g < w.heap.size → w'.heap[g]? = w.heap[g]?) : HeOwn lo hi w' v xs := by
  obtain ⟨hl, h⟩ := h
  rcases h with h | ⟨g, cap, rfl, hg, hf⟩
  · exact ⟨hl, .inl h⟩
  · refine ⟨hl, .inr ⟨g, cap, rfl, hg, fun i hi => ?_⟩⟩
    have e := hk g hg.1 hg.2.1 (hf i hi).1.lt
    exact ⟨(hf i hi).1.of_block e, (hf i hi).2.of_block e⟩
theorem HeOwn.below {lo hi : Nat} {w w' : World} {v : Value} {xs : List HeEl} (h : HeOwn lo hi w v xs) (hb : Below w.heap.size w w') : HeOwn lo hi w' v xs := h.at fun g _ _ hg => hb.block g hg
theorem HeOwn.keep {lo hi B : Nat} {w w' : World} {v : Value} {xs : List HeEl} (h : HeOwn lo hi w v xs) (hb : Below B w w') (hB : hi ≤ B) : HeOwn lo hi w' v xs := h.at fun g _ h2 _ => hb.block g (by omega)
theorem HeOwn.only {lo hi l h' : Nat} {w w' : World} {v : Value} {xs : List HeEl} (h : HeOwn lo hi w v xs) (ho : Only l h' w w') (hd : hi ≤ l ∨ h' ≤ lo) : HeOwn lo hi w' v xs := h.at fun g h1 h2 _ => ho.2 g (by omega)
theorem heown_nil (lo hi : Nat) (w : World) (a : Option Addr) (cap : Nat) : HeOwn lo hi w (.slice a 0 cap) [] := ⟨by simp, .inl ⟨a, cap, rfl, rfl⟩⟩

/-- The cells, one behind the other. -/
def heflat (xs : List HeEl) : List Value := xs.flatMap fun x => [.int .i64 x.1, .int .i64 x.2.1, .int .i64 x.2.2]
theorem length_heflat (xs : List HeEl) : (heflat xs).length = xs.length * 3 := by
  induction xs with
  | nil => rfl
  | cons x xs ih => simp only [heflat, List.flatMap_cons, List.length_append, List.length_cons, List.length_nil] at ih ⊢; omega
theorem heflat_get : ∀ (xs : List HeEl) (i : Nat), i < xs.length → (heflat xs)[i * 3]? = some (.int .i64 (xs.getD i (0, 0, 0)).1) ∧ (heflat xs)[i * 3 + 1]? = some (.int .i64 (xs.getD i (0, 0, 0)).2.1) ∧ (heflat xs)[i * 3 + 2]? = some (.int .i64 (xs.getD i (0, 0, 0)).2.2)
  | x :: xs, 0, _ => ⟨rfl, rfl, rfl⟩
  | x :: xs, i + 1, h => by
    have := heflat_get xs i (by simpa using h)
    have e : heflat (x :: xs) = .int .i64 x.1 :: .int .i64 x.2.1 :: .int .i64 x.2.2 :: heflat xs := rfl
    rw [e, show (i + 1) * 3 = i * 3 + 3 by omega]
    simpa using this
theorem heflat_append (xs ys : List HeEl) : heflat (xs ++ ys) = heflat xs ++ heflat ys := by simp [heflat]
theorem heflat_drop (xs : List HeEl) (k : Nat) : heflat (xs.drop k) = (heflat xs).drop (k * 3) := by
  induction xs generalizing k with
  | nil => simp [heflat]
  | cons x xs ih =>
    cases k with
    | zero => rfl
    | succ k =>
      rw [List.drop_succ_cons, ih, show (k + 1) * 3 = k * 3 + 1 + 1 + 1 by omega]
      rfl
theorem heflat_take (xs : List HeEl) (k : Nat) : heflat (xs.take k) = (heflat xs).take (k * 3) := by
  induction xs generalizing k with
  | nil => simp [heflat]
  | cons x xs ih =>
    cases k with
    | zero => rfl
    | succ k =>
      rw [List.take_succ_cons, show (k + 1) * 3 = k * 3 + 1 + 1 + 1 by omega]
      show _ :: _ :: _ :: heflat (xs.take k) = _ :: _ :: _ :: (heflat xs).take (k * 3)
      rw [ih]
theorem heflat_zero : ∀ n : Nat, heflat (List.replicate n (0, 0, 0)) = List.replicate (n * 3) (.int .i64 0)
  | 0 => rfl
  | n + 1 => by
    rw [List.replicate_succ, show (n + 1) * 3 = n * 3 + 1 + 1 + 1 by omega, List.replicate_succ, List.replicate_succ, List.replicate_succ, ← heflat_zero n]
    rfl
theorem hemade_zero (n : Nat) : (madeCells (Value.agg #[.int .i64 0, .int .i64 0, .int .i64 0]).cells (n * 3)).toList = heflat (List.replicate n (0, 0, 0)) := by
  rw [heflat_zero]
  apply List.ext_getElem
  · simp [madeCells]
  · intro j h1 h2
    have hz : ∀ k, k < 3 → (#[Value.int .i64 0, Value.int .i64 0, Value.int .i64 0] : Array Value)[k]! = .int .i64 0 := fun k hk => by
      rcases (by omega : k = 0 ∨ k = 1 ∨ k = 2) with rfl | rfl | rfl <;> rfl
    simp only [madeCells, Array.toList_map, List.getElem_map, List.getElem_replicate]
    exact hz _ (Nat.mod_lt _ (by decide))
theorem heflat_one (xs : List HeEl) : ∀ u ∈ heflat xs, u.oneCell' = true := by
  intro u hu
  obtain ⟨x, _, hx⟩ := List.mem_flatMap.1 hu
  simp at hx
  rcases hx with rfl | rfl | rfl <;> rfl
theorem heown_cells {w : World} {g : Nat} {cur : Array Value} {t n : Nat} {xs : List HeEl} (hh : w.heap[g]? = some (.cells cur t (0, 0))) (ht : cur.toList.take n = heflat xs) (hn : xs.length * 3 ≤ n) :
    ∀ i, i < xs.length → HeCells w g (i * 3) (xs.getD i (0, 0, 0)) ∧ HeFree w g (i * 3) := by
  intro i hi
  have key : ∀ j, j < xs.length * 3 → w.cell? ⟨g, j, none⟩ = (heflat xs)[j]? := fun j hj => by
    rw [← ht, List.getElem?_take, if_pos (by omega)]
    simp [World.cell?, hh]
  have h1 := heflat_get xs i hi
  refine ⟨⟨(key _ (by omega)).trans h1.1, (key _ (by omega)).trans h1.2.1, (key _ (by omega)).trans h1.2.2⟩, ?_, ?_, ?_⟩ <;> simp [World.frozen?, hh]
theorem HeOwn.of_owns {base : Nat} {w : World} {v : Value} {n : Nat} {xs : List HeEl} (h : w.ownsRow base 116 3 v n (heflat xs)) (hl : xs.length ≤ 1152921504606846975) : HeOwn base w.heap.size w v xs := by
  obtain ⟨hn, h⟩ := h
  rw [length_heflat] at hn
  obtain rfl : xs.length = n := by omega
  refine ⟨hl, ?_⟩
  rcases h with ⟨rfl, h0⟩ | ⟨g, cap, cur, rfl, hg, hh, hc, hm, hs, ht⟩
  · exact .inl ⟨none, 0, rfl, List.eq_nil_of_length_eq_zero h0⟩
  · exact .inr ⟨g, cap, rfl, ⟨hg, (Array.getElem?_eq_some_iff.1 hh).1, hc⟩, heown_cells hh ht (Nat.le_refl _)⟩
/-- The cells of what is read, one behind the other. -/
theorem heflat_cells {w : World} {b off : Nat} {xs : List HeEl} (hc : ∀ i, i < xs.length → HeCells w b (off + i * 3) (xs.getD i (0, 0, 0))) :
    ∀ j u, (heflat xs)[j]? = some u → w.cell? ((⟨b, off, none⟩ : Addr).add j) = some u := by
  intro j u hj
  have hlt : j < xs.length * 3 := by
    have := (List.getElem?_eq_some_iff.1 hj).1
    rwa [length_heflat] at this
  have h1 := heflat_get xs (j / 3) (by omega)
  have h2 := hc (j / 3) (by omega)
  rw [show (⟨b, off, none⟩ : Addr).add j = ⟨b, off + j, none⟩ by rcases j with _ | j <;> simp [Addr.add]]
  rcases (by omega : j = j / 3 * 3 ∨ j = j / 3 * 3 + 1 ∨ j = j / 3 * 3 + 2) with e | e | e
  · have a1 := h1.1
    have a2 := h2.1
    rw [← e] at a1
    rw [show off + j / 3 * 3 = off + j by omega] at a2
    rw [a1] at hj
    rw [a2, ← hj]
  · have a1 := h1.2.1
    have a2 := h2.2.1
    rw [← e] at a1
    rw [show off + j / 3 * 3 + 1 = off + j by omega] at a2
    rw [a1] at hj
    rw [a2, ← hj]
  · have a1 := h1.2.2
    have a2 := h2.2.2
    rw [← e] at a1
    rw [show off + j / 3 * 3 + 2 = off + j by omega] at a2
    rw [a1] at hj
    rw [a2, ← hj]
/-- All numbers of one are written. -/
theorem HeOwn.set {lo hi g cap : Nat} {w : World} {xs : List HeEl} (h : HeOwn lo hi w (.slice (some ⟨g, 0, none⟩) xs.length cap) xs) (i : Nat) (x : HeEl) (hi' : i < xs.length) :
    HeOwn lo hi (((w.setCell ⟨g, i * 3, none⟩ (.int .i64 x.1)).setCell ⟨g, i * 3 + 1, none⟩ (.int .i64 x.2.1)).setCell ⟨g, i * 3 + 2, none⟩ (.int .i64 x.2.2)) (.slice (some ⟨g, 0, none⟩) xs.length cap) (xs.set i x) ∧ (lo ≤ g ∧ g < hi) ∧ HeFree w g (i * 3) ∧ HeCells w g (i * 3) (xs.getD i (0, 0, 0)) := by
  obtain ⟨hl, h⟩ := h
  rcases h with ⟨a, cap', _, rfl⟩ | ⟨g', cap', e, hg, hf⟩
  · simp at hi'
  · cases e
    refine ⟨⟨by simpa using hl, .inr ⟨g, cap, by simp, by simpa using hg, fun j hj => ?_⟩⟩, ⟨hg.1, hg.2.1⟩, (hf i hi').2, (hf i hi').1⟩
    have hj' : j < xs.length := by simpa using hj
    refine ⟨?_, by have := (hf j hj').2; unfold HeFree at this ⊢; simpa using this⟩
    by_cases e : j = i
    · subst e
      have hx : (xs.set j x).getD j (0, 0, 0) = x := by simp [List.getD_eq_getElem?_getD, hj']
      rw [hx]
      refine ⟨?_, ?_, ?_⟩
      · rw [World.cell?_setCell_other _ _ _ _ (by simp), World.cell?_setCell_other _ _ _ _ (by simp)]; exact World.cell?_setCell_same _ _ _ (u := .int .i64 (xs.getD j (0, 0, 0)).1) (by exact (hf j hj').1.1)
      · rw [World.cell?_setCell_other _ _ _ _ (by simp)]; exact World.cell?_setCell_same _ _ _ (u := .int .i64 (xs.getD j (0, 0, 0)).2.1) (by rw [World.cell?_setCell_other _ _ _ _ (by simp)]; exact (hf j hj').1.2.1)
      · exact World.cell?_setCell_same _ _ _ (u := .int .i64 (xs.getD j (0, 0, 0)).2.2) (by rw [World.cell?_setCell_other _ _ _ _ (by simp)]; rw [World.cell?_setCell_other _ _ _ _ (by simp)]; exact (hf j hj').1.2.2)
    · have hx : (xs.set i x).getD j (0, 0, 0) = xs.getD j (0, 0, 0) := by simp [List.getD_eq_getElem?_getD, Ne.symm e]
      rw [hx]
      refine ⟨?_, ?_, ?_⟩
      · rw [World.cell?_setCell_other _ _ _ _ (by simp <;> omega), World.cell?_setCell_other _ _ _ _ (by simp <;> omega), World.cell?_setCell_other _ _ _ _ (by simp <;> omega)]; exact (hf j hj').1.1
      · rw [World.cell?_setCell_other _ _ _ _ (by simp <;> omega), World.cell?_setCell_other _ _ _ _ (by simp <;> omega), World.cell?_setCell_other _ _ _ _ (by simp <;> omega)]; exact (hf j hj').1.2.1
      · rw [World.cell?_setCell_other _ _ _ _ (by simp <;> omega), World.cell?_setCell_other _ _ _ _ (by simp <;> omega), World.cell?_setCell_other _ _ _ _ (by simp <;> omega)]; exact (hf j hj').1.2.2
end Go.Proofs.Ytdlkilacnnjglaa
