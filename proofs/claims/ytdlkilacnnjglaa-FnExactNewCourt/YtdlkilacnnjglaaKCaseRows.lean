/-
  Slices of Case (a struct of 4 numbers): what they read as, which are new: plain facts on the memory.
-/
import Derived.Test.YtdlkilacnnjglaaInts
import Derived.Test.YtdlkilacnnjglaaOnly
namespace Go.Proofs.Ytdlkilacnnjglaa
open Go.RowKit

abbrev CaEl := Int × Bool × Int × Int
theorem info_case : (Try.prog.info? 70).map (fun i => (i.zero, i.size, i.bytes)) = some (some (.agg #[.int .i64 0, .bool false, .int .i64 0, .int .i64 0]), 4, 32) := by kernel_rfl

/-- The cells of one, from an offset on. -/
def CaCells (w : World) (b o : Nat) (x : CaEl) : Prop := w.cell? ⟨b, o, none⟩ = some (.int .i64 x.1) ∧ w.cell? ⟨b, o + 1, none⟩ = some (.bool x.2.1) ∧ w.cell? ⟨b, o + 2, none⟩ = some (.int .i64 x.2.2.1) ∧ w.cell? ⟨b, o + 3, none⟩ = some (.int .i64 x.2.2.2)
def CaFree (w : World) (b o : Nat) : Prop := w.frozen? ⟨b, o, none⟩ = false ∧ w.frozen? ⟨b, o + 1, none⟩ = false ∧ w.frozen? ⟨b, o + 2, none⟩ = false ∧ w.frozen? ⟨b, o + 3, none⟩ = false
theorem CaCells.of_block {w w' : World} {b o : Nat} {x : CaEl} (h : CaCells w b o x) (e : w'.heap[b]? = w.heap[b]?) : CaCells w' b o x :=
  ⟨(World.cell?_of_block (a := ⟨b, o, none⟩) e).trans h.1, (World.cell?_of_block (a := ⟨b, o + 1, none⟩) e).trans h.2.1, (World.cell?_of_block (a := ⟨b, o + 2, none⟩) e).trans h.2.2.1, (World.cell?_of_block (a := ⟨b, o + 3, none⟩) e).trans h.2.2.2⟩
theorem CaFree.of_block {w w' : World} {b o : Nat} (h : CaFree w b o) (e : w'.heap[b]? = w.heap[b]?) : CaFree w' b o :=
  ⟨(World.frozen?_of_block (a := ⟨b, o, none⟩) e).trans h.1, (World.frozen?_of_block (a := ⟨b, o + 1, none⟩) e).trans h.2.1, (World.frozen?_of_block (a := ⟨b, o + 2, none⟩) e).trans h.2.2.1, (World.frozen?_of_block (a := ⟨b, o + 3, none⟩) e).trans h.2.2.2⟩
theorem CaCells.lt {w : World} {b o : Nat} {x : CaEl} (h : CaCells w b o x) : b < w.heap.size := lt_of_cell h.1
theorem CaCells.below {w w' : World} {b o B : Nat} {x : CaEl} (h : CaCells w b o x) (hb : Below B w w') (hB : b < B) : CaCells w' b o x := h.of_block (hb.block b hB)

/-- The slice v reads as xs. -/
def CaReads (w : World) (v : Value) (xs : List CaEl) : Prop :=
  ∃ a cap, v = .slice a xs.length cap ∧ (xs.length ≤ 1152921504606846975 ∧ xs.length ≤ cap) ∧ (xs = [] ∨ ∃ b off, a = some ⟨b, off, none⟩ ∧ ∀ i, i < xs.length → CaCells w b (off + i * 4) (xs.getD i (0, false, 0, 0)))
/-- The slice v reads as xs, in cells of its own, in blocks from lo on, below hi, that may be written; or it is empty and has no room. -/
def CaOwn (lo hi : Nat) (w : World) (v : Value) (xs : List CaEl) : Prop :=
  xs.length ≤ 1152921504606846975 ∧ ((∃ a cap, v = .slice a 0 cap ∧ xs = []) ∨ ∃ g cap, v = .slice (some ⟨g, 0, none⟩) xs.length cap ∧ (lo ≤ g ∧ g < hi ∧ xs.length ≤ cap) ∧ ∀ i, i < xs.length → CaCells w g (i * 4) (xs.getD i (0, false, 0, 0)) ∧ CaFree w g (i * 4))

theorem CaReads.cells {w : World} {v : Value} {xs : List CaEl} (h : CaReads w v xs) (k : Nat) (hk : k < xs.length) : ∃ b off cap, v = .slice (some ⟨b, off, none⟩) xs.length cap ∧ ∀ i, i < xs.length → CaCells w b (off + i * 4) (xs.getD i (0, false, 0, 0)) := by
  obtain ⟨a, cap, rfl, _, h⟩ := h
  rcases h with h | ⟨b, off, rfl, hc⟩
  · subst h; simp at hk
  · exact ⟨b, off, cap, rfl, hc⟩
theorem CaReads.below {w w' : World} {v : Value} {xs : List CaEl} (h : CaReads w v xs) (hb : Below w.heap.size w w') : CaReads w' v xs := by
  obtain ⟨a, cap, rfl, hl, hx⟩ := h
  refine ⟨a, cap, rfl, hl, ?_⟩
  rcases hx with hx | ⟨b, off, rfl, hc⟩
  · exact .inl hx
  · exact .inr ⟨b, off, rfl, fun i hi => (hc i hi).of_block (hb.block b (hc i hi).lt)⟩
theorem careads_nil (w : World) (a : Option Addr) (cap : Nat) : CaReads w (.slice a 0 cap) [] := ⟨a, cap, rfl, by simp, .inl rfl⟩
theorem CaOwn.reads {lo hi : Nat} {w : World} {v : Value} {xs : List CaEl} (h : CaOwn lo hi w v xs) : CaReads w v xs := by
  obtain ⟨hl, h⟩ := h
  rcases h with ⟨a, cap, rfl, rfl⟩ | ⟨g, cap, rfl, hg, hf⟩
  · exact ⟨a, cap, rfl, by simp, .inl rfl⟩
  · exact ⟨_, cap, rfl, ⟨hl, hg.2.2⟩, .inr ⟨g, 0, rfl, fun i hi => by rw [Nat.zero_add]; exact (hf i hi).1⟩⟩
theorem CaOwn.mono {lo hi lo' hi' : Nat} {w : World} {v : Value} {xs : List CaEl} (h : CaOwn lo hi w v xs) (h1 : lo' ≤ lo) (h2 : hi ≤ hi') : CaOwn lo' hi' w v xs := by
  obtain ⟨hl, h⟩ := h
  rcases h with h | ⟨g, cap, rfl, hg, hr⟩
  · exact ⟨hl, .inl h⟩
  · exact ⟨hl, .inr ⟨g, cap, rfl, by omega, hr⟩⟩
theorem CaOwn.at {lo hi : Nat} {w w' : World} {v : Value} {xs : List CaEl} (h : CaOwn lo hi w v xs) (hk : ∀ g, lo ≤ g → g < hi → g < w.heap.size → w'.heap[g]? = w.heap[g]?) : CaOwn lo hi w' v xs := by
  obtain ⟨hl, h⟩ := h
  rcases h with h | ⟨g, cap, rfl, hg, hf⟩
  · exact ⟨hl, .inl h⟩
  · refine ⟨hl, .inr ⟨g, cap, rfl, hg, fun i hi => ?_⟩⟩
    have e := hk g hg.1 hg.2.1 (hf i hi).1.lt
    exact ⟨(hf i hi).1.of_block e, (hf i hi).2.of_block e⟩
theorem CaOwn.below {lo hi : Nat} {w w' : World} {v : Value} {xs : List CaEl} (h : CaOwn lo hi w v xs) (hb : Below w.heap.size w w') : CaOwn lo hi w' v xs := h.at fun g _ _ hg => hb.block g hg
theorem CaOwn.keep {lo hi B : Nat} {w w' : World} {v : Value} {xs : List CaEl} (h : CaOwn lo hi w v xs) (hb : Below B w w') (hB : hi ≤ B) : CaOwn lo hi w' v xs := h.at fun g _ h2 _ => hb.block g (by omega)
theorem CaOwn.only {lo hi l h' : Nat} {w w' : World} {v : Value} {xs : List CaEl} (h : CaOwn lo hi w v xs) (ho : Only l h' w w') (hd : hi ≤ l ∨ h' ≤ lo) : CaOwn lo hi w' v xs := h.at fun g h1 h2 _ => ho.2 g (by omega)
theorem caown_nil (lo hi : Nat) (w : World) (a : Option Addr) (cap : Nat) : CaOwn lo hi w (.slice a 0 cap) [] := ⟨by simp, .inl ⟨a, cap, rfl, rfl⟩⟩

/-- The cells, one behind the other. -/
def caflat (xs : List CaEl) : List Value := xs.flatMap fun x => [.int .i64 x.1, .bool x.2.1, .int .i64 x.2.2.1, .int .i64 x.2.2.2]
theorem length_caflat (xs : List CaEl) : (caflat xs).length = xs.length * 4 := by
  induction xs with
  | nil => rfl
  | cons x xs ih => simp only [caflat, List.flatMap_cons, List.length_append, List.length_cons, List.length_nil] at ih ⊢; omega
theorem caflat_get : ∀ (xs : List CaEl) (i : Nat), i < xs.length → (caflat xs)[i * 4]? = some (.int .i64 (xs.getD i (0, false, 0, 0)).1) ∧ (caflat xs)[i * 4 + 1]? = some (.bool (xs.getD i (0, false, 0, 0)).2.1) ∧ (caflat xs)[i * 4 + 2]? = some (.int .i64 (xs.getD i (0, false, 0, 0)).2.2.1) ∧ (caflat xs)[i * 4 + 3]? = some (.int .i64 (xs.getD i (0, false, 0, 0)).2.2.2)
  | x :: xs, 0, _ => ⟨rfl, rfl, rfl, rfl⟩
  | x :: xs, i + 1, h => by
    have := caflat_get xs i (by simpa using h)
    have e : caflat (x :: xs) = .int .i64 x.1 :: .bool x.2.1 :: .int .i64 x.2.2.1 :: .int .i64 x.2.2.2 :: caflat xs := rfl
    rw [e, show (i + 1) * 4 = i * 4 + 4 by omega]
    simpa using this
theorem caflat_append (xs ys : List CaEl) : caflat (xs ++ ys) = caflat xs ++ caflat ys := by simp [caflat]
theorem caflat_drop (xs : List CaEl) (k : Nat) : caflat (xs.drop k) = (caflat xs).drop (k * 4) := by
  induction xs generalizing k with
  | nil => simp [caflat]
  | cons x xs ih =>
    cases k with
    | zero => rfl
    | succ k =>
      rw [List.drop_succ_cons, ih, show (k + 1) * 4 = k * 4 + 1 + 1 + 1 + 1 by omega]
      rfl
theorem caflat_take (xs : List CaEl) (k : Nat) : caflat (xs.take k) = (caflat xs).take (k * 4) := by
  induction xs generalizing k with
  | nil => simp [caflat]
  | cons x xs ih =>
    cases k with
    | zero => rfl
    | succ k =>
      rw [List.take_succ_cons, show (k + 1) * 4 = k * 4 + 1 + 1 + 1 + 1 by omega]
      show _ :: _ :: _ :: _ :: caflat (xs.take k) = _ :: _ :: _ :: _ :: (caflat xs).take (k * 4)
      rw [ih]
theorem camade_zero (n : Nat) : (madeCells (Value.agg #[.int .i64 0, .bool false, .int .i64 0, .int .i64 0]).cells (n * 4)).toList = caflat (List.replicate n (0, false, 0, 0)) := by
  apply List.ext_getElem
  · simp [madeCells, length_caflat]
  · intro j h1 h2
    have hl : j < n * 4 := by simpa [length_caflat] using h2
    have hg := caflat_get (List.replicate n (0, false, 0, 0)) (j / 4) (by simp; omega)
    have hz : (List.replicate n ((0, false, 0, 0) : CaEl)).getD (j / 4) (0, false, 0, 0) = (0, false, 0, 0) := by rw [List.getD_eq_getElem?_getD, List.getElem?_replicate, if_pos (by omega)]; rfl
    rw [hz] at hg
    simp only [madeCells, Array.toList_map, List.getElem_map]
    have hr : (caflat (List.replicate n (0, false, 0, 0)))[j]? = some ((caflat (List.replicate n (0, false, 0, 0)))[j]) := List.getElem?_eq_getElem h2
    rcases (by omega : (j = j / 4 * 4 ∧ j % 4 = 0) ∨ (j = j / 4 * 4 + 1 ∧ j % 4 = 1) ∨ (j = j / 4 * 4 + 2 ∧ j % 4 = 2) ∨ (j = j / 4 * 4 + 3 ∧ j % 4 = 3)) with ⟨e, m⟩ | ⟨e, m⟩ | ⟨e, m⟩ | ⟨e, m⟩
    · have a := hg.1
      rw [← e, hr] at a
      simp only [Option.some.injEq] at a
      rw [a]
      simp only [Value.cells, Array.toList_range, List.getElem_range, List.size_toArray, List.length_cons, List.length_nil, Nat.zero_add, Nat.reduceAdd, m]
      first | done | rfl
    · have a := hg.2.1
      rw [← e, hr] at a
      simp only [Option.some.injEq] at a
      rw [a]
      simp only [Value.cells, Array.toList_range, List.getElem_range, List.size_toArray, List.length_cons, List.length_nil, Nat.zero_add, Nat.reduceAdd, m]
      first | done | rfl
    · have a := hg.2.2.1
      rw [← e, hr] at a
      simp only [Option.some.injEq] at a
      rw [a]
      simp only [Value.cells, Array.toList_range, List.getElem_range, List.size_toArray, List.length_cons, List.length_nil, Nat.zero_add, Nat.reduceAdd, m]
      first | done | rfl
    · have a := hg.2.2.2
      rw [← e, hr] at a
      simp only [Option.some.injEq] at a
      rw [a]
      simp only [Value.cells, Array.toList_range, List.getElem_range, List.size_toArray, List.length_cons, List.length_nil, Nat.zero_add, Nat.reduceAdd, m]
      first | done | rfl
theorem caflat_one (xs : List CaEl) : ∀ u ∈ caflat xs, u.oneCell' = true := by
  intro u hu
  obtain ⟨x, _, hx⟩ := List.mem_flatMap.1 hu
  simp at hx
  rcases hx with rfl | rfl | rfl | rfl <;> rfl
theorem caown_cells {w : World} {g : Nat} {cur : Array Value} {t n : Nat} {xs : List CaEl} (hh : w.heap[g]? = some (.cells cur t (0, 0))) (ht : cur.toList.take n = caflat xs) (hn : xs.length * 4 ≤ n) :
    ∀ i, i < xs.length → CaCells w g (i * 4) (xs.getD i (0, false, 0, 0)) ∧ CaFree w g (i * 4) := by
  intro i hi
  have key : ∀ j, j < xs.length * 4 → w.cell? ⟨g, j, none⟩ = (caflat xs)[j]? := fun j hj => by
    rw [← ht, List.getElem?_take, if_pos (by omega)]
    simp [World.cell?, hh]
  have h1 := caflat_get xs i hi
  refine ⟨⟨(key _ (by omega)).trans h1.1, (key _ (by omega)).trans h1.2.1, (key _ (by omega)).trans h1.2.2.1, (key _ (by omega)).trans h1.2.2.2⟩, ?_, ?_, ?_, ?_⟩ <;> simp [World.frozen?, hh]
theorem CaOwn.of_owns {base : Nat} {w : World} {v : Value} {n : Nat} {xs : List CaEl} (h : w.ownsRow base 70 4 v n (caflat xs)) (hl : xs.length ≤ 1152921504606846975) : CaOwn base w.heap.size w v xs := by
  obtain ⟨hn, h⟩ := h
  rw [length_caflat] at hn
  obtain rfl : xs.length = n := by omega
  refine ⟨hl, ?_⟩
  rcases h with ⟨rfl, h0⟩ | ⟨g, cap, cur, rfl, hg, hh, hc, hm, hs, ht⟩
  · exact .inl ⟨none, 0, rfl, List.eq_nil_of_length_eq_zero h0⟩
  · exact .inr ⟨g, cap, rfl, ⟨hg, (Array.getElem?_eq_some_iff.1 hh).1, hc⟩, caown_cells hh ht (Nat.le_refl _)⟩
/-- The cells of what is read, one behind the other. -/
theorem caflat_cells {w : World} {b off : Nat} {xs : List CaEl} (hc : ∀ i, i < xs.length → CaCells w b (off + i * 4) (xs.getD i (0, false, 0, 0))) :
    ∀ j u, (caflat xs)[j]? = some u → w.cell? ((⟨b, off, none⟩ : Addr).add j) = some u := by
  intro j u hj
  have hlt : j < xs.length * 4 := by
    have := (List.getElem?_eq_some_iff.1 hj).1
    rwa [length_caflat] at this
  have h1 := caflat_get xs (j / 4) (by omega)
  have h2 := hc (j / 4) (by omega)
  rw [show (⟨b, off, none⟩ : Addr).add j = ⟨b, off + j, none⟩ by rcases j with _ | j <;> simp [Addr.add]]
  rcases (by omega : j = j / 4 * 4 ∨ j = j / 4 * 4 + 1 ∨ j = j / 4 * 4 + 2 ∨ j = j / 4 * 4 + 3) with e | e | e | e
  · have a1 := h1.1
    have a2 := h2.1
    rw [← e] at a1
    rw [show off + j / 4 * 4 = off + j by omega] at a2
    rw [a1] at hj
    rw [a2, ← hj]
  · have a1 := h1.2.1
    have a2 := h2.2.1
    rw [← e] at a1
    rw [show off + j / 4 * 4 + 1 = off + j by omega] at a2
    rw [a1] at hj
    rw [a2, ← hj]
  · have a1 := h1.2.2.1
    have a2 := h2.2.2.1
    rw [← e] at a1
    rw [show off + j / 4 * 4 + 2 = off + j by omega] at a2
    rw [a1] at hj
    rw [a2, ← hj]
  · have a1 := h1.2.2.2
    have a2 := h2.2.2.2
    rw [← e] at a1
    rw [show off + j / 4 * 4 + 3 = off + j by omega] at a2
    rw [a1] at hj
    rw [a2, ← hj]
/-- All numbers of one are written. -/
theorem CaOwn.set {lo hi g cap : Nat} {w : World} {xs : List CaEl} (h : CaOwn lo hi w (.slice (some ⟨g, 0, none⟩) xs.length cap) xs) (i : Nat) (x : CaEl) (hi' : i < xs.length) :
    CaOwn lo hi ((((w.setCell ⟨g, i * 4, none⟩ (.int .i64 x.1)).setCell ⟨g, i * 4 + 1, none⟩ (.bool x.2.1)).setCell ⟨g, i * 4 + 2, none⟩ (.int .i64 x.2.2.1)).setCell ⟨g, i * 4 + 3, none⟩ (.int .i64 x.2.2.2)) (.slice (some ⟨g, 0, none⟩) xs.length cap) (xs.set i x) ∧ (lo ≤ g ∧ g < hi) ∧ CaFree w g (i * 4) ∧ CaCells w g (i * 4) (xs.getD i (0, false, 0, 0)) := by
  obtain ⟨hl, h⟩ := h
  rcases h with ⟨a, cap', _, rfl⟩ | ⟨g', cap', e, hg, hf⟩
  · simp at hi'
  · cases e
    refine ⟨⟨by simpa using hl, .inr ⟨g, cap, by simp, by simpa using hg, fun j hj => ?_⟩⟩, ⟨hg.1, hg.2.1⟩, (hf i hi').2, (hf i hi').1⟩
    have hj' : j < xs.length := by simpa using hj
    refine ⟨?_, by have := (hf j hj').2; unfold CaFree at this ⊢; simpa using this⟩
    by_cases e : j = i
    · subst e
      have hx : (xs.set j x).getD j (0, false, 0, 0) = x := by simp [List.getD_eq_getElem?_getD, hj']
      rw [hx]
      refine ⟨?_, ?_, ?_, ?_⟩
      · rw [World.cell?_setCell_other _ _ _ _ (by simp), World.cell?_setCell_other _ _ _ _ (by simp), World.cell?_setCell_other _ _ _ _ (by simp)]; exact World.cell?_setCell_same _ _ _ (u := .int .i64 (xs.getD j (0, false, 0, 0)).1) (by exact (hf j hj').1.1)
      · rw [World.cell?_setCell_other _ _ _ _ (by simp), World.cell?_setCell_other _ _ _ _ (by simp)]; exact World.cell?_setCell_same _ _ _ (u := .bool (xs.getD j (0, false, 0, 0)).2.1) (by rw [World.cell?_setCell_other _ _ _ _ (by simp)]; exact (hf j hj').1.2.1)
      · rw [World.cell?_setCell_other _ _ _ _ (by simp)]; exact World.cell?_setCell_same _ _ _ (u := .int .i64 (xs.getD j (0, false, 0, 0)).2.2.1) (by rw [World.cell?_setCell_other _ _ _ _ (by simp)]; rw [World.cell?_setCell_other _ _ _ _ (by simp)]; exact (hf j hj').1.2.2.1)
      · exact World.cell?_setCell_same _ _ _ (u := .int .i64 (xs.getD j (0, false, 0, 0)).2.2.2) (by rw [World.cell?_setCell_other _ _ _ _ (by simp)]; rw [World.cell?_setCell_other _ _ _ _ (by simp)]; rw [World.cell?_setCell_other _ _ _ _ (by simp)]; exact (hf j hj').1.2.2.2)
    · have hx : (xs.set i x).getD j (0, false, 0, 0) = xs.getD j (0, false, 0, 0) := by simp [List.getD_eq_getElem?_getD, Ne.symm e]
      rw [hx]
      refine ⟨?_, ?_, ?_, ?_⟩
      · rw [World.cell?_setCell_other _ _ _ _ (by simp <;> omega), World.cell?_setCell_other _ _ _ _ (by simp <;> omega), World.cell?_setCell_other _ _ _ _ (by simp <;> omega), World.cell?_setCell_other _ _ _ _ (by simp <;> omega)]; exact (hf j hj').1.1
      · rw [World.cell?_setCell_other _ _ _ _ (by simp <;> omega), World.cell?_setCell_other _ _ _ _ (by simp <;> omega), World.cell?_setCell_other _ _ _ _ (by simp <;> omega), World.cell?_setCell_other _ _ _ _ (by simp <;> omega)]; exact (hf j hj').1.2.1
      · rw [World.cell?_setCell_other _ _ _ _ (by simp <;> omega), World.cell?_setCell_other _ _ _ _ (by simp <;> omega), World.cell?_setCell_other _ _ _ _ (by simp <;> omega), World.cell?_setCell_other _ _ _ _ (by simp <;> omega)]; exact (hf j hj').1.2.2.1
      · rw [World.cell?_setCell_other _ _ _ _ (by simp <;> omega), World.cell?_setCell_other _ _ _ _ (by simp <;> omega), World.cell?_setCell_other _ _ _ _ (by simp <;> omega), World.cell?_setCell_other _ _ _ _ (by simp <;> omega)]; exact (hf j hj').1.2.2.2
end Go.Proofs.Ytdlkilacnnjglaa
