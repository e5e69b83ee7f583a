/-
  Slices of Way (a struct of 2 numbers): what they read as, which are new: plain facts on the memory.
-/
import Derived.Test.YtflhlinkolbbiaeInts
import Derived.Test.YtflhlinkolbbiaeOnly
namespace Go.Proofs.Ytflhlinkolbbiae
open Go.RowKit

abbrev WyEl := Int × Int
theorem info_way : (Try.prog.info? 108).map (fun i => (i.zero, i.size, i.bytes)) = some (some (.agg #[.int .i64 0, .int .i64 0]), 2, 16) := by kernel_rfl

/-- The cells of one, from an offset on. -/
def WyCells (w : World) (b o : Nat) (x : WyEl) : Prop := w.cell? ⟨b, o, none⟩ = some (.int .i64 x.1) ∧ w.cell? ⟨b, o + 1, none⟩ = some (.int .i64 x.2)
def WyFree (w : World) (b o : Nat) : Prop := w.frozen? ⟨b, o, none⟩ = false ∧ w.frozen? ⟨b, o + 1, none⟩ = false
theorem WyCells.of_block {w w' : World} {b o : Nat} {x : WyEl} (h : WyCells w b o x) (e : w'.heap[b]? = w.heap[b]?) : WyCells w' b o x :=
  ⟨(World.cell?_of_block (a := ⟨b, o, none⟩) e).trans h.1, (World.cell?_of_block (a := ⟨b, o + 1, none⟩) e).trans h.2⟩
theorem WyFree.of_block {w w' : World} {b o : Nat} (h : WyFree w b o) (e : w'.heap[b]? = w.heap[b]?) : WyFree w' b o :=
  ⟨(World.frozen?_of_block (a := ⟨b, o, none⟩) e).trans h.1, (World.frozen?_of_block (a := ⟨b, o + 1, none⟩) e).trans h.2⟩
theorem WyCells.lt {w : World} {b o : Nat} {x : WyEl} (h : WyCells w b o x) : b < w.heap.size := lt_of_cell h.1
theorem WyCells.below {w w' : World} {b o B : Nat} {x : WyEl} (h : WyCells w b o x) (hb : Below B w w') (hB : b < B) : WyCells w' b o x := h.of_block (hb.block b hB)

/-- The slice v reads as xs. -/
def WyReads (w : World) (v : Value) (xs : List WyEl) : Prop :=
  ∃ a cap, v = .slice a xs.length cap ∧ (xs.length ≤ 1152921504606846975 ∧ xs.length ≤ cap) ∧ (xs = [] ∨ ∃ b off, a = some ⟨b, off, none⟩ ∧ ∀ i, i < xs.length → WyCells w b (off + i * 2) (xs.getD i (0, 0)))
/-- The slice v reads as xs, in cells of its own, in blocks from lo on, below hi, that may be written; or it is empty and has no room. -/
def WyOwn (lo hi : Nat) (w : World) (v : Value) (xs : List WyEl) : Prop :=
  xs.length ≤ 1152921504606846975 ∧ ((∃ a cap, v = .slice a 0 cap ∧ xs = []) ∨ ∃ g cap, v = .slice (some ⟨g, 0, none⟩) xs.length cap ∧ (lo ≤ g ∧ g < hi ∧ xs.length ≤ cap) ∧ ∀ i, i < xs.length → WyCells w g (i * 2) (xs.getD i (0, 0)) ∧ WyFree w g (i * 2))

theorem WyReads.cells {w : World} {v : Value} {xs : List WyEl} (h : WyReads w v xs) (k : Nat) (hk : k < xs.length) : ∃ b off cap, v = .slice (some ⟨b, off, none⟩) xs.length cap ∧ ∀ i, i < xs.length → WyCells w b (off + i * 2) (xs.getD i (0, 0)) := by
  obtain ⟨a, cap, rfl, _, h⟩ := h
  rcases h with h | ⟨b, off, rfl, hc⟩
  · subst h; simp at hk
  · exact ⟨b, off, cap, rfl, hc⟩
theorem WyReads.below {w w' : World} {v : Value} {xs : List WyEl} (h : WyReads w v xs) (hb : Below w.heap.size w w') : WyReads w' v xs := by
  obtain ⟨a, cap, rfl, hl, hx⟩ := h
  refine ⟨a, cap, rfl, hl, ?_⟩
  rcases hx with hx | ⟨b, off, rfl, hc⟩
  · exact .inl hx
  · exact .inr ⟨b, off, rfl, fun i hi => (hc i hi).of_block (hb.block b (hc i hi).lt)⟩
theorem wyreads_nil (w : World) (a : Option Addr) (cap : Nat) : WyReads w (.slice a 0 cap) [] := ⟨a, cap, rfl, by simp, .inl rfl⟩
theorem WyOwn.reads {lo hi : Nat} {w : World} {v : Value} {xs : List WyEl} (h : WyOwn lo hi w v xs) : WyReads w v xs := by
  obtain ⟨hl, h⟩ := h
  rcases h with ⟨a, cap, rfl, rfl⟩ | ⟨g, cap, rfl, hg, hf⟩
  · exact ⟨a, cap, rfl, by simp, .inl rfl⟩
  · exact ⟨_, cap, rfl, ⟨hl, hg.2.2⟩, .inr ⟨g, 0, rfl, fun i hi => by rw [Nat.zero_add]; exact (hf i hi).1⟩⟩
theorem WyOwn.mono {lo hi lo' hi' : Nat} {w : World} {v : Value} {xs : List WyEl} (h : WyOwn lo hi w v xs) (h1 : lo' ≤ lo) (h2 : hi ≤ hi') : WyOwn lo' hi' w v xs := by
  obtain ⟨hl, h⟩ := h
  rcases h with h | ⟨g, cap, rfl, hg, hr⟩
  · exact ⟨hl, .inl h⟩
  · exact ⟨hl, .inr ⟨g, cap, rfl, by omega, hr⟩⟩
theorem WyOwn.at {lo hi : Nat} {w w' : World} {v : Value} {xs : List WyEl} (h : WyOwn lo hi w v xs) (hk : ∀ g, lo ≤ g → g < hi → g < w.heap.size → w'.heap[g]? = w.heap[g]?) : WyOwn lo hi w' v xs := by
  obtain ⟨hl, h⟩ := h
  rcases h with h | ⟨g, cap, rfl, hg, hf⟩
  · exact ⟨hl, .inl h⟩
  · refine ⟨hl, .inr ⟨g, cap, rfl, hg, fun i hi => ?_⟩⟩
    have e := hk g hg.1 hg.2.1 (hf i hi).1.lt
    exact ⟨(hf i hi).1.of_block e, (hf i hi).2.of_block e⟩
theorem WyOwn.below {lo hi : Nat} {w w' : World} {v : Value} {xs : List WyEl} (h : WyOwn lo hi w v xs) (hb : Below w.heap.size w w') : WyOwn lo hi w' v xs := h.at fun g _ _ hg => hb.block g hg
theorem WyOwn.keep {lo hi B : Nat} {w w' : World} {v : Value} {xs : List WyEl} (h : WyOwn lo hi w v xs) (hb : Below B w w') (hB : hi ≤ B) : WyOwn lo hi w' v xs := h.at fun g _ h2 _ => hb.block g (by omega)
theorem WyOwn.only {lo hi l h' : Nat} {w w' : World} {v : Value} {xs : List WyEl} (h : WyOwn lo hi w v xs) (ho : Only l h' w w') (hd : hi ≤ l ∨ h' ≤ lo) : WyOwn lo hi w' v xs := h.at fun g h1 h2 _ => ho.2 g (by omega)
theorem wyown_nil (lo hi : Nat) (w : World) (a : Option Addr) (cap : Nat) : WyOwn lo hi w (.slice a 0 cap) [] := ⟨by simp, .inl ⟨a, cap, rfl, rfl⟩⟩

/-- The cells, one behind the other. -/
def wyflat (xs : List WyEl) : List Value := xs.flatMap fun x => [.int .i64 x.1, .int .i64 x.2]
theorem length_wyflat (xs : List WyEl) : (wyflat xs).length = xs.length * 2 := by
  induction xs with
  | nil => rfl
  | cons x xs ih => simp only [wyflat, List.flatMap_cons, List.length_append, List.length_cons, List.length_nil] at ih ⊢; omega
theorem wyflat_get : ∀ (xs : List WyEl) (i : Nat), i < xs.length → (wyflat xs)[i * 2]? = some (.int .i64 (xs.getD i (0, 0)).1) ∧ (wyflat xs)[i * 2 + 1]? = some (.int .i64 (xs.getD i (0, 0)).2)
  | x :: xs, 0, _ => ⟨rfl, rfl⟩
  | x :: xs, i + 1, h => by
    have := wyflat_get xs i (by simpa using h)
    have e : wyflat (x :: xs) = .int .i64 x.1 :: .int .i64 x.2 :: wyflat xs := rfl
    rw [e, show (i + 1) * 2 = i * 2 + 2 by omega]
    simpa using this
theorem wyflat_append (xs ys : List WyEl) : wyflat (xs ++ ys) = wyflat xs ++ wyflat ys := by simp [wyflat]
theorem wyflat_drop (xs : List WyEl) (k : Nat) : wyflat (xs.drop k) = (wyflat xs).drop (k * 2) := by
  induction xs generalizing k with
  | nil => simp [wyflat]
  | cons x xs ih =>
    cases k with
    | zero => rfl
    | succ k =>
      rw [List.drop_succ_cons, ih, show (k + 1) * 2 = k * 2 + 1 + 1 by omega]
      rfl
theorem wyflat_take (xs : List WyEl) (k : Nat) : wyflat (xs.take k) = (wyflat xs).take (k * 2) := by
  induction xs generalizing k with
  | nil => simp [wyflat]
  | cons x xs ih =>
    cases k with
    | zero => rfl
    | succ k =>
      rw [List.take_succ_cons, show (k + 1) * 2 = k * 2 + 1 + 1 by omega]
      show _ :: _ :: wyflat (xs.take k) = _ :: _ :: (wyflat xs).take (k * 2)
      rw [ih]
theorem wyflat_zero : ∀ n : Nat, wyflat (List.replicate n (0, 0)) = List.replicate (n * 2) (.int .i64 0)
  | 0 => rfl
  | n + 1 => by
    rw [List.replicate_succ, show (n + 1) * 2 = n * 2 + 1 + 1 by omega, List.replicate_succ, List.replicate_succ, ← wyflat_zero n]
    rfl
theorem wymade_zero (n : Nat) : (madeCells (Value.agg #[.int .i64 0, .int .i64 0]).cells (n * 2)).toList = wyflat (List.replicate n (0, 0)) := by
  rw [wyflat_zero]
  apply List.ext_getElem
  · simp [madeCells]
  · intro j h1 h2
    have hz : ∀ k, k < 2 → (#[Value.int .i64 0, Value.int .i64 0] : Array Value)[k]! = .int .i64 0 := fun k hk => by
      rcases (by omega : k = 0 ∨ k = 1) with rfl | rfl <;> rfl
    simp only [madeCells, Array.toList_map, List.getElem_map, List.getElem_replicate]
    exact hz _ (Nat.mod_lt _ (by decide))
theorem wyflat_one (xs : List WyEl) : ∀ u ∈ wyflat xs, u.oneCell' = true := by
  intro u hu
  obtain ⟨x, _, hx⟩ := List.mem_flatMap.1 hu
  simp at hx
  rcases hx with rfl | rfl <;> rfl
theorem wyown_cells {w : World} {g : Nat} {cur : Array Value} {t n : Nat} {xs : List WyEl} (hh : w.heap[g]? = some (.cells cur t (0, 0))) (ht : cur.toList.take n = wyflat xs) (hn : xs.length * 2 ≤ n) :
    ∀ i, i < xs.length → WyCells w g (i * 2) (xs.getD i (0, 0)) ∧ WyFree w g (i * 2) := by
  intro i hi
  have key : ∀ j, j < xs.length * 2 → w.cell? ⟨g, j, none⟩ = (wyflat xs)[j]? := fun j hj => by
    rw [← ht, List.getElem?_take, if_pos (by omega)]
    simp [World.cell?, hh]
  have h1 := wyflat_get xs i hi
  refine ⟨⟨(key _ (by omega)).trans h1.1, (key _ (by omega)).trans h1.2⟩, ?_, ?_⟩ <;> simp [World.frozen?, hh]
theorem WyOwn.of_owns {base : Nat} {w : World} {v : Value} {n : Nat} {xs : List WyEl} (h : w.ownsRow base 108 2 v n (wyflat xs)) (hl : xs.length ≤ 1152921504606846975) : WyOwn base w.heap.size w v xs := by
  obtain ⟨hn, h⟩ := h
  rw [length_wyflat] at hn
  obtain rfl : xs.length = n := by omega
  refine ⟨hl, ?_⟩
  rcases h with ⟨rfl, h0⟩ | ⟨g, cap, cur, rfl, hg, hh, hc, hm, hs, ht⟩
  · exact .inl ⟨none, 0, rfl, List.eq_nil_of_length_eq_zero h0⟩
  · exact .inr ⟨g, cap, rfl, ⟨hg, (Array.getElem?_eq_some_iff.1 hh).1, hc⟩, wyown_cells hh ht (Nat.le_refl _)⟩
/-- The cells of what is read, one behind the other. -/
theorem wyflat_cells {w : World} {b off : Nat} {xs : List WyEl} (hc : ∀ i, i < xs.length → WyCells w b (off + i * 2) (xs.getD i (0, 0))) :
    ∀ j u, (wyflat xs)[j]? = some u → w.cell? ((⟨b, off, none⟩ : Addr).add j) = some u := by
  intro j u hj
  have hlt : j < xs.length * 2 := by
    have := (List.getElem?_eq_some_iff.1 hj).1
    rwa [length_wyflat] at this
  have h1 := wyflat_get xs (j / 2) (by omega)
  have h2 := hc (j / 2) (by omega)
  rw [show (⟨b, off, none⟩ : Addr).add j = ⟨b, off + j, none⟩ by rcases j with _ | j <;> simp [Addr.add]]
  rcases (by omega : j = j / 2 * 2 ∨ j = j / 2 * 2 + 1) with e | e
  · have a1 := h1.1
    have a2 := h2.1
    rw [← e] at a1
    rw [show off + j / 2 * 2 = off + j by omega] at a2
    rw [a1] at hj
    rw [a2, ← hj]
  · have a1 := h1.2
    have a2 := h2.2
    rw [← e] at a1
    rw [show off + j / 2 * 2 + 1 = off + j by omega] at a2
    rw [a1] at hj
    rw [a2, ← hj]
/-- All numbers of one are written. -/
theorem WyOwn.set {lo hi g cap : Nat} {w : World} {xs : List WyEl} (h : WyOwn lo hi w (.slice (some ⟨g, 0, none⟩) xs.length cap) xs) (i : Nat) (x : WyEl) (hi' : i < xs.length) :
    WyOwn lo hi ((w.setCell ⟨g, i * 2, none⟩ (.int .i64 x.1)).setCell ⟨g, i * 2 + 1, none⟩ (.int .i64 x.2)) (.slice (some ⟨g, 0, none⟩) xs.length cap) (xs.set i x) ∧ (lo ≤ g ∧ g < hi) ∧ WyFree w g (i * 2) ∧ WyCells w g (i * 2) (xs.getD i (0, 0)) := by
  obtain ⟨hl, h⟩ := h
  rcases h with ⟨a, cap', _, rfl⟩ | ⟨g', cap', e, hg, hf⟩
  · simp at hi'
  · cases e
    refine ⟨⟨by simpa using hl, .inr ⟨g, cap, by simp, by simpa using hg, fun j hj => ?_⟩⟩, ⟨hg.1, hg.2.1⟩, (hf i hi').2, (hf i hi').1⟩
    have hj' : j < xs.length := by simpa using hj
    refine ⟨?_, by have := (hf j hj').2; unfold WyFree at this ⊢; simpa using this⟩
    by_cases e : j = i
    · subst e
      have hx : (xs.set j x).getD j (0, 0) = x := by simp [List.getD_eq_getElem?_getD, hj']
      rw [hx]
      refine ⟨?_, ?_⟩
      · rw [World.cell?_setCell_other _ _ _ _ (by simp)]; exact World.cell?_setCell_same _ _ _ (u := .int .i64 (xs.getD j (0, 0)).1) (by exact (hf j hj').1.1)
      · exact World.cell?_setCell_same _ _ _ (u := .int .i64 (xs.getD j (0, 0)).2) (by rw [World.cell?_setCell_other _ _ _ _ (by simp)]; exact (hf j hj').1.2)
    · have hx : (xs.set i x).getD j (0, 0) = xs.getD j (0, 0) := by simp [List.getD_eq_getElem?_getD, Ne.symm e]
      rw [hx]
      refine ⟨?_, ?_⟩
      · rw [World.cell?_setCell_other _ _ _ _ (by simp <;> omega), World.cell?_setCell_other _ _ _ _ (by simp <;> omega)]; exact (hf j hj').1.1
      · rw [World.cell?_setCell_other _ _ _ _ (by simp <;> omega), World.cell?_setCell_other _ _ _ _ (by simp <;> omega)]; exact (hf j hj').1.2
end Go.Proofs.Ytflhlinkolbbiae
