/-
  Slices of texts: what they read as, which are new: plain facts on the memory.
-/
import Derived.Test.YtnkpboobfkjibalInts
namespace Go.Proofs.Ytnkpboobfkjibal
open Go.RowKit

abbrev XEl := ByteArray
abbrev xz : ByteArray := ByteArray.empty
theorem info_str : (Try.prog.info? 9).map (fun i => (i.zero, i.size, i.bytes)) = some (some (.string xz), 1, 16) := by kernel_rfl

/-- The cells of one, from an offset on. -/
def XCells (w : World) (b o : Nat) (x : XEl) : Prop := w.cell? ⟨b, o, none⟩ = some (.string x)
def XFree (w : World) (b o : Nat) : Prop := w.frozen? ⟨b, o, none⟩ = false
theorem XCells.of_block {w w' : World} {b o : Nat} {x : XEl} (h : XCells w b o x) (e : w'.heap[b]? = w.heap[b]?) : XCells w' b o x :=
  (World.cell?_of_block (a := ⟨b, o, none⟩) e).trans h
theorem XFree.of_block {w w' : World} {b o : Nat} (h : XFree w b o) (e : w'.heap[b]? = w.heap[b]?) : XFree w' b o :=
  (World.frozen?_of_block (a := ⟨b, o, none⟩) e).trans h
theorem XCells.lt {w : World} {b o : Nat} {x : XEl} (h : XCells w b o x) : b < w.heap.size := lt_of_cell h
theorem XCells.below {w w' : World} {b o B : Nat} {x : XEl} (h : XCells w b o x) (hb : Below B w w') (hB : b < B) : XCells w' b o x := h.of_block (hb.block b hB)

/-- The slice v reads as xs. -/
def XReads (w : World) (v : Value) (xs : List XEl) : Prop :=
  ∃ a cap, v = .slice a xs.length cap ∧ (xs.length ≤ 1152921504606846975 ∧ xs.length ≤ cap) ∧ (xs = [] ∨ ∃ b off, a = some ⟨b, off, none⟩ ∧ ∀ i, i < xs.length → XCells w b (off + i) (xs.getD i xz))
/-- The slice v reads as xs, in cells of its own, in blocks from lo on, below hi, that may be written; or it is empty and has no room. -/
def XOwn (lo hi : Nat) (w : World) (v : Value) (xs : List XEl) : Prop :=
  xs.length ≤ 1152921504606846975 ∧ ((∃ a cap, v = .slice a 0 cap ∧ xs = []) ∨ ∃ g cap, v = .slice (some ⟨g, 0, none⟩) xs.length cap ∧ (lo ≤ g ∧ g < hi ∧ xs.length ≤ cap) ∧ ∀ i, i < xs.length → XCells w g (i) (xs.getD i xz) ∧ XFree w g (i))

theorem XReads.cells {w : World} {v : Value} {xs : List XEl} (h : XReads w v xs) (k : Nat) (hk : k < xs.length) : ∃ b off cap, v = .slice (some ⟨b, off, none⟩) xs.length cap ∧ ∀ i, i < xs.length → XCells w b (off + i) (xs.getD i xz) := by
  obtain ⟨a, cap, rfl, _, h⟩ := h
  rcases h with h | ⟨b, off, rfl, hc⟩
  · subst h; simp at hk
  · exact ⟨b, off, cap, rfl, hc⟩
theorem XReads.below {w w' : World} {v : Value} {xs : List XEl} (h : XReads w v xs) (hb : Below w.heap.size w w') : XReads w' v xs := by
  obtain ⟨a, cap, rfl, hl, hx⟩ := h
  refine ⟨a, cap, rfl, hl, ?_⟩
  rcases hx with hx | ⟨b, off, rfl, hc⟩
  · exact .inl hx
  · exact .inr ⟨b, off, rfl, fun i hi => (hc i hi).of_block (hb.block b (hc i hi).lt)⟩
theorem xreads_nil (w : World) (a : Option Addr) (cap : Nat) : XReads w (.slice a 0 cap) [] := ⟨a, cap, rfl, by simp, .inl rfl⟩
theorem XOwn.reads {lo hi : Nat} {w : World} {v : Value} {xs : List XEl} (h : XOwn lo hi w v xs) : XReads w v xs := by
  obtain ⟨hl, h⟩ := h
  rcases h with ⟨a, cap, rfl, rfl⟩ | ⟨g, cap, rfl, hg, hf⟩
  · exact ⟨a, cap, rfl, by simp, .inl rfl⟩
  · exact ⟨_, cap, rfl, ⟨hl, hg.2.2⟩, .inr ⟨g, 0, rfl, fun i hi => by rw [Nat.zero_add]; exact (hf i hi).1⟩⟩
theorem XOwn.mono {lo hi lo' hi' : Nat} {w : World} {v : Value} {xs : List XEl} (h : XOwn lo hi w v xs) (h1 : lo' ≤ lo) (h2 : hi ≤ hi') : XOwn lo' hi' w v xs := by
  obtain ⟨hl, h⟩ := h
  rcases h with h | ⟨g, cap, rfl, hg, hr⟩
  · exact ⟨hl, .inl h⟩
  · exact ⟨hl, .inr ⟨g, cap, rfl, by omega, hr⟩⟩
theorem XOwn.at {lo hi : Nat} {w w' : World} {v : Value} {xs : List XEl} (h : XOwn lo hi w v xs) (hk : ∀ g, lo ≤ g → g < hi → g < w.heap.size → w'.heap[g]? = w.heap[g]?) : XOwn lo hi w' v xs := by
  obtain ⟨hl, h⟩ := h
  rcases h with h | ⟨g, cap, rfl, hg, hf⟩
  · exact ⟨hl, .inl h⟩
  · refine ⟨hl, .inr ⟨g, cap, rfl, hg, fun i hi => ?_⟩⟩
    have e := hk g hg.1 hg.2.1 (hf i hi).1.lt
    exact ⟨(hf i hi).1.of_block e, (hf i hi).2.of_block e⟩
theorem XOwn.below {lo hi : Nat} {w w' : World} {v : Value} {xs : List XEl} (h : XOwn lo hi w v xs) (hb : Below w.heap.size w w') : XOwn lo hi w' v xs := h.at fun g _ _ hg => hb.block g hg
theorem XOwn.keep {lo hi B : Nat} {w w' : World} {v : Value} {xs : List XEl} (h : XOwn lo hi w v xs) (hb : Below B w w') (hB : hi ≤ B) : XOwn lo hi w' v xs := h.at fun g _ h2 _ => hb.block g (by omega)
theorem XOwn.only {lo hi l h' : Nat} {w w' : World} {v : Value} {xs : List XEl} (h : XOwn lo hi w v xs) (ho : Only l h' w w') (hd : hi ≤ l ∨ h' ≤ lo) : XOwn lo hi w' v xs := h.at fun g h1 h2 _ => ho.2 g (by omega)
theorem xown_nil (lo hi : Nat) (w : World) (a : Option Addr) (cap : Nat) : XOwn lo hi w (.slice a 0 cap) [] := ⟨by simp, .inl ⟨a, cap, rfl, rfl⟩⟩

/-- The cells, one behind the other. -/
def xflat (xs : List XEl) : List Value := xs.map Value.string
theorem length_xflat (xs : List XEl) : (xflat xs).length = xs.length := by simp [xflat]
theorem xflat_get (xs : List XEl) (i : Nat) (h : i < xs.length) : (xflat xs)[i]? = some (.string (xs.getD i xz)) := by simp [xflat, List.getD_eq_getElem?_getD, h]
theorem xflat_append (xs ys : List XEl) : xflat (xs ++ ys) = xflat xs ++ xflat ys := by simp [xflat]
theorem xflat_drop (xs : List XEl) (k : Nat) : xflat (xs.drop k) = (xflat xs).drop k := by simp [xflat]
theorem xflat_take (xs : List XEl) (k : Nat) : xflat (xs.take k) = (xflat xs).take k := by simp [xflat]
theorem xmade_zero (n : Nat) : (madeCells (Value.string xz).cells n).toList = xflat (List.replicate n xz) := by
  apply List.ext_getElem
  · simp [madeCells, xflat]
  · intro j h1 h2
    simp [madeCells, xflat, Value.cells, Nat.mod_one]
theorem xflat_one (xs : List XEl) : ∀ u ∈ xflat xs, u.oneCell' = true := by
  intro u hu
  obtain ⟨x, _, rfl⟩ := List.mem_map.1 hu
  rfl
theorem xown_cells {w : World} {g : Nat} {cur : Array Value} {t n : Nat} {xs : List XEl} (hh : w.heap[g]? = some (.cells cur t (0, 0))) (ht : cur.toList.take n = xflat xs) (hn : xs.length ≤ n) :
    ∀ i, i < xs.length → XCells w g i (xs.getD i xz) ∧ XFree w g i := by
  intro i hi
  have key : ∀ j, j < xs.length → w.cell? ⟨g, j, none⟩ = (xflat xs)[j]? := fun j hj => by
    rw [← ht, List.getElem?_take, if_pos (by omega)]
    simp [World.cell?, hh]
  refine ⟨(key _ (by omega)).trans (xflat_get xs i hi), ?_⟩
  simp [XFree, World.frozen?, hh]
theorem XOwn.of_owns {base : Nat} {w : World} {v : Value} {n : Nat} {xs : List XEl} (h : w.ownsRow base 9 1 v n (xflat xs)) (hl : xs.length ≤ 1152921504606846975) : XOwn base w.heap.size w v xs := by
  obtain ⟨hn, h⟩ := h
  rw [length_xflat] at hn
  obtain rfl : xs.length = n := by omega
  refine ⟨hl, ?_⟩
  rcases h with ⟨rfl, h0⟩ | ⟨g, cap, cur, rfl, hg, hh, hc, hm, hs, ht⟩
  · exact .inl ⟨none, 0, rfl, List.eq_nil_of_length_eq_zero h0⟩
  · exact .inr ⟨g, cap, rfl, ⟨hg, (Array.getElem?_eq_some_iff.1 hh).1, hc⟩, xown_cells hh ht (by omega)⟩
/-- The cells of what is read, one behind the other. -/
theorem xflat_cells {w : World} {b off : Nat} {xs : List XEl} (hc : ∀ i, i < xs.length → XCells w b (off + i) (xs.getD i xz)) :
    ∀ j u, (xflat xs)[j]? = some u → w.cell? ((⟨b, off, none⟩ : Addr).add j) = some u := by
  intro j u hj
  have hlt : j < xs.length := by
    have := (List.getElem?_eq_some_iff.1 hj).1
    rwa [length_xflat] at this
  rw [show (⟨b, off, none⟩ : Addr).add j = ⟨b, off + j, none⟩ by rcases j with _ | j <;> simp [Addr.add]]
  rw [xflat_get xs j hlt] at hj
  rw [hc j hlt, ← hj]
/-- All numbers of one are written. -/
theorem XOwn.set {lo hi g cap : Nat} {w : World} {xs : List XEl} (h : XOwn lo hi w (.slice (some ⟨g, 0, none⟩) xs.length cap) xs) (i : Nat) (x : XEl) (hi' : i < xs.length) :
    XOwn lo hi (w.setCell ⟨g, i, none⟩ (.string x)) (.slice (some ⟨g, 0, none⟩) xs.length cap) (xs.set i x) ∧ (lo ≤ g ∧ g < hi) ∧ XFree w g (i) ∧ XCells w g (i) (xs.getD i xz) := by
  obtain ⟨hl, h⟩ := h
  rcases h with ⟨a, cap', _, rfl⟩ | ⟨g', cap', e, hg, hf⟩
  · simp at hi'
  · cases e
    refine ⟨⟨by simpa using hl, .inr ⟨g, cap, by simp, by simpa using hg, fun j hj => ?_⟩⟩, ⟨hg.1, hg.2.1⟩, (hf i hi').2, (hf i hi').1⟩
    have hj' : j < xs.length := by simpa using hj
    refine ⟨?_, by have := (hf j hj').2; unfold XFree at this ⊢; simpa using this⟩
    by_cases e : j = i
    · subst e
      have hx : (xs.set j x).getD j xz = x := by simp [List.getD_eq_getElem?_getD, hj']
      rw [hx]
      exact World.cell?_setCell_same _ _ _ (u := .string (xs.getD j xz)) (by exact (hf j hj').1)
    · have hx : (xs.set i x).getD j xz = xs.getD j xz := by simp [List.getD_eq_getElem?_getD, Ne.symm e]
      rw [hx]
      show World.cell? _ _ = _
      rw [World.cell?_setCell_other _ _ _ _ (by simp <;> omega)]
      exact (hf j hj').1
end Go.Proofs.Ytnkpboobfkjibal
