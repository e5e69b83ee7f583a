/-
  Slices of integers: what they read as, which are new: plain facts on the memory.
  'Only lo hi w w'': between two worlds no block has come, and those outside lo .. hi are as they were.
  A struct in a box: its cells, one behind the other. Plain facts on the memory.
  A struct of eleven in a box: its cells. Plain facts on the memory.
-/
import Derived.Test.YtdlkilacnnjglaaProg
import Derived.WalkKit
import Derived.Handy
import Derived.Deep.OwnRows
namespace Go.Proofs.Ytdlkilacnnjglaa
open Go.RowKit

theorem info_int : (Try.prog.info? 3).map (fun i => (i.zero, i.size, i.bytes)) = some (some (.int .i64 0), 1, 8) := by kernel_rfl

theorem hid {p : Prop} (h : p) : Hid p := h

/-- The slice v reads as the list xs. -/
def Reads (w : World) (v : Value) (xs : List Int) : Prop :=
  ∃ a cap, v = .slice a xs.length cap ∧ xs.length ≤ 1152921504606846975 ∧ (xs = [] ∨ ∃ b off, a = some ⟨b, off, none⟩ ∧ ∀ i, i < xs.length → w.cell? ⟨b, off + i, none⟩ = some (.int .i64 (xs.getD i 0)))

/-- The slice v reads as xs, in a row of its own from block 'base' on that may be written. -/
def Own (base : Nat) (w : World) (v : Value) (xs : List Int) : Prop :=
  xs.length ≤ 1152921504606846975 ∧ ((v = .slice none 0 0 ∧ xs = []) ∨ ∃ g cap f, v = .slice (some ⟨g, 0, none⟩) xs.length cap ∧ base ≤ g ∧ xs.length ≤ cap ∧ cap ≤ maxLen ∧ w.rowIs g 3 cap f ∧ ∀ i, i < xs.length → f i = .int .i64 (xs.getD i 0))

theorem lt_of_cell {w : World} {b o : Nat} {u : Value} (h : w.cell? ⟨b, o, none⟩ = some u) : b < w.heap.size := by
  by_cases hb : b < w.heap.size
  · exact hb
  · exfalso
    have : w.heap[b]? = none := Array.getElem?_eq_none (by omega)
    simp [World.cell?, this] at h

theorem Reads.below {w w' : World} {v : Value} {xs : List Int} (h : Reads w v xs) (hb : Below w.heap.size w w') : Reads w' v xs := by
  obtain ⟨a, cap, rfl, hl, hx⟩ := h
  refine ⟨a, cap, rfl, hl, ?_⟩
  rcases hx with hx | ⟨b, off, rfl, hc⟩
  · exact .inl hx
  · exact .inr ⟨b, off, rfl, fun i hi => (hb.cell (p := ⟨b, off + i, none⟩) (lt_of_cell (hc i hi))).trans (hc i hi)⟩

theorem Own.reads {base : Nat} {w : World} {v : Value} {xs : List Int} (h : Own base w v xs) : Reads w v xs := by
  obtain ⟨hl, h⟩ := h
  rcases h with ⟨rfl, rfl⟩ | ⟨g, cap, f, rfl, hg, hc, hm, hr, hf⟩
  · exact ⟨none, 0, rfl, by simp, .inl rfl⟩
  · exact ⟨_, cap, rfl, hl, .inr ⟨g, 0, rfl, fun i hi => by rw [Nat.zero_add, hr.cell (by omega), hf i hi]⟩⟩

theorem Own.mono {base base' : Nat} {w : World} {v : Value} {xs : List Int} (h : Own base w v xs) (hb : base' ≤ base) : Own base' w v xs := by
  obtain ⟨hl, h⟩ := h
  rcases h with h | ⟨g, cap, f, rfl, hg, hr⟩
  · exact ⟨hl, .inl h⟩
  · exact ⟨hl, .inr ⟨g, cap, f, rfl, by omega, hr⟩⟩

theorem Own.below {base : Nat} {w w' : World} {v : Value} {xs : List Int} (h : Own base w v xs) (hb : Below w.heap.size w w') : Own base w' v xs := by
  obtain ⟨hl, h⟩ := h
  rcases h with h | ⟨g, cap, f, rfl, hg, hc, hm, hr, hf⟩
  · exact ⟨hl, .inl h⟩
  · exact ⟨hl, .inr ⟨g, cap, f, rfl, hg, hc, hm, hr.of_block (hb.block g hr.lt), hf⟩⟩

theorem Own.of_owns {base : Nat} {w : World} {v : Value} {n : Nat} {xs : List Int} (h : w.ownsRow base 3 1 v n (xs.map (Value.int .i64))) (hl : xs.length ≤ 1152921504606846975) : Own base w v xs := by
  obtain ⟨hn, h⟩ := h
  simp only [List.length_map, Nat.mul_one] at hn
  subst hn
  refine ⟨hl, ?_⟩
  rcases h with ⟨rfl, h0⟩ | ⟨g, cap, cur, rfl, hg, hh, hc, hm, hs, ht⟩
  · exact .inl ⟨rfl, List.eq_nil_of_length_eq_zero h0⟩
  · refine .inr ⟨g, cap, fun i => cur.getD i (.int .i64 0), rfl, hg, hc, hm, ⟨cur, hh, by omega, fun i hi => ?_⟩, fun i hi => ?_⟩
    · simp [Array.getD, show i < cur.size by omega]
    · have e : (cur.toList.take (xs.length * 1))[i]? = (xs.map (Value.int .i64))[i]? := by rw [ht]
      have hi2 : i < cur.size := by omega
      simp [hi, hi2] at e
      simp [Array.getD, hi2, e, List.getD_eq_getElem?_getD, hi]

/-- A new row of zeros. -/
theorem Own.made (w : World) (n : Nat) (hn : n ≤ 1152921504606846975) : Own w.heap.size (w.alloc (.cells (madeCells #[.int .i64 0] n) 3)) (.slice (some ⟨w.heap.size, 0, none⟩) n n) (List.replicate n 0) := by
  refine ⟨by simpa using hn, .inr ⟨w.heap.size, n, fun _ => .int .i64 0, by simp, Nat.le_refl _, by simp, by unfold maxLen; omega, World.rowIs_made w (.int .i64 0) n 3, fun i hi => ?_⟩⟩
  have hi' : i < n := by simpa using hi
  simp [List.getD_eq_getElem?_getD, hi']

/-- One store into an own row. -/
theorem Own.set {base g cap : Nat} {w : World} {xs : List Int} (h : Own base w (.slice (some ⟨g, 0, none⟩) xs.length cap) xs) (i : Nat) (x : Int) (hi : i < xs.length) :
    Own base (w.setCell ⟨g, i, none⟩ (.int .i64 x)) (.slice (some ⟨g, 0, none⟩) xs.length cap) (xs.set i x) ∧ base ≤ g ∧ w.frozen? ⟨g, i, none⟩ = false ∧ w.cell? ⟨g, i, none⟩ = some (.int .i64 (xs.getD i 0)) := by
  obtain ⟨hl, h⟩ := h
  rcases h with ⟨h, _⟩ | ⟨g', cap', f, e, hg, hc, hm, hr, hf⟩
  · cases h
  · cases e
    refine ⟨⟨by simpa using hl, .inr ⟨g, cap, _, by simp, hg, by simpa using hc, hm, hr.set i (.int .i64 x), fun j hj => ?_⟩⟩, hg, hr.frozen i, by rw [hr.cell (by omega), hf i hi]⟩
    have hj' : j < xs.length := by simpa using hj
    by_cases e : j = i
    · subst e; simp [List.getD_eq_getElem?_getD, hj']
    · rw [if_neg e, hf j hj']; simp [List.getD_eq_getElem?_getD, Ne.symm e]
end Go.Proofs.Ytdlkilacnnjglaa
namespace Go.Proofs.Ytdlkilacnnjglaa
open Go.RowKit

def Only (lo hi : Nat) (w w' : World) : Prop := w'.heap.size = w.heap.size ∧ ∀ j, (j < lo ∨ hi ≤ j) → w'.heap[j]? = w.heap[j]?
theorem Only.refl (lo hi : Nat) (w : World) : Only lo hi w w := ⟨rfl, fun _ _ => rfl⟩
theorem Only.trans {lo hi : Nat} {a b c : World} (h : Only lo hi a b) (k : Only lo hi b c) : Only lo hi a c := ⟨k.1.trans h.1, fun j hj => (k.2 j hj).trans (h.2 j hj)⟩
theorem Only.setCell {lo hi : Nat} {a w : World} (h : Only lo hi a w) {p : Addr} (h1 : lo ≤ p.block) (h2 : p.block < hi) (u : Value) : Only lo hi a (w.setCell p u) :=
  ⟨by rw [← h.1]; simp [World.setCell], fun j hj => (Below.heap_setCell _ _ _ _ (by omega)).trans (h.2 j hj)⟩
theorem Only.mono {lo hi lo' hi' : Nat} {a b : World} (h : Only lo hi a b) (h1 : lo' ≤ lo) (h2 : hi ≤ hi') : Only lo' hi' a b := ⟨h.1, fun j hj => h.2 j (by omega)⟩
theorem Only.drew {lo hi : Nat} {a b : World} (h : Only lo hi a b) : Only lo hi a b.drew := h
theorem Only.below {lo hi : Nat} {a b : World} (h : Only lo hi a b) (hs : b.os = a.os ∧ b.tape = a.tape ∧ b.output = a.output) : Below lo a b := ⟨hs.1, hs.2.1, hs.2.2, by rw [h.1]; exact Nat.le_refl _, fun k hk => h.2 k (.inl hk)⟩
end Go.Proofs.Ytdlkilacnnjglaa
namespace Go.Proofs.Ytdlkilacnnjglaa
open Go.RowKit

def BoxL (w : World) (b : Nat) (vs : List Value) : Prop := 0 < vs.length ∧ ∀ i (h : i < vs.length), w.cell? ⟨b, i, none⟩ = some vs[i] ∧ w.frozen? ⟨b, i, none⟩ = false
theorem BoxL.cell {w : World} {b : Nat} {vs : List Value} (h : BoxL w b vs) (i : Nat) (hi : i < vs.length) : w.cell? ⟨b, i, none⟩ = some vs[i] ∧ w.frozen? ⟨b, i, none⟩ = false := h.2 i hi
theorem BoxL.lt {w : World} {b : Nat} {vs : List Value} (h : BoxL w b vs) : b < w.heap.size := lt_of_cell (h.2 0 h.1).1
theorem BoxL.below {w w' : World} {b B : Nat} {vs : List Value} (h : BoxL w b vs) (hb : Below B w w') (hB : b < B) : BoxL w' b vs :=
  ⟨h.1, fun i hi => ⟨(World.cell?_of_block (a := ⟨b, i, none⟩) (hb.block b hB)).trans (h.2 i hi).1, (World.frozen?_of_block (a := ⟨b, i, none⟩) (hb.block b hB)).trans (h.2 i hi).2⟩⟩
theorem BoxL.of_block {w w' : World} {b : Nat} {vs : List Value} (h : BoxL w b vs) (e : w'.heap[b]? = w.heap[b]?) : BoxL w' b vs :=
  ⟨h.1, fun i hi => ⟨(World.cell?_of_block (a := ⟨b, i, none⟩) e).trans (h.2 i hi).1, (World.frozen?_of_block (a := ⟨b, i, none⟩) e).trans (h.2 i hi).2⟩⟩
theorem boxL_new (w : World) (vs : List Value) (t : TypeId) (h : 0 < vs.length := by simp) : BoxL (w.alloc (.cells vs.toArray t)) w.heap.size vs := by
  refine ⟨h, fun i hi => ⟨?_, ?_⟩⟩
  · rw [World.cell?_alloc_new]
    simp [hi]
  · simp
theorem BoxL.set {w : World} {b : Nat} {vs : List Value} (h : BoxL w b vs) (i : Nat) (hi : i < vs.length) (u : Value) : BoxL (w.setCell ⟨b, i, none⟩ u) b (vs.set i u) := by
  refine ⟨by rw [List.length_set]; exact h.1, fun j hj => ?_⟩
  rw [List.length_set] at hj
  refine ⟨?_, by simpa using (h.2 j hj).2⟩
  by_cases e : j = i
  · subst e
    rw [List.getElem_set_self]
    exact World.cell?_setCell_same _ _ _ (h.2 j hi).1
  · rw [List.getElem_set_ne (Ne.symm e), World.cell?_setCell_other _ _ _ _ (by simp <;> omega)]
    exact (h.2 j hj).1
theorem BoxL.two {w : World} {b : Nat} {a0 a1 : Value} (h : BoxL w b [a0, a1]) : w.cell? ⟨b, 0, none⟩ = some a0 ∧ w.cell? ⟨b, 1, none⟩ = some a1 := ⟨(h.2 0 (by simp)).1, (h.2 1 (by simp)).1⟩
theorem BoxL.three {w : World} {b : Nat} {a0 a1 a2 : Value} (h : BoxL w b [a0, a1, a2]) : w.cell? ⟨b, 0, none⟩ = some a0 ∧ w.cell? ⟨b, 1, none⟩ = some a1 ∧ w.cell? ⟨b, 2, none⟩ = some a2 := ⟨(h.2 0 (by simp)).1, (h.2 1 (by simp)).1, (h.2 2 (by simp)).1⟩
theorem BoxL.four {w : World} {b : Nat} {a0 a1 a2 a3 : Value} (h : BoxL w b [a0, a1, a2, a3]) : w.cell? ⟨b, 0, none⟩ = some a0 ∧ w.cell? ⟨b, 1, none⟩ = some a1 ∧ w.cell? ⟨b, 2, none⟩ = some a2 ∧ w.cell? ⟨b, 3, none⟩ = some a3 := ⟨(h.2 0 (by simp)).1, (h.2 1 (by simp)).1, (h.2 2 (by simp)).1, (h.2 3 (by simp)).1⟩
theorem BoxL.five {w : World} {b : Nat} {a0 a1 a2 a3 a4 : Value} (h : BoxL w b [a0, a1, a2, a3, a4]) : w.cell? ⟨b, 0, none⟩ = some a0 ∧ w.cell? ⟨b, 1, none⟩ = some a1 ∧ w.cell? ⟨b, 2, none⟩ = some a2 ∧ w.cell? ⟨b, 3, none⟩ = some a3 ∧ w.cell? ⟨b, 4, none⟩ = some a4 := ⟨(h.2 0 (by simp)).1, (h.2 1 (by simp)).1, (h.2 2 (by simp)).1, (h.2 3 (by simp)).1, (h.2 4 (by simp)).1⟩
end Go.Proofs.Ytdlkilacnnjglaa
namespace Go.Proofs.Ytdlkilacnnjglaa

theorem BoxL.eleven {w : World} {b : Nat} {a0 a1 a2 a3 a4 a5 a6 a7 a8 a9 a10 : Value} (h : BoxL w b [a0, a1, a2, a3, a4, a5, a6, a7, a8, a9, a10]) : w.cell? ⟨b, 0, none⟩ = some a0 ∧ w.cell? ⟨b, 1, none⟩ = some a1 ∧ w.cell? ⟨b, 2, none⟩ = some a2 ∧ w.cell? ⟨b, 3, none⟩ = some a3 ∧ w.cell? ⟨b, 4, none⟩ = some a4 ∧ w.cell? ⟨b, 5, none⟩ = some a5 ∧ w.cell? ⟨b, 6, none⟩ = some a6 ∧ w.cell? ⟨b, 7, none⟩ = some a7 ∧ w.cell? ⟨b, 8, none⟩ = some a8 ∧ w.cell? ⟨b, 9, none⟩ = some a9 ∧ w.cell? ⟨b, 10, none⟩ = some a10 :=
  ⟨(h.2 0 (by simp)).1, (h.2 1 (by simp)).1, (h.2 2 (by simp)).1, (h.2 3 (by simp)).1, (h.2 4 (by simp)).1, (h.2 5 (by simp)).1, (h.2 6 (by simp)).1, (h.2 7 (by simp)).1, (h.2 8 (by simp)).1, (h.2 9 (by simp)).1, (h.2 10 (by simp)).1⟩
end Go.Proofs.Ytdlkilacnnjglaa
