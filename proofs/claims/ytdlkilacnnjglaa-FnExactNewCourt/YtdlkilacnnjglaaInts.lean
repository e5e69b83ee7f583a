/-
  Slices of integers: what they read as, which are new: plain facts on the memory.
-/
import Derived.Test.YtdlkilacnnjglaaProg
import Derived.WalkKit
import Derived.Handy
import Derived.Deep.OwnRows
namespace Go.Proofs.Ytdlkilacnnjglaa
open Go.RowKit

theorem info_int : (Try.prog.info? 3).map (fun i => (i.zero, i.size, i.bytes)) = some (some (.int .i64 0), 1, 8) := by kernel_rfl

theorem hid {p : Prop} (h : p) : Hid p := h

/-- The slice v reads as the list xs. -/
def Reads (w : World) (v : Value) (xs : List Int) : Prop :=
  ∃ a cap, v = .slice a xs.length cap ∧ xs.length ≤ 1152921504606846975 ∧ (xs = [] ∨ ∃ b off, a = some ⟨b, off, none⟩ ∧ ∀ i, i < xs.length → w.cell? ⟨b, off + i, none⟩ = some (.int .i64 (xs.getD i 0)))

/-- The slice v reads as xs, in a row of its own from block 'base' on that may be written. -/
def Own (base : Nat) (w : World) (v : Value) (xs : List Int) : Prop :=
  xs.length ≤ 1152921504606846975 ∧ ((v = .slice none 0 0 ∧ xs = []) ∨ ∃ g cap f, v = .slice (some ⟨g, 0, none⟩) xs.length cap ∧ base ≤ g ∧ xs.length ≤ cap ∧ cap ≤ maxLen ∧ w.rowIs g 3 cap f ∧ ∀ i, i < xs.length → f i = .int .i64 (xs.getD i 0))

theorem lt_of_cell {w : World} {b o : Nat} {u : Value} (h : w.cell? ⟨b, o, none⟩ = some u) : b < w.heap.size := by
  by_cases hb : b < w.heap.size
  · exact hb
  · exfalso
    have : w.heap[b]? = none := Array.getElem?_eq_none (by omega)
    simp [World.cell?, this] at h

theorem Reads.below {w w' : World} {v : Value} {xs : List Int} (h : Reads w v xs) (hb : Below w.heap.size w w') : Reads w' v xs := by
  obtain ⟨a, cap, rfl, hl, hx⟩ := h
  refine ⟨a, cap, rfl, hl, ?_⟩
  rcases hx with hx | ⟨b, off, rfl, hc⟩
  · exact .inl hx
  · exact .inr ⟨b, off, rfl, fun i hi => (hb.cell (p := ⟨b, off + i, none⟩) (lt_of_cell (hc i hi))).trans (hc i hi)⟩

theorem Own.reads {base : Nat} {w : World} {v : Value} {xs : List Int} (h : Own base w v xs) : Reads w v xs := by
  obtain ⟨hl, h⟩ := h
  rcases h with ⟨rfl, rfl⟩ | ⟨g, cap, f, rfl, hg, hc, hm, hr, hf⟩
  · exact ⟨none, 0, rfl, by simp, .inl rfl⟩
  · exact ⟨_, cap, rfl, hl, .inr ⟨g, 0, rfl, fun i hi => by rw [Nat.zero_add, hr.cell (by omega), hf i hi]⟩⟩

theorem Own.mono {base base' : Nat} {w : World} {v : Value} {xs : List Int} (h : Own base w v xs) (hb : base' ≤ base) : Own base' w v xs := by
  obtain ⟨hl, h⟩ := h
  rcases h with h | ⟨g, cap, f, rfl, hg, hr⟩
  · exact ⟨hl, .inl h⟩
  · exact ⟨hl, .inr ⟨g, cap, f, rfl, by omega, hr⟩⟩

theorem Own.below {base : Nat} {w w' : World} {v : Value} {xs : List Int} (h : Own base w v xs) (hb : Below w.heap.size w w') : Own base w' v xs := by
  obtain ⟨hl, h⟩ := h
  rcases h with h | ⟨g, cap, f, rfl, hg, hc, hm, hr, hf⟩
  · exact ⟨hl, .inl h⟩
  · exact ⟨hl, .inr ⟨g, cap, f, rfl, hg, hc, hm, hr.of_block (hb.block g hr.lt), hf⟩⟩

theorem Own.of_owns {base : Nat} {w : World} {v : Value} {n : Nat} {xs : List Int} (h : w.ownsRow base 3 1 v n (xs.map (Value.int .i64))) (hl : xs.length ≤ 1152921504606846975) : Own base w v xs := by
  obtain ⟨hn, h⟩ := h
  simp only [List.length_map, Nat.mul_one] at hn
  subst hn
  refine ⟨hl, ?_⟩
  rcases h with ⟨rfl, h0⟩ | ⟨g, cap, cur, rfl, hg, hh, hc, hm, hs, ht⟩
  · exact .inl ⟨rfl, List.eq_nil_of_length_eq_zero h0⟩
  · refine .inr ⟨g, cap, fun i => cur.getD i (.int .i64 0), rfl, hg, hc, hm, ⟨cur, hh, by omega, fun i hi => ?_⟩, fun i hi => ?_⟩
    · simp [Array.getD, show i < cur.size by omega]
    · have e : (cur.toList.take (xs.length * 1))[i]? = (xs.map (Value.int .i64))[i]? := by rw [ht]
      have hi2 : i < cur.size := by omega
      simp [hi, hi2] at e
      simp [Array.getD, hi2, e, List.getD_eq_getElem?_getD, hi]

/-- A new row of zeros. -/
theorem Own.made (w : World) (n : Nat) (hn : n ≤ 1152921504606846975) : Own w.heap.size (w.alloc (.cells (madeCells #[.int .i64 0] n) 3)) (.slice (some ⟨w.heap.size, 0, none⟩) n n) (List.replicate n 0) := by
  refine ⟨by simpa using hn, .inr ⟨w.heap.size, n, fun _ => .int .i64 0, by simp, Nat.le_refl _, by simp, by unfold maxLen; omega, World.rowIs_made w (.int .i64 0) n 3, fun i hi => ?_⟩⟩
  have hi' : i < n := by simpa using hi
  simp [List.getD_eq_getElem?_getD, hi']

/-- One store into an own row. -/
theorem Own.set {base g cap : Nat} {w : World} {xs : List Int} (h : Own base w (.slice (some ⟨g, 0, none⟩) xs.length cap) xs) (i : Nat) (x : Int) (hi : i < xs.length) :
    Own base (w.setCell ⟨g, i, none⟩ (.int .i64 x)) (.slice (some ⟨g, 0, none⟩) xs.length cap) (xs.set i x) ∧ base ≤ g ∧ w.frozen? ⟨g, i, none⟩ = false ∧ w.cell? ⟨g, i, none⟩ = some (.int .i64 (xs.getD i 0)) := by
  obtain ⟨hl, h⟩ := h
  rcases h with ⟨h, _⟩ | ⟨g', cap', f, e, hg, hc, hm, hr, hf⟩
  · cases h
  · cases e
    refine ⟨⟨by simpa using hl, .inr ⟨g, cap, _, by simp, hg, by simpa using hc, hm, hr.set i (.int .i64 x), fun j hj => ?_⟩⟩, hg, hr.frozen i, by rw [hr.cell (by omega), hf i hi]⟩
    have hj' : j < xs.length := by simpa using hj
    by_cases e : j = i
    · subst e; simp [List.getD_eq_getElem?_getD, hj']
    · rw [if_neg e, hf j hj']; simp [List.getD_eq_getElem?_getD, Ne.symm e]
end Go.Proofs.Ytdlkilacnnjglaa
