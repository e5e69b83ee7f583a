/-
  Slices of spans: what they read as, which are new: plain facts on the memory.
-/
import Derived.Test.YtkmdkfegpgkkmatDoorInts
import Derived.Test.YtkmdkfegpgkkmatDoorSpanMath
namespace Go.Proofs.YtkmdkfegpgkkmatDoor
open Go.RowKit

theorem info_span : (Tryd.prog.info? 26).map (fun i => (i.zero, i.size, i.bytes)) = some (some (.agg #[.int .i64 0, .int .i64 0]), 2, 16) := by kernel_rfl

/-- The slice v reads as the spans xs (of a type of two numbers). -/
def SReads (w : World) (v : Value) (xs : List Sp) : Prop :=
  ∃ a cap, v = .slice a xs.length cap ∧ xs.length ≤ 1152921504606846975 ∧ (xs = [] ∨ ∃ b off, a = some ⟨b, off, none⟩ ∧ ∀ i, i < xs.length → w.cell? ⟨b, off + i * 2, none⟩ = some (.int .i64 (xs.getD i (0, 0)).1) ∧ w.cell? ⟨b, off + i * 2 + 1, none⟩ = some (.int .i64 (xs.getD i (0, 0)).2))

/-- The slice v reads as xs, in a row of its own from block 'base' on that may be written. -/
def SOwn (base : Nat) (w : World) (v : Value) (xs : List Sp) : Prop :=
  xs.length ≤ 1152921504606846975 ∧ ((v = .slice none 0 0 ∧ xs = []) ∨ ∃ g cap f, v = .slice (some ⟨g, 0, none⟩) xs.length cap ∧ base ≤ g ∧ xs.length ≤ cap ∧ cap ≤ maxLen ∧ w.rowIs g 26 (cap * 2) f ∧ ∀ i, i < xs.length → f (i * 2) = .int .i64 (xs.getD i (0, 0)).1 ∧ f (i * 2 + 1) = .int .i64 (xs.getD i (0, 0)).2)

theorem SReads.below {w w' : World} {v : Value} {xs : List Sp} (h : SReads w v xs) (hb : Below w.heap.size w w') : SReads w' v xs := by
  obtain ⟨a, cap, rfl, hl, hx⟩ := h
  refine ⟨a, cap, rfl, hl, ?_⟩
  rcases hx with hx | ⟨b, off, rfl, hc⟩
  · exact .inl hx
  · exact .inr ⟨b, off, rfl, fun i hi => ⟨(hb.cell (p := ⟨b, off + i * 2, none⟩) (lt_of_cell (hc i hi).1)).trans (hc i hi).1, (hb.cell (p := ⟨b, off + i * 2 + 1, none⟩) (lt_of_cell (hc i hi).2)).trans (hc i hi).2⟩⟩

theorem SOwn.reads {base : Nat} {w : World} {v : Value} {xs : List Sp} (h : SOwn base w v xs) : SReads w v xs := by
  obtain ⟨hl, h⟩ := h
  rcases h with ⟨rfl, rfl⟩ | ⟨g, cap, f, rfl, hg, hc, hm, hr, hf⟩
  · exact ⟨none, 0, rfl, by simp, .inl rfl⟩
  · refine ⟨_, cap, rfl, hl, .inr ⟨g, 0, rfl, fun i hi => ⟨?_, ?_⟩⟩⟩
    · rw [Nat.zero_add, hr.cell (by omega), (hf i hi).1]
    · rw [Nat.zero_add, hr.cell (by omega), (hf i hi).2]

theorem SOwn.mono {base base' : Nat} {w : World} {v : Value} {xs : List Sp} (h : SOwn base w v xs) (hb : base' ≤ base) : SOwn base' w v xs := by
  obtain ⟨hl, h⟩ := h
  rcases h with h | ⟨g, cap, f, rfl, hg, hr⟩
  · exact ⟨hl, .inl h⟩
  · exact ⟨hl, .inr ⟨g, cap, f, rfl, by omega, hr⟩⟩

theorem SOwn.below {base : Nat} {w w' : World} {v : Value} {xs : List Sp} (h : SOwn base w v xs) (hb : Below w.heap.size w w') : SOwn base w' v xs := by
  obtain ⟨hl, h⟩ := h
  rcases h with h | ⟨g, cap, f, rfl, hg, hc, hm, hr, hf⟩
  · exact ⟨hl, .inl h⟩
  · exact ⟨hl, .inr ⟨g, cap, f, rfl, hg, hc, hm, hr.of_block (hb.block g hr.lt), hf⟩⟩

theorem sown_nil (base : Nat) (w : World) : SOwn base w (.slice none 0 0) [] := ⟨by simp, .inl ⟨rfl, rfl⟩⟩

/-- The cells of spans, one behind the other. -/
def flat (xs : List Sp) : List Value := xs.flatMap fun x => [.int .i64 x.1, .int .i64 x.2]
theorem length_flat (xs : List Sp) : (flat xs).length = xs.length * 2 := by
  induction xs with
  | nil => rfl
  | cons x xs ih => simp only [flat, List.flatMap_cons, List.length_append, List.length_cons, List.length_nil] at ih ⊢; omega
theorem flat_get : ∀ (xs : List Sp) (i : Nat), i < xs.length → (flat xs)[i * 2]? = some (.int .i64 (xs.getD i (0, 0)).1) ∧ (flat xs)[i * 2 + 1]? = some (.int .i64 (xs.getD i (0, 0)).2)
  | x :: xs, 0, _ => ⟨rfl, rfl⟩
  | x :: xs, i + 1, h => by
    have := flat_get xs i (by simpa using h)
    have e : flat (x :: xs) = .int .i64 x.1 :: .int .i64 x.2 :: flat xs := rfl
    rw [e, show (i + 1) * 2 = i * 2 + 2 by omega]
    simpa using this
theorem flat_snoc (xs : List Sp) (x : Sp) : flat (xs ++ [x]) = flat xs ++ [.int .i64 x.1, .int .i64 x.2] := by simp [flat]

theorem flat_zero : ∀ n : Nat, flat (List.replicate n (0, 0)) = List.replicate (n * 2) (.int .i64 0)
  | 0 => rfl
  | n + 1 => by
    rw [List.replicate_succ, show (n + 1) * 2 = n * 2 + 1 + 1 by omega, List.replicate_succ, List.replicate_succ, ← flat_zero n]
    rfl
theorem made_zero (n : Nat) : (madeCells (Value.agg #[.int .i64 0, .int .i64 0]).cells (n * 2)).toList = flat (List.replicate n (0, 0)) := by
  rw [flat_zero]
  apply List.ext_getElem
  · simp [madeCells]
  · intro j h1 h2
    have hz : ∀ k, k < 2 → (#[Value.int .i64 0, Value.int .i64 0] : Array Value)[k]! = .int .i64 0 := fun k hk => by
      rcases (by omega : k = 0 ∨ k = 1) with rfl | rfl <;> rfl
    simp only [madeCells, Array.toList_map, List.getElem_map, List.getElem_replicate]
    exact hz _ (Nat.mod_lt _ (by decide))

theorem SOwn.of_owns {base : Nat} {w : World} {v : Value} {n : Nat} {xs : List Sp} (h : w.ownsRow base 26 2 v n (flat xs)) (hl : xs.length ≤ 1152921504606846975) : SOwn base w v xs := by
  obtain ⟨hn, h⟩ := h
  rw [length_flat] at hn
  obtain rfl : xs.length = n := by omega
  refine ⟨hl, ?_⟩
  rcases h with ⟨rfl, h0⟩ | ⟨g, cap, cur, rfl, hg, hh, hc, hm, hs, ht⟩
  · exact .inl ⟨rfl, List.eq_nil_of_length_eq_zero h0⟩
  · refine .inr ⟨g, cap, fun i => cur.getD i (.int .i64 0), rfl, hg, hc, hm, ⟨cur, hh, by omega, fun i hi => ?_⟩, fun i hi => ?_⟩
    · simp [Array.getD, show i < cur.size by omega]
    · have key : ∀ j, j < xs.length * 2 → (flat xs)[j]? = some (cur.getD j (.int .i64 0)) := fun j hj => by
        have hj2 : j < cur.size := by omega
        rw [← ht, List.getElem?_take, if_pos hj]
        simp [Array.getD, hj2]
      have h1 := flat_get xs i hi
      rw [key (i * 2) (by omega), key (i * 2 + 1) (by omega)] at h1
      exact ⟨Option.some.inj h1.1, Option.some.inj h1.2⟩

/-- Both numbers of one span are written. -/
theorem SOwn.set {base g cap : Nat} {w : World} {xs : List Sp} (h : SOwn base w (.slice (some ⟨g, 0, none⟩) xs.length cap) xs) (i : Nat) (x : Sp) (hi : i < xs.length) :
    SOwn base ((w.setCell ⟨g, i * 2, none⟩ (.int .i64 x.1)).setCell ⟨g, i * 2 + 1, none⟩ (.int .i64 x.2)) (.slice (some ⟨g, 0, none⟩) xs.length cap) (xs.set i x) ∧ base ≤ g ∧ (∀ j, w.frozen? ⟨g, j, none⟩ = false) ∧
      w.cell? ⟨g, i * 2, none⟩ = some (.int .i64 (xs.getD i (0, 0)).1) ∧ w.cell? ⟨g, i * 2 + 1, none⟩ = some (.int .i64 (xs.getD i (0, 0)).2) := by
  obtain ⟨hl, h⟩ := h
  rcases h with ⟨h, _⟩ | ⟨g', cap', f, e, hg, hc, hm, hr, hf⟩
  · cases h
  · cases e
    refine ⟨⟨by simpa using hl, .inr ⟨g, cap, _, by simp, hg, by simpa using hc, hm, (hr.set (i * 2) (.int .i64 x.1)).set (i * 2 + 1) (.int .i64 x.2), fun j hj => ?_⟩⟩, hg, hr.frozen, ?_, ?_⟩
    · have hj' : j < xs.length := by simpa using hj
      by_cases e : j = i
      · subst e
        rw [if_neg (by omega), if_pos rfl, if_pos rfl]
        simp [List.getD_eq_getElem?_getD, hj']
      · rw [if_neg (by omega), if_neg (by omega), if_neg (by omega), if_neg (by omega), (hf j hj').1, (hf j hj').2]
        simp [List.getD_eq_getElem?_getD, Ne.symm e]
    · rw [hr.cell (by omega), (hf i hi).1]
    · rw [hr.cell (by omega), (hf i hi).2]
end Go.Proofs.YtkmdkfegpgkkmatDoor
