/-
  Slices of spans: what they read as, which are new: plain facts on the memory.
-/
import Derived.Test.YtnkpboobfkjibalInts
import Derived.Test.YtnkpboobfkjibalSpanMath
namespace Go.Proofs.Ytnkpboobfkjibal
open Go.RowKit

theorem info_span : (Try.prog.info? 65).map (fun i => (i.zero, i.size, i.bytes)) = some (some (.agg #[.int .i64 0, .int .i64 0]), 2, 16) := by kernel_rfl

/-- The slice v reads as the spans xs (of a type of two numbers). -/
def SReads (w : World) (v : Value) (xs : List Sp) : Prop :=
  ∃ a cap, v = .slice a xs.length cap ∧ (xs.length ≤ 1152921504606846975 ∧ xs.length ≤ cap) ∧ (xs = [] ∨ ∃ b off, a = some ⟨b, off, none⟩ ∧ ∀ i, i < xs.length → w.cell? ⟨b, off + i * 2, none⟩ = some (.int .i64 (xs.getD i (0, 0)).1) ∧ w.cell? ⟨b, off + i * 2 + 1, none⟩ = some (.int .i64 (xs.getD i (0, 0)).2))

/-- The slice v reads as xs, in cells of its own, from block 'base' on, that may be written; or it is empty and has no room. -/
def SOwn (base : Nat) (w : World) (v : Value) (xs : List Sp) : Prop :=
  xs.length ≤ 1152921504606846975 ∧ ((∃ a, v = .slice a 0 0 ∧ xs = []) ∨ ∃ g cap, v = .slice (some ⟨g, 0, none⟩) xs.length cap ∧ (base ≤ g ∧ xs.length ≤ cap) ∧
    ∀ i, i < xs.length → (w.cell? ⟨g, i * 2, none⟩ = some (.int .i64 (xs.getD i (0, 0)).1) ∧ w.cell? ⟨g, i * 2 + 1, none⟩ = some (.int .i64 (xs.getD i (0, 0)).2)) ∧ w.frozen? ⟨g, i * 2, none⟩ = false ∧ w.frozen? ⟨g, i * 2 + 1, none⟩ = false)

theorem SReads.below {w w' : World} {v : Value} {xs : List Sp} (h : SReads w v xs) (hb : Below w.heap.size w w') : SReads w' v xs := by
  obtain ⟨a, cap, rfl, hl, hx⟩ := h
  refine ⟨a, cap, rfl, hl, ?_⟩
  rcases hx with hx | ⟨b, off, rfl, hc⟩
  · exact .inl hx
  · exact .inr ⟨b, off, rfl, fun i hi => ⟨(hb.cell (p := ⟨b, off + i * 2, none⟩) (lt_of_cell (hc i hi).1)).trans (hc i hi).1, (hb.cell (p := ⟨b, off + i * 2 + 1, none⟩) (lt_of_cell (hc i hi).2)).trans (hc i hi).2⟩⟩

theorem SOwn.reads {base : Nat} {w : World} {v : Value} {xs : List Sp} (h : SOwn base w v xs) : SReads w v xs := by
  obtain ⟨hl, h⟩ := h
  rcases h with ⟨a, rfl, rfl⟩ | ⟨g, cap, rfl, hg, hf⟩
  · exact ⟨a, 0, rfl, by simp, .inl rfl⟩
  · refine ⟨_, cap, rfl, ⟨hl, hg.2⟩, .inr ⟨g, 0, rfl, fun i hi => ⟨?_, ?_⟩⟩⟩
    · rw [Nat.zero_add]; exact (hf i hi).1.1
    · rw [Nat.zero_add]; exact (hf i hi).1.2

theorem SOwn.mono {base base' : Nat} {w : World} {v : Value} {xs : List Sp} (h : SOwn base w v xs) (hb : base' ≤ base) : SOwn base' w v xs := by
  obtain ⟨hl, h⟩ := h
  rcases h with h | ⟨g, cap, rfl, hg, hr⟩
  · exact ⟨hl, .inl h⟩
  · exact ⟨hl, .inr ⟨g, cap, rfl, by omega, hr⟩⟩

theorem SOwn.keep {base B : Nat} {w w' : World} {v : Value} {xs : List Sp} (h : SOwn base w v xs) (hb : Below B w w') (hB : ∀ g n cap, v = .slice (some ⟨g, 0, none⟩) n cap → 0 < n → g < B) : SOwn base w' v xs := by
  obtain ⟨hl, h⟩ := h
  rcases h with h | ⟨g, cap, rfl, hg, hf⟩
  · exact ⟨hl, .inl h⟩
  · refine ⟨hl, .inr ⟨g, cap, rfl, hg, fun i hi => ?_⟩⟩
    have hlt : g < B := hB g _ _ rfl (by omega)
    have e := hb.block g hlt
    refine ⟨⟨?_, ?_⟩, ?_, ?_⟩
    · rw [World.cell?_of_block (a := ⟨g, i * 2, none⟩) e]; exact (hf i hi).1.1
    · rw [World.cell?_of_block (a := ⟨g, i * 2 + 1, none⟩) e]; exact (hf i hi).1.2
    · rw [World.frozen?_of_block (a := ⟨g, i * 2, none⟩) e]; exact (hf i hi).2.1
    · rw [World.frozen?_of_block (a := ⟨g, i * 2 + 1, none⟩) e]; exact (hf i hi).2.2

theorem SOwn.below {base : Nat} {w w' : World} {v : Value} {xs : List Sp} (h : SOwn base w v xs) (hb : Below w.heap.size w w') : SOwn base w' v xs := by
  obtain ⟨hl, h⟩ := h
  rcases h with h | ⟨g, cap, rfl, hg, hf⟩
  · exact ⟨hl, .inl h⟩
  · refine ⟨hl, .inr ⟨g, cap, rfl, hg, fun i hi => ?_⟩⟩
    have e := hb.block g (lt_of_cell (hf i hi).1.1)
    refine ⟨⟨?_, ?_⟩, ?_, ?_⟩
    · rw [World.cell?_of_block (a := ⟨g, i * 2, none⟩) e]; exact (hf i hi).1.1
    · rw [World.cell?_of_block (a := ⟨g, i * 2 + 1, none⟩) e]; exact (hf i hi).1.2
    · rw [World.frozen?_of_block (a := ⟨g, i * 2, none⟩) e]; exact (hf i hi).2.1
    · rw [World.frozen?_of_block (a := ⟨g, i * 2 + 1, none⟩) e]; exact (hf i hi).2.2

theorem sown_nil (base : Nat) (w : World) (a : Option Addr) : SOwn base w (.slice a 0 0) [] := ⟨by simp, .inl ⟨a, rfl, rfl⟩⟩

/-- The cells of spans, one behind the other. -/
def flat (xs : List Sp) : List Value := xs.flatMap fun x => [.int .i64 x.1, .int .i64 x.2]
theorem length_flat (xs : List Sp) : (flat xs).length = xs.length * 2 := by
  induction xs with
  | nil => rfl
  | cons x xs ih => simp only [flat, List.flatMap_cons, List.length_append, List.length_cons, List.length_nil] at ih ⊢; omega
theorem flat_get : ∀ (xs : List Sp) (i : Nat), i < xs.length → (flat xs)[i * 2]? = some (.int .i64 (xs.getD i (0, 0)).1) ∧ (flat xs)[i * 2 + 1]? = some (.int .i64 (xs.getD i (0, 0)).2)
  | x :: xs, 0, _ => ⟨rfl, rfl⟩
  | x :: xs, i + 1, h => by
    have := flat_get xs i (by simpa using h)
    have e : flat (x :: xs) = .int .i64 x.1 :: .int .i64 x.2 :: flat xs := rfl
    rw [e, show (i + 1) * 2 = i * 2 + 2 by omega]
    simpa using this
theorem flat_snoc (xs : List Sp) (x : Sp) : flat (xs ++ [x]) = flat xs ++ [.int .i64 x.1, .int .i64 x.2] := by simp [flat]

theorem flat_zero : ∀ n : Nat, flat (List.replicate n (0, 0)) = List.replicate (n * 2) (.int .i64 0)
  | 0 => rfl
  | n + 1 => by
    rw [List.replicate_succ, show (n + 1) * 2 = n * 2 + 1 + 1 by omega, List.replicate_succ, List.replicate_succ, ← flat_zero n]
    rfl
theorem made_zero (n : Nat) : (madeCells (Value.agg #[.int .i64 0, .int .i64 0]).cells (n * 2)).toList = flat (List.replicate n (0, 0)) := by
  rw [flat_zero]
  apply List.ext_getElem
  · simp [madeCells]
  · intro j h1 h2
    have hz : ∀ k, k < 2 → (#[Value.int .i64 0, Value.int .i64 0] : Array Value)[k]! = .int .i64 0 := fun k hk => by
      rcases (by omega : k = 0 ∨ k = 1) with rfl | rfl <;> rfl
    simp only [madeCells, Array.toList_map, List.getElem_map, List.getElem_replicate]
    exact hz _ (Nat.mod_lt _ (by decide))

/-- A row's cells that are spans. -/
theorem own_cells {w : World} {g : Nat} {cur : Array Value} {t n : Nat} {xs : List Sp} (hh : w.heap[g]? = some (.cells cur t (0, 0))) (ht : cur.toList.take n = flat xs) (hn : xs.length * 2 ≤ n) :
    ∀ i, i < xs.length → (w.cell? ⟨g, i * 2, none⟩ = some (.int .i64 (xs.getD i (0, 0)).1) ∧ w.cell? ⟨g, i * 2 + 1, none⟩ = some (.int .i64 (xs.getD i (0, 0)).2)) ∧ w.frozen? ⟨g, i * 2, none⟩ = false ∧ w.frozen? ⟨g, i * 2 + 1, none⟩ = false := by
  intro i hi
  have key : ∀ j, j < xs.length * 2 → w.cell? ⟨g, j, none⟩ = (flat xs)[j]? := fun j hj => by
    rw [← ht, List.getElem?_take, if_pos (by omega)]
    simp [World.cell?, hh]
  have h1 := flat_get xs i hi
  refine ⟨⟨(key _ (by omega)).trans h1.1, (key _ (by omega)).trans h1.2⟩, ?_, ?_⟩ <;> simp [World.frozen?, hh]

theorem SOwn.of_owns {base : Nat} {w : World} {v : Value} {n : Nat} {xs : List Sp} (h : w.ownsRow base 65 2 v n (flat xs)) (hl : xs.length ≤ 1152921504606846975) : SOwn base w v xs := by
  obtain ⟨hn, h⟩ := h
  rw [length_flat] at hn
  obtain rfl : xs.length = n := by omega
  refine ⟨hl, ?_⟩
  rcases h with ⟨rfl, h0⟩ | ⟨g, cap, cur, rfl, hg, hh, hc, hm, hs, ht⟩
  · exact .inl ⟨none, rfl, List.eq_nil_of_length_eq_zero h0⟩
  · exact .inr ⟨g, cap, rfl, ⟨hg, hc⟩, own_cells hh ht (Nat.le_refl _)⟩

/-- Both numbers of one span are written. -/
theorem SOwn.set {base g cap : Nat} {w : World} {xs : List Sp} (h : SOwn base w (.slice (some ⟨g, 0, none⟩) xs.length cap) xs) (i : Nat) (x : Sp) (hi : i < xs.length) :
    SOwn base ((w.setCell ⟨g, i * 2, none⟩ (.int .i64 x.1)).setCell ⟨g, i * 2 + 1, none⟩ (.int .i64 x.2)) (.slice (some ⟨g, 0, none⟩) xs.length cap) (xs.set i x) ∧ base ≤ g ∧ (w.frozen? ⟨g, i * 2, none⟩ = false ∧ w.frozen? ⟨g, i * 2 + 1, none⟩ = false) ∧
      w.cell? ⟨g, i * 2, none⟩ = some (.int .i64 (xs.getD i (0, 0)).1) ∧ w.cell? ⟨g, i * 2 + 1, none⟩ = some (.int .i64 (xs.getD i (0, 0)).2) := by
  obtain ⟨hl, h⟩ := h
  rcases h with ⟨a, _, rfl⟩ | ⟨g', cap', e, hg, hf⟩
  · simp at hi
  · cases e
    refine ⟨⟨by simpa using hl, .inr ⟨g, cap, by simp, by simpa using hg, fun j hj => ?_⟩⟩, hg.1, (hf i hi).2, (hf i hi).1.1, (hf i hi).1.2⟩
    have hj' : j < xs.length := by simpa using hj
    refine ⟨?_, by simpa using (hf j hj').2⟩
    by_cases e : j = i
    · subst e
      refine ⟨?_, ?_⟩
      · rw [World.cell?_setCell_other _ _ _ _ (by simp), World.cell?_setCell_same _ _ _ (hf j hj').1.1]
        simp [List.getD_eq_getElem?_getD, hj']
      · rw [World.cell?_setCell_same _ _ _ (u := .int .i64 (xs.getD j (0, 0)).2) (by rw [World.cell?_setCell_other _ _ _ _ (by simp)]; exact (hf j hj').1.2)]
        simp [List.getD_eq_getElem?_getD, hj']
    · refine ⟨?_, ?_⟩
      · rw [World.cell?_setCell_other _ _ _ _ (by simp <;> omega), World.cell?_setCell_other _ _ _ _ (by simp <;> omega), (hf j hj').1.1]
        simp [List.getD_eq_getElem?_getD, Ne.symm e]
      · rw [World.cell?_setCell_other _ _ _ _ (by simp <;> omega), World.cell?_setCell_other _ _ _ _ (by simp <;> omega), (hf j hj').1.2]
        simp [List.getD_eq_getElem?_getD, Ne.symm e]
end Go.Proofs.Ytnkpboobfkjibal
