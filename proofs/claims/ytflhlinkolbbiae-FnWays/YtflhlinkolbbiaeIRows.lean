/-
  Rows of numbers in a block of their own, with the room behind them: read, written, cut. Plain facts on the memory.
-/
import Derived.Test.YtflhlinkolbbiaeBut5
import Derived.Laws.OwnMore
namespace Go.Proofs.Ytflhlinkolbbiae
open Go.RowKit

/-- In block g lies a row of n numbers, with room for cap. -/
def IRow (w : World) (g n cap : Nat) (xs : List Int) : Prop := w.ownsRow g 3 1 (.slice (some ⟨g, 0, none⟩) n cap) n (kflat xs)
theorem IRow.len {w : World} {g n cap : Nat} {xs : List Int} (h : IRow w g n cap xs) : xs.length = n := by
  have := h.1
  rw [length_kflat, Nat.mul_one] at this
  exact this
theorem IRow.caps {w : World} {g n cap : Nat} {xs : List Int} (h : IRow w g n cap xs) : n ≤ cap ∧ cap ≤ maxLen ∧ g < w.heap.size := by
  rcases h.2 with ⟨h', _⟩ | ⟨g', cap', cur, h', hb, hg, hnc, hcm, hcs, htake⟩
  · cases h'
  · cases h'
    exact ⟨hnc, hcm, (Array.getElem?_eq_some_iff.1 hg).1⟩
theorem IRow.cell {w : World} {g n cap : Nat} {xs : List Int} (h : IRow w g n cap xs) {i : Nat} (hi : i < n) : KCells w g i (xs.getD i 0) := by
  show _ = _
  rw [World.ownsRow.cellAt h i (by omega)]
  exact kflat_get xs i (by rw [h.len]; exact hi)
theorem IRow.free {w : World} {g n cap : Nat} {xs : List Int} (h : IRow w g n cap xs) (i : Nat) : KFree w g i := World.ownsRow.frozenAt h i
theorem kflat_set (xs : List Int) (i : Nat) (x : Int) : kflat (xs.set i x) = (kflat xs).set i (.int .i64 x) := by simp [kflat, List.map_set]
theorem IRow.set {w : World} {g n cap : Nat} {xs : List Int} (h : IRow w g n cap xs) (i : Nat) (x : Int) : IRow (w.setCell ⟨g, i, none⟩ (.int .i64 x)) g n cap (xs.set i x) := by
  have := (World.ownsRow.stored h i (.int .i64 x)).1
  unfold IRow
  rw [kflat_set]
  exact this
theorem IRow.front {w : World} {g n cap : Nat} {xs : List Int} (h : IRow w g n cap xs) {m : Nat} (hm : m ≤ n) : IRow w g m cap (xs.take m) := by
  have hl := h.len
  rcases h.2 with ⟨h', _⟩ | ⟨g', cap', cur, h', hb, hg, hnc, hcm, hcs, htake⟩
  · cases h'
  · cases h'
    refine ⟨by rw [length_kflat, List.length_take]; omega, .inr ⟨g, cap, cur, rfl, hb, hg, by omega, hcm, hcs, ?_⟩⟩
    rw [kflat_take, ← htake, List.take_take]
    congr 1
    omega
theorem IRow.at {w w' : World} {g n cap : Nat} {xs : List Int} (h : IRow w g n cap xs) (e : w'.heap[g]? = w.heap[g]?) : IRow w' g n cap xs := by
  obtain ⟨h1, h2⟩ := h
  refine ⟨h1, ?_⟩
  rcases h2 with h' | ⟨g', cap', cur, h', hb, hg, hr⟩
  · exact .inl h'
  · cases h'
    exact .inr ⟨g, cap, cur, rfl, hb, by rw [e]; exact hg, hr⟩
theorem IRow.but {P : Nat → Prop} {w w' : World} {g n cap : Nat} {xs : List Int} (h : IRow w g n cap xs) (hb : But P w w') (hp : ¬ P g) : IRow w' g n cap xs := h.at (hb.2 g h.caps.2.2 hp)
theorem IRow.below {w w' : World} {B g n cap : Nat} {xs : List Int} (h : IRow w g n cap xs) (hb : Below B w w') (hB : g < B) : IRow w' g n cap xs := h.at (hb.block g hB)
theorem IRow.whole {w w' : World} {g n cap : Nat} {xs : List Int} (h : IRow w g n cap xs) (hb : Below w.heap.size w w') : IRow w' g n cap xs := h.at (hb.block g h.caps.2.2)
theorem IRow.made (w : World) (n : Nat) (hn : n ≤ 1000000) : IRow (w.alloc (.cells (madeCells #[.int .i64 0] n) 3)) w.heap.size n n (List.replicate n 0) := by
  have := World.ownsRow_lit (base := w.heap.size) (e := 3) (size := 1) w (madeCells #[.int .i64 0] n) n (Nat.le_refl _) (by unfold maxLen; omega) (by simp [madeCells])
  unfold IRow
  rw [← kmade_zero]
  exact this
theorem IRow.own {w : World} {g n cap lo hi : Nat} {xs : List Int} (h : IRow w g n cap xs) (hs : n ≤ 1000000) (h1 : lo ≤ g) (h2 : g < hi) : KOwn lo hi w (.slice (some ⟨g, 0, none⟩) n cap) xs := by
  have hl := h.len
  have hc := h.caps
  exact ⟨by omega, .inr ⟨g, cap, by rw [hl], ⟨h1, h2, by omega⟩, fun i hi => ⟨h.cell (by omega), h.free i⟩⟩⟩
theorem IRow.reads {w : World} {g n cap : Nat} {xs : List Int} (h : IRow w g n cap xs) (hs : n ≤ 1000000) : KReads w (.slice (some ⟨g, 0, none⟩) n cap) xs := by
  have hl := h.len
  have hc := h.caps
  exact ⟨_, _, by rw [hl], by omega, .inr ⟨g, 0, rfl, fun i hi => by rw [Nat.zero_add]; exact h.cell (by omega)⟩⟩
end Go.Proofs.Ytflhlinkolbbiae
