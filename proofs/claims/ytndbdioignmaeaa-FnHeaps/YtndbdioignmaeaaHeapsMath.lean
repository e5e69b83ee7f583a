/-
  What the law FnHeaps asks of lists of work, and some laws on memory that is made on the way. Plain, no program.
-/
import Derived.Test.YtndbdioignmaeaaPushMath
import Derived.Test.YtndbdioignmaeaaWkForm
namespace Go.Proofs.Ytndbdioignmaeaa
open Go.RowKit

theorem box_below {y y' : World} {blk : Obj} (b : Below (y.alloc blk).heap.size (y.alloc blk) y') : Below y.heap.size y y' := ((Below.refl y.heap.size y).alloc (Nat.le_refl _) blk).trans (b.mono (by simp))
theorem box_cells {y y' : World} {x : WkEl} (b : Below (y.alloc (.cells #[.int .i64 x.1, .int .i64 x.2.1, .int .i64 x.2.2] 48)).heap.size (y.alloc (.cells #[.int .i64 x.1, .int .i64 x.2.1, .int .i64 x.2.2] 48)) y') : WkCells y' y.heap.size 0 x := (alloc3 y x).1.below b (by simp)
theorem slice_form {w : World} {v : Value} {xs : List WkEl} (h : WkReads w v xs) : ∃ a m c, v = .slice a m c ∧ xs.length = m := by
  obtain ⟨a, c, rfl, _, _⟩ := h
  exact ⟨a, _, c, rfl, rfl⟩
theorem WkCells.on {w w' : World} {b o : Nat} {x : WkEl} (h : WkCells w b o x) (hb : Below w.heap.size w w') : WkCells w' b o x := h.below hb h.lt
theorem one_reads {w : World} {g : Nat} {y : WkEl} (h : WkCells w g 0 y) : WkReads w (.slice (some ⟨g, 0, none⟩) 1 1) [y] := ⟨_, 1, rfl, by simp, .inr ⟨g, 0, rfl, fun i hi => by
  obtain rfl : i = 0 := by simp at hi; omega
  simpa using h⟩⟩
theorem below_new {W w' : World} (b : Below W.heap.size W w') (blk : Obj) : Below W.heap.size W (w'.alloc blk) := b.alloc b.size blk
theorem keep18 {W w' : World} {g h : Nat} {z y : WkEl} (pz : WkCells W g 0 z) (py : WkCells W h 0 y) (b : Below W.heap.size W w') : w'.cell? ⟨g, 0, none⟩ = some (.int .i64 z.1) ∧ w'.cell? ⟨g, 1, none⟩ = some (.int .i64 z.2.1) ∧ w'.cell? ⟨g, 2, none⟩ = some (.int .i64 z.2.2) ∧ w'.cell? ⟨h, 0, none⟩ = some (.int .i64 y.1) ∧ w'.cell? ⟨h, 1, none⟩ = some (.int .i64 y.2.1) ∧ w'.cell? ⟨h, 2, none⟩ = some (.int .i64 y.2.2) ∧ Below W.heap.size W w' := by
  obtain ⟨a0, a1, a2⟩ := pz.on b
  obtain ⟨c0, c1, c2⟩ := py.on b
  exact ⟨a0, a1, a2, c0, c1, c2, b⟩
theorem many_one (y z : WkEl) : many [y] z = if y = z then 1 else 0 := by
  unfold many
  rw [List.count_singleton]
  simp only [beq_iff_eq]
theorem many_app (xs : List WkEl) (x z : WkEl) : many (xs ++ [x]) z = many xs z + if x = z then 1 else 0 := by
  unfold many
  rw [List.count_append, List.count_singleton]
  simp only [beq_iff_eq]
theorem push_facts {xs ys : List WkEl} {x : WkEl} (h : pushB xs x = true) (hy : pushY xs x = ys) :
    goodW ys = true ∧ heapB ys = true ∧ ys.length = xs.length + 1 ∧ many ys x = many xs x + 1 ∧ ys.length ≤ 40 ∧ popB ys = true := by
  rw [pushY_yes h] at hy
  unfold pushB at h
  simp only [Bool.and_eq_true, Bool.not_eq_true', decide_eq_false_iff_not] at h
  obtain ⟨⟨hg, hh⟩, hx, hn⟩ := h
  have hl := goodW_len hg
  have hlen : ys.length = xs.length + 1 := by rw [← hy, upL_len, List.length_append]; rfl
  have hm : ∀ z, many ys z = many xs z + if x = z then 1 else 0 := fun z => by rw [← hy, many_up _ _ _ _ (by rw [List.length_append]; simp), many_app]
  have hgy : goodW ys = true := by
    have hga : goodW (xs ++ [x]) = true := by
      unfold goodW at hg ⊢
      simp only [Bool.and_eq_true, decide_eq_true_eq, List.all_append, List.all_cons, List.all_nil, List.length_append, List.length_cons, List.length_nil] at hg ⊢
      refine ⟨?_, ?_⟩ <;> simp_all <;> omega
    exact goodW_of_many (fun z hz => by rw [hm] at hz; rw [many_app]; exact hz) (by omega) hga
  have hhy : heapB ys = true := by rw [← hy]; exact push_heap x hh
  refine ⟨hgy, hhy, hlen, by rw [hm, if_pos rfl], by omega, ?_⟩
  unfold popB
  rw [hgy, hhy]
  simp
  intro e
  rw [e] at hlen
  simp at hlen
theorem pop_facts {ys zs : List WkEl} {y : WkEl} (h : popB ys = true) (hz : popY ys = zs) (hy : popX ys = y) :
    goodW zs = true ∧ heapB zs = true ∧ ys.length = zs.length + 1 ∧ (∀ z, many ys z = many zs z + many [y] z) ∧ wkB y = true ∧ (∀ z, z ∈ ys → lessB z y = false ∧ wkB z = true) := by
  obtain ⟨e1, e2⟩ := popY_yes h
  rw [e1] at hz
  rw [e2] at hy
  unfold popB at h
  simp only [Bool.and_eq_true, Bool.not_eq_true', decide_eq_false_iff_not] at h
  obtain ⟨⟨hg, hh⟩, h0⟩ := h
  have hp : 0 < ys.length := by omega
  have hl := goodW_len hg
  have hm : ∀ z, many ys z = many zs z + many [y] z := fun z => by
    rw [many_one, ← hz, ← hy]
    exact (many_removeL ys 0 z hp).symm
  have hw : ∀ z, z ∈ ys → wkB z = true := fun z hz => by
    obtain ⟨k, hk, e⟩ := mem_getD hz
    rw [← e]
    exact goodW_at hg k hk
  refine ⟨goodW_of_many (fun z hz' => by rw [hm]; omega) (by rw [← hz, length_removeL]; omega) hg, by rw [← hz]; exact removeL_heap 0 hh, by rw [← hz, length_removeL]; omega, hm, hw y (by rw [← hy]; exact getD_mem ys 0 hp), fun z hz' => ⟨?_, hw z hz'⟩⟩
  obtain ⟨k, hk, e⟩ := mem_getD hz'
  rw [← e, ← hy]
  exact heap_first hh k hk
theorem rem_facts {ms rs : List WkEl} {k : Int} (h : remB ms k = true) (hr : remY ms k = rs) :
    ∃ kk : Nat, k = kk ∧ kk < ms.length ∧ goodW rs = true ∧ heapB rs = true ∧ ms.length = rs.length + 1 ∧ ms.length ≤ 40 ∧ many ms (ms.getD kk wz) = many rs (ms.getD kk wz) + 1 := by
  rw [remY_yes h] at hr
  unfold remB at h
  simp only [Bool.and_eq_true, decide_eq_true_eq] at h
  obtain ⟨⟨hg, hh⟩, h0, h1⟩ := h
  have hl := goodW_len hg
  obtain ⟨kk, rfl⟩ : ∃ kk : Nat, k = kk := ⟨k.toNat, by omega⟩
  rw [Int.toNat_natCast] at hr
  have hk : kk < ms.length := by omega
  have hm : ∀ z, many rs z + (if ms.getD kk wz = z then 1 else 0) = many ms z := fun z => by rw [← hr]; exact many_removeL ms kk z hk
  refine ⟨kk, rfl, hk, goodW_of_many (fun z hz' => by rw [← hm]; omega) (by rw [← hr, length_removeL]; omega) hg, by rw [← hr]; exact removeL_heap kk hh, by rw [← hr, length_removeL]; omega, hl, ?_⟩
  have := hm (ms.getD kk wz)
  rw [if_pos rfl] at this
  omega
end Go.Proofs.Ytndbdioignmaeaa
