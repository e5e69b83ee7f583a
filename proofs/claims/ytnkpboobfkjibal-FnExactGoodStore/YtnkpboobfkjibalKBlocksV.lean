/-
  An argument that is a slice of Block, as a cell holds it: what it reads as. Plain facts on what is handed in.
-/
import Derived.Test.YtnkpboobfkjibalKBlocksRows
import Derived.Test.YtnkpboobfkjibalKBlockArg
import Derived.Deep.SlicePairs
namespace Go.Proofs.Ytnkpboobfkjibal
open Go.ChangeShapes Go.WideShapes Go.Deep Go.RowKit

def BlsArgV (w : World) (v : Value) (xs : List BlD) : Prop :=
  ∃ a cap, v = .slice a xs.length cap ∧ (xs.length ≤ cap ∧ cap ≤ maxLen) ∧ (xs = [] ∨ ∃ b off, a = some ⟨b, off, none⟩ ∧ ∀ i, i < xs.length → ∃ vs, CellsL w b (off + i * 4) vs ∧ vs.length = 4 ∧ BlArg w (.agg vs.toArray) (xs.getD i blZ))
theorem BlsArgV.reads {w : World} {v : Value} {xs : List BlD} (h : BlsArgV w v xs) (hl : blsTot xs ≤ 1048576) : BlsReads w v xs := by
  obtain ⟨a, cap, rfl, h1, h⟩ := h
  have hn := blsTot_len xs
  refine ⟨a, cap, rfl, by omega, ?_⟩
  rcases h with h | ⟨b, off, rfl, hc⟩
  · exact .inl h
  · refine .inr ⟨b, off, rfl, fun i hi => ?_⟩
    obtain ⟨vs, c1, c2, c3⟩ := hc i hi
    exact ⟨vs, c1, c2, c3.reads (by have := blsTot_el xs i hi; show blTot (xs.getD i blZ) ≤ _; omega)⟩
theorem BlsArgV.below {w w' : World} {v : Value} {xs : List BlD} (h : BlsArgV w v xs) (hb : Below w.heap.size w w') : BlsArgV w' v xs := by
  obtain ⟨a, cap, rfl, h1, h⟩ := h
  refine ⟨a, cap, rfl, h1, ?_⟩
  rcases h with h | ⟨b, off, rfl, hc⟩
  · exact .inl h
  · refine .inr ⟨b, off, rfl, fun i hi => ?_⟩
    obtain ⟨vs, c1, c2, c3⟩ := hc i hi
    exact ⟨vs, c1.below hb (c1.lt (by omega)), c2, c3.below hb⟩
set_option maxRecDepth 100000 in
theorem blsargV_of {H : Type} {enc : TypeId × Value → H} {W : World} {base : Nat} {spare : Nat → Bool} {held : Bool} {fuel : Nat} {v : Value} {y : DataW H × List MemPlace}
    (h : DataW.trod enc Try.prog W base spare held fuel 22 [v] = some y) : ∃ xs, BlsArgV W v xs := by
  rcases open_slice Try.underlying22 h with ⟨hcs, _⟩ | ⟨x, len, cap, m, n, D, Pl, hcs, _, hl, hm, hmm, _, hx⟩
  · simp only [List.cons.injEq, and_true] at hcs
    exact ⟨[], none, 0, hcs, by simp, .inl rfl⟩
  · simp only [List.cons.injEq, and_true] at hcs
    subst hcs
    have hlm : len ≤ m := by rw [hmm]; split <;> omega
    have ce : Try.prog.cellsOf 53 = 4 := by kernel_rfl
    have each : ∀ i, i < len → ∃ q : BlD, ∃ vs : List Value, (∀ j (h : j < vs.length), W.cell? (x.add (i * 4 + j)) = some vs[j]) ∧ vs.length = 4 ∧ BlArg W (.agg vs.toArray) q := fun i hi => by
      obtain ⟨cs', h1, h2⟩ := hx i (by omega)
      rw [ce] at h1
      obtain ⟨_, hlen, hcell⟩ := World.cells?_some h1
      obtain ⟨xs, k, _, _, _, hxl, hff⟩ := DataW.trod_struct Try.underlying53 h2
      match xs, hxl, cs', hlen, hcell with
      | [y0, y1, y2, y3], _, [g0, g1, g2, g3], hlen, hcell =>
        have t0 := hff 0 _ rfl
        change DataW.trod enc Try.prog W base spare held k 3 (List.take (Try.prog.cellsOf 3) (List.drop 0 [g0, g1, g2, g3])) = some y0 at t0
        rw [show Try.prog.cellsOf 3 = 1 by kernel_rfl] at t0
        change DataW.trod enc Try.prog W base spare held k 3 [g0] = some y0 at t0
        obtain ⟨z0, e0, _, _⟩ := DataW.trod_int (k := .i64) Try.underlying3 t0
        simp only [List.cons.injEq, and_true] at e0
        have t1 := hff 1 _ rfl
        change DataW.trod enc Try.prog W base spare held k 3 (List.take (Try.prog.cellsOf 3) (List.drop 1 [g0, g1, g2, g3])) = some y1 at t1
        rw [show Try.prog.cellsOf 3 = 1 by kernel_rfl] at t1
        change DataW.trod enc Try.prog W base spare held k 3 [g1] = some y1 at t1
        obtain ⟨z1, e1, _, _⟩ := DataW.trod_int (k := .i64) Try.underlying3 t1
        simp only [List.cons.injEq, and_true] at e1
        have t2 := hff 2 _ rfl
        change DataW.trod enc Try.prog W base spare held k 9 (List.take (Try.prog.cellsOf 9) (List.drop 2 [g0, g1, g2, g3])) = some y2 at t2
        rw [show Try.prog.cellsOf 9 = 1 by kernel_rfl] at t2
        change DataW.trod enc Try.prog W base spare held k 9 [g2] = some y2 at t2
        obtain ⟨z2, e2, _, m2⟩ := DataW.trod_string Try.underlying9 t2
        simp only [List.cons.injEq, and_true] at e2
        have t3 := hff 3 _ rfl
        change DataW.trod enc Try.prog W base spare held k 51 (List.take (Try.prog.cellsOf 51) (List.drop 3 [g0, g1, g2, g3])) = some y3 at t3
        rw [show Try.prog.cellsOf 51 = 1 by kernel_rfl] at t3
        change DataW.trod enc Try.prog W base spare held k 51 [g3] = some y3 at t3
        obtain ⟨z3, w3⟩ := spargV_of t3
        refine ⟨⟨z0, z1, z2, z3⟩, [g0, g1, g2, g3], fun j hj => ?_, rfl, g3, by rw [e0, e1, e2], m2, w3⟩
        have c0 := hcell j hj
        rw [add_add] at c0
        rw [c0]
        simp
    haveI : Inhabited BlD := ⟨blZ⟩
    obtain ⟨q, hq⟩ := choose_lt each
    have hg : ∀ i, i < len → ((List.range len).map q).getD i blZ = q i := fun i hi => by simp [List.getD_eq_getElem?_getD, hi]
    refine ⟨(List.range len).map q, some x, cap, by simp, by simpa using ⟨hl, hm⟩, ?_⟩
    by_cases h0 : len = 0
    · left; subst h0; rfl
    · right
      obtain ⟨b, off, spot⟩ := x
      have hspot : spot = none := by
        obtain ⟨vs, this, hl, _⟩ := hq 0 (by omega)
        have h1 := this 0 (by omega)
        simpa [Addr.add] using World.cell?_spot h1
      subst hspot
      refine ⟨b, off, rfl, fun i hi => ?_⟩
      have hi' : i < len := by simpa using hi
      obtain ⟨vs, hu, hv, hk⟩ := hq i hi'
      rw [hg i hi']
      refine ⟨vs, fun j hj => ?_, hv, hk⟩
      have h1 := hu j hj
      rw [show (⟨b, off, none⟩ : Addr).add (i * 4 + j) = ⟨b, off + i * 4 + j, none⟩ by rw [Nat.add_assoc]; generalize i * 4 + j = r; rcases r with _ | r <;> simp [Addr.add]] at h1
      exact h1
end Go.Proofs.Ytnkpboobfkjibal
