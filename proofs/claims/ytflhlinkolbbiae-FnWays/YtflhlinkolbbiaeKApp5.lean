/-
  Numbers appended to a row of one's own, whatever they are, none too: plain facts on the memory.
-/
import Derived.Test.YtflhlinkolbbiaeKAppN
import Derived.Test.YtflhlinkolbbiaeBut5
import Derived.Maps.AppendAt
namespace Go.Proofs.Ytflhlinkolbbiae
open Go.RowKit

theorem grown_refl (w : World) (row : Option Nat) : w.grownBy w row := ⟨rfl, rfl, rfl, Nat.le_refl _, fun _ _ _ => rfl⟩
theorem append_reads (w : World) (base : Nat) (v : Value) (n : Nat) (xs : List Int) (hown : w.ownsRow base 3 1 v n (kflat xs)) (vx : Value) (ys : List Int) (hr : KReads w vx ys) (hl : n + ys.length ≤ 1000) (hbase : base ≤ w.heap.size) (ty : TypeId) :
    ∃ v' w', (Builtin.append_ #[48, 48] ty #[v, vx]).run Try.prog w = .ok v' w' ∧ w'.ownsRow base 3 1 v' (n + ys.length) (kflat (xs ++ ys)) ∧ w.grownBy w' v.ownBlock ∧ (v'.ownBlock = v.ownBlock ∨ v'.ownBlock = some w.heap.size) := by
  obtain ⟨i0, hi, hz0, hz1, hz2⟩ := info_parts info_int
  obtain ⟨a, cap, rfl, hlen, hc⟩ := hr
  rcases hc with rfl | ⟨b, off, rfl, hc⟩
  · refine ⟨v, w, ?_, by rw [List.append_nil]; exact hown, grown_refl _ _, .inl rfl⟩
    rcases hown.2 with ⟨rfl, _⟩ | ⟨g, cap', cur, rfl, _, _, hle, _⟩
    · exact knothing hi hz1 _ _ _ _ (Nat.le_refl _) _ _
    · exact knothing hi hz1 _ _ _ _ hle _ _
  · obtain ⟨v', w', h1, h2, h3, _, h5⟩ := run_append_own_at (P := Try.prog) w base 48 ty 3 i0 (.int .i64 0) 1 8 Try.underlying48 hi hz0 hz1 hz2 rfl (by decide) v n (kflat xs) hown ⟨b, off, none⟩ ys.length cap (kflat ys) (by rw [length_kflat, Nat.mul_one]) (kflat_cells hc) (kflat_one _) (by unfold maxLen; omega) (by omega) hbase
    exact ⟨v', w', h1, by rw [kflat_append]; exact h2, h3, h5⟩
end Go.Proofs.Ytflhlinkolbbiae
