/-
  A row of rows, made anew: plain facts on the memory.
-/
import Derived.Test.YtnnmiddhbeiogazInfoII
import Derived.Test.YtnnmiddhbeiogazQSet
namespace Go.Proofs.Ytnnmiddhbeiogaz
open Go.RowKit

theorem qmade (w : World) (n : Nat) (xss : List (List KEl)) (hx : xss.length = n) (hn : n ≤ 1048576) : QRow (w.alloc (.cells (madeCells #[.slice none 0 0] n) 30)) (w.heap.size, w.heap.size + 1) (.slice (some ⟨w.heap.size, 0, none⟩) n n) (qpart xss 0) (fun _ => (w.heap.size + 1, w.heap.size + 1)) := by
  refine ⟨by rw [length_qpart]; omega, .inr ⟨w.heap.size, n, fun _ => .slice none 0 0, by rw [length_qpart, hx], by rw [length_qpart]; exact ⟨Nat.le_refl _, Nat.lt_succ_self _, by omega⟩, fun i hi => ?_⟩⟩
  rw [length_qpart] at hi
  rw [qpart_get xss 0 i hi, if_neg (by omega)]
  refine ⟨?_, ?_, kown_nil _ _ _ _ _⟩
  · rw [World.cell?_alloc_new]
    simp [madeCells, show i < n by omega, Nat.mod_one]
  · show World.frozen? _ _ = false
    simp
end Go.Proofs.Ytnnmiddhbeiogaz
