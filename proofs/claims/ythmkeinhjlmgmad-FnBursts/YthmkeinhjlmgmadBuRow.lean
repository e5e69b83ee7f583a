/-
  Bytes of a text in a row of their own: plain facts on the memory.
-/
import Derived.Test.YthmkeinhjlmgmadBuMath
import Derived.Test.YthmkeinhjlmgmadPcRow
namespace Go.Proofs.Ythmkeinhjlmgmad
open Go.RowKit

def BuRow (w : World) (g n : Nat) (f : Nat → UInt8) : Prop := ∀ j, j < n → w.cell? ⟨g, j, none⟩ = some (.int .u8 ((f j).toNat : Nat)) ∧ w.frozen? ⟨g, j, none⟩ = false
theorem BuRow.congr {w : World} {g n : Nat} {f h : Nat → UInt8} (r : BuRow w g n f) (e : ∀ j, j < n → f j = h j) : BuRow w g n h := fun j hj => by rw [← e j hj]; exact r j hj
theorem BuRow.set {w : World} {g n : Nat} {f : Nat → UInt8} (r : BuRow w g n f) (p : Nat) (x : UInt8) (hp : p < n) : BuRow (w.setCell ⟨g, p, none⟩ (.int .u8 (x.toNat : Nat))) g n (fun j => if j = p then x else f j) := fun j hj => by
  refine ⟨?_, by rw [World.frozen?_setCell]; exact (r j hj).2⟩
  by_cases e : j = p
  · subst e
    show _ = some (Value.int .u8 ((if j = j then x else f j).toNat : Nat))
    rw [if_pos rfl]
    exact World.cell?_setCell_same _ _ _ (r j hj).1
  · show _ = some (Value.int .u8 ((if j = p then x else f j).toNat : Nat))
    rw [if_neg e, World.cell?_setCell_other _ _ _ _ (by intro h; injection h with h1 h2; omega)]
    exact (r j hj).1
theorem bytes_new (w : World) (s : ByteArray) : ∃ cap W, (convert 9 22 (.string s)).run Try.prog w = .ok (.slice (some ⟨w.heap.size, 0, none⟩) s.size cap) W ∧ BuRow W w.heap.size s.size (bt s) ∧ Below w.heap.size w W := by
  refine ⟨_, _, run_bytes_of_string w 9 22 5 s Try.underlying9 Try.underlying22 Try.underlying5, ?_, ((Below.refl _ _).drew).alloc (Nat.le_refl _) _⟩
  intro j hj
  have hj' : j < s.data.size := hj
  refine ⟨?_, ?_⟩
  · refine (World.cell?_alloc_mark w.drew _ _ _ j).trans ?_
    rw [bytesRow_at s _ j hj', bt_data s j hj']
  · refine (World.frozen?_alloc_mark w.drew _ _ _ _ j).trans ?_
    have : j < (bytesRow s (grownCap w s.size 0 5)).size := by simp [bytesRow]; omega
    rw [decide_eq_false (by omega)]
    rfl
end Go.Proofs.Ythmkeinhjlmgmad
