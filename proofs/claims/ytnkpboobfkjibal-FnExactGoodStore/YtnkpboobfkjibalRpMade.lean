/-
  A row of things that was made. Plain facts on the memory.
-/
import Derived.Test.YtnkpboobfkjibalRp
import Derived.Laws.MakeOwn
namespace Go.Proofs.Ytnkpboobfkjibal
open Go.RowKit
variable {α : Type}

theorem ownsRow_lt {w : World} {base : Nat} {t : TypeId} {size n g cap : Nat} {us : List Value} (h : w.ownsRow base t size (.slice (some ⟨g, 0, none⟩) n cap) n us) : g < w.heap.size := by
  rcases h.2 with ⟨e, _⟩ | ⟨g', cap', cur, e, _, hh, _⟩
  · cases e
  · cases e
    exact (Array.getElem?_eq_some_iff.1 hh).1
theorem madeCells_get (zs : Array Value) (m j : Nat) (h : j < m) : (madeCells zs m).toList[j]? = some (zs[j % zs.size]!) := by
  simp only [madeCells, Array.toList_map, List.getElem?_map, Array.toList_range, List.getElem?_range h, Option.map_some]
theorem rowAt_of_made (τ : Rp α) (S : Nat → Prop) (w : World) (t : TypeId) (base g n : Nat) (zs : Array Value) (hz : zs.size = τ.n) (h : w.ownsRow base t τ.n (.slice (some ⟨g, 0, none⟩) n n) n (madeCells zs (n * τ.n)).toList) (hS : S g)
    (hO : ∀ w', τ.O (fun _ => False) w' zs.toList τ.z) (hn : n ≤ 1152921504606846975) : RowAt τ S w g n (fun _ _ => False) (List.replicate n τ.z) := by
  rcases h.2 with ⟨e, _⟩ | ⟨g', cap', cur, e, _, hh, _, _, _, ht⟩
  · cases e
  · cases e
    refine rowAt_made τ S w g n n hn (Nat.le_refl _) hS zs.toList hO fun i hi => ?_
    refine cellsL_of_owned hh ht _ _ _ (by simpa using hz) fun j hj => ?_
    have hlt : i * τ.n + j < n * τ.n := by
      have := Nat.mul_le_mul_right τ.n (show i + 1 ≤ n by omega)
      rw [Nat.succ_mul] at this
      omega
    rw [madeCells_get zs _ _ hlt, hz, Nat.add_comm, Nat.add_mul_mod_self_right, Nat.mod_eq_of_lt hj]
    have hj2 : j < zs.size := by omega
    simp [hj2]
end Go.Proofs.Ytnkpboobfkjibal
