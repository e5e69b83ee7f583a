/-
  Things of literals appended to a row of one's own. Plain facts on the memory.
-/
import Derived.Test.YtnkpboobfkjibakRp
import Derived.ArgAppend
import Derived.Deep.Upon
import Derived.Maps.AppendAt
namespace Go.Proofs.Ytnkpboobfkjibak
open Go.RowKit
variable {α : Type}

/-- What was laid in a new block lies there, cell by cell. -/
theorem cells_new (w : World) (us : List Value) (t : TypeId) : ∀ j u, us[j]? = some u → (w.alloc (.cells us.toArray t)).cell? ((⟨w.heap.size, 0, none⟩ : Addr).add j) = some u := by
  intro j u hj
  rw [show (⟨w.heap.size, 0, none⟩ : Addr).add j = ⟨w.heap.size, j, none⟩ by rcases j with _ | j <;> simp [Addr.add]]
  rw [World.cell?_alloc_new]
  simpa using hj
theorem gowns_below {w w' : World} {base n size : Nat} {t : TypeId} {v : Value} {cs : List Value} (h : w.ownsRow base t size v n cs) (hb : Below w.heap.size w w') : w'.ownsRow base t size v n cs := by
  obtain ⟨h1, h2⟩ := h
  refine ⟨h1, ?_⟩
  rcases h2 with h | ⟨g, cap, cur, rfl, hg, hh, hr⟩
  · exact .inl h
  · exact .inr ⟨g, cap, cur, rfl, hg, by rw [hb.block g (Array.getElem?_eq_some_iff.1 hh).1]; exact hh, hr⟩
theorem rowO_of_flat (enc : α → List Value) (n : Nat) (z : α) (hn : 0 < n) (hl : ∀ x, (enc x).length = n) {base m : Nat} {w : World} {v : Value} {t : TypeId} {xs : List α} (h : w.ownsRow base t n v m (xs.flatMap enc)) (hm : xs.length = m) (hb : m ≤ 1152921504606846975) : RowO (Rp.flat enc n z hn hl) (Iv base w.heap.size) w v xs := by
  subst hm
  rcases h.2 with ⟨rfl, h0⟩ | ⟨g, cap, cur, rfl, hg, hh, hc, _, _, ht⟩
  · exact .inl ⟨none, 0, rfl, List.eq_nil_of_length_eq_zero h0⟩
  · refine .inr ⟨g, cap, fun _ _ => False, rfl, hb, hc, ⟨hg, (Array.getElem?_eq_some_iff.1 hh).1⟩, fun _ _ _ h => h.elim, fun _ _ _ _ _ _ h => h.elim, fun i hi => ?_⟩
    have he : xs.flatMap enc = (xs.map enc).flatten := by rw [List.flatMap_def]
    have hu : ∀ j, j < n → (xs.flatMap enc)[i * n + j]? = (enc (xs.getD i z))[j]? := fun j hj => by
      rw [he, getElem?_flatten n (xs.map enc) (by intro vs hv; obtain ⟨x, _, rfl⟩ := List.mem_map.1 hv; exact hl x) i j (by simpa using hi) hj]
      simp [List.getD_eq_getElem?_getD, hi]
    have hc := cellsL_of_owned hh ht (i * n) n (enc (xs.getD i z)) (hl _) hu
    exact ⟨enc (xs.getD i z), hc.1, hc.2, rfl⟩
end Go.Proofs.Ytnkpboobfkjibak
