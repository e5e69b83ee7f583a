/-
  A region that draws its order: where nothing is ready any more all has come up. Edges that bind other modes alone do not count.
-/
import Derived.Test.YtepnhbicmlfnhadRegInv
namespace Go.Proofs.Ytepnhbicmlfnhad
open Go.RowKit

/-- Each operation waits for such alone as stand ahead of it, by the edges that bind here. -/
def depsA (ops : Array Oper) : Bool := (List.range ops.size).all fun j => ((ops[j]?).map (fun o => o.after.all fun e => !Region.binds .any e || decide (e.on < j))).getD true
theorem up_allA {ops : Array Oper} {l : Array Bool} (hr : Region.ready .any ops l = []) (hl : l.size = ops.size) (hB : depsA ops = true) : ∀ j, j < ops.size → up l j := by
  have hw : ∀ (j : Nat) (o : Oper), ops[j]? = some o → ∀ e ∈ o.after, Region.binds .any e = true → e.on < j := by
    intro j o ho e he hb
    have hj : j < ops.size := (Array.getElem?_eq_some_iff.1 ho).1
    unfold depsA at hB
    rw [List.all_eq_true] at hB
    have h := hB j (List.mem_range.2 hj)
    rw [ho] at h
    simp only [Option.map_some, Option.getD_some, Array.all_eq_true_iff_forall_mem, Bool.or_eq_true, Bool.not_eq_true', decide_eq_true_eq] at h
    rcases h e he with h | h
    · rw [hb] at h; cases h
    · exact h
  intro j
  induction j using Nat.strongRecOn with
  | _ j ih =>
    intro hj
    cases hb : l.getD j true with
    | true =>
      unfold up
      have hlt : j < l.size := by omega
      have : l.getD j false = l.getD j true := by simp [hlt]
      rw [this, hb]
    | false =>
      exfalso
      have hm : j ∈ Region.ready .any ops l := by
        rw [mem_ready]
        exact ⟨hb, ops[j], Array.getElem?_eq_getElem hj, fun e he hbi => ih e.on (hw j _ (Array.getElem?_eq_getElem hj) e he hbi) (by have := hw j _ (Array.getElem?_eq_getElem hj) e he hbi; omega)⟩
      rw [hr] at hm
      cases hm
end Go.Proofs.Ytepnhbicmlfnhad
