/-
  A region that draws its order, by an invariant: whatever operation may come up keeps it. One proof an operation, not one an order.
-/
import Derived.Test.YtijojdempijhbaiInts
import Derived.RegionTactic
namespace Go.Proofs.Ytijojdempijhbai
open Go.RowKit

/-- How many have not come up yet. -/
def unl (l : Array Bool) : Nat := (l.toList.filter (fun b => !b)).length
theorem unl_set {l : Array Bool} {i : Nat} (h : l.getD i true = false) : unl (l.setIfInBounds i true) + 1 = unl l := by
  have hlt : i < l.size := by
    rcases Nat.lt_or_ge i l.size with h' | h'
    · exact h'
    · simp [Array.getElem?_eq_none h'] at h
  have hv : l.toList[i]'(by simpa using hlt) = false := by
    have : l.getD i true = l[i] := by simp [hlt]
    rw [this] at h
    simpa using h
  have e1 : l.toList = l.toList.take i ++ false :: l.toList.drop (i + 1) := by
    rw [← hv, ← List.drop_eq_getElem_cons]
    exact (List.take_append_drop i _).symm
  have e2 : (l.setIfInBounds i true).toList = l.toList.take i ++ true :: l.toList.drop (i + 1) := by
    rw [Array.toList_setIfInBounds, List.set_eq_take_append_cons_drop, if_pos (by simpa using hlt)]
  unfold unl
  rw [e2]
  conv => rhs; rw [e1]
  simp only [List.filter_append, List.length_append, List.filter_cons]
  simp
  omega
section
variable {P : Program} {md : Region.Mode} {ops : Array Oper} {Q : Exit → Act → World → Prop}
theorem wpAny_inv (I : Array Bool → Act → World → Prop) (hd : ∀ l a w, I l a w → Region.ready md ops l = [] → Q .normal a w)
    (hs : ∀ l a w i, I l a w → i ∈ Region.ready md ops l → wpOp P ops Q i (I (l.setIfInBounds i true)) a w) :
    ∀ (fuel : Nat) (l : Array Bool) (a : Act) (w : World), I l a w → unl l ≤ fuel → wpAny P md ops Q fuel l a w
  | 0, l, a, w, h, hl => by
    have hr : Region.ready md ops l = [] := by
      rw [List.eq_nil_iff_forall_not_mem]
      intro j hj
      have := unl_set (mem_ready.1 hj).1
      omega
    exact ⟨hr, hd l a w h hr⟩
  | fuel + 1, l, a, w, h, hl => ⟨hd l a w h, fun i hi => wpOp_mono (fun a' w' h' => wpAny_inv I hd hs fuel _ a' w' h' (by have := unl_set (mem_ready.1 hi).1; omega)) (hs l a w i h hi)⟩
theorem unl_none (n : Nat) : unl (Array.replicate n false) = n := by simp [unl]
/-- The beginning. -/
theorem wp_region_inv {id : Nat} {a : Act} {w : World} (I : Array Bool → Act → World → Prop) (hm : P.follows .mixedOrders = true) (h0 : I (Array.replicate ops.size false) a w.drew)
    (hd : ∀ l a w, I l a w → Region.ready .any ops l = [] → Q .normal a w) (hs : ∀ l a w i, I l a w → i ∈ Region.ready .any ops l → wpOp P ops Q i (I (l.setIfInBounds i true)) a w) :
    (Code.region id ops true).wp P Q a w := wp_region_any hm (wpAny_inv I hd hs _ _ a _ h0 (by rw [unl_none]; exact Nat.le_refl _))
/-- What has come up. -/
abbrev up (l : Array Bool) (j : Nat) : Prop := l.getD j false = true
theorem up_none {n j : Nat} (h : up (Array.replicate n false) j) : False := by
  unfold up at h
  by_cases hj : j < n <;> simp [hj] at h
theorem up_old {l : Array Bool} {i j : Nat} (h : up (l.setIfInBounds i true) j) (hne : i ≠ j) : up l j := by
  unfold up at h ⊢
  rwa [getD_set_ne false hne] at h
theorem up_not {l : Array Bool} {j : Nat} (h : l.getD j true = false) : ¬ up l j := by
  intro hu
  unfold up at hu
  by_cases hj : j < l.size
  · simp [hj] at h hu
    rw [h] at hu
    cases hu
  · simp [hj] at hu
theorem up_set {l : Array Bool} {i : Nat} (h : i < l.size) : up (l.setIfInBounds i true) i := by
  unfold up
  simp [h]
/-- Each operation waits for such alone as stand ahead of it. -/
def depsB (ops : Array Oper) : Bool := (List.range ops.size).all fun j => ((ops[j]?).map (fun o => o.after.all fun e => decide (e.on < j))).getD true
theorem up_all {l : Array Bool} (hr : Region.ready md ops l = []) (hl : l.size = ops.size) (hB : depsB ops = true) : ∀ j, j < ops.size → up l j := by
  have hw : ∀ (j : Nat) (o : Oper), ops[j]? = some o → ∀ e ∈ o.after, e.on < j := by
    intro j o ho e he
    have hj : j < ops.size := (Array.getElem?_eq_some_iff.1 ho).1
    unfold depsB at hB
    rw [List.all_eq_true] at hB
    have h := hB j (List.mem_range.2 hj)
    rw [ho] at h
    simp only [Option.map_some, Option.getD_some, Array.all_eq_true_iff_forall_mem, decide_eq_true_eq] at h
    exact h e he
  intro j
  induction j using Nat.strongRecOn with
  | _ j ih =>
    intro hj
    cases hb : l.getD j true with
    | true =>
      unfold up
      have hlt : j < l.size := by omega
      have : l.getD j false = l.getD j true := by simp [hlt]
      rw [this, hb]
    | false =>
      exfalso
      have hm : j ∈ Region.ready md ops l := by
        rw [mem_ready]
        exact ⟨hb, ops[j], Array.getElem?_eq_getElem hj, fun e he _ => ih e.on (hw j _ (Array.getElem?_eq_getElem hj) e he) (by have := hw j _ (Array.getElem?_eq_getElem hj) e he; omega)⟩
      rw [hr] at hm
      cases hm
end
end Go.Proofs.Ytijojdempijhbai
