/-
  Marks among a function's deferred calls, one for each loop over an iterator that it has been through: how it leaves. Plain facts on the memory.
-/
import Derived.Test.YtmcmkobdkkibkabRFKit
namespace Go.Proofs.Ytmcmkobdkkibkab
open Go.RowKit

/-- The blocks of the marks, each below the one ahead of it, from n0 on, below n1. -/
def Marks (W : World) (n0 : Nat) : Nat → List Deferred → Prop
  | _, [] => True
  | n1, d :: ds => ∃ D, d = { target := .collected D, args := #[] } ∧ n0 ≤ D ∧ D < n1 ∧ W.heap[D]? = some (.deferred (some [])) ∧ Marks W n0 D ds
theorem Marks.up {W : World} {n0 : Nat} : ∀ {ds : List Deferred} {n1 n2 : Nat}, Marks W n0 n1 ds → n1 ≤ n2 → Marks W n0 n2 ds
  | [], _, _, _, _ => trivial
  | _ :: _, _, _, ⟨D, h1, h2, h3, h4, h5⟩, h => ⟨D, h1, h2, by omega, h4, h5⟩
theorem Marks.keep {W W' : World} {n0 : Nat} : ∀ {ds : List Deferred} {n1 : Nat}, Marks W n0 n1 ds → (∀ (k : Nat), k < n1 → W.heap[k]? = some (.deferred (some [])) → W'.heap[k]? = some (.deferred (some []))) → Marks W' n0 n1 ds
  | [], _, _, _ => trivial
  | _ :: _, _, ⟨D, h1, h2, h3, h4, h5⟩, h => ⟨D, h1, h2, h3, h D h3 h4, h5.keep fun k hk hh => h k (by omega) hh⟩
theorem Marks.below {W W' : World} {n0 n1 : Nat} {ds : List Deferred} (h : Marks W n0 n1 ds) (hb : Below n1 W W') : Marks W' n0 n1 ds := h.keep fun k hk hh => (hb.block k hk).trans hh
theorem Marks.others {W W' : World} {n0 n1 : Nat} {ds : List Deferred} (h : Marks W n0 n1 ds) (hb : KeepsOthers W W') : Marks W' n0 n1 ds := h.keep fun k _ hh => hb.same k _ hh rfl
theorem Marks.cons {W : World} {n0 n1 D : Nat} {ds : List Deferred} (h : Marks W n0 n1 ds) (h1 : n1 ≤ D) (h0 : n0 ≤ D) (hD : W.heap[D]? = some (.deferred (some []))) : Marks W n0 W.heap.size ({ target := .collected D, args := #[] } :: ds) :=
  ⟨D, rfl, h0, (Array.getElem?_eq_some_iff.1 hD).1, hD, h.up h1⟩

/-- A function with such marks leaves: the marks are shut, nothing else turns. -/
theorem leaves_marks {F : Fence} {n : Nat} {P : Program} {fn : Func} {tmps : Array Value} {R : Ending → World → Prop} {n0 : Nat} : ∀ (ds : List Deferred) (n1 : Nat) (W : World), n0 ≤ W.heap.size → Marks W n0 n1 ds →
    (∀ W', Below n0 W W' → (∀ (k : Nat) cs t z, W.heap[k]? = some (.cells cs t z) → W'.heap[k]? = some (.cells cs t z)) → W'.heap.size = W.heap.size → ∃ v, (results fn tmps).run P W' = .ok v W' ∧ R (.returned v) W') →
    LeavesInM F n P fn tmps R ds .returning W
  | [], _, W, _, _, h => h W (Below.refl _ _) (fun _ _ _ _ hk => hk) rfl
  | _ :: ds, n1, W, hn, ⟨D, rfl, h0, h1, hD, hm⟩, h => by
    refine ⟨by simp, .inl ⟨D, _, rfl, run_takeDeferred hD, ?_⟩⟩
    refine leaves_marks (n0 := n0) ds D _ (by simpa using hn) (hm.keep fun k hk hh => (World.putObj_heap_other (by omega)).trans hh) fun W' hb hc hs => ?_
    have hlt := (Array.getElem?_eq_some_iff.1 hD).1
    refine h W' (Below.trans ((Below.refl n0 W).grown (grownBy_putObj' W D _) (by omega) (fun k e => by cases e; exact h0)) hb) (fun k cs t z hk => hc k cs t z ?_) (by simpa using hs)
    · refine (World.putObj_heap_other fun e => ?_).trans hk
      subst e
      rw [hD] at hk
      cases hk
end Go.Proofs.Ytmcmkobdkkibkab
