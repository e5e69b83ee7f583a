/-
  A range over an iterator that keeps its state in cells of one type of its own, and whose rounds never leave early: the rounds write no cell of that type, the iterator none of another type. A law of the walk, no program.
-/
import Derived.Test.YtobkockikpgcoabProg
import Derived.RangeFuncNested
import Derived.RangeFuncBound
namespace Go.Proofs.Ytobkockikpgcoab
open Go.RowKit

/-- What the iterator may do: new blocks; writes into cells of type T that lie at n0 or beyond. -/
structure MovesT (T : TypeId) (n0 : Nat) (A B : World) : Prop where
  os : B.os = A.os
  tape : B.tape = A.tape
  output : B.output = A.output
  size : A.heap.size ≤ B.heap.size
  block : ∀ k, k < A.heap.size → (n0 ≤ k ∧ ∃ cs z, A.heap[k]? = some (.cells cs T z)) ∨ B.heap[k]? = A.heap[k]?
/-- What a round keeps: whatever cells of type T lie. -/
def KeepT (T : TypeId) (A B : World) : Prop :=
  A.heap.size ≤ B.heap.size ∧ ∀ (k : Nat) cs z, A.heap[k]? = some (.cells cs T z) → B.heap[k]? = some (.cells cs T z)
theorem MovesT.refl (T : TypeId) (n0 : Nat) (A : World) : MovesT T n0 A A := ⟨rfl, rfl, rfl, Nat.le_refl _, fun _ _ => .inr rfl⟩
theorem MovesT.alloc (T : TypeId) (n0 : Nat) (A : World) (o : Obj) : MovesT T n0 A (A.alloc o) := ⟨rfl, rfl, rfl, by simp, fun k hk => .inr (Below.heap_alloc A o k hk)⟩
theorem MovesT.of_below {T : TypeId} {n0 : Nat} {A B : World} (h : Below A.heap.size A B) : MovesT T n0 A B := ⟨h.os, h.tape, h.output, h.size, fun k hk => .inr (h.block k hk)⟩
theorem MovesT.setCell {T : TypeId} {n0 : Nat} {A : World} {p : Addr} {cs : Array Value} {z : Nat × Nat} (hp : n0 ≤ p.block) (h : A.heap[p.block]? = some (.cells cs T z)) (v : Value) : MovesT T n0 A (A.setCell p v) :=
  ⟨rfl, rfl, rfl, (KeepsWalks.setCell A p v).size, fun k hk => by
    by_cases e : k = p.block
    · exact .inl ⟨by omega, cs, z, by rw [e]; exact h⟩
    · exact .inr (Below.heap_setCell A p v k e)⟩
theorem KeepT.refl (T : TypeId) (A : World) : KeepT T A A := ⟨Nat.le_refl _, fun _ _ _ h => h⟩
theorem KeepT.trans {T : TypeId} {A B C : World} (h : KeepT T A B) (k : KeepT T B C) : KeepT T A C := ⟨Nat.le_trans h.1 k.1, fun i cs z hi => k.2 i cs z (h.2 i cs z hi)⟩
theorem KeepT.putObj {T : TypeId} {A : World} {l : Nat} {o : Obj} (o' : Obj) (hl : A.heap[l]? = some o) (ho : o.isCells = false) : KeepT T A (A.putObj l o') :=
  ⟨by simp, fun k cs z hk => by
    by_cases e : k = l
    · subst e; rw [hl] at hk; cases hk; cases ho
    · exact (World.putObj_heap_other e).trans hk⟩
theorem KeepT.grown {T : TypeId} {A B : World} {row : Option Nat} (hg : A.grownBy B row) (hr : ∀ k, row = some k → ∃ cs t z, A.heap[k]? = some (.cells cs t z) ∧ t ≠ T) : KeepT T A B :=
  ⟨hg.size, fun k cs z hk => by
    refine (hg.block k (Array.getElem?_eq_some_iff.1 hk).1 (fun e => ?_)).trans hk
    obtain ⟨cs', t, z', h1, h2⟩ := hr k e.symm
    rw [hk] at h1
    cases h1
    exact h2 rfl⟩
theorem KeepT.alloc (T : TypeId) (A : World) (o : Obj) : KeepT T A (A.alloc o) := KeepT.grown (World.grownBy_alloc A o none) (fun _ e => by cases e)
theorem KeepT.setCell {T : TypeId} {A : World} {p : Addr} {cs : Array Value} {t : TypeId} {z : Nat × Nat} (h : A.heap[p.block]? = some (.cells cs t z)) (ht : t ≠ T) (v : Value) : KeepT T A (A.setCell p v) :=
  ⟨(KeepsWalks.setCell A p v).size, fun k cs' z' hk => by
    by_cases e : k = p.block
    · subst e; rw [h] at hk; cases hk; exact absurd rfl ht
    · exact (Below.heap_setCell A p v k e).trans hk⟩

/-- An iterator that gives xs, with rounds that keep and never stop. -/
def GivesT {α : Type} (P : Program) (g : Nat) (lb : Array Value) (encs : α → Array Value) (T : TypeId) (xs : List α) (w : World) : Prop :=
  ∀ (l : Nat) (J : List α → World → Prop) (W : World), Below w.heap.size w W → (∀ s A B, J s A → MovesT T W.heap.size A B → J s B) →
    (∀ pre x A, J pre A → pre.length < xs.length → YieldAt Fence.wide 7 P l (encs x) A fun e B => e = .returned (.bool true) ∧ J (pre ++ [x]) B ∧ KeepT T A B) →
    J [] W → CallsIn Fence.wide 8 P g (#[.func (.yield l) #[] #[]] ++ lb) W fun e B => (∃ v, e = .returned v) ∧ J xs B

/-- What a round's body ends in. -/
def goesOn (T : TypeId) (I : World → Prop) (A : World) : Exit → Act → World → Prop
  | .normal, _, B => KeepsOthers A B ∧ KeepT T A B ∧ I B
  | _, _, _ => False

theorem range_T {α : Type} {P : Program} {g : Operand} {ps : Array Tmp} {assign body : Code} {Q : Exit → Act → World → Prop} {a : Act} {w : World} {gf : Nat} {lb : Array Value} (hg : a.eval g = .func (.func gf) #[] lb)
    (eg : ∀ args w, (callFunc gf args).run P w = .ok (.enter gf args) w) {encs : α → Array Value} {T : TypeId} {xs : List α} (hseq : GivesT P gf lb encs T xs w) (hps : ∀ x, (encs x).size = ps.size)
    (I : List α → World → Prop) (hI : ∀ s A l o o', w.heap.size ≤ l → A.heap[l]? = some o → o.isCells = false → I s A → I s (A.putObj l o')) (hM : ∀ s A B, I s A → MovesT T w.heap.size A B → I s B) (h0 : I [] w) (a₁ : α → Act)
    (hassign : ∀ (l : Nat) (x : α) (W : World) (K : Act → World → Prop), K (a₁ x) W → assign.wpIn (Fence.wide.inRound l) 7 P (Exit.then K (fun _ _ _ => False)) { tmps := (ps.zip (encs x)).foldl (fun t (p, v) => t.setIfInBounds p v) a.tmps, defers := [] } W)
    (hbody : ∀ (l : Nat) (pre : List α) (x : α) (W : World), I pre W → pre.length < xs.length → body.wpIn (Fence.wide.inRound l) 7 P (goesOn T (I (pre ++ [x])) W) (a₁ x) W)
    (hdone : ∀ (D : Nat) (W : World), w.heap.size ≤ D → I xs W → W.heap[D]? = some (.deferred (some [])) → Q .normal { a with defers := { target := .collected D, args := #[] } :: a.defers } W) :
    (Code.rangeFunc g ps assign body).wpIn Fence.wide 9 P Q a w := by
  refine wpIn_rangeFunc fun fn hfn => ?_
  obtain ⟨D, hD⟩ : ∃ D, w.heap.size = D := ⟨_, rfl⟩
  have enter := run_enterLoop_outer (P := P) (w := w) fn a.tmps ps assign body
  rw [hD] at enter
  obtain ⟨R, hR⟩ : ∃ R : LoopState → Loop, R = fun st => { state := st, pending := none, fn := fn, tmps := a.tmps, params := ps, assign := assign, body := body, defers := D } := ⟨_, rfl⟩
  obtain ⟨V, hV⟩ : ∃ V, (w.alloc (.deferred (some []))).alloc (.loop (R .ready)) = V := ⟨_, rfl⟩
  have sV : V.heap.size = D + 2 := by rw [← hV, World.size_alloc, World.size_alloc, hD]
  have rV : V.heap[D + 1]? = some (.loop (R .ready)) := by
    have := World.alloc_heap_new (w.alloc (.deferred (some []))) (.loop (R .ready))
    rw [World.size_alloc, hD] at this
    rw [← hV]
    exact this
  have dV : V.heap[D]? = some (.deferred (some [])) := by
    have := World.alloc_heap_new w (.deferred (some []))
    rw [hD] at this
    rw [← hV]
    exact (Below.heap_alloc _ _ _ (by rw [World.size_alloc]; omega)).trans this
  have bV : Below w.heap.size w V := by
    rw [← hV]
    exact ((Below.refl _ w).alloc (Nat.le_refl _) _).alloc (by simp) _
  have iV : I [] V := by
    rw [← hV]
    exact hM _ _ _ (hM _ _ _ h0 (MovesT.alloc _ _ _ _)) (MovesT.alloc _ _ _ _)
  -- what the rounds go by
  have call := hseq (D + 1) (fun s A => I s A ∧ A.heap[D + 1]? = some (.loop (R .ready)) ∧ A.heap[D]? = some (.deferred (some []))) V bV ?_ ?_ ⟨iV, rV, dV⟩
  · refine ⟨D + 1, [{ target := .collected D, args := #[] }], V, { target := .fn (.func gf) lb, args := #[.func (.yield (D + 1)) #[] #[]] }, V, gf, #[.func (.yield (D + 1)) #[] #[]] ++ lb, V, ?_, ?_, fun _ _ => trivial, ?_, fun _ => by decide, ?_⟩
    · rw [← hV, hR]; exact enter
    · simp only [resolve, hg]
      simp [go_sem]
    · simp [invoke, go_sem, eg]
    · refine call.mono ?_
      rintro e B ⟨⟨v, rfl⟩, hi, hl, hd⟩
      have hend := run_endLoop (P := P) hl (by rw [hR]; simp)
      have hpe : (R .ready).pending = none := by rw [hR]
      rw [hpe] at hend
      exact ⟨none, _, hend, hdone D _ (by omega) (hI _ _ _ _ _ (by omega) hl rfl hi) ((World.putObj_heap_other (by omega)).trans hd)⟩
  · -- the iterator's own steps
    rintro s A B ⟨hi, hl, hd⟩ hm
    have keep : ∀ (k : Nat) (o : Obj), A.heap[k]? = some o → o.isCells = false → B.heap[k]? = some o := fun k o hk ho => by
      rcases hm.block k (Array.getElem?_eq_some_iff.1 hk).1 with ⟨_, cs, z, hc⟩ | h
      · rw [hk] at hc; cases hc; cases ho
      · exact h.trans hk
    refine ⟨hM _ _ _ hi ⟨hm.os, hm.tape, hm.output, hm.size, fun k hk => ?_⟩, keep _ _ hl rfl, keep _ _ hd rfl⟩
    rcases hm.block k hk with ⟨h1, h2⟩ | h
    · exact .inl ⟨by omega, h2⟩
    · exact .inr h
  · -- one round
    rintro pre x A ⟨hi, hl, hd⟩ hlen
    have hlt : D + 1 < A.heap.size := (Array.getElem?_eq_some_iff.1 hl).1
    have hy := run_yield (P := P) (args := encs x) hl (by rw [hR]; exact hps x)
    rw [hR] at hy
    have hbusy := run_beginRound (P := P) hl (by rw [hR])
    have l2 : (A.putObj (D + 1) (.loop { R .ready with state := .busy })).heap[D + 1]? = some (.loop { R .ready with state := .busy }) := World.putObj_heap_same hlt
    have d2 : (A.putObj (D + 1) (.loop { R .ready with state := .busy })).heap[D]? = some (.deferred (some [])) := (World.putObj_heap_other (by omega)).trans hd
    refine ⟨fn, _, assign, body, hy, roundIn_of_wpIn trivial (hassign _ x A _ ⟨_, hbusy, ?_⟩)⟩
    refine wpIn_mono (hbody _ pre x _ (hI _ _ _ _ _ (by omega) hl rfl hi) hlen) ?_
    rintro e a3 B hp
    cases e with
    | normal =>
      obtain ⟨hk, hkt, hi3⟩ := hp
      have l3 := hk.same _ _ l2 rfl
      have d3 := hk.same _ _ d2 rfl
      have hend := run_endRound (P := P) none l3
      refine ⟨_, _, hend, rfl, ⟨hI _ _ _ _ _ (by omega) l3 rfl hi3, ?_, (World.putObj_heap_other (by omega)).trans d3⟩, (KeepT.putObj _ hl rfl).trans (hkt.trans (KeepT.putObj _ l3 rfl))⟩
      rw [World.putObj_heap_same (Array.getElem?_eq_some_iff.1 l3).1, hR]
      rfl
    | ret => exact hp.elim
    | exit id => exact hp.elim
    | goto t => exact hp.elim
    | panic ch => exact hp.elim
    | outgrown => exact hp.elim
end Go.Proofs.Ytobkockikpgcoab
