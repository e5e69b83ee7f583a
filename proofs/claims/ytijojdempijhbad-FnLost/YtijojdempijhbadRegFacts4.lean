/-
  A region that draws its order, as RegFacts has it, where one operation may write into the blocks that another one of the region made (an answer that is put into a new box).
-/
import Derived.Test.YtijojdempijhbadRegFacts2
namespace Go.Proofs.Ytijojdempijhbad
open Go.RowKit
/-- Of the blocks that were there none is written but those from r.1 on, below r.2. -/
structure InW (r : Nat × Nat) (w w' : World) : Prop where
  os : w'.os = w.os
  tape : w'.tape = w.tape
  output : w'.output = w.output
  size : w.heap.size ≤ w'.heap.size
  block : ∀ k, k < w.heap.size → ¬ (r.1 ≤ k ∧ k < r.2) → w'.heap[k]? = w.heap[k]?
theorem InW.of_only {r : Nat × Nat} {w w' : World} {b : Nat} (h : OnlyP (fun j => j = b) w w') (hb : r.1 ≤ b ∧ b < r.2) (ho : w'.os = w.os) (ht : w'.tape = w.tape) (hp : w'.output = w.output) : InW r w w' := ⟨ho, ht, hp, Nat.le_of_eq h.1.symm, fun k _ hn => h.2.1 k (by rintro rfl; exact hn hb)⟩
section
variable {P : Program} {ops : Array Oper} {Q : Exit → Act → World → Prop}
/-- What the one that writes has to show. -/
def StepI (P : Program) (ops : Array Oper) (Q : Exit → Act → World → Prop) (T : (Nat → Value) → Array Value) (F : Nat → (Nat → Value) → (Nat → Nat × Nat) → World → Prop) (q i : Nat) (σ : Nat → Value) (c : Nat → Nat × Nat) (w : World) : Prop :=
  ∀ K : Act → World → Prop, (∀ v w', InW (c q) w w' → F q σ c w' → F i (upd σ i v) (upd c i (w.heap.size, w'.heap.size)) w' → K ⟨T (upd σ i v), []⟩ w') → wpOp P ops Q i K ⟨T σ, []⟩ w
theorem StepI.of {T : (Nat → Value) → Array Value} {F : Nat → (Nat → Value) → (Nat → Nat × Nat) → World → Prop} {q i : Nat} {σ : Nat → Value} {c : Nat → Nat × Nat} {w : World} {a1 : Act} {o : Oper} (ha : (⟨T σ, []⟩ : Act) = a1) (ho : ops[i]? = some o) (hput : ∀ v, (⟨T σ, []⟩ : Act).put o.dst v = ⟨T (upd σ i v), []⟩)
    (h : ∀ K : Act → World → Prop, (∀ v w', InW (c q) w w' → F q σ c w' → F i (upd σ i v) (upd c i (w.heap.size, w'.heap.size)) w' → K (a1.put o.dst v) w') → if Region.wanted o (yielded ops a1.tmps) = true then Oper.wp P o a1 w K Q else K (a1.put o.dst undef) w) : StepI P ops Q T F q i σ c w := by
  intro K hK
  rw [ha]
  refine wpOp_step ho (fun K' hK' => h K' fun v w' hb hq hf => hK' _ _ ?_)
  rw [← ha, hput]
  exact hK v w' hb hq hf
/-- The facts of all that has come up, each in blocks of its own. -/
structure InvI (ops : Array Oper) (l0 : Array Bool) (ms : List Nat) (w0 : World) (F : Nat → (Nat → Value) → (Nat → Nat × Nat) → World → Prop) (l : Array Bool) (σ : Nat → Value) (c : Nat → Nat × Nat) (w : World) : Prop where
  size : l.size = ops.size
  low : ∀ j, up l j → up l0 j ∨ j ∈ ms
  old : ∀ j, up l0 j → up l j
  deps : ∀ j, up l j → ∀ k ∈ depL ops j, up l k
  fact : ∀ j ∈ ms, up l j → F j σ c w
  bel : Below w0.heap.size w0 w
  inn : ∀ j ∈ ms, up l j → w0.heap.size ≤ (c j).1 ∧ (c j).1 ≤ (c j).2 ∧ (c j).2 ≤ w.heap.size
  dj : ∀ i ∈ ms, ∀ j ∈ ms, up l i → up l j → i ≠ j → Dj (c i) (c j)
theorem wpAny_facts4 {fuel : Nat} {a : Act} {w0 : World} (l0 : Array Bool) (ms : List Nat) (sp q : Nat) (hq : q ∈ ms) (hqd : q ∈ depL ops sp) (hqs : q ≠ sp) (T : (Nat → Value) → Array Value) (F : Nat → (Nat → Value) → (Nat → Nat × Nat) → World → Prop) (σ0 : Nat → Value) (ha : a = ⟨T σ0, []⟩) (hE : firstB ops l0 ms = true)
    (hfu : unl l0 = fuel + unl (fillL l0 ms))
    (hst : ∀ j ∈ ms, ∀ σ c w w', F j σ c w → Below w.heap.size w w' → F j σ c w')
    (hst2 : ∀ j ∈ ms, j ≠ sp → j ≠ q → ∀ σ c w w', F j σ c w → InW (c q) w w' → Dj (c j) (c q) → w0.heap.size ≤ (c q).1 → (c j).2 ≤ w.heap.size → F j σ c w')
    (hloc : ∀ j ∈ ms, ∀ i ∈ ms, ∀ σ c w v r, i ≠ j → (∀ k ∈ depL ops j, k ≠ i) → F j σ c w → F j (upd σ i v) (upd c i r) w)
    (hstep : ∀ i ∈ ms, i ≠ sp → ∀ σ c w, Below w0.heap.size w0 w → (∀ k ∈ depL ops i, k ∈ ms → F k σ c w) → StepF P ops Q T F i σ c w)
    (hspec : ∀ σ c w, Below w0.heap.size w0 w → (∀ k ∈ depL ops sp, k ∈ ms → F k σ c w) → StepI P ops Q T F q sp σ c w)
    (hend : ∀ σ c w, Below w0.heap.size w0 w → (∀ j ∈ ms, F j σ c w) → (∀ j ∈ ms, w0.heap.size ≤ (c j).1 ∧ (c j).1 ≤ (c j).2 ∧ (c j).2 ≤ w.heap.size) → (∀ i ∈ ms, ∀ j ∈ ms, i ≠ j → Dj (c i) (c j)) → wpAny P .any ops Q (unl (fillL l0 ms)) (fillL l0 ms) ⟨T σ, []⟩ w) :
    wpAny P .any ops Q (unl l0) l0 a w0 := by
  unfold firstB at hE
  simp only [Bool.and_eq_true, decide_eq_true_eq, List.all_eq_true, List.mem_range, Bool.or_eq_true, Bool.not_eq_true', List.contains_iff_mem] at hE
  obtain ⟨⟨⟨hS, hM⟩, hD0⟩, hR⟩ := hE
  have hset : ∀ (l : Array Bool) (i j : Nat), up l j → up (l.setIfInBounds i true) j := fun l i j h => getD_set_true h
  have hbit : ∀ (l : Array Bool), l.size = ops.size → ∀ j, j < ops.size → ¬ up l j → l.getD j true = false := by
    intro l hl j hj hn
    cases hb : l.getD j true with
    | false => rfl
    | true =>
      refine absurd ?_ hn
      unfold up
      have hlt : j < l.size := by omega
      have : l.getD j false = l.getD j true := by simp [hlt]
      rw [this, hb]
  have hlt : ∀ (l : Array Bool) (j : Nat), up l j → j < l.size := by
    intro l j h
    by_cases hj : j < l.size
    · exact hj
    · unfold up at h; simp [hj] at h
  have main : ∀ (k : Nat) (l : Array Bool) (σ : Nat → Value) (c : Nat → Nat × Nat) (w : World), InvI ops l0 ms w0 F l σ c w → unl l = k + unl (fillL l0 ms) → wpAny P .any ops Q (k + unl (fillL l0 ms)) l ⟨T σ, []⟩ w := by
    intro k
    induction k with
    | zero =>
      intro l σ c w hI hl
      have hl' : l = fillL l0 ms := by
        have := (cntF_le l.toList (fillL l0 ms).toList (by simp [fill_size, hI.size, hS]) (fun j hj => by
          have hj := up_list.2 hj
          refine up_list.1 ?_
          rcases hI.low j hj with h | h
          · exact fill_old ms l0 j h
          · exact fill_mem ms l0 j (by have := hlt l j hj; rw [hI.size] at this; omega) h)).2 (by rw [← cntF_is, ← cntF_is]; omega)
        exact Array.ext' this
      have hall : ∀ j ∈ ms, up l j := fun j hj => by rw [hl']; exact fill_mem ms l0 j (by have := (hM j hj).1.1; omega) hj
      rw [Nat.zero_add, hl']
      exact hend σ c w hI.bel (fun j hj => hI.fact j hj (hall j hj)) (fun j hj => hI.inn j hj (hall j hj)) (fun i hi j hj hne => hI.dj i hi j hj (hall i hi) (hall j hj) hne)
    | succ k ih =>
      intro l σ c w hI hl
      rw [show k + 1 + unl (fillL l0 ms) = (k + unl (fillL l0 ms)) + 1 by omega]
      have hnot : ∃ j, j ∈ ms ∧ ¬ up l j := by
        by_cases h : ∃ j, j ∈ ms ∧ ¬ up l j
        · exact h
        · exfalso
          have hall : ∀ j ∈ ms, up l j := fun j hj => Classical.byContradiction fun hn => h ⟨j, hj, hn⟩
          have := (cntF_le (fillL l0 ms).toList l.toList (by simp [fill_size, hI.size, hS]) (fun j hj => by
            have hj := up_list.2 hj
            refine up_list.1 ?_
            rcases fill_up ms l0 j hj with h | h
            · exact hI.old j h
            · exact hall j h)).1
          rw [← cntF_is, ← cntF_is] at this
          omega
      have hlow : ∀ i ∈ Region.ready .any ops l, i ∈ ms := by
        intro i hi
        obtain ⟨hun, o, ho, hall⟩ := mem_ready.1 hi
        have hio : i < ops.size := (Array.getElem?_eq_some_iff.1 ho).1
        rcases hR i hio with (h | h) | h
        · exact absurd (hI.old i h) (up_not hun)
        · exact h
        · exfalso
          obtain ⟨j, hj, hn⟩ := hnot
          refine hn (depC_up (p := up l) hI.deps ops.size (depL ops i) (fun k hk => ?_) j (h j hj))
          obtain ⟨o', ho', e, he, hb, rfl⟩ := mem_depL.1 hk
          rw [ho] at ho'
          cases ho'
          exact hall e he hb
      refine ⟨fun hr => ?_, fun i hi => ?_⟩
      · exfalso
        have hex : ∀ n, ∀ j, j < n → j ∈ ms → up l j := by
          intro n
          induction n with
          | zero => intro j hj; omega
          | succ n ihn =>
            intro j hj hjm
            by_cases hjn : j < n
            · exact ihn j hjn hjm
            · obtain rfl : j = n := by omega
              apply Classical.byContradiction
              intro hn
              have hj' : j < ops.size := (hM j hjm).1.1
              have : j ∈ Region.ready .any ops l := mem_ready.2 ⟨hbit l hI.size j hj' hn, ops[j], Array.getElem?_eq_getElem hj', fun e he hb => by
                have hk := (hM j hjm).2 e.on (mem_depL.2 ⟨_, Array.getElem?_eq_getElem hj', e, he, hb, rfl⟩)
                rcases hk.2 with h | h
                · exact hI.old _ h
                · exact ihn _ hk.1 h⟩
              rw [hr] at this
              cases this
        obtain ⟨j, hj, hn⟩ := hnot
        exact hn (hex (j + 1) j (by omega) hj)
      · have him := hlow i hi
        obtain ⟨hun, o, ho, hall⟩ := mem_ready.1 hi
        have hno : ¬ up l i := up_not hun
        have hdep : ∀ k ∈ depL ops i, up l k := fun k hk => by
          obtain ⟨o', ho', e, he, hb, rfl⟩ := mem_depL.1 hk
          rw [ho] at ho'
          cases ho'
          exact hall e he hb
        have fin : ∀ v w', w.heap.size ≤ w'.heap.size → Below w0.heap.size w0 w' → (∀ j ∈ ms, i ≠ j → up l j → F j σ c w') → F i (upd σ i v) (upd c i (w.heap.size, w'.heap.size)) w' → wpAny P .any ops Q (k + unl (fillL l0 ms)) (l.setIfInBounds i true) ⟨T (upd σ i v), []⟩ w' := by
          intro v w' hsz hb hg hf
          refine ih _ _ (upd c i (w.heap.size, w'.heap.size)) _ ⟨?_, ?_, ?_, ?_, ?_, ?_, ?_, ?_⟩ ?_
          · rw [Array.size_setIfInBounds]; exact hI.size
          · intro j hj
            by_cases e : i = j
            · subst e; exact .inr him
            · exact hI.low j (up_old hj e)
          · exact fun j hj => hset _ _ _ (hI.old j hj)
          · intro j hj k hk
            by_cases e' : i = j
            · subst e'; exact hset _ _ _ (hdep k hk)
            · exact hset _ _ _ (hI.deps j (up_old hj e') k hk)
          · intro j hjm hj
            by_cases e : i = j
            · subst e; exact hf
            · have hj' := up_old hj e
              refine hloc j hjm i him _ _ _ _ _ e (fun k hk h => hno (h ▸ hI.deps j hj' k hk)) ?_
              exact hg j hjm e hj'
          · exact hb
          · intro j hjm hj
            by_cases e : i = j
            · subst e; rw [upd_same]; exact ⟨hI.bel.size, hsz, Nat.le_refl _⟩
            · rw [upd_other _ _ (Ne.symm e)]
              have := hI.inn j hjm (up_old hj e)
              exact ⟨this.1, this.2.1, Nat.le_trans this.2.2 hsz⟩
          · intro j1 hm1 j2 hm2 h1 h2 hne
            by_cases e1 : i = j1
            · subst e1
              rw [upd_same, upd_other _ _ (Ne.symm hne)]
              exact .inr (hI.inn j2 hm2 (up_old h2 hne)).2.2
            · rw [upd_other _ _ (Ne.symm e1)]
              by_cases e2 : i = j2
              · subst e2
                rw [upd_same]
                exact .inl (hI.inn j1 hm1 (up_old h1 e1)).2.2
              · rw [upd_other _ _ (Ne.symm e2)]
                exact hI.dj j1 hm1 j2 hm2 (up_old h1 e1) (up_old h2 e2) hne
          · have := unl_set hun
            omega
        by_cases hs : i = sp
        · subst hs
          have hqu : up l q := hdep q hqd
          have hqi := hI.inn q hq hqu
          refine hspec σ c w hI.bel (fun k hk hkm => hI.fact k hkm (hdep k hk)) _ ?_
          intro v w' hg hfq hf
          refine fin v w' hg.size ?_ (fun j hjm hne hj => ?_) hf
          · exact ⟨hg.os.trans hI.bel.os, hg.tape.trans hI.bel.tape, hg.output.trans hI.bel.output, Nat.le_trans hI.bel.size hg.size, fun k hk => (hg.block k (Nat.lt_of_lt_of_le hk hI.bel.size) (fun h => by omega)).trans (hI.bel.block k hk)⟩
          · by_cases e : j = q
            · subst e; exact hfq
            · exact hst2 j hjm (Ne.symm hne) e σ c w w' (hI.fact j hjm hj) hg (hI.dj j hjm q hq hj hqu e) hqi.1 (hI.inn j hjm hj).2.2
        · refine hstep i him hs σ c w hI.bel (fun k hk hkm => hI.fact k hkm (hdep k hk)) _ ?_
          exact fun v w' hb hf => fin v w' hb.size (hI.bel.trans (hb.mono hI.bel.size)) (fun j hjm _ hj => hst j hjm σ c w w' (hI.fact j hjm hj) hb) hf
  subst ha
  have := main fuel l0 σ0 (fun _ => (0, 0)) w0 ⟨hS, fun j h => .inl h, fun j h => h, fun j h k hk => ?_, fun j hj h => ?_, Below.refl _ _, fun j hj h => ?_, fun i hi j hj h => ?_⟩ hfu
  · rw [← hfu] at this; exact this
  · have hj := hlt l0 j h
    rcases hD0 j (by omega) with h' | h'
    · unfold up at h; rw [h'] at h; cases h
    · exact h' k hk
  · have := (hM j hj).1.2; unfold up at h; rw [this] at h; cases h
  · have := (hM j hj).1.2; unfold up at h; rw [this] at h; cases h
  · have := (hM i hi).1.2; unfold up at h; rw [this] at h; cases h
theorem wpAny_facts4' {n : Nat} {a : Act} {w0 : World} (n' : Nat) (l0 l1 : Array Bool) (ms : List Nat) (sp q : Nat) (T : (Nat → Value) → Array Value) (F : Nat → (Nat → Value) → (Nat → Nat × Nat) → World → Prop) (σ0 : Nat → Value) (ha : a = ⟨T σ0, []⟩) (hE : firstB ops l0 ms = true)
    (hn : unl l0 = n) (hl : fillL l0 ms = l1) (hn' : unl l1 = n') (hle : n' ≤ n) (hq : (decide (q ∈ ms) && decide (q ≠ sp) && (depL ops sp).contains q) = true)
    (hst : ∀ j ∈ ms, ∀ σ c w w', F j σ c w → Below w.heap.size w w' → F j σ c w')
    (hst2 : ∀ j ∈ ms, j ≠ sp → j ≠ q → ∀ σ c w w', F j σ c w → InW (c q) w w' → Dj (c j) (c q) → w0.heap.size ≤ (c q).1 → (c j).2 ≤ w.heap.size → F j σ c w')
    (hloc : ∀ j ∈ ms, ∀ i ∈ ms, ∀ σ c w v r, i ≠ j → (∀ k ∈ depL ops j, k ≠ i) → F j σ c w → F j (upd σ i v) (upd c i r) w)
    (hend : ∀ σ c w, Below w0.heap.size w0 w → (∀ j ∈ ms, F j σ c w) → (∀ j ∈ ms, w0.heap.size ≤ (c j).1 ∧ (c j).1 ≤ (c j).2 ∧ (c j).2 ≤ w.heap.size) → (∀ i ∈ ms, ∀ j ∈ ms, i ≠ j → Dj (c i) (c j)) → wpAny P .any ops Q n' l1 ⟨T σ, []⟩ w)
    (hspec : ∀ σ c w, Below w0.heap.size w0 w → (∀ k ∈ depL ops sp, k ∈ ms → F k σ c w) → StepI P ops Q T F q sp σ c w)
    (hstep : ∀ i ∈ ms, i ≠ sp → ∀ σ c w, Below w0.heap.size w0 w → (∀ k ∈ depL ops i, k ∈ ms → F k σ c w) → StepF P ops Q T F i σ c w) :
    wpAny P .any ops Q n l0 a w0 := by
  subst hn hl hn'
  rw [Bool.and_eq_true, Bool.and_eq_true, decide_eq_true_eq, decide_eq_true_eq, List.contains_iff_mem] at hq
  exact wpAny_facts4 (fuel := unl l0 - unl (fillL l0 ms)) l0 ms sp q hq.1.1 hq.2 hq.1.2 T F σ0 ha hE (by omega) hst hst2 hloc hstep hspec hend
end
end Go.Proofs.Ytijojdempijhbad
