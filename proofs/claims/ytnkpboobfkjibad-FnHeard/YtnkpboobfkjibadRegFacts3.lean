/-
  A region that draws its order, as RegFacts has it, where some operations, one behind the other, may write into one block that was there (calls that draw from a cursor).
-/
import Derived.Test.YtnkpboobfkjibadRegFacts2
namespace Go.Proofs.Ytnkpboobfkjibad
open Go.RowKit
section
variable {P : Program} {ops : Array Oper} {Q : Exit → Act → World → Prop}
/-- What one that writes has to show. -/
def StepH (P : Program) (ops : Array Oper) (Q : Exit → Act → World → Prop) (T : (Nat → Value) → Array Value) (F : Nat → (Nat → Value) → (Nat → Nat × Nat) → World → Prop) (g i : Nat) (R : World → Prop) (σ : Nat → Value) (c : Nat → Nat × Nat) (w : World) : Prop :=
  ∀ K : Act → World → Prop, (∀ v w', w.grownBy w' (some g) → R w' → F i (upd σ i v) (upd c i (w.heap.size, w'.heap.size)) w' → K ⟨T (upd σ i v), []⟩ w') → wpOp P ops Q i K ⟨T σ, []⟩ w
theorem StepH.of {T : (Nat → Value) → Array Value} {F : Nat → (Nat → Value) → (Nat → Nat × Nat) → World → Prop} {g i : Nat} {R : World → Prop} {σ : Nat → Value} {c : Nat → Nat × Nat} {w : World} {a1 : Act} {o : Oper} (ha : (⟨T σ, []⟩ : Act) = a1) (ho : ops[i]? = some o) (hput : ∀ v, (⟨T σ, []⟩ : Act).put o.dst v = ⟨T (upd σ i v), []⟩)
    (h : ∀ K : Act → World → Prop, (∀ v w', w.grownBy w' (some g) → R w' → F i (upd σ i v) (upd c i (w.heap.size, w'.heap.size)) w' → K (a1.put o.dst v) w') → if Region.wanted o (yielded ops a1.tmps) = true then Oper.wp P o a1 w K Q else K (a1.put o.dst undef) w) : StepH P ops Q T F g i R σ c w := by
  intro K hK
  rw [ha]
  refine wpOp_step ho (fun K' hK' => h K' fun v w' hb hr hf => hK' _ _ ?_)
  rw [← ha, hput]
  exact hK v w' hb hr hf
/-- Each of those that write waits for the one ahead of it; all are among ms; none is twice. -/
def chB (ops : Array Oper) (ms cs : List Nat) : Bool := ((List.range (cs.length - 1)).all fun m => (depC ops ops.size (depL ops (cs.getD (m + 1) 0))).contains (cs.getD m 0)) && cs.all (fun i => ms.contains i) && decide cs.Nodup
/-- The facts of all that has come up, each in blocks of its own; what is told of the block that is written. -/
structure InvH (ops : Array Oper) (l0 : Array Bool) (ms cs : List Nat) (g : Nat) (w0 : World) (F : Nat → (Nat → Value) → (Nat → Nat × Nat) → World → Prop) (Rs : Nat → World → Prop) (l : Array Bool) (σ : Nat → Value) (c : Nat → Nat × Nat) (w : World) : Prop where
  size : l.size = ops.size
  low : ∀ j, up l j → up l0 j ∨ j ∈ ms
  old : ∀ j, up l0 j → up l j
  deps : ∀ j, up l j → ∀ k ∈ depL ops j, up l k
  fact : ∀ j ∈ ms, up l j → F j σ c w
  res : ∀ k, k ≤ cs.length → (∀ j, j < k → up l (cs.getD j 0)) → (k < cs.length → ¬ up l (cs.getD k 0)) → Rs k w
  gr : w0.grownBy w (some g)
  inn : ∀ j ∈ ms, up l j → w0.heap.size ≤ (c j).1 ∧ (c j).1 ≤ (c j).2 ∧ (c j).2 ≤ w.heap.size
  dj : ∀ i ∈ ms, ∀ j ∈ ms, up l i → up l j → i ≠ j → Dj (c i) (c j)
theorem wpAny_facts3 {fuel : Nat} {a : Act} {w0 : World} (l0 : Array Bool) (ms : List Nat) (cs : List Nat) (g : Nat) (Rs : Nat → World → Prop) (T : (Nat → Value) → Array Value) (F : Nat → (Nat → Value) → (Nat → Nat × Nat) → World → Prop) (σ0 : Nat → Value) (ha : a = ⟨T σ0, []⟩) (hE : firstB ops l0 ms = true)
    (hfu : unl l0 = fuel + unl (fillL l0 ms))
    (hch : chB ops ms cs = true)
    (hst : ∀ j ∈ ms, ∀ σ c w w', F j σ c w → w.grownBy w' (some g) → F j σ c w')
    (hrs : ∀ k w w', Rs k w → Below w.heap.size w w' → Rs k w') (h0 : Rs 0 w0)
    (hloc : ∀ j ∈ ms, ∀ i ∈ ms, ∀ σ c w v r, i ≠ j → (∀ k ∈ depL ops j, k ≠ i) → F j σ c w → F j (upd σ i v) (upd c i r) w)
    (hstep : ∀ i ∈ ms, i ∉ cs → ∀ σ c w, w0.grownBy w (some g) → (∀ k ∈ depL ops i, k ∈ ms → F k σ c w) → StepF P ops Q T F i σ c w)
    (hspec : ∀ m, m < cs.length → ∀ σ c w, w0.grownBy w (some g) → Rs m w → (∀ k ∈ depL ops (cs.getD m 0), k ∈ ms → F k σ c w) → StepH P ops Q T F g (cs.getD m 0) (Rs (m + 1)) σ c w)
    (hend : ∀ σ c w, w0.grownBy w (some g) → Rs cs.length w → (∀ j ∈ ms, F j σ c w) → (∀ j ∈ ms, w0.heap.size ≤ (c j).1 ∧ (c j).1 ≤ (c j).2 ∧ (c j).2 ≤ w.heap.size) → (∀ i ∈ ms, ∀ j ∈ ms, i ≠ j → Dj (c i) (c j)) → wpAny P .any ops Q (unl (fillL l0 ms)) (fillL l0 ms) ⟨T σ, []⟩ w) :
    wpAny P .any ops Q (unl l0) l0 a w0 := by
  unfold chB at hch
  simp only [Bool.and_eq_true, decide_eq_true_eq, List.all_eq_true, List.mem_range, List.contains_iff_mem] at hch
  obtain ⟨⟨hC1, hC2⟩, hC3⟩ := hch
  have hget : ∀ m, m < cs.length → cs.getD m 0 ∈ cs := fun m hm => by rw [List.getD_eq_getElem?_getD, List.getElem?_eq_getElem hm]; exact List.getElem_mem hm
  have hinj : ∀ a b, a < cs.length → b < cs.length → cs.getD a 0 = cs.getD b 0 → a = b := fun a b ha hb e => by
    rw [List.getD_eq_getElem?_getD, List.getD_eq_getElem?_getD, List.getElem?_eq_getElem ha, List.getElem?_eq_getElem hb] at e
    exact (List.getElem_inj hC3).1 e
  unfold firstB at hE
  simp only [Bool.and_eq_true, decide_eq_true_eq, List.all_eq_true, List.mem_range, Bool.or_eq_true, Bool.not_eq_true', List.contains_iff_mem] at hE
  obtain ⟨⟨⟨hS, hM⟩, hD0⟩, hR⟩ := hE
  have hset : ∀ (l : Array Bool) (i j : Nat), up l j → up (l.setIfInBounds i true) j := fun l i j h => getD_set_true h
  have hbit : ∀ (l : Array Bool), l.size = ops.size → ∀ j, j < ops.size → ¬ up l j → l.getD j true = false := by
    intro l hl j hj hn
    cases hb : l.getD j true with
    | false => rfl
    | true =>
      refine absurd ?_ hn
      unfold up
      have hlt : j < l.size := by omega
      have : l.getD j false = l.getD j true := by simp [hlt]
      rw [this, hb]
  have hlt : ∀ (l : Array Bool) (j : Nat), up l j → j < l.size := by
    intro l j h
    by_cases hj : j < l.size
    · exact hj
    · unfold up at h; simp [hj] at h
  have main : ∀ (k : Nat) (l : Array Bool) (σ : Nat → Value) (c : Nat → Nat × Nat) (w : World), InvH ops l0 ms cs g w0 F Rs l σ c w → unl l = k + unl (fillL l0 ms) → wpAny P .any ops Q (k + unl (fillL l0 ms)) l ⟨T σ, []⟩ w := by
    intro k
    induction k with
    | zero =>
      intro l σ c w hI hl
      have hl' : l = fillL l0 ms := by
        have := (cntF_le l.toList (fillL l0 ms).toList (by simp [fill_size, hI.size, hS]) (fun j hj => by
          have hj := up_list.2 hj
          refine up_list.1 ?_
          rcases hI.low j hj with h | h
          · exact fill_old ms l0 j h
          · exact fill_mem ms l0 j (by have := hlt l j hj; rw [hI.size] at this; omega) h)).2 (by rw [← cntF_is, ← cntF_is]; omega)
        exact Array.ext' this
      have hall : ∀ j ∈ ms, up l j := fun j hj => by rw [hl']; exact fill_mem ms l0 j (by have := (hM j hj).1.1; omega) hj
      rw [Nat.zero_add, hl']
      exact hend σ c w hI.gr (hI.res cs.length (Nat.le_refl _) (fun j hj => hall _ (hC2 _ (hget j hj))) (fun h => absurd h (Nat.lt_irrefl _))) (fun j hj => hI.fact j hj (hall j hj)) (fun j hj => hI.inn j hj (hall j hj)) (fun i hi j hj hne => hI.dj i hi j hj (hall i hi) (hall j hj) hne)
    | succ k ih =>
      intro l σ c w hI hl
      rw [show k + 1 + unl (fillL l0 ms) = (k + unl (fillL l0 ms)) + 1 by omega]
      have hnot : ∃ j, j ∈ ms ∧ ¬ up l j := by
        by_cases h : ∃ j, j ∈ ms ∧ ¬ up l j
        · exact h
        · exfalso
          have hall : ∀ j ∈ ms, up l j := fun j hj => Classical.byContradiction fun hn => h ⟨j, hj, hn⟩
          have := (cntF_le (fillL l0 ms).toList l.toList (by simp [fill_size, hI.size, hS]) (fun j hj => by
            have hj := up_list.2 hj
            refine up_list.1 ?_
            rcases fill_up ms l0 j hj with h | h
            · exact hI.old j h
            · exact hall j h)).1
          rw [← cntF_is, ← cntF_is] at this
          omega
      have hlow : ∀ i ∈ Region.ready .any ops l, i ∈ ms := by
        intro i hi
        obtain ⟨hun, o, ho, hall⟩ := mem_ready.1 hi
        have hio : i < ops.size := (Array.getElem?_eq_some_iff.1 ho).1
        rcases hR i hio with (h | h) | h
        · exact absurd (hI.old i h) (up_not hun)
        · exact h
        · exfalso
          obtain ⟨j, hj, hn⟩ := hnot
          refine hn (depC_up (p := up l) hI.deps ops.size (depL ops i) (fun k hk => ?_) j (h j hj))
          obtain ⟨o', ho', e, he, hb, rfl⟩ := mem_depL.1 hk
          rw [ho] at ho'
          cases ho'
          exact hall e he hb
      refine ⟨fun hr => ?_, fun i hi => ?_⟩
      · exfalso
        have hex : ∀ n, ∀ j, j < n → j ∈ ms → up l j := by
          intro n
          induction n with
          | zero => intro j hj; omega
          | succ n ihn =>
            intro j hj hjm
            by_cases hjn : j < n
            · exact ihn j hjn hjm
            · obtain rfl : j = n := by omega
              apply Classical.byContradiction
              intro hn
              have hj' : j < ops.size := (hM j hjm).1.1
              have : j ∈ Region.ready .any ops l := mem_ready.2 ⟨hbit l hI.size j hj' hn, ops[j], Array.getElem?_eq_getElem hj', fun e he hb => by
                have hk := (hM j hjm).2 e.on (mem_depL.2 ⟨_, Array.getElem?_eq_getElem hj', e, he, hb, rfl⟩)
                rcases hk.2 with h | h
                · exact hI.old _ h
                · exact ihn _ hk.1 h⟩
              rw [hr] at this
              cases this
        obtain ⟨j, hj, hn⟩ := hnot
        exact hn (hex (j + 1) j (by omega) hj)
      · have him := hlow i hi
        obtain ⟨hun, o, ho, hall⟩ := mem_ready.1 hi
        have hno : ¬ up l i := up_not hun
        have hdep : ∀ k ∈ depL ops i, up l k := fun k hk => by
          obtain ⟨o', ho', e, he, hb, rfl⟩ := mem_depL.1 hk
          rw [ho] at ho'
          cases ho'
          exact hall e he hb
        have back : ∀ m, m + 1 < cs.length → up l (cs.getD (m + 1) 0) → up l (cs.getD m 0) := fun m hm hu =>
          depC_up (p := up l) hI.deps ops.size (depL ops (cs.getD (m + 1) 0)) (fun k hk => hI.deps _ hu k hk) _ (hC1 m (by omega))
        have fin : ∀ v w', (∀ k, k ≤ cs.length → (∀ j, j < k → up (l.setIfInBounds i true) (cs.getD j 0)) → (k < cs.length → ¬ up (l.setIfInBounds i true) (cs.getD k 0)) → Rs k w') → w.grownBy w' (some g) → F i (upd σ i v) (upd c i (w.heap.size, w'.heap.size)) w' → wpAny P .any ops Q (k + unl (fillL l0 ms)) (l.setIfInBounds i true) ⟨T (upd σ i v), []⟩ w' := by
          intro v w' hb hg hf
          refine ih _ _ (upd c i (w.heap.size, w'.heap.size)) _ ⟨?_, ?_, ?_, ?_, ?_, ?_, ?_, ?_, ?_⟩ ?_
          · rw [Array.size_setIfInBounds]; exact hI.size
          · intro j hj
            by_cases e : i = j
            · subst e; exact .inr him
            · exact hI.low j (up_old hj e)
          · exact fun j hj => hset _ _ _ (hI.old j hj)
          · intro j hj k hk
            by_cases e' : i = j
            · subst e'; exact hset _ _ _ (hdep k hk)
            · exact hset _ _ _ (hI.deps j (up_old hj e') k hk)
          · intro j hjm hj
            by_cases e : i = j
            · subst e; exact hf
            · have hj' := up_old hj e
              refine hloc j hjm i him _ _ _ _ _ e (fun k hk h => hno (h ▸ hI.deps j hj' k hk)) ?_
              exact hst j hjm σ c w w' (hI.fact j hjm hj') hg
          · exact hb
          · exact grown_trans hI.gr hg
          · intro j hjm hj
            by_cases e : i = j
            · subst e; rw [upd_same]; exact ⟨hI.gr.size, hg.size, Nat.le_refl _⟩
            · rw [upd_other _ _ (Ne.symm e)]
              have := hI.inn j hjm (up_old hj e)
              exact ⟨this.1, this.2.1, Nat.le_trans this.2.2 hg.size⟩
          · intro j1 hm1 j2 hm2 h1 h2 hne
            by_cases e1 : i = j1
            · subst e1
              rw [upd_same, upd_other _ _ (Ne.symm hne)]
              exact .inr (hI.inn j2 hm2 (up_old h2 hne)).2.2
            · rw [upd_other _ _ (Ne.symm e1)]
              by_cases e2 : i = j2
              · subst e2
                rw [upd_same]
                exact .inl (hI.inn j1 hm1 (up_old h1 e1)).2.2
              · rw [upd_other _ _ (Ne.symm e2)]
                exact hI.dj j1 hm1 j2 hm2 (up_old h1 e1) (up_old h2 e2) hne
          · have := unl_set hun
            omega
        by_cases hs : i ∈ cs
        · obtain ⟨m, hm, e⟩ := List.getElem_of_mem hs
          have hm' : cs.getD m 0 = i := by rw [List.getD_eq_getElem?_getD, List.getElem?_eq_getElem hm]; exact e
          have early : ∀ a, a < m → up l (cs.getD a 0) := by
            have step : ∀ d a, a + d + 1 = m → up l (cs.getD a 0) := by
              intro d
              induction d with
              | zero =>
                intro a ha
                have ha' : a + 1 = m := by omega
                have h1 := hC1 a (by omega)
                rw [ha', hm'] at h1
                exact depC_up (p := up l) hI.deps ops.size (depL ops i) hdep _ h1
              | succ d ihd => intro a ha; exact back a (by omega) (ihd (a + 1) (by omega))
            exact fun a ha => step (m - a - 1) a (by omega)
          have hspm := hspec m hm σ c w hI.gr (hI.res m (Nat.le_of_lt hm) early (fun _ => by rw [hm']; exact hno)) (fun k hk hkm => hI.fact k hkm (hdep k (by rw [hm'] at hk; exact hk)))
          rw [hm'] at hspm
          refine hspm _ ?_
          intro v w' hg hr hf
          refine fin v w' (fun k hk hup hnu => ?_) hg hf
          have hi' : up (l.setIfInBounds i true) i := up_set (by rw [hI.size]; exact (hM _ him).1.1)
          obtain rfl : k = m + 1 := by
            rcases Nat.lt_trichotomy k (m + 1) with h | h | h
            · exfalso
              have hkl : k < cs.length := by omega
              by_cases e' : k = m
              · subst e'; exact hnu hkl (by rw [hm']; exact hi')
              · exact hnu hkl (hset _ _ _ (early k (by omega)))
            · exact h
            · exfalso
              have h1 := hup (m + 1) h
              have hne : i ≠ cs.getD (m + 1) 0 := fun e' => by have := hinj m (m + 1) hm (by omega) (hm'.trans e'); omega
              have h2 := back m (by omega) (up_old h1 hne)
              rw [hm'] at h2
              exact hno h2
          exact hr
        · refine hstep i him hs σ c w hI.gr (fun k hk hkm => hI.fact k hkm (hdep k hk)) _ ?_
          intro v w' hb hf
          refine fin v w' (fun k hk hup hnu => ?_) (below_grown hb) hf
          have hno' : ∀ a, a < cs.length → i ≠ cs.getD a 0 := fun a ha e' => hs (by rw [e']; exact hget a ha)
          exact hrs k w w' (hI.res k hk (fun j hj => up_old (hup j hj) (hno' j (by omega))) (fun hkl h => hnu hkl (hset _ _ _ h))) hb
  subst ha
  have := main fuel l0 σ0 (fun _ => (0, 0)) w0 ⟨hS, fun j h => .inl h, fun j h => h, fun j h k hk => ?_, fun j hj h => ?_, ?_, ⟨rfl, rfl, rfl, Nat.le_refl _, fun _ _ _ => rfl⟩, fun j hj h => ?_, fun i hi j hj h => ?_⟩ hfu
  · rw [← hfu] at this; exact this
  · have hj := hlt l0 j h
    rcases hD0 j (by omega) with h' | h'
    · unfold up at h; rw [h'] at h; cases h
    · exact h' k hk
  · have := (hM j hj).1.2; unfold up at h; rw [this] at h; cases h
  · intro k hk hup _
    rcases k with _ | k
    · exact h0
    · exfalso
      have h := hup 0 (by omega)
      have := (hM _ (hC2 _ (hget 0 (by omega)))).1.2
      unfold up at h; rw [this] at h; cases h
  · have := (hM j hj).1.2; unfold up at h; rw [this] at h; cases h
  · have := (hM i hi).1.2; unfold up at h; rw [this] at h; cases h
theorem wpAny_facts3' {n : Nat} {a : Act} {w0 : World} (n' : Nat) (l0 l1 : Array Bool) (ms cs : List Nat) (g : Nat) (Rs : Nat → World → Prop) (T : (Nat → Value) → Array Value) (F : Nat → (Nat → Value) → (Nat → Nat × Nat) → World → Prop) (σ0 : Nat → Value) (ha : a = ⟨T σ0, []⟩) (hE : firstB ops l0 ms = true)
    (hn : unl l0 = n) (hl : fillL l0 ms = l1) (hn' : unl l1 = n') (hle : n' ≤ n) (hch : chB ops ms cs = true)
    (hst : ∀ j ∈ ms, ∀ σ c w w', F j σ c w → w.grownBy w' (some g) → F j σ c w')
    (hrs : ∀ k w w', Rs k w → Below w.heap.size w w' → Rs k w') (h0 : Rs 0 w0)
    (hloc : ∀ j ∈ ms, ∀ i ∈ ms, ∀ σ c w v r, i ≠ j → (∀ k ∈ depL ops j, k ≠ i) → F j σ c w → F j (upd σ i v) (upd c i r) w)
    (hend : ∀ σ c w, w0.grownBy w (some g) → Rs cs.length w → (∀ j ∈ ms, F j σ c w) → (∀ j ∈ ms, w0.heap.size ≤ (c j).1 ∧ (c j).1 ≤ (c j).2 ∧ (c j).2 ≤ w.heap.size) → (∀ i ∈ ms, ∀ j ∈ ms, i ≠ j → Dj (c i) (c j)) → wpAny P .any ops Q n' l1 ⟨T σ, []⟩ w)
    (hspec : ∀ m, m < cs.length → ∀ σ c w, w0.grownBy w (some g) → Rs m w → (∀ k ∈ depL ops (cs.getD m 0), k ∈ ms → F k σ c w) → StepH P ops Q T F g (cs.getD m 0) (Rs (m + 1)) σ c w)
    (hstep : ∀ i ∈ ms, i ∉ cs → ∀ σ c w, w0.grownBy w (some g) → (∀ k ∈ depL ops i, k ∈ ms → F k σ c w) → StepF P ops Q T F i σ c w) :
    wpAny P .any ops Q n l0 a w0 := by
  subst hn hl hn'
  exact wpAny_facts3 (fuel := unl l0 - unl (fillL l0 ms)) l0 ms cs g Rs T F σ0 ha hE (by omega) hch hst hrs h0 hloc hstep hspec hend
end
end Go.Proofs.Ytnkpboobfkjibad
