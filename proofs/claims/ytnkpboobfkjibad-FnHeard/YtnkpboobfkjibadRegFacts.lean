/-
  A region that draws its order among operations that make memory: what each makes is told once, whatever the order; all that is made lies in blocks of its own.
-/
import Derived.Test.YtnkpboobfkjibadInts
import Derived.Test.YtnkpboobfkjibadQForm
namespace Go.Proofs.Ytnkpboobfkjibad
open Go.RowKit

/-- How many of a list are false. -/
def cntF : List Bool → Nat
  | [] => 0
  | b :: l => (if b then 0 else 1) + cntF l
theorem cntF_is (l : Array Bool) : unl l = cntF l.toList := by
  unfold unl
  induction l.toList with
  | nil => rfl
  | cons b l ih => cases b <;> simp [cntF, ih] <;> omega
theorem cntF_le : ∀ (a b : List Bool), a.length = b.length → (∀ j, a.getD j false = true → b.getD j false = true) → cntF b ≤ cntF a ∧ (cntF a = cntF b → a = b)
  | [], [], _, _ => ⟨Nat.le_refl _, fun _ => rfl⟩
  | [], _ :: _, h, _ => by simp at h
  | _ :: _, [], h, _ => by simp at h
  | x :: a, y :: b, hl, h => by
    have hl' : a.length = b.length := by simpa using hl
    have ih := cntF_le a b hl' (fun j hj => by simpa using h (j + 1) (by simpa using hj))
    have h0 : x = true → y = true := fun e => by simpa using h 0 (by simpa using e)
    cases x <;> cases y
    · simp only [cntF]; exact ⟨by simp; omega, fun e => by rw [ih.2 (by simpa using e)]⟩
    · simp only [cntF]; exact ⟨by simp; omega, fun e => by simp at e; omega⟩
    · simp at h0
    · simp only [cntF]; exact ⟨by simp; omega, fun e => by rw [ih.2 (by simpa using e)]⟩
theorem up_list {l : Array Bool} {j : Nat} : up l j ↔ l.toList.getD j false = true := by
  unfold up
  simp [Array.getD_eq_getD_getElem?, List.getD_eq_getElem?_getD]
section
variable {P : Program} {ops : Array Oper} {Q : Exit → Act → World → Prop}
/-- For which an operation waits. -/
def depL (ops : Array Oper) (j : Nat) : List Nat := ((ops[j]?).map (fun o => (o.after.toList.filter fun e => Region.binds .any e).map (·.on))).getD []
theorem mem_depL {j k : Nat} : k ∈ depL ops j ↔ ∃ o, ops[j]? = some o ∧ ∃ e ∈ o.after, Region.binds .any e = true ∧ e.on = k := by
  unfold depL
  cases h : ops[j]? with
  | none => simp
  | some o => simp [and_assoc]
/-- For which it waits, through others too. -/
def depC (ops : Array Oper) : Nat → List Nat → List Nat
  | 0, s => s
  | n + 1, s => depC ops n ((s ++ s.flatMap (depL ops)).eraseDups)
theorem depC_up {p : Nat → Prop} (hp : ∀ j, p j → ∀ k ∈ depL ops j, p k) : ∀ (n : Nat) (s : List Nat), (∀ k ∈ s, p k) → ∀ k ∈ depC ops n s, p k
  | 0, _, h => h
  | n + 1, s, h => depC_up hp n _ fun k hk => by
    rw [List.mem_eraseDups, List.mem_append, List.mem_flatMap] at hk
    rcases hk with hk | ⟨j, hj, hk⟩
    · exact h k hk
    · exact hp j (h j hj) k hk
def fillL (l0 : Array Bool) (ms : List Nat) : Array Bool := ms.foldl (fun l i => l.setIfInBounds i true) l0
theorem fill_size : ∀ (ms : List Nat) (l0 : Array Bool), (fillL l0 ms).size = l0.size
  | [], _ => rfl
  | i :: ms, l0 => by
    show (fillL (l0.setIfInBounds i true) ms).size = _
    rw [fill_size ms, Array.size_setIfInBounds]
theorem fill_up : ∀ (ms : List Nat) (l0 : Array Bool) (j : Nat), up (fillL l0 ms) j → up l0 j ∨ j ∈ ms
  | [], _, _, h => .inl h
  | i :: ms, l0, j, h => by
    rcases fill_up ms (l0.setIfInBounds i true) j h with h | h
    · by_cases e : i = j
      · exact .inr (by simp [e])
      · exact .inl (up_old h e)
    · exact .inr (List.mem_cons_of_mem _ h)
theorem fill_old : ∀ (ms : List Nat) (l0 : Array Bool) (j : Nat), up l0 j → up (fillL l0 ms) j
  | [], _, _, h => h
  | _ :: ms, _, j, h => fill_old ms _ j (getD_set_true h)
theorem fill_mem : ∀ (ms : List Nat) (l0 : Array Bool) (j : Nat), j < l0.size → j ∈ ms → up (fillL l0 ms) j
  | [], _, _, _, h => by cases h
  | i :: ms, l0, j, hj, h => by
    rcases List.mem_cons.1 h with rfl | h
    · exact fill_old ms _ _ (up_set hj)
    · exact fill_mem ms _ j (by rw [Array.size_setIfInBounds]; exact hj) h
/-- The operations of ms come up first, in whatever order; every other that has not come up yet waits for them all. -/
def firstB (ops : Array Oper) (l0 : Array Bool) (ms : List Nat) : Bool :=
  decide (l0.size = ops.size) && (ms.all fun j => decide (j < ops.size) && !l0.getD j false && (depL ops j).all fun k => decide (k < j) && (l0.getD k false || ms.contains k)) &&
  ((List.range ops.size).all fun j => !l0.getD j false || (depL ops j).all fun k => l0.getD k false) &&
  (List.range ops.size).all fun j => l0.getD j false || ms.contains j || ms.all fun k => (depC ops ops.size (depL ops j)).contains k
/-- What an operation of ms has to show: it makes a value of which F speaks, nothing old is written. -/
def StepF (P : Program) (ops : Array Oper) (Q : Exit → Act → World → Prop) (T : (Nat → Value) → Array Value) (F : Nat → (Nat → Value) → (Nat → Nat × Nat) → World → Prop) (i : Nat) (σ : Nat → Value) (c : Nat → Nat × Nat) (w : World) : Prop :=
  ∀ K : Act → World → Prop, (∀ v w', Below w.heap.size w w' → F i (upd σ i v) (upd c i (w.heap.size, w'.heap.size)) w' → K ⟨T (upd σ i v), []⟩ w') → wpOp P ops Q i K ⟨T σ, []⟩ w
/-- The facts of all that has come up, each in blocks of its own. -/
structure InvF (ops : Array Oper) (l0 : Array Bool) (ms : List Nat) (w0 : World) (F : Nat → (Nat → Value) → (Nat → Nat × Nat) → World → Prop) (l : Array Bool) (σ : Nat → Value) (c : Nat → Nat × Nat) (w : World) : Prop where
  size : l.size = ops.size
  low : ∀ j, up l j → up l0 j ∨ j ∈ ms
  old : ∀ j, up l0 j → up l j
  deps : ∀ j, up l j → ∀ k ∈ depL ops j, up l k
  fact : ∀ j ∈ ms, up l j → F j σ c w
  bel : Below w0.heap.size w0 w
  inn : ∀ j ∈ ms, up l j → w0.heap.size ≤ (c j).1 ∧ (c j).1 ≤ (c j).2 ∧ (c j).2 ≤ w.heap.size
  dj : ∀ i ∈ ms, ∀ j ∈ ms, up l i → up l j → i ≠ j → Dj (c i) (c j)
theorem wpAny_facts {fuel : Nat} {a : Act} {w0 : World} (l0 : Array Bool) (ms : List Nat) (T : (Nat → Value) → Array Value) (F : Nat → (Nat → Value) → (Nat → Nat × Nat) → World → Prop) (σ0 : Nat → Value) (ha : a = ⟨T σ0, []⟩) (hE : firstB ops l0 ms = true)
    (hfu : unl l0 = fuel + unl (fillL l0 ms))
    (hst : ∀ j ∈ ms, ∀ σ c w w', F j σ c w → Below w.heap.size w w' → F j σ c w')
    (hloc : ∀ j ∈ ms, ∀ i ∈ ms, ∀ σ c w v r, i ≠ j → (∀ k ∈ depL ops j, k ≠ i) → F j σ c w → F j (upd σ i v) (upd c i r) w)
    (hstep : ∀ i ∈ ms, ∀ σ c w, Below w0.heap.size w0 w → (∀ k ∈ depL ops i, k ∈ ms → F k σ c w) → StepF P ops Q T F i σ c w)
    (hend : ∀ σ c w, Below w0.heap.size w0 w → (∀ j ∈ ms, F j σ c w) → (∀ j ∈ ms, w0.heap.size ≤ (c j).1 ∧ (c j).1 ≤ (c j).2 ∧ (c j).2 ≤ w.heap.size) → (∀ i ∈ ms, ∀ j ∈ ms, i ≠ j → Dj (c i) (c j)) → wpAny P .any ops Q (unl (fillL l0 ms)) (fillL l0 ms) ⟨T σ, []⟩ w) :
    wpAny P .any ops Q (unl l0) l0 a w0 := by
  unfold firstB at hE
  simp only [Bool.and_eq_true, decide_eq_true_eq, List.all_eq_true, List.mem_range, Bool.or_eq_true, Bool.not_eq_true', List.contains_iff_mem] at hE
  obtain ⟨⟨⟨hS, hM⟩, hD0⟩, hR⟩ := hE
  have hset : ∀ (l : Array Bool) (i j : Nat), up l j → up (l.setIfInBounds i true) j := fun l i j h => getD_set_true h
  have hbit : ∀ (l : Array Bool), l.size = ops.size → ∀ j, j < ops.size → ¬ up l j → l.getD j true = false := by
    intro l hl j hj hn
    cases hb : l.getD j true with
    | false => rfl
    | true =>
      refine absurd ?_ hn
      unfold up
      have hlt : j < l.size := by omega
      have : l.getD j false = l.getD j true := by simp [hlt]
      rw [this, hb]
  have hlt : ∀ (l : Array Bool) (j : Nat), up l j → j < l.size := by
    intro l j h
    by_cases hj : j < l.size
    · exact hj
    · unfold up at h; simp [hj] at h
  have main : ∀ (k : Nat) (l : Array Bool) (σ : Nat → Value) (c : Nat → Nat × Nat) (w : World), InvF ops l0 ms w0 F l σ c w → unl l = k + unl (fillL l0 ms) → wpAny P .any ops Q (k + unl (fillL l0 ms)) l ⟨T σ, []⟩ w := by
    intro k
    induction k with
    | zero =>
      intro l σ c w hI hl
      have hl' : l = fillL l0 ms := by
        have := (cntF_le l.toList (fillL l0 ms).toList (by simp [fill_size, hI.size, hS]) (fun j hj => by
          have hj := up_list.2 hj
          refine up_list.1 ?_
          rcases hI.low j hj with h | h
          · exact fill_old ms l0 j h
          · exact fill_mem ms l0 j (by have := hlt l j hj; rw [hI.size] at this; omega) h)).2 (by rw [← cntF_is, ← cntF_is]; omega)
        exact Array.ext' this
      have hall : ∀ j ∈ ms, up l j := fun j hj => by rw [hl']; exact fill_mem ms l0 j (by have := (hM j hj).1.1; omega) hj
      rw [Nat.zero_add, hl']
      exact hend σ c w hI.bel (fun j hj => hI.fact j hj (hall j hj)) (fun j hj => hI.inn j hj (hall j hj)) (fun i hi j hj hne => hI.dj i hi j hj (hall i hi) (hall j hj) hne)
    | succ k ih =>
      intro l σ c w hI hl
      rw [show k + 1 + unl (fillL l0 ms) = (k + unl (fillL l0 ms)) + 1 by omega]
      have hnot : ∃ j, j ∈ ms ∧ ¬ up l j := by
        by_cases h : ∃ j, j ∈ ms ∧ ¬ up l j
        · exact h
        · exfalso
          have hall : ∀ j ∈ ms, up l j := fun j hj => Classical.byContradiction fun hn => h ⟨j, hj, hn⟩
          have := (cntF_le (fillL l0 ms).toList l.toList (by simp [fill_size, hI.size, hS]) (fun j hj => by
            have hj := up_list.2 hj
            refine up_list.1 ?_
            rcases fill_up ms l0 j hj with h | h
            · exact hI.old j h
            · exact hall j h)).1
          rw [← cntF_is, ← cntF_is] at this
          omega
      have hlow : ∀ i ∈ Region.ready .any ops l, i ∈ ms := by
        intro i hi
        obtain ⟨hun, o, ho, hall⟩ := mem_ready.1 hi
        have hio : i < ops.size := (Array.getElem?_eq_some_iff.1 ho).1
        rcases hR i hio with (h | h) | h
        · exact absurd (hI.old i h) (up_not hun)
        · exact h
        · exfalso
          obtain ⟨j, hj, hn⟩ := hnot
          refine hn (depC_up (p := up l) hI.deps ops.size (depL ops i) (fun k hk => ?_) j (h j hj))
          obtain ⟨o', ho', e, he, hb, rfl⟩ := mem_depL.1 hk
          rw [ho] at ho'
          cases ho'
          exact hall e he hb
      refine ⟨fun hr => ?_, fun i hi => ?_⟩
      · exfalso
        have hex : ∀ n, ∀ j, j < n → j ∈ ms → up l j := by
          intro n
          induction n with
          | zero => intro j hj; omega
          | succ n ihn =>
            intro j hj hjm
            by_cases hjn : j < n
            · exact ihn j hjn hjm
            · obtain rfl : j = n := by omega
              apply Classical.byContradiction
              intro hn
              have hj' : j < ops.size := (hM j hjm).1.1
              have : j ∈ Region.ready .any ops l := mem_ready.2 ⟨hbit l hI.size j hj' hn, ops[j], Array.getElem?_eq_getElem hj', fun e he hb => by
                have hk := (hM j hjm).2 e.on (mem_depL.2 ⟨_, Array.getElem?_eq_getElem hj', e, he, hb, rfl⟩)
                rcases hk.2 with h | h
                · exact hI.old _ h
                · exact ihn _ hk.1 h⟩
              rw [hr] at this
              cases this
        obtain ⟨j, hj, hn⟩ := hnot
        exact hn (hex (j + 1) j (by omega) hj)
      · have him := hlow i hi
        obtain ⟨hun, o, ho, hall⟩ := mem_ready.1 hi
        have hno : ¬ up l i := up_not hun
        have hdep : ∀ k ∈ depL ops i, up l k := fun k hk => by
          obtain ⟨o', ho', e, he, hb, rfl⟩ := mem_depL.1 hk
          rw [ho] at ho'
          cases ho'
          exact hall e he hb
        refine hstep i him σ c w hI.bel (fun k hk hkm => hI.fact k hkm (hdep k hk)) _ ?_
        intro v w' hb hf
        refine ih _ _ (upd c i (w.heap.size, w'.heap.size)) _ ⟨?_, ?_, ?_, ?_, ?_, ?_, ?_, ?_⟩ ?_
        · rw [Array.size_setIfInBounds]; exact hI.size
        · intro j hj
          by_cases e : i = j
          · subst e; exact .inr him
          · exact hI.low j (up_old hj e)
        · exact fun j hj => hset _ _ _ (hI.old j hj)
        · intro j hj k hk
          by_cases e' : i = j
          · subst e'; exact hset _ _ _ (hdep k hk)
          · exact hset _ _ _ (hI.deps j (up_old hj e') k hk)
        · intro j hjm hj
          by_cases e : i = j
          · subst e; exact hf
          · have hj' := up_old hj e
            exact hloc j hjm i him _ _ _ _ _ e (fun k hk h => hno (h ▸ hI.deps j hj' k hk)) (hst j hjm σ c w w' (hI.fact j hjm hj') hb)
        · exact hI.bel.trans (hb.mono hI.bel.size)
        · intro j hjm hj
          by_cases e : i = j
          · subst e; rw [upd_same]; exact ⟨hI.bel.size, hb.size, Nat.le_refl _⟩
          · rw [upd_other _ _ (Ne.symm e)]
            have := hI.inn j hjm (up_old hj e)
            exact ⟨this.1, this.2.1, Nat.le_trans this.2.2 hb.size⟩
        · intro j1 hm1 j2 hm2 h1 h2 hne
          by_cases e1 : i = j1
          · subst e1
            rw [upd_same, upd_other _ _ (Ne.symm hne)]
            exact .inr (hI.inn j2 hm2 (up_old h2 hne)).2.2
          · rw [upd_other _ _ (Ne.symm e1)]
            by_cases e2 : i = j2
            · subst e2
              rw [upd_same]
              exact .inl (hI.inn j1 hm1 (up_old h1 e1)).2.2
            · rw [upd_other _ _ (Ne.symm e2)]
              exact hI.dj j1 hm1 j2 hm2 (up_old h1 e1) (up_old h2 e2) hne
        · have := unl_set hun
          omega
  subst ha
  have := main fuel l0 σ0 (fun _ => (0, 0)) w0 ⟨hS, fun j h => .inl h, fun j h => h, fun j h k hk => ?_, fun j hj h => ?_, Below.refl _ _, fun j hj h => ?_, fun i hi j hj h => ?_⟩ hfu
  · rw [← hfu] at this; exact this
  · have hj := hlt l0 j h
    rcases hD0 j (by omega) with h' | h'
    · unfold up at h; rw [h'] at h; cases h
    · exact h' k hk
  · have := (hM j hj).1.2; unfold up at h; rw [this] at h; cases h
  · have := (hM j hj).1.2; unfold up at h; rw [this] at h; cases h
  · have := (hM i hi).1.2; unfold up at h; rw [this] at h; cases h
theorem wpAny_facts' {n : Nat} {a : Act} {w0 : World} (n' : Nat) (l0 l1 : Array Bool) (ms : List Nat) (T : (Nat → Value) → Array Value) (F : Nat → (Nat → Value) → (Nat → Nat × Nat) → World → Prop) (σ0 : Nat → Value) (ha : a = ⟨T σ0, []⟩) (hE : firstB ops l0 ms = true)
    (hn : unl l0 = n) (hl : fillL l0 ms = l1) (hn' : unl l1 = n') (hle : n' ≤ n)
    (hst : ∀ j ∈ ms, ∀ σ c w w', F j σ c w → Below w.heap.size w w' → F j σ c w')
    (hloc : ∀ j ∈ ms, ∀ i ∈ ms, ∀ σ c w v r, i ≠ j → (∀ k ∈ depL ops j, k ≠ i) → F j σ c w → F j (upd σ i v) (upd c i r) w)
    (hend : ∀ σ c w, Below w0.heap.size w0 w → (∀ j ∈ ms, F j σ c w) → (∀ j ∈ ms, w0.heap.size ≤ (c j).1 ∧ (c j).1 ≤ (c j).2 ∧ (c j).2 ≤ w.heap.size) → (∀ i ∈ ms, ∀ j ∈ ms, i ≠ j → Dj (c i) (c j)) → wpAny P .any ops Q n' l1 ⟨T σ, []⟩ w)
    (hstep : ∀ i ∈ ms, ∀ σ c w, Below w0.heap.size w0 w → (∀ k ∈ depL ops i, k ∈ ms → F k σ c w) → StepF P ops Q T F i σ c w) :
    wpAny P .any ops Q n l0 a w0 := by
  subst hn hl hn'
  exact wpAny_facts (fuel := unl l0 - unl (fillL l0 ms)) l0 ms T F σ0 ha hE (by omega) hst hloc hstep hend
/-- One operation: the slots may be written out anew (a1). -/
theorem StepF.of {T : (Nat → Value) → Array Value} {F : Nat → (Nat → Value) → (Nat → Nat × Nat) → World → Prop} {i : Nat} {σ : Nat → Value} {c : Nat → Nat × Nat} {w : World} {a1 : Act} {o : Oper} (ha : (⟨T σ, []⟩ : Act) = a1) (ho : ops[i]? = some o) (hput : ∀ v, (⟨T σ, []⟩ : Act).put o.dst v = ⟨T (upd σ i v), []⟩)
    (h : ∀ K : Act → World → Prop, (∀ v w', Below w.heap.size w w' → F i (upd σ i v) (upd c i (w.heap.size, w'.heap.size)) w' → K (a1.put o.dst v) w') → if Region.wanted o (yielded ops a1.tmps) = true then Oper.wp P o a1 w K Q else K (a1.put o.dst undef) w) : StepF P ops Q T F i σ c w := by
  intro K hK
  rw [ha]
  refine wpOp_step ho (fun K' hK' => h K' fun v w' hb hf => hK' _ _ ?_)
  rw [← ha, hput]
  exact hK v w' hb hf
end
end Go.Proofs.Ytnkpboobfkjibad
