/-
  A turn leaves turns good just where not too much was sent: plain arithmetic, no program.
-/
import Derived.Test.YteeaebelknpdjacTurnRun
namespace Go.Proofs.Yteeaebelknpdjac

theorem fl_all {xs : List Int} {lo hi : Int} (h : ∀ i, i < xs.length → lo ≤ fl xs i ∧ fl xs i ≤ hi) : (xs.all fun x => decide (lo ≤ x ∧ x ≤ hi)) = true := by
  rw [List.all_eq_true]
  intro x hx
  obtain ⟨i, hi', rfl⟩ := List.getElem_of_mem hx
  have := h i hi'
  have e : fl xs i = xs[i] := by simp [fl, List.getD_eq_getElem?_getD, hi']
  rw [e] at this
  rw [decide_eq_true_eq]
  exact this
theorem goodTu_of {D : TuD} (h : GoodT D) : goodTu D = true := by
  have hn := h.n
  unfold goodTu
  simp only [Bool.and_eq_true]
  refine ⟨by unfold gt1; rw [decide_eq_true_eq]; omega, fl_all h.q, by unfold gt3; rw [decide_eq_true_eq]; exact h.l1, by unfold gt4; rw [decide_eq_true_eq]; exact h.l2, by unfold gt5; rw [decide_eq_true_eq]; exact h.l3, fl_all fun i _ => h.c i, fl_all fun i _ => h.s i, by unfold gt8; rw [decide_eq_true_eq]; exact h.at_, gt9_yes fun i hi => ?_⟩
  obtain ⟨a, b, c⟩ := h.k i hi
  unfold qokT
  simp only [Bool.and_eq_true, Bool.or_eq_true, decide_eq_true_eq]
  refine ⟨a, fl_all b, ?_⟩
  by_cases e : (D.f1.getD i []).length = 0
  · exact .inr (c e)
  · exact .inl (by omega)
theorem left_in {D : TuD} (hg : GoodT D) {k : Nat} (hk : k < D.f1.length) : (leftT D k).length ≤ 30 ∧ ∀ j, j < (leftT D k).length → 1 ≤ fl (leftT D k) j ∧ fl (leftT D k) j ≤ 20 := by
  have happ : sendT D k ++ leftT D k = D.f1.getD k [] := takeT_app _ _
  obtain ⟨a, b, _⟩ := hg.k k hk
  rw [← happ, List.length_append] at a b
  refine ⟨by omega, fun j hj => ?_⟩
  have h := b ((sendT D k).length + j) (by omega)
  have e : fl (sendT D k ++ leftT D k) ((sendT D k).length + j) = fl (leftT D k) j := by simp [fl, List.getD_eq_getElem?_getD, List.getElem?_append_right]
  rw [e] at h
  exact h
theorem rest_in {D : TuD} (hg : GoodT D) {k : Nat} (hk : k < D.f1.length) : 0 ≤ restT D k ∧ restT D k ≤ 19 := by
  by_cases e : (leftT D k).length = 0
  · rw [restT, if_pos e]; omega
  · have h1 := (next_credit hg hk e).2.1
    have h2 := (left_in hg hk).2 0 (by omega)
    have h3 : restT D k = (takeT (credT D k) (D.f1.getD k [])).2.2 := by rw [restT, if_neg e]
    have hc0 := hg.c k
    have hq0 := hg.q k (by rw [← hg.l1]; exact hk)
    have h4 : 0 ≤ credT D k := by unfold credT; split <;> omega
    have h5 := takeT_pos (D.f1.getD k []) (credT D k) h4
    omega
theorem send_in {D : TuD} (hg : GoodT D) (k : Nat) : 0 ≤ sumI (sendT D k) ∧ sumI (sendT D k) ≤ 600 := by
  have happ : sendT D k ++ leftT D k = D.f1.getD k [] := takeT_app _ _
  have h := row_in hg k (sendT D k).length
  have e : psum (fl (D.f1.getD k [])) (sendT D k).length = sumI (sendT D k) := by
    rw [← happ]
    refine psum_congr _ fun i hi => ?_
    simp [fl, List.getD_eq_getElem?_getD, List.getElem?_append_left hi]
  rw [e] at h
  exact h
theorem at_lt {D : TuD} (hg : GoodT D) : atN D < D.f1.length := by
  have := hg.at_
  have := hg.l1
  have := hg.n
  unfold atN
  omega
theorem step_good {D : TuD} (hg : GoodT D) (h : fl D.f3 (atN D) + sumI (sendT D (atN D)) ≤ 1000000) : GoodT (stepD D) := by
  have hk := at_lt hg
  have hn := hg.n
  have hl1 := hg.l1
  have hl2 := hg.l2
  have hl3 := hg.l3
  refine ⟨hg.n, hg.q, by show (D.f1.set _ _).length = _; rw [List.length_set]; exact hl1, by show (D.f2.set _ _).length = _; rw [List.length_set]; exact hl2, by show (D.f3.set _ _).length = _; rw [List.length_set]; exact hl3, fun i => ?_, fun i => ?_, ?_, fun i hi => ?_⟩
  · show 0 ≤ fl (D.f2.set (atN D) (restT D (atN D))) i ∧ fl (D.f2.set (atN D) (restT D (atN D))) i ≤ 19
    by_cases e : i = atN D
    · rw [e, fl_set_same (by omega)]; exact rest_in hg hk
    · rw [fl_set_other e]; exact hg.c i
  · show 0 ≤ fl (D.f3.set (atN D) (fl D.f3 (atN D) + sumI (sendT D (atN D)))) i ∧ fl (D.f3.set (atN D) (fl D.f3 (atN D) + sumI (sendT D (atN D)))) i ≤ 1000000
    by_cases e : i = atN D
    · rw [e, fl_set_same (by omega)]
      have h1 := send_in hg (atN D)
      have h2 := hg.s (atN D)
      omega
    · rw [fl_set_other e]; exact hg.s i
  · show 0 ≤ (((atN D + 1) % D.f1.length : Nat) : Int) ∧ (((atN D + 1) % D.f1.length : Nat) : Int) ≤ (D.f0.length : Int) - 1
    have := Nat.mod_lt (atN D + 1) (show 0 < D.f1.length by omega)
    omega
  · have hi' : i < D.f1.length := by
      have h : (stepD D).f1.length = D.f1.length := by show (D.f1.set _ _).length = _; rw [List.length_set]
      omega
    show ((D.f1.set (atN D) (leftT D (atN D))).getD i []).length ≤ 30 ∧ (∀ j, j < ((D.f1.set (atN D) (leftT D (atN D))).getD i []).length → _) ∧ (((D.f1.set (atN D) (leftT D (atN D))).getD i []).length = 0 → fl (D.f2.set (atN D) (restT D (atN D))) i = 0)
    by_cases e : i = atN D
    · have e1 : (D.f1.set (atN D) (leftT D (atN D))).getD i [] = leftT D (atN D) := by rw [e]; simp [List.getD_eq_getElem?_getD, hk]
      rw [e1]
      obtain ⟨a, b⟩ := left_in hg hk
      refine ⟨a, fun j hj => ?_, fun h0 => ?_⟩
      · show 1 ≤ fl ((D.f1.set (atN D) (leftT D (atN D))).getD i []) j ∧ fl ((D.f1.set (atN D) (leftT D (atN D))).getD i []) j ≤ 20
        rw [e1]
        exact b j hj
      · rw [e, fl_set_same (by omega), restT, if_pos h0]
    · have e1 : (D.f1.set (atN D) (leftT D (atN D))).getD i [] = D.f1.getD i [] := by simp [List.getD_eq_getElem?_getD, Ne.symm e]
      rw [e1, fl_set_other e]
      obtain ⟨a, b, c⟩ := hg.k i hi'
      refine ⟨a, fun j hj => ?_, c⟩
      show 1 ≤ fl ((D.f1.set (atN D) (leftT D (atN D))).getD i []) j ∧ fl ((D.f1.set (atN D) (leftT D (atN D))).getD i []) j ≤ 20
      rw [e1]
      exact b j hj
theorem step_goodB {D : TuD} (hg : GoodT D) : goodTu (stepD D) = decide (fl D.f3 (atN D) + sumI (sendT D (atN D)) ≤ 1000000) := by
  by_cases h : fl D.f3 (atN D) + sumI (sendT D (atN D)) ≤ 1000000
  · rw [decide_eq_true h]; exact goodTu_of (step_good hg h)
  · rw [decide_eq_false h]
    cases e : goodTu (stepD D) with
    | false => rfl
    | true =>
      have h1 := (goodT_of e).s (atN D)
      have hk := at_lt hg
      have hl1 := hg.l1
      have hl3 := hg.l3
      have h2 : fl (stepD D).f3 (atN D) = fl D.f3 (atN D) + sumI (sendT D (atN D)) := fl_set_same (by omega) _
      rw [h2] at h1
      omega
end Go.Proofs.Yteeaebelknpdjac
