/-
  Many turns: a queue that always has something waiting is sent its quantum each round, but for less than a packet (Shreedhar, Varghese). Plain arithmetic, no program.
  A turn leaves turns good just where not too much was sent: plain arithmetic, no program.
-/
import Derived.Test.YtepnhbicmlfnhacTurnMath
namespace Go.Proofs.Ytepnhbicmlfnhac

def atN (D : TuD) : Nat := D.f4.toNat
def stepD (D : TuD) : TuD := nextD D (atN D)
def runD (D : TuD) : Nat → TuD
  | 0 => D
  | m + 1 => stepD (runD D m)
/-- All is good so far. -/
def RunOk (D : TuD) (m : Nat) : Prop := ∀ j, j ≤ m → GoodT (runD D j)
theorem run_q (D : TuD) : ∀ m, (runD D m).f0 = D.f0
  | 0 => rfl
  | m + 1 => run_q D m
theorem run_len (D : TuD) : ∀ m, (runD D m).f1.length = D.f1.length
  | 0 => rfl
  | m + 1 => by
    show ((runD D m).f1.set _ _).length = _
    rw [List.length_set]
    exact run_len D m
theorem run_at {D : TuD} (hn : 0 < D.f1.length) (h0 : atN D < D.f1.length) : ∀ m, atN (runD D m) = (atN D + m) % D.f1.length
  | 0 => (Nat.mod_eq_of_lt h0).symm
  | m + 1 => by
    show Int.toNat (((atN (runD D m) + 1) % (runD D m).f1.length : Nat) : Int) = _
    rw [Int.toNat_natCast, run_len, run_at hn h0 m, Nat.mod_add_mod]
    rfl
/-- How many of the first turns a queue had. -/
def cntT (a n k : Nat) : Nat → Nat
  | 0 => 0
  | m + 1 => cntT a n k m + if (a + m) % n = k then 1 else 0
theorem cnt_round {a n k : Nat} (h1 : 1 ≤ n) (h4 : n ≤ 4) (hk : k < n) (m : Nat) : cntT a n k (m + n) = cntT a n k m + 1 := by
  have hn : n = 1 ∨ n = 2 ∨ n = 3 ∨ n = 4 := by omega
  rcases hn with rfl | rfl | rfl | rfl
  · show cntT a 1 k m + (if (a + m) % 1 = k then 1 else 0) = _
    split <;> omega
  · show cntT a 2 k m + (if (a + m) % 2 = k then 1 else 0) + (if (a + (m + 1)) % 2 = k then 1 else 0) = _
    split <;> split <;> omega
  · show cntT a 3 k m + (if (a + m) % 3 = k then 1 else 0) + (if (a + (m + 1)) % 3 = k then 1 else 0) + (if (a + (m + 2)) % 3 = k then 1 else 0) = _
    split <;> split <;> split <;> omega
  · show cntT a 4 k m + (if (a + m) % 4 = k then 1 else 0) + (if (a + (m + 1)) % 4 = k then 1 else 0) + (if (a + (m + 2)) % 4 = k then 1 else 0) + (if (a + (m + 3)) % 4 = k then 1 else 0) = _
    split <;> split <;> split <;> split <;> omega
theorem cnt_rounds {a n k : Nat} (h1 : 1 ≤ n) (h4 : n ≤ 4) (hk : k < n) : ∀ r : Nat, cntT a n k (r * n) = r
  | 0 => by simp [cntT]
  | r + 1 => by rw [Nat.succ_mul, cnt_round h1 h4 hk, cnt_rounds h1 h4 hk r]
theorem fl_set_same {xs : List Int} {k : Nat} (h : k < xs.length) (y : Int) : fl (xs.set k y) k = y := by simp [fl, List.getD_eq_getElem?_getD, h]
theorem fl_set_other {xs : List Int} {k j : Nat} (h : j ≠ k) (y : Int) : fl (xs.set k y) j = fl xs j := by simp [fl, List.getD_eq_getElem?_getD, Ne.symm h]
theorem run_credit {D : TuD} (hg0 : GoodT D) {k : Nat} (hk : k < D.f1.length) : ∀ m, RunOk D m → ((runD D m).f1.getD k []).length ≠ 0 → fl (runD D m).f3 k - fl D.f3 k + fl (runD D m).f2 k = fl D.f2 k + (cntT (atN D) D.f1.length k m : Nat) * fl D.f0 k
  | 0, _, _ => by
    show fl D.f3 k - fl D.f3 k + fl D.f2 k = fl D.f2 k + (0 : Nat) * fl D.f0 k
    simp
  | m + 1, hok, hne => by
    have hg := hok m (by omega)
    have hn := hg0.n
    have h0 : atN D < D.f1.length := by
      have := hg0.at_
      have := hg0.l1
      unfold atN
      omega
    have ha := run_at (by omega) h0 m
    have hlen := run_len D m
    have hl3 : (runD D m).f3.length = D.f1.length := by rw [hg.l3, ← hg.l1, hlen]
    have hl2 : (runD D m).f2.length = D.f1.length := by rw [hg.l2, ← hg.l1, hlen]
    have hcnt : cntT (atN D) D.f1.length k (m + 1) = cntT (atN D) D.f1.length k m + if (atN D + m) % D.f1.length = k then 1 else 0 := rfl
    by_cases e : (atN D + m) % D.f1.length = k
    · have ek : atN (runD D m) = k := by rw [ha]; exact e
      have hne' : (leftT (runD D m) k).length ≠ 0 := by
        have h : ((stepD (runD D m)).f1.getD k []) = leftT (runD D m) k := by
          show ((runD D m).f1.set (atN (runD D m)) (leftT (runD D m) (atN (runD D m)))).getD k [] = _
          rw [ek]
          simp [List.getD_eq_getElem?_getD, hlen, hk]
        have h2 : ((runD D (m + 1)).f1.getD k []) = leftT (runD D m) k := h
        rw [h2] at hne
        exact hne
      have hpre : ((runD D m).f1.getD k []).length ≠ 0 := by
        have happ : sendT (runD D m) k ++ leftT (runD D m) k = (runD D m).f1.getD k [] := takeT_app _ _
        rw [← happ, List.length_append]
        omega
      have ih := run_credit hg0 hk m (fun j hj => hok j (by omega)) hpre
      have hc := (next_credit hg (by rw [hlen]; exact hk) hne').1
      rw [run_q] at hc
      have e3 : fl (runD D (m + 1)).f3 k = fl (runD D m).f3 k + sumI (sendT (runD D m) k) := by
        show fl ((runD D m).f3.set (atN (runD D m)) (fl (runD D m).f3 (atN (runD D m)) + sumI (sendT (runD D m) (atN (runD D m))))) k = _
        rw [ek, fl_set_same (by rw [hl3]; exact hk)]
      have e2 : fl (runD D (m + 1)).f2 k = restT (runD D m) k := by
        show fl ((runD D m).f2.set (atN (runD D m)) (restT (runD D m) (atN (runD D m)))) k = _
        rw [ek, fl_set_same (by rw [hl2]; exact hk)]
      rw [hcnt, if_pos e, e3, e2, show ((cntT (atN D) D.f1.length k m + 1 : Nat) : Int) = (cntT (atN D) D.f1.length k m : Int) + 1 by omega, Int.add_mul, Int.one_mul]
      omega
    · have ek : k ≠ atN (runD D m) := by rw [ha]; exact fun h => e h.symm
      have h1 : (runD D (m + 1)).f1.getD k [] = (runD D m).f1.getD k [] := by
        show ((runD D m).f1.set (atN (runD D m)) (leftT (runD D m) (atN (runD D m)))).getD k [] = _
        simp [List.getD_eq_getElem?_getD, Ne.symm ek]
      rw [h1] at hne
      have ih := run_credit hg0 hk m (fun j hj => hok j (by omega)) hne
      have e3 : fl (runD D (m + 1)).f3 k = fl (runD D m).f3 k := fl_set_other ek _
      have e2 : fl (runD D (m + 1)).f2 k = fl (runD D m).f2 k := fl_set_other ek _
      rw [hcnt, if_neg e, e3, e2, Nat.add_zero]
      exact ih
/-- A queue that always has something waiting is sent its quantum each round, but for less than a packet. -/
theorem run_share {D : TuD} (hg0 : GoodT D) {k r : Nat} (hk : k < D.f1.length) (hok : RunOk D (r * D.f1.length)) (hne : ((runD D (r * D.f1.length)).f1.getD k []).length ≠ 0) :
    fl (runD D (r * D.f1.length)).f3 k - fl D.f3 k = (r : Int) * fl D.f0 k + fl D.f2 k - fl (runD D (r * D.f1.length)).f2 k ∧ (r : Int) * fl D.f0 k - 20 < fl (runD D (r * D.f1.length)).f3 k - fl D.f3 k ∧ fl (runD D (r * D.f1.length)).f3 k - fl D.f3 k < (r : Int) * fl D.f0 k + 20 := by
  have h := run_credit hg0 hk _ hok hne
  have hn := hg0.n
  have hl := hg0.l1
  rw [cnt_rounds (by omega) (by omega) hk] at h
  have c0 := hg0.c k
  have c1 := (hok _ (Nat.le_refl _)).c k
  omega
end Go.Proofs.Ytepnhbicmlfnhac
namespace Go.Proofs.Ytepnhbicmlfnhac

theorem fl_all {xs : List Int} {lo hi : Int} (h : ∀ i, i < xs.length → lo ≤ fl xs i ∧ fl xs i ≤ hi) : (xs.all fun x => decide (lo ≤ x ∧ x ≤ hi)) = true := by
  rw [List.all_eq_true]
  intro x hx
  obtain ⟨i, hi', rfl⟩ := List.getElem_of_mem hx
  have := h i hi'
  have e : fl xs i = xs[i] := by simp [fl, List.getD_eq_getElem?_getD, hi']
  rw [e] at this
  rw [decide_eq_true_eq]
  exact this
theorem goodTu_of {D : TuD} (h : GoodT D) : goodTu D = true := by
  have hn := h.n
  unfold goodTu
  simp only [Bool.and_eq_true]
  refine ⟨by unfold gt1; rw [decide_eq_true_eq]; omega, fl_all h.q, by unfold gt3; rw [decide_eq_true_eq]; exact h.l1, by unfold gt4; rw [decide_eq_true_eq]; exact h.l2, by unfold gt5; rw [decide_eq_true_eq]; exact h.l3, fl_all fun i _ => h.c i, fl_all fun i _ => h.s i, by unfold gt8; rw [decide_eq_true_eq]; exact h.at_, gt9_yes fun i hi => ?_⟩
  obtain ⟨a, b, c⟩ := h.k i hi
  unfold qokT
  simp only [Bool.and_eq_true, Bool.or_eq_true, decide_eq_true_eq]
  refine ⟨a, fl_all b, ?_⟩
  by_cases e : (D.f1.getD i []).length = 0
  · exact .inr (c e)
  · exact .inl (by omega)
theorem left_in {D : TuD} (hg : GoodT D) {k : Nat} (hk : k < D.f1.length) : (leftT D k).length ≤ 30 ∧ ∀ j, j < (leftT D k).length → 1 ≤ fl (leftT D k) j ∧ fl (leftT D k) j ≤ 20 := by
  have happ : sendT D k ++ leftT D k = D.f1.getD k [] := takeT_app _ _
  obtain ⟨a, b, _⟩ := hg.k k hk
  rw [← happ, List.length_append] at a b
  refine ⟨by omega, fun j hj => ?_⟩
  have h := b ((sendT D k).length + j) (by omega)
  have e : fl (sendT D k ++ leftT D k) ((sendT D k).length + j) = fl (leftT D k) j := by simp [fl, List.getD_eq_getElem?_getD, List.getElem?_append_right]
  rw [e] at h
  exact h
theorem rest_in {D : TuD} (hg : GoodT D) {k : Nat} (hk : k < D.f1.length) : 0 ≤ restT D k ∧ restT D k ≤ 19 := by
  by_cases e : (leftT D k).length = 0
  · rw [restT, if_pos e]; omega
  · have h1 := (next_credit hg hk e).2.1
    have h2 := (left_in hg hk).2 0 (by omega)
    have h3 : restT D k = (takeT (credT D k) (D.f1.getD k [])).2.2 := by rw [restT, if_neg e]
    have hc0 := hg.c k
    have hq0 := hg.q k (by rw [← hg.l1]; exact hk)
    have h4 : 0 ≤ credT D k := by unfold credT; split <;> omega
    have h5 := takeT_pos (D.f1.getD k []) (credT D k) h4
    omega
theorem send_in {D : TuD} (hg : GoodT D) (k : Nat) : 0 ≤ sumI (sendT D k) ∧ sumI (sendT D k) ≤ 600 := by
  have happ : sendT D k ++ leftT D k = D.f1.getD k [] := takeT_app _ _
  have h := row_in hg k (sendT D k).length
  have e : psum (fl (D.f1.getD k [])) (sendT D k).length = sumI (sendT D k) := by
    rw [← happ]
    refine psum_congr _ fun i hi => ?_
    simp [fl, List.getD_eq_getElem?_getD, List.getElem?_append_left hi]
  rw [e] at h
  exact h
theorem at_lt {D : TuD} (hg : GoodT D) : atN D < D.f1.length := by
  have := hg.at_
  have := hg.l1
  have := hg.n
  unfold atN
  omega
theorem step_good {D : TuD} (hg : GoodT D) (h : fl D.f3 (atN D) + sumI (sendT D (atN D)) ≤ 1000000) : GoodT (stepD D) := by
  have hk := at_lt hg
  have hn := hg.n
  have hl1 := hg.l1
  have hl2 := hg.l2
  have hl3 := hg.l3
  refine ⟨hg.n, hg.q, by show (D.f1.set _ _).length = _; rw [List.length_set]; exact hl1, by show (D.f2.set _ _).length = _; rw [List.length_set]; exact hl2, by show (D.f3.set _ _).length = _; rw [List.length_set]; exact hl3, fun i => ?_, fun i => ?_, ?_, fun i hi => ?_⟩
  · show 0 ≤ fl (D.f2.set (atN D) (restT D (atN D))) i ∧ fl (D.f2.set (atN D) (restT D (atN D))) i ≤ 19
    by_cases e : i = atN D
    · rw [e, fl_set_same (by omega)]; exact rest_in hg hk
    · rw [fl_set_other e]; exact hg.c i
  · show 0 ≤ fl (D.f3.set (atN D) (fl D.f3 (atN D) + sumI (sendT D (atN D)))) i ∧ fl (D.f3.set (atN D) (fl D.f3 (atN D) + sumI (sendT D (atN D)))) i ≤ 1000000
    by_cases e : i = atN D
    · rw [e, fl_set_same (by omega)]
      have h1 := send_in hg (atN D)
      have h2 := hg.s (atN D)
      omega
    · rw [fl_set_other e]; exact hg.s i
  · show 0 ≤ (((atN D + 1) % D.f1.length : Nat) : Int) ∧ (((atN D + 1) % D.f1.length : Nat) : Int) ≤ (D.f0.length : Int) - 1
    have := Nat.mod_lt (atN D + 1) (show 0 < D.f1.length by omega)
    omega
  · have hi' : i < D.f1.length := by
      have h : (stepD D).f1.length = D.f1.length := by show (D.f1.set _ _).length = _; rw [List.length_set]
      omega
    show ((D.f1.set (atN D) (leftT D (atN D))).getD i []).length ≤ 30 ∧ (∀ j, j < ((D.f1.set (atN D) (leftT D (atN D))).getD i []).length → _) ∧ (((D.f1.set (atN D) (leftT D (atN D))).getD i []).length = 0 → fl (D.f2.set (atN D) (restT D (atN D))) i = 0)
    by_cases e : i = atN D
    · have e1 : (D.f1.set (atN D) (leftT D (atN D))).getD i [] = leftT D (atN D) := by rw [e]; simp [List.getD_eq_getElem?_getD, hk]
      rw [e1]
      obtain ⟨a, b⟩ := left_in hg hk
      refine ⟨a, fun j hj => ?_, fun h0 => ?_⟩
      · show 1 ≤ fl ((D.f1.set (atN D) (leftT D (atN D))).getD i []) j ∧ fl ((D.f1.set (atN D) (leftT D (atN D))).getD i []) j ≤ 20
        rw [e1]
        exact b j hj
      · rw [e, fl_set_same (by omega), restT, if_pos h0]
    · have e1 : (D.f1.set (atN D) (leftT D (atN D))).getD i [] = D.f1.getD i [] := by simp [List.getD_eq_getElem?_getD, Ne.symm e]
      rw [e1, fl_set_other e]
      obtain ⟨a, b, c⟩ := hg.k i hi'
      refine ⟨a, fun j hj => ?_, c⟩
      show 1 ≤ fl ((D.f1.set (atN D) (leftT D (atN D))).getD i []) j ∧ fl ((D.f1.set (atN D) (leftT D (atN D))).getD i []) j ≤ 20
      rw [e1]
      exact b j hj
theorem step_goodB {D : TuD} (hg : GoodT D) : goodTu (stepD D) = decide (fl D.f3 (atN D) + sumI (sendT D (atN D)) ≤ 1000000) := by
  by_cases h : fl D.f3 (atN D) + sumI (sendT D (atN D)) ≤ 1000000
  · rw [decide_eq_true h]; exact goodTu_of (step_good hg h)
  · rw [decide_eq_false h]
    cases e : goodTu (stepD D) with
    | false => rfl
    | true =>
      have h1 := (goodT_of e).s (atN D)
      have hk := at_lt hg
      have hl1 := hg.l1
      have hl3 := hg.l3
      have h2 : fl (stepD D).f3 (atN D) = fl D.f3 (atN D) + sumI (sendT D (atN D)) := fl_set_same (by omega) _
      rw [h2] at h1
      omega
end Go.Proofs.Ytepnhbicmlfnhac
