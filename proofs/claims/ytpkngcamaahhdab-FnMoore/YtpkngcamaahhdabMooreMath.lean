/-
  As many in time as can be (Moore; Hodgson), and the least lateness (Jackson): plain arithmetic, no program.
-/
import Derived.Test.YtpkngcamaahhdabKTaskRows
namespace Go.Proofs.Ytpkngcamaahhdab

def sumL (p : Nat → Int) : List Nat → Int
  | [] => 0
  | x :: l => p x + sumL p l
theorem sumL_app (p : Nat → Int) (a b : List Nat) : sumL p (a ++ b) = sumL p a + sumL p b := by
  induction a with
  | nil => simp [sumL]
  | cons x a ih => simp only [List.cons_append, sumL, ih]; omega
theorem sumL_perm {p : Nat → Int} {a b : List Nat} (h : a.Perm b) : sumL p a = sumL p b := by
  induction h with
  | nil => rfl
  | cons x _ ih => simp only [sumL, ih]
  | swap x y l => simp only [sumL]; omega
  | trans _ _ h1 h2 => exact h1.trans h2
theorem sumL_sub {p : Nat → Int} (hp : ∀ k, 0 ≤ p k) {a b : List Nat} (h : a.Sublist b) : sumL p a ≤ sumL p b := by
  induction h with
  | slnil => exact Int.le_refl _
  | cons x _ ih => have := hp x; simp only [sumL]; omega
  | cons_cons x _ ih => simp only [sumL]; omega
/-- In time, one behind the other; the last one stands first. -/
def feasR (p e : Nat → Int) : List Nat → Prop
  | [] => True
  | x :: l => p x + sumL p l ≤ e x ∧ feasR p e l
theorem feasR_sub {p e : Nat → Int} (hp : ∀ k, 0 ≤ p k) {a b : List Nat} (h : a.Sublist b) : feasR p e b → feasR p e a := by
  induction h with
  | slnil => exact id
  | cons x _ ih => exact fun hb => ih hb.2
  | cons_cons x hs ih =>
    intro hb
    have := sumL_sub hp hs
    exact ⟨Int.le_trans (by omega) hb.1, ih hb.2⟩
theorem feasR_sum {p e : Nat → Int} {a : List Nat} {m : Int} (h : feasR p e a) (hne : a ≠ []) (hm : ∀ y, y ∈ a → e y ≤ m) : sumL p a ≤ m := by
  cases a with
  | nil => exact absurd rfl hne
  | cons x a => have := hm x (List.mem_cons_self ..); have := h.1; simp only [sumL]; omega
/-- One that is left out can be put in. -/
theorem one_more (p : Nat → Int) {a b : List Nat} (h : a.Sublist b) (hl : a.length < b.length) : ∃ c x, c.Sublist b ∧ x ∈ b ∧ c.length = a.length + 1 ∧ sumL p c = sumL p a + p x := by
  induction h with
  | slnil => exact absurd hl (Nat.lt_irrefl _)
  | @cons a b x hs ih => exact ⟨x :: a, x, hs.cons_cons x, List.mem_cons_self .., rfl, by simp only [sumL]; omega⟩
  | @cons_cons a b x hs ih =>
    obtain ⟨c, y, hc, hy, hn, hsum⟩ := ih (by simp only [List.length_cons] at hl; omega)
    exact ⟨x :: c, y, hc.cons_cons x, List.mem_cons_of_mem _ hy, by simp only [List.length_cons, hn], by simp only [sumL, hsum]; omega⟩
theorem swap_out {p : Nat → Int} {u1 u2 b : List Nat} {j : Nat} (hb : b.Sublist (u1 ++ j :: u2)) (hl : b.length < (u1 ++ j :: u2).length) (hj : ∀ u, u ∈ u1 ++ j :: u2 → p u ≤ p j) :
    ∃ c, c.Sublist (u1 ++ u2) ∧ c.length = b.length ∧ sumL p c ≤ sumL p b := by
  obtain ⟨b1, b2, rfl, h1, h2⟩ := List.sublist_append_iff.1 hb
  cases h2 with
  | cons _ h2 => exact ⟨b1 ++ b2, h1.append h2, rfl, Int.le_refl _⟩
  | @cons_cons b3 _ _ h3 =>
    obtain ⟨c, x, hc, hx, hn, hsum⟩ := one_more p (h1.append h3) (by simp only [List.length_append, List.length_cons] at hl ⊢; omega)
    refine ⟨c, hc, ?_, ?_⟩
    · rw [hn]; simp only [List.length_append, List.length_cons]; omega
    · have := hj x (by simp only [List.mem_append, List.mem_cons] at hx ⊢; rcases hx with h | h <;> simp [h])
      rw [sumL_app] at hsum ⊢
      simp only [sumL]
      omega
/-- What one more task does to those that are in time, the last one first. -/
def StepR (p e : Nat → Int) (x : Nat) (S S' : List Nat) : Prop :=
  (p x + sumL p S ≤ e x ∧ S' = x :: S) ∨ (e x < p x + sumL p S ∧ ∃ u1 j u2, x :: S = u1 ++ j :: u2 ∧ S' = u1 ++ u2 ∧ ∀ u, u ∈ x :: S → p u ≤ p j)
/-- Those that are in time: they are so, and no others do better. -/
structure BestR (p e : Nat → Int) (E S : List Nat) : Prop where
  feas : feasR p e S
  sub : S.Sublist E
  best : ∀ A, A.Sublist E → feasR p e A → ∃ B, B.Sublist S ∧ B.length = A.length ∧ sumL p B ≤ sumL p A
theorem bestR_nil (p e : Nat → Int) : BestR p e [] [] := ⟨trivial, List.Sublist.refl _, fun A h _ => ⟨A, h, rfl, Int.le_refl _⟩⟩
theorem bestR_step {p e : Nat → Int} (hp : ∀ k, 0 ≤ p k) {E S S' : List Nat} {x : Nat} (h : BestR p e E S) (hx : ∀ y, y ∈ E → e y ≤ e x) (hs : StepR p e x S S') : BestR p e (x :: E) S' := by
  have hU : ∀ A, A.Sublist (x :: E) → feasR p e A → ∃ B, B.Sublist (x :: S) ∧ B.length = A.length ∧ sumL p B ≤ sumL p A := by
    intro A hA hf
    cases hA with
    | cons _ hA =>
      obtain ⟨B, h1, h2, h3⟩ := h.best A hA hf
      exact ⟨B, h1.cons _, h2, h3⟩
    | @cons_cons A' _ _ hA =>
      obtain ⟨B, h1, h2, h3⟩ := h.best A' hA hf.2
      exact ⟨x :: B, h1.cons_cons x, by simp only [List.length_cons, h2], by simp only [sumL]; omega⟩
  have hxS : ∀ y, y ∈ S → e y ≤ e x := fun y hy => hx y (h.sub.subset hy)
  rcases hs with ⟨hle, rfl⟩ | ⟨hgt, u1, j, u2, hu, rfl, hj⟩
  · exact ⟨⟨hle, h.feas⟩, h.sub.cons_cons x, hU⟩
  · have hsub : (u1 ++ u2).Sublist (x :: S) := by
      rw [hu]
      exact (List.Sublist.refl u1).append (List.sublist_cons_self ..)
    refine ⟨?_, hsub.trans (h.sub.cons_cons x), ?_⟩
    · cases u1 with
      | nil =>
        injection hu with hu1 hu2
        subst hu1
        subst hu2
        exact h.feas
      | cons y v =>
        injection hu with hu1 hu2
        subst hu1
        refine ⟨?_, feasR_sub hp ?_ h.feas⟩
        · have h1 : sumL p S ≤ e x := feasR_sum h.feas (by rw [hu2]; simp) hxS
          have h2 := hj x (List.mem_cons_self ..)
          rw [hu2, List.append_eq, sumL_app] at h1
          rw [List.append_eq, sumL_app]
          simp only [sumL] at h1
          omega
        · rw [hu2]
          exact (List.Sublist.refl v).append (List.sublist_cons_self ..)
    · intro A hA hf
      obtain ⟨B, h1, h2, h3⟩ := hU A hA hf
      have hl := h1.length_le
      by_cases hlt : B.length < (x :: S).length
      · rw [hu] at h1 hlt hj
        obtain ⟨c, c1, c2, c3⟩ := swap_out h1 hlt hj
        exact ⟨c, c1, by omega, by omega⟩
      · exfalso
        have hB : B = x :: S := h1.eq_of_length (by omega)
        have hA0 : A ≠ [] := by
          rintro rfl
          rw [hB] at h2
          simp at h2
        have := feasR_sum hf hA0 (m := e x) fun y hy => by
          rcases List.mem_cons.1 (hA.subset hy) with rfl | h
          · exact Int.le_refl _
          · exact hx y h
        rw [hB] at h3
        simp only [sumL] at h3
        omega

/-- When task k is done, of those done in this order from t on. -/
def doneAt (p : Nat → Int) : Int → List Nat → Nat → Int
  | _, [], _ => 0
  | t, x :: o, k => if x = k then t + p x else doneAt p (t + p x) o k
theorem doneAt_app {p : Nat → Int} {a b : List Nat} {k : Nat} (t : Int) (h : k ∉ a) : doneAt p t (a ++ k :: b) k = t + sumL p a + p k := by
  induction a generalizing t with
  | nil => simp [doneAt, sumL]
  | cons x a ih =>
    have hx : x ≠ k := fun e => h (by rw [e]; exact List.mem_cons_self ..)
    simp only [List.cons_append, doneAt, if_neg hx, sumL]
    rw [ih _ fun h' => h (List.mem_cons_of_mem _ h')]
    omega
theorem doneAt_snoc {p : Nat → Int} {a : List Nat} {x k : Nat} (t : Int) (h : x ∉ a) : doneAt p t (a ++ [x]) k = if x = k then t + sumL p a + p x else doneAt p t a k := by
  induction a generalizing t with
  | nil => simp [doneAt, sumL]
  | cons y a ih =>
    have h' : x ∉ a := fun h' => h (List.mem_cons_of_mem _ h')
    have hy : x ≠ y := fun e => h (by rw [e]; exact List.mem_cons_self ..)
    simp only [List.cons_append, doneAt]
    by_cases hyk : y = k
    · subst hyk
      rw [if_pos rfl, if_neg hy, if_pos rfl]
    · rw [if_neg hyk, if_neg hyk, ih _ h']
      by_cases hxk : x = k
      · rw [if_pos hxk, if_pos hxk]; simp only [sumL]; omega
      · rw [if_neg hxk, if_neg hxk]
/-- Of some tasks one is done no sooner than all of them take. -/
theorem last_done {p : Nat → Int} (hp : ∀ k, 0 ≤ p k) {o : List Nat} (ho : o.Nodup) : ∀ (t : Int) (K : List Nat), K ≠ [] → K.Nodup → (∀ k, k ∈ K → k ∈ o) → ∃ j, j ∈ K ∧ t + sumL p K ≤ doneAt p t o j := by
  induction o with
  | nil =>
    intro t K hne _ hk
    cases K with
    | nil => exact absurd rfl hne
    | cons k K => exact absurd (hk k (List.mem_cons_self ..)) (by simp)
  | cons x o ih =>
    intro t K hne hnd hk
    have hxo : x ∉ o := (List.nodup_cons.1 ho).1
    have ho' := (List.nodup_cons.1 ho).2
    have hpx := hp x
    by_cases hx : x ∈ K
    · have hperm : K.Perm (x :: K.erase x) := List.perm_cons_erase hx
      have hsum : sumL p K = p x + sumL p (K.erase x) := by rw [sumL_perm hperm]; rfl
      by_cases he : K.erase x = []
      · refine ⟨x, hx, ?_⟩
        rw [hsum, he]
        simp [doneAt, sumL]
      · have hnd' : (K.erase x).Nodup := hnd.erase x
        obtain ⟨j, hj, hle⟩ := ih ho' (t + p x) (K.erase x) he hnd' fun k hk' => by
          have h1 : k ∈ K := List.mem_of_mem_erase hk'
          rcases List.mem_cons.1 (hk k h1) with rfl | h
          · exact absurd hk' (by rw [hnd.mem_erase_iff]; simp)
          · exact h
        have hjx : x ≠ j := by
          rintro rfl
          rw [hnd.mem_erase_iff] at hj
          exact hj.1 rfl
        refine ⟨j, List.mem_of_mem_erase hj, ?_⟩
        simp only [doneAt, if_neg hjx]
        omega
    · obtain ⟨j, hj, hle⟩ := ih ho' (t + p x) K hne hnd fun k hk' => by
        rcases List.mem_cons.1 (hk k hk') with rfl | h
        · exact absurd hk' hx
        · exact h
      have hjx : x ≠ j := by rintro rfl; exact hx hj
      refine ⟨j, hj, ?_⟩
      simp only [doneAt, if_neg hjx]
      omega
/-- Jackson: by ends none is done later behind its end than one of these in another order. -/
theorem jackson {p e : Nat → Int} (hp : ∀ k, 0 ≤ p k) {es o : List Nat} (hes : es.Nodup) (hs : es.Pairwise fun a b => e a ≤ e b) (ho : o.Nodup) (hsub : ∀ k, k ∈ es → k ∈ o) {k : Nat} (hk : k ∈ es) :
    ∃ j, j ∈ es ∧ doneAt p 0 es k - e k ≤ doneAt p 0 o j - e j := by
  obtain ⟨A, B, rfl⟩ := List.append_of_mem hk
  have hd : k ∉ A := fun h => (List.nodup_append.1 hes).2.2 k h k (List.mem_cons_self ..) rfl
  have hAk : (A ++ [k]).Nodup := hes.sublist ((List.Sublist.refl A).append (by simp))
  obtain ⟨j, hj, hle⟩ := last_done hp ho 0 (A ++ [k]) (by simp) hAk fun x hx => hsub x (by
    simp only [List.mem_append, List.mem_cons] at hx ⊢
    rcases hx with h | h | h
    · simp [h]
    · simp [h]
    · cases h)
  rw [sumL_app] at hle
  simp only [sumL] at hle
  have hejk : e j ≤ e k := by
    rcases List.mem_append.1 hj with h | h
    · exact (List.pairwise_append.1 hs).2.2 j h k (List.mem_cons_self ..)
    · rcases List.mem_cons.1 h with rfl | h
      · exact Int.le_refl _
      · cases h
  refine ⟨j, ?_, ?_⟩
  · simp only [List.mem_append, List.mem_cons] at hj ⊢
    rcases hj with h | h | h
    · simp [h]
    · simp [h]
    · cases h
  · rw [doneAt_app _ hd]
    omega
/-- What some order has in time is so by ends too. -/
theorem onTime_feas {p e : Nat → Int} (hp : ∀ k, 0 ≤ p k) {o : List Nat} (ho : o.Nodup) : ∀ (R : List Nat), R.Nodup → R.Pairwise (fun a b => e b ≤ e a) → (∀ k, k ∈ R → k ∈ o ∧ doneAt p 0 o k ≤ e k) → feasR p e R
  | [], _, _, _ => trivial
  | x :: R, hnd, hs, hk => by
    refine ⟨?_, onTime_feas hp ho R (List.nodup_cons.1 hnd).2 (List.pairwise_cons.1 hs).2 fun k h => hk k (List.mem_cons_of_mem _ h)⟩
    obtain ⟨j, hj, hle⟩ := last_done hp ho 0 (x :: R) (by simp) hnd fun k h => (hk k h).1
    have h1 := (hk j hj).2
    have h2 : e j ≤ e x := by
      rcases List.mem_cons.1 hj with rfl | h
      · exact Int.le_refl _
      · exact (List.pairwise_cons.1 hs).1 j h
    simp only [sumL] at hle
    omega
/-- Those in time, the last one first, are each done in time where they are done first. -/
theorem feas_onTime {p e : Nat → Int} (hp : ∀ k, 0 ≤ p k) : ∀ (R : List Nat), R.Nodup → feasR p e R → ∀ (B : List Nat) k, k ∈ R → doneAt p 0 (R.reverse ++ B) k ≤ e k
  | [], _, _, _, k, hk => absurd hk (by simp)
  | x :: R, hnd, hf, B, k, hk => by
    rw [List.reverse_cons, List.append_assoc]
    rcases List.mem_cons.1 hk with rfl | h
    · have hx : k ∉ R.reverse := by rw [List.mem_reverse]; exact (List.nodup_cons.1 hnd).1
      show doneAt p 0 (R.reverse ++ k :: B) k ≤ e k
      rw [doneAt_app _ hx]
      have := hf.1
      have h2 : sumL p R.reverse = sumL p R := sumL_perm (List.reverse_perm R)
      omega
    · exact feas_onTime hp R (List.nodup_cons.1 hnd).2 hf.2 ([x] ++ B) k h

/-- The place of the first greatest one among the first n of u. -/
def worstU (p : Nat → Int) (u : List Nat) : Nat → Nat
  | 0 => 0
  | n + 1 => if p (u.getD (worstU p u n) 0) < p (u.getD n 0) then n else worstU p u n
theorem worstU_lt (p : Nat → Int) (u : List Nat) : ∀ n, worstU p u n < n + 1
  | 0 => by simp [worstU]
  | n + 1 => by
    unfold worstU
    split
    · omega
    · have := worstU_lt p u n; omega
theorem worstU_in (p : Nat → Int) (u : List Nat) : ∀ n, 0 < n → worstU p u n < n
  | 0, h => absurd h (by omega)
  | 1, _ => by
    unfold worstU
    split
    · omega
    · simp [worstU]
  | n + 2, _ => by
    rw [worstU]
    split
    · omega
    · have := worstU_in p u (n + 1) (by omega); omega
theorem worstU_max (p : Nat → Int) (u : List Nat) : ∀ n i, i < n → p (u.getD i 0) ≤ p (u.getD (worstU p u n) 0)
  | 0, i, h => absurd h (by omega)
  | n + 1, i, h => by
    rw [worstU]
    split
    · rename_i hlt
      by_cases e : i = n
      · subst e; exact Int.le_refl _
      · have := worstU_max p u n i (by omega); omega
    · rename_i hlt
      by_cases e : i = n
      · subst e; omega
      · exact worstU_max p u n i (by omega)
def worst (p : Nat → Int) (u : List Nat) : Nat := worstU p u u.length
/-- One task more, put behind those in time so far. -/
def mooreStep (p e : Nat → Int) (s : List Nat × List Nat) (k : Nat) : List Nat × List Nat :=
  if sumL p s.1 + p k ≤ e k then (s.1 ++ [k], s.2) else ((s.1 ++ [k]).eraseIdx (worst p (s.1 ++ [k])), s.2 ++ [(s.1 ++ [k]).getD (worst p (s.1 ++ [k])) 0])
def moore (p e : Nat → Int) (es : List Nat) : List Nat × List Nat := es.foldl (mooreStep p e) ([], [])
theorem moore_snoc (p e : Nat → Int) (es : List Nat) (k : Nat) : moore p e (es ++ [k]) = mooreStep p e (moore p e es) k := by simp [moore, List.foldl_append]
theorem cut_at {u : List Nat} {i : Nat} (h : i < u.length) : u = u.take i ++ u.getD i 0 :: u.drop (i + 1) := by
  have e : u.getD i 0 = u[i] := by simp [h]
  rw [e, List.getElem_cons_drop h, List.take_append_drop]
theorem mooreStep_R (p e : Nat → Int) (s : List Nat × List Nat) (k : Nat) : StepR p e k s.1.reverse (mooreStep p e s k).1.reverse := by
  have hsum : sumL p s.1.reverse = sumL p s.1 := sumL_perm (List.reverse_perm _)
  unfold mooreStep
  by_cases h : sumL p s.1 + p k ≤ e k
  · rw [if_pos h]
    exact .inl ⟨by omega, by simp⟩
  · rw [if_neg h]
    have hne : 0 < (s.1 ++ [k]).length := by simp
    have hw := worstU_in p (s.1 ++ [k]) _ hne
    have hc := cut_at hw
    have hrev : k :: s.1.reverse = (s.1 ++ [k]).reverse := by simp
    refine .inr ⟨by omega, ((s.1 ++ [k]).drop (worst p (s.1 ++ [k]) + 1)).reverse, (s.1 ++ [k]).getD (worst p (s.1 ++ [k])) 0, ((s.1 ++ [k]).take (worst p (s.1 ++ [k]))).reverse, ?_, ?_, ?_⟩
    · rw [hrev]
      conv => lhs; rw [hc]
      rw [List.reverse_append, List.reverse_cons, List.append_assoc]
      rfl
    · rw [List.eraseIdx_eq_take_drop_succ, List.reverse_append]
    · intro u hu
      rw [hrev, List.mem_reverse] at hu
      obtain ⟨i, hi, rfl⟩ := List.mem_iff_getElem.1 hu
      have := worstU_max p (s.1 ++ [k]) _ i hi
      rw [show (s.1 ++ [k]).getD i 0 = (s.1 ++ [k])[i] by simp [List.getD_eq_getElem?_getD, List.getElem?_eq_getElem hi]] at this
      exact this
theorem mooreStep_perm (p e : Nat → Int) (s : List Nat × List Nat) (k : Nat) : ((mooreStep p e s k).1 ++ (mooreStep p e s k).2).Perm ((s.1 ++ s.2) ++ [k]) := by
  unfold mooreStep
  by_cases h : sumL p s.1 + p k ≤ e k
  · rw [if_pos h]
    show ((s.1 ++ [k]) ++ s.2).Perm _
    rw [List.append_assoc, List.append_assoc]
    exact (List.perm_append_comm).append_left _
  · rw [if_neg h]
    have hne : 0 < (s.1 ++ [k]).length := by simp
    have hw := worstU_in p (s.1 ++ [k]) _ hne
    have hc := cut_at hw
    show (((s.1 ++ [k]).eraseIdx (worst p (s.1 ++ [k]))) ++ (s.2 ++ [(s.1 ++ [k]).getD (worst p (s.1 ++ [k])) 0])).Perm _
    generalize hu : s.1 ++ [k] = u at *
    have h1 : (u.eraseIdx (worst p u) ++ [u.getD (worst p u) 0]).Perm u := by
      rw [List.eraseIdx_eq_take_drop_succ]
      refine List.Perm.trans ?_ (List.Perm.of_eq hc.symm)
      rw [List.append_assoc]
      exact (List.perm_append_comm).append_left _
    have h2 : (u.eraseIdx (worst p u) ++ (s.2 ++ [u.getD (worst p u) 0])).Perm ((u.eraseIdx (worst p u) ++ [u.getD (worst p u) 0]) ++ s.2) := by
      rw [List.append_assoc]
      exact (List.perm_append_comm).append_left _
    refine h2.trans ((h1.append_right s.2).trans ?_)
    rw [← hu, List.append_assoc, List.append_assoc]
    exact (List.perm_append_comm).append_left _
theorem moore_perm (p e : Nat → Int) : ∀ (es : List Nat), ((moore p e es.reverse).1 ++ (moore p e es.reverse).2).Perm es
  | [] => List.Perm.refl _
  | k :: es => by
    rw [List.reverse_cons, moore_snoc]
    refine (mooreStep_perm p e _ k).trans ?_
    refine ((moore_perm p e es).append_right [k]).trans ?_
    exact List.perm_append_comm
theorem moore_best {p e : Nat → Int} (hp : ∀ k, 0 ≤ p k) : ∀ (E : List Nat), E.Pairwise (fun a b => e b ≤ e a) → BestR p e E (moore p e E.reverse).1.reverse
  | [], _ => bestR_nil p e
  | x :: E, h => by
    rw [List.reverse_cons, moore_snoc]
    exact bestR_step hp (moore_best hp E (List.pairwise_cons.1 h).2) (List.pairwise_cons.1 h).1 (mooreStep_R p e _ x)
/-- All of it, of tasks by ends. -/
structure MooreOf (p e : Nat → Int) (es : List Nat) : Prop where
  perm : ((moore p e es).1 ++ (moore p e es).2).Perm es
  feas : feasR p e (moore p e es).1.reverse
  sub : (moore p e es).1.Sublist es
  best : ∀ A : List Nat, A.Sublist es → feasR p e A.reverse → A.length ≤ (moore p e es).1.length
theorem moore_of {p e : Nat → Int} (hp : ∀ k, 0 ≤ p k) {es : List Nat} (h : es.Pairwise fun a b => e a ≤ e b) : MooreOf p e es := by
  have hr : es.reverse.Pairwise fun a b => e b ≤ e a := List.pairwise_reverse.2 h
  have hb := moore_best hp es.reverse hr
  have hm := moore_perm p e es.reverse
  rw [List.reverse_reverse] at hb hm
  refine ⟨hm.trans (List.reverse_perm es), hb.feas, ?_, ?_⟩
  · have := hb.sub.reverse
    rwa [List.reverse_reverse, List.reverse_reverse] at this
  · intro A hA hf
    obtain ⟨B, h1, h2, _⟩ := hb.best A.reverse hA.reverse hf
    have := h1.length_le
    rw [List.length_reverse] at h2 this
    omega
/-- How many are done behind their end. -/
def lateT (p e : Nat → Int) (n : Nat) (o : List Nat) : Nat := ((List.range n).filter fun k => decide (e k < doneAt p 0 o k)).length
theorem filter_both (P : Nat → Bool) (l : List Nat) : (l.filter P).length + (l.filter fun k => !P k).length = l.length := by
  induction l with
  | nil => rfl
  | cons x l ih => by_cases h : P x = true <;> simp [h] <;> omega
/-- No order has more in time. -/
theorem late_ge {p e : Nat → Int} (hp : ∀ k, 0 ≤ p k) {n : Nat} {es o : List Nat} (hes : es.Perm (List.range n)) (hs : es.Pairwise fun a b => e a ≤ e b) (ho : o.Perm (List.range n)) : n ≤ lateT p e n o + (moore p e es).1.length := by
  have hnd : es.Nodup := hes.nodup_iff.2 List.nodup_range
  have hno : o.Nodup := ho.nodup_iff.2 List.nodup_range
  have hf : feasR p e (es.filter fun k => !decide (e k < doneAt p 0 o k)).reverse := by
    refine onTime_feas hp hno _ ?_ ?_ ?_
    · exact (List.reverse_perm _).nodup_iff.2 (hnd.sublist List.filter_sublist)
    · exact List.pairwise_reverse.2 (hs.sublist List.filter_sublist)
    · intro k hk
      rw [List.mem_reverse, List.mem_filter] at hk
      refine ⟨ho.mem_iff.2 (hes.mem_iff.1 hk.1), ?_⟩
      have := hk.2
      simp only [Bool.not_eq_true', decide_eq_false_iff_not] at this
      omega
  have hb := (moore_of hp hs).best _ List.filter_sublist hf
  have h1 := filter_both (fun k => decide (e k < doneAt p 0 o k)) (List.range n)
  have h2 : (es.filter fun k => !decide (e k < doneAt p 0 o k)).length = ((List.range n).filter fun k => !decide (e k < doneAt p 0 o k)).length := (hes.filter _).length_eq
  rw [List.length_range] at h1
  unfold lateT
  omega
/-- Moore's order has just so many in time. -/
theorem late_moore {p e : Nat → Int} (hp : ∀ k, 0 ≤ p k) {n : Nat} {es : List Nat} (hes : es.Perm (List.range n)) (hs : es.Pairwise fun a b => e a ≤ e b) : lateT p e n ((moore p e es).1 ++ (moore p e es).2) + (moore p e es).1.length = n := by
  have hm := moore_of hp hs
  have hnd : es.Nodup := hes.nodup_iff.2 List.nodup_range
  have ho := hm.perm.trans hes
  have hge := late_ge hp hes hs ho
  have hin : (moore p e es).1.Nodup := hnd.sublist hm.sub
  have hle : (moore p e es).1.length ≤ ((List.range n).filter fun k => !decide (e k < doneAt p 0 ((moore p e es).1 ++ (moore p e es).2) k)).length := by
    refine List.Nodup.length_le_of_subset hin ?_
    intro k hk
    rw [List.mem_filter]
    refine ⟨hes.mem_iff.1 (hm.sub.subset hk), ?_⟩
    have := feas_onTime hp (moore p e es).1.reverse ((List.reverse_perm _).nodup_iff.2 hin) hm.feas (moore p e es).2 k (List.mem_reverse.2 hk)
    rw [List.reverse_reverse] at this
    simp only [Bool.not_eq_true', decide_eq_false_iff_not]
    omega
  have h1 := filter_both (fun k => decide (e k < doneAt p 0 ((moore p e es).1 ++ (moore p e es).2) k)) (List.range n)
  rw [List.length_range] at h1
  unfold lateT at hge ⊢
  omega

/-- Nearer by its end, or of alike ones the first. -/
def before (e : Nat → Int) (a b : Nat) : Prop := e a < e b ∨ (e a = e b ∧ a < b)
theorem before_trans {e : Nat → Int} {a b c : Nat} (h1 : before e a b) (h2 : before e b c) : before e a c := by
  unfold before at *
  omega
/-- How many of a list stand ahead of the first one whose end is behind m. -/
def placeE (e : Nat → Int) (m : Int) : List Nat → Nat
  | [] => 0
  | x :: l => if e x ≤ m then placeE e m l + 1 else 0
theorem placeE_le (e : Nat → Int) (m : Int) : ∀ l, placeE e m l ≤ l.length
  | [] => Nat.le_refl _
  | x :: l => by
    have := placeE_le e m l
    unfold placeE
    split
    · simp only [List.length_cons]; omega
    · omega
theorem placeE_ahead (e : Nat → Int) (m : Int) : ∀ (l : List Nat) i, i < placeE e m l → e (l.getD i 0) ≤ m
  | [], i, h => absurd h (by simp [placeE])
  | x :: l, i, h => by
    unfold placeE at h
    split at h
    · cases i with
      | zero => assumption
      | succ i => exact placeE_ahead e m l i (by omega)
    · omega
theorem placeE_at (e : Nat → Int) (m : Int) : ∀ (l : List Nat), placeE e m l < l.length → m < e (l.getD (placeE e m l) 0)
  | [], h => absurd h (by simp [placeE])
  | x :: l, h => by
    unfold placeE at h ⊢
    split at h
    · rename_i hx
      rw [if_pos hx]
      exact placeE_at e m l (by simp only [List.length_cons] at h; omega)
    · rename_i hx
      rw [if_neg hx]
      show m < e x
      omega
/-- It is told by what stands ahead and what stands there. -/
theorem placeE_eq {e : Nat → Int} {m : Int} : ∀ {l : List Nat} {k : Nat}, k ≤ l.length → (∀ i, i < k → e (l.getD i 0) ≤ m) → (k < l.length → m < e (l.getD k 0)) → placeE e m l = k
  | [], k, h, _, _ => by simp only [List.length_nil] at h; simp [placeE]; omega
  | x :: l, k, h, h1, h2 => by
    unfold placeE
    cases k with
    | zero =>
      have := h2 (by simp)
      have h3 : m < e x := this
      rw [if_neg (by omega)]
    | succ k =>
      have h3 : e x ≤ m := h1 0 (by omega)
      rw [if_pos h3, placeE_eq (by simp only [List.length_cons] at h; omega) (fun i hi => h1 (i + 1) (by omega)) (fun hk => h2 (by simp only [List.length_cons]; omega))]
def insE (e : Nat → Int) (l : List Nat) (k : Nat) : List Nat := l.take (placeE e (e k) l) ++ k :: l.drop (placeE e (e k) l)
/-- The first n tasks by their ends, of alike ones the first first. -/
def byEnd (e : Nat → Int) : Nat → List Nat
  | 0 => []
  | n + 1 => insE e (byEnd e n) n
theorem insE_perm (e : Nat → Int) (l : List Nat) (k : Nat) : (insE e l k).Perm (l ++ [k]) := by
  unfold insE
  refine (List.perm_middle).trans ?_
  rw [List.take_append_drop]
  exact (List.perm_append_comm (l₁ := [k]) (l₂ := l))
theorem byEnd_perm (e : Nat → Int) : ∀ n, (byEnd e n).Perm (List.range n)
  | 0 => List.Perm.refl _
  | n + 1 => by
    rw [List.range_succ]
    exact (insE_perm e _ n).trans ((byEnd_perm e n).append_right [n])
theorem byEnd_len (e : Nat → Int) (n : Nat) : (byEnd e n).length = n := by rw [(byEnd_perm e n).length_eq, List.length_range]
theorem byEnd_lt (e : Nat → Int) (n : Nat) {k : Nat} (h : k ∈ byEnd e n) : k < n := List.mem_range.1 ((byEnd_perm e n).mem_iff.1 h)
theorem insE_sorted {e : Nat → Int} {l : List Nat} {k : Nat} (hl : l.Pairwise (before e)) (hk : ∀ x, x ∈ l → x < k) : (insE e l k).Pairwise (before e) := by
  unfold insE
  have htd : l.take (placeE e (e k) l) ++ l.drop (placeE e (e k) l) = l := List.take_append_drop ..
  have hsp : (l.take (placeE e (e k) l) ++ l.drop (placeE e (e k) l)).Pairwise (before e) := by rw [htd]; exact hl
  obtain ⟨h1, h2, h3⟩ := List.pairwise_append.1 hsp
  have hA : ∀ x, x ∈ l.take (placeE e (e k) l) → before e x k := by
    intro x hx
    obtain ⟨i, hi, rfl⟩ := List.mem_iff_getElem.1 hx
    rw [List.length_take] at hi
    have hle := placeE_ahead e (e k) l i (by omega)
    rw [List.getElem_take]
    have e1 : l.getD i 0 = l[i] := by simp [List.getD_eq_getElem?_getD, List.getElem?_eq_getElem (show i < l.length by omega)]
    rw [e1] at hle
    have := hk (l[i]) (List.getElem_mem _)
    unfold before
    omega
  have hB : ∀ x, x ∈ l.drop (placeE e (e k) l) → before e k x := by
    intro x hx
    by_cases hlt : placeE e (e k) l < l.length
    · have hat := placeE_at e (e k) l hlt
      have e1 : l.getD (placeE e (e k) l) 0 = l[placeE e (e k) l] := by simp [List.getD_eq_getElem?_getD, List.getElem?_eq_getElem hlt]
      rw [e1] at hat
      rw [← List.getElem_cons_drop hlt] at hx h2
      rcases List.mem_cons.1 hx with rfl | hx
      · exact .inl hat
      · have := (List.pairwise_cons.1 h2).1 x hx
        unfold before at this ⊢
        omega
    · rw [List.drop_eq_nil_of_le (by omega)] at hx
      cases hx
  refine List.pairwise_append.2 ⟨h1, List.pairwise_cons.2 ⟨hB, h2⟩, ?_⟩
  intro a ha b hb
  rcases List.mem_cons.1 hb with rfl | hb
  · exact hA a ha
  · exact h3 a ha b hb
theorem byEnd_sorted (e : Nat → Int) : ∀ n, (byEnd e n).Pairwise (before e)
  | 0 => List.Pairwise.nil
  | n + 1 => insE_sorted (byEnd_sorted e n) fun _ h => byEnd_lt e n h
theorem byEnd_ends (e : Nat → Int) (n : Nat) : (byEnd e n).Pairwise fun a b => e a ≤ e b := (byEnd_sorted e n).imp fun h => by unfold before at h; omega
/-- It is the only one. -/
theorem byEnd_only {e : Nat → Int} {n : Nat} {l : List Nat} (hp : l.Perm (List.range n)) (hs : l.Pairwise (before e)) : l = byEnd e n :=
  List.Perm.eq_of_pairwise (fun a b _ _ h1 h2 => by unfold before at h1 h2; omega) hs (byEnd_sorted e n) (hp.trans (byEnd_perm e n).symm)

/-- What the mask m has of tasks, the last one first: how many, how long, whether all in time. -/
def runR (p e : Nat → Int) (m : Nat) : List Nat → Nat × Int × Bool
  | [] => (0, 0, true)
  | x :: E => if m.testBit x = true then ((runR p e m E).1 + 1, (runR p e m E).2.1 + p x, (runR p e m E).2.2 && decide ((runR p e m E).2.1 + p x ≤ e x)) else runR p e m E
theorem runR_eq (p e : Nat → Int) (m : Nat) : ∀ E : List Nat, (runR p e m E).1 = (E.filter m.testBit).length ∧ (runR p e m E).2.1 = sumL p (E.filter m.testBit) ∧ ((runR p e m E).2.2 = true ↔ feasR p e (E.filter m.testBit))
  | [] => ⟨rfl, rfl, ⟨fun _ => trivial, fun _ => rfl⟩⟩
  | x :: E => by
    obtain ⟨h1, h2, h3⟩ := runR_eq p e m E
    unfold runR
    by_cases hb : m.testBit x = true
    · rw [if_pos hb, List.filter_cons_of_pos hb]
      refine ⟨by simp only [List.length_cons, h1], by simp only [sumL, h2]; omega, ?_⟩
      simp only [Bool.and_eq_true, decide_eq_true_eq, h3, h2, feasR]
      constructor
      · rintro ⟨a, b⟩; exact ⟨by omega, a⟩
      · rintro ⟨a, b⟩; exact ⟨b, by omega⟩
    · rw [if_neg hb, List.filter_cons_of_neg hb]
      exact ⟨h1, h2, h3⟩
theorem mask_of : ∀ (n : Nat) (P : Nat → Bool), ∃ m, m < 2 ^ n ∧ ∀ k, k < n → m.testBit k = P k
  | 0, _ => ⟨0, by simp, fun k h => absurd h (by omega)⟩
  | n + 1, P => by
    obtain ⟨m, hm, hb⟩ := mask_of n fun k => P (k + 1)
    refine ⟨2 * m + (P 0).toNat, ?_, ?_⟩
    · have : (P 0).toNat ≤ 1 := Bool.toNat_le _
      rw [Nat.pow_succ]
      omega
    · intro k hk
      cases k with
      | zero =>
        rw [Nat.testBit_zero]
        cases P 0 <;> simp <;> omega
      | succ k =>
        rw [Nat.testBit_succ]
        have : (2 * m + (P 0).toNat) / 2 = m := by
          have : (P 0).toNat ≤ 1 := Bool.toNat_le _
          omega
        rw [this]
        exact hb k (by omega)
theorem filter_sub {A es : List Nat} (h : A.Sublist es) (hn : es.Nodup) : es.filter (fun k => decide (k ∈ A)) = A := by
  induction h with
  | slnil => rfl
  | @cons A es x hs ih =>
    have hx : x ∉ A := fun h => (List.nodup_cons.1 hn).1 (hs.subset h)
    rw [List.filter_cons_of_neg (by simp [hx])]
    exact ih (List.nodup_cons.1 hn).2
  | @cons_cons A es x hs ih =>
    have hx := (List.nodup_cons.1 hn).1
    rw [List.filter_cons_of_pos (by simp)]
    congr 1
    rw [← ih (List.nodup_cons.1 hn).2]
    refine List.filter_congr ?_
    intro k hk
    have hne : k ≠ x := by rintro rfl; exact hx hk
    rw [ih (List.nodup_cons.1 hn).2]
    simp [hne]
/-- The most that one of the first N masks has in time. -/
def bestU (p e : Nat → Int) (es : List Nat) : Nat → Nat
  | 0 => 0
  | m + 1 => if (runR p e m es.reverse).2.2 = true ∧ bestU p e es m < (runR p e m es.reverse).1 then (runR p e m es.reverse).1 else bestU p e es m
theorem bestU_ge (p e : Nat → Int) (es : List Nat) : ∀ N m, m < N → (runR p e m es.reverse).2.2 = true → (runR p e m es.reverse).1 ≤ bestU p e es N
  | 0, m, h, _ => absurd h (by omega)
  | N + 1, m, h, hk => by
    unfold bestU
    by_cases e1 : m = N
    · subst e1
      split
      · exact Nat.le_refl _
      · rename_i hh
        exact Nat.le_of_not_lt fun h => hh ⟨hk, h⟩
    · have := bestU_ge p e es N m (by omega) hk
      split
      · rename_i hh; omega
      · exact this
theorem bestU_le (p e : Nat → Int) (es : List Nat) (b : Nat) (h : ∀ m, (runR p e m es.reverse).2.2 = true → (runR p e m es.reverse).1 ≤ b) : ∀ N, bestU p e es N ≤ b
  | 0 => Nat.zero_le _
  | N + 1 => by
    unfold bestU
    split
    · rename_i hh; exact h N hh.1
    · exact bestU_le p e es b h N
theorem best_eq {p e : Nat → Int} (hp : ∀ k, 0 ≤ p k) {n : Nat} {es : List Nat} (hes : es.Perm (List.range n)) (hs : es.Pairwise fun a b => e a ≤ e b) : bestU p e es (2 ^ n) = (moore p e es).1.length := by
  have hm := moore_of hp hs
  have hnd : es.Nodup := hes.nodup_iff.2 List.nodup_range
  refine Nat.le_antisymm (bestU_le p e es _ ?_ _) ?_
  · intro m hk
    obtain ⟨h1, _, h3⟩ := runR_eq p e m es.reverse
    rw [List.filter_reverse] at h1 h3
    rw [h1, List.length_reverse]
    exact hm.best _ List.filter_sublist (h3.1 hk)
  · obtain ⟨m, hlt, hb⟩ := mask_of n fun k => decide (k ∈ (moore p e es).1)
    obtain ⟨h1, _, h3⟩ := runR_eq p e m es.reverse
    rw [List.filter_reverse] at h1 h3
    have hf : es.filter m.testBit = (moore p e es).1 := by
      rw [List.filter_congr (q := fun k => decide (k ∈ (moore p e es).1))]
      · exact filter_sub hm.sub hnd
      · intro k hk
        exact hb k (List.mem_range.1 (hes.mem_iff.1 hk))
    rw [hf] at h1 h3
    rw [List.length_reverse] at h1
    rw [← h1]
    exact bestU_ge p e es _ m hlt (h3.2 hm.feas)
/-- The greatest lateness among the first n. -/
def mostU (f : Nat → Int) : Nat → Int
  | 0 => f 0
  | n + 1 => if mostU f n > f n then mostU f n else f n
theorem mostU_ge (f : Nat → Int) : ∀ n k, k < n → f k ≤ mostU f n
  | 0, k, h => absurd h (by omega)
  | n + 1, k, h => by
    unfold mostU
    by_cases e1 : k = n
    · subst e1; split <;> omega
    · have := mostU_ge f n k (by omega)
      split <;> omega
theorem mostU_le {f : Nat → Int} {b : Int} : ∀ n, 0 < n → (∀ k, k < n → f k ≤ b) → mostU f n ≤ b := by
  intro n
  have : ∀ n, (∀ k, k < n + 1 → f k ≤ b) → mostU f n ≤ b := by
    intro n
    induction n with
    | zero => intro h; exact h 0 (by omega)
    | succ n ih =>
      intro h
      have h1 := ih fun k hk => h k (by omega)
      have h2 := h n (by omega)
      unfold mostU
      split <;> omega
  intro h0 h
  cases n with
  | zero => omega
  | succ n =>
    unfold mostU
    have h1 := this n h
    have h2 := h n (by omega)
    split <;> omega
/-- Jackson, of the greatest. -/
theorem most_le {p e : Nat → Int} (hp : ∀ k, 0 ≤ p k) {n : Nat} {es o : List Nat} (hn : 0 < n) (hes : es.Perm (List.range n)) (hs : es.Pairwise fun a b => e a ≤ e b) (ho : o.Perm (List.range n)) :
    mostU (fun k => doneAt p 0 es k - e k) n ≤ mostU (fun k => doneAt p 0 o k - e k) n := by
  have hnd : es.Nodup := hes.nodup_iff.2 List.nodup_range
  have hno : o.Nodup := ho.nodup_iff.2 List.nodup_range
  refine mostU_le n hn ?_
  intro k hk
  obtain ⟨j, hj, hle⟩ := jackson hp hnd hs hno (fun x hx => ho.mem_iff.2 (hes.mem_iff.1 hx)) (hes.mem_iff.2 (List.mem_range.2 hk))
  exact Int.le_trans hle (mostU_ge (fun k => doneAt p 0 o k - e k) n j (List.mem_range.1 (hes.mem_iff.1 hj)))

/-- An order has all numbers below n, each once. -/
def ordU (n : Nat) (o : List Int) (i : Nat) : Bool := (List.range i).all fun j => decide (0 ≤ o.getD j 0 ∧ o.getD j 0 ≤ (n : Int) - 1) && !(o.take j).contains (o.getD j 0)
def ordB (n : Nat) (o : List Int) : Bool := decide (o.length = n) && ordU n o n
theorem ordU_succ (n : Nat) (o : List Int) (i : Nat) : ordU n o (i + 1) = (ordU n o i && (decide (0 ≤ o.getD i 0 ∧ o.getD i 0 ≤ (n : Int) - 1) && !(o.take i).contains (o.getD i 0))) := by simp [ordU, List.range_succ, List.all_append]
theorem ordU_no {n : Nat} {o : List Int} {j i : Nat} (hj : j < i) (h : (decide (0 ≤ o.getD j 0 ∧ o.getD j 0 ≤ (n : Int) - 1) && !(o.take j).contains (o.getD j 0)) = false) : ordU n o i = false := by
  rw [← Bool.not_eq_true]
  unfold ordU
  rw [List.all_eq_true]
  intro hh
  rw [hh j (List.mem_range.2 hj)] at h
  cases h
theorem perm_range {n : Nat} {a : List Nat} (hn : a.Nodup) (hl : a.length = n) (hk : ∀ k, k ∈ a → k < n) : a.Perm (List.range n) := by
  refine (List.perm_ext_iff_of_nodup hn List.nodup_range).2 fun k => ⟨fun h => List.mem_range.2 (hk k h), fun h => ?_⟩
  by_cases hm : k ∈ a
  · exact hm
  · exfalso
    have h1 : (k :: a).Nodup := List.nodup_cons.2 ⟨hm, hn⟩
    have := h1.length_le_of_subset (l₂ := List.range n) fun x hx => by
      rcases List.mem_cons.1 hx with rfl | hx
      · exact h
      · exact List.mem_range.2 (hk x hx)
    rw [List.length_cons, List.length_range] at this
    omega
theorem ordB_of {n : Nat} {o : List Int} (h : ordB n o = true) : ∃ a : List Nat, o = a.map (fun k : Nat => (k : Int)) ∧ a.Perm (List.range n) := by
  unfold ordB at h
  rw [Bool.and_eq_true, decide_eq_true_eq] at h
  obtain ⟨hl, hu⟩ := h
  unfold ordU at hu
  rw [List.all_eq_true] at hu
  have hat : ∀ j (hj : j < o.length), (0 ≤ o[j] ∧ o[j] ≤ (n : Int) - 1) ∧ o[j] ∉ o.take j := by
    intro j hj
    have := hu j (List.mem_range.2 (by omega))
    have e1 : o.getD j 0 = o[j] := by simp [List.getD_eq_getElem?_getD, List.getElem?_eq_getElem hj]
    rw [e1] at this
    simpa using this
  have hmem : ∀ x, x ∈ o → 0 ≤ x ∧ x ≤ (n : Int) - 1 := by
    intro x hx
    obtain ⟨j, hj, rfl⟩ := List.mem_iff_getElem.1 hx
    exact (hat j hj).1
  have hback : (o.map Int.toNat).map (fun k : Nat => (k : Int)) = o := by
    rw [List.map_map]
    conv => rhs; rw [← List.map_id o]
    refine List.map_congr_left ?_
    intro x hx
    have := hmem x hx
    simp only [Function.comp_apply, id_eq]
    omega
  have hno : o.Nodup := by
    refine List.pairwise_iff_getElem.2 ?_
    intro i j hi hj hij he
    refine (hat j hj).2 ?_
    rw [← he]
    refine List.mem_iff_getElem.2 ⟨i, by rw [List.length_take]; omega, ?_⟩
    rw [List.getElem_take]
  refine ⟨o.map Int.toNat, hback.symm, perm_range ?_ (by rw [List.length_map, hl]) ?_⟩
  · refine List.Pairwise.of_map (fun k : Nat => (k : Int)) (R := fun a b => a ≠ b) (S := fun a b => a ≠ b) ?_ (by rw [hback]; exact hno)
    intro a b h1 h2
    exact h1 (by rw [h2])
  · intro k hk
    obtain ⟨x, hx, rfl⟩ := List.mem_map.1 hk
    have := hmem x hx
    omega
theorem ordB_map {n : Nat} {a : List Nat} (h : a.Perm (List.range n)) : ordB n (a.map fun k : Nat => (k : Int)) = true := by
  have hl : a.length = n := by rw [h.length_eq, List.length_range]
  have hn : a.Nodup := h.nodup_iff.2 List.nodup_range
  unfold ordB
  rw [Bool.and_eq_true, decide_eq_true_eq, List.length_map]
  refine ⟨hl, ?_⟩
  unfold ordU
  rw [List.all_eq_true]
  intro j hj
  have hj' : j < a.length := by have := List.mem_range.1 hj; omega
  have e1 : (a.map fun k : Nat => (k : Int)).getD j 0 = (a[j] : Int) := by simp [List.getD_eq_getElem?_getD, List.getElem?_eq_getElem hj']
  rw [e1]
  have hlt : a[j] < n := List.mem_range.1 (h.mem_iff.1 (List.getElem_mem _))
  have hnot : a[j] ∉ a.take j := by
    intro hm
    obtain ⟨i, hi, he⟩ := List.mem_iff_getElem.1 hm
    rw [List.length_take] at hi
    rw [List.getElem_take] at he
    exact List.pairwise_iff_getElem.1 hn i j (by omega) hj' (by omega) he
  rw [← List.map_take]
  simp only [Bool.and_eq_true, decide_eq_true_eq, Bool.not_eq_true', List.contains_eq_mem, decide_eq_false_iff_not, List.mem_map, not_exists, not_and]
  refine ⟨by omega, ?_⟩
  intro x hx he
  exact hnot (by rw [show a[j] = x by omega]; exact hx)
/-- The last one is done when all are. -/
theorem done_last {p : Nat → Int} {a : List Nat} {k : Nat} (h : (a ++ [k]).Nodup) : doneAt p 0 (a ++ [k]) k = sumL p (a ++ [k]) := by
  have hk : k ∉ a := fun hm => (List.nodup_append.1 h).2.2 k hm k (List.mem_cons_self ..) rfl
  rw [doneAt_app _ hk, sumL_app]
  simp only [sumL]
  omega
theorem sumL_range (p : Nat → Int) : ∀ n, sumL p (List.range (n + 1)) = sumL p (List.range n) + p n := by
  intro n
  rw [List.range_succ, sumL_app]
  simp [sumL]

def needT (l : List TkEl) (k : Nat) : Int := (l.getD k (0, 0)).1
def endT (l : List TkEl) (k : Nat) : Int := (l.getD k (0, 0)).2
def taskB (x : TkEl) : Bool := decide (1 ≤ x.1 ∧ x.1 ≤ 20) && decide (0 ≤ x.2 ∧ x.2 ≤ 200)
def goodT (l : List TkEl) : Bool := l.all taskB && decide (l.length ≤ 10)
theorem goodT_len {l : List TkEl} (h : goodT l = true) : l.length ≤ 10 := by
  unfold goodT at h
  rw [Bool.and_eq_true, decide_eq_true_eq] at h
  exact h.2
theorem goodT_at {l : List TkEl} (h : goodT l = true) (k : Nat) (hk : k < l.length) : (1 ≤ needT l k ∧ needT l k ≤ 20) ∧ (0 ≤ endT l k ∧ endT l k ≤ 200) := by
  unfold goodT at h
  rw [Bool.and_eq_true, List.all_eq_true] at h
  have := h.1 (l.getD k (0, 0)) (by simp [List.getD_eq_getElem?_getD, hk])
  unfold taskB at this
  rw [Bool.and_eq_true, decide_eq_true_eq, decide_eq_true_eq] at this
  exact this
theorem needT_nonneg {l : List TkEl} (h : goodT l = true) (k : Nat) : 0 ≤ needT l k := by
  by_cases hk : k < l.length
  · have := goodT_at h k hk; omega
  · unfold needT
    rw [List.getD_eq_getElem?_getD, List.getElem?_eq_none (by omega)]
    exact Int.le_refl _
abbrev ofN (a : List Nat) : List Int := a.map fun k : Nat => (k : Int)
/-- The tasks' numbers by their ends. -/
def byEndL (l : List TkEl) : List Nat := byEnd (endT l) l.length
def mooreL (l : List TkEl) : List Nat × List Nat := moore (needT l) (endT l) (byEndL l)
/-- How many of the best are in time. -/
def bestL (l : List TkEl) : Nat := bestU (needT l) (endT l) (byEndL l) (2 ^ l.length)
def doneL (l : List TkEl) (o : List Nat) : List Int := (List.range l.length).map (doneAt (needT l) 0 o)
theorem bestL_eq {l : List TkEl} (h : goodT l = true) : bestL l = (mooreL l).1.length := best_eq (needT_nonneg h) (byEnd_perm _ _) (byEnd_ends _ _)
theorem mooreL_late {l : List TkEl} (h : goodT l = true) : lateT (needT l) (endT l) l.length ((mooreL l).1 ++ (mooreL l).2) + (mooreL l).1.length = l.length := late_moore (needT_nonneg h) (byEnd_perm _ _) (byEnd_ends _ _)
theorem mooreL_perm {l : List TkEl} (h : goodT l = true) : ((mooreL l).1 ++ (mooreL l).2).Perm (List.range l.length) := (moore_of (needT_nonneg h) (byEnd_ends (endT l) l.length)).perm.trans (byEnd_perm _ _)
theorem mooreL_ge {l : List TkEl} (h : goodT l = true) {o : List Nat} (ho : o.Perm (List.range l.length)) : l.length ≤ lateT (needT l) (endT l) l.length o + (mooreL l).1.length := late_ge (needT_nonneg h) (byEnd_perm _ _) (byEnd_ends _ _) ho
end Go.Proofs.Ytpkngcamaahhdab
