/-
  A queue parted by a credit, packet by packet: plain words. No program.
-/
import Derived.Test.YteeaebelknpdjbaTurnMath
namespace Go.Proofs.Yteeaebelknpdjba

/-- What one packet more does. -/
def partX (s : List Int × List Int × Int) (x : Int) : List Int × List Int × Int := if s.2.1.length = 0 ∧ x ≤ s.2.2 then (s.1 ++ [x], s.2.1, s.2.2 - x) else (s.1, s.2.1 ++ [x], s.2.2)
theorem takeT_snoc : ∀ (q : List Int) (c x : Int), takeT c (q ++ [x]) = partX (takeT c q) x
  | [], c, x => by
    by_cases h : x ≤ c
    · rw [List.nil_append, takeT_yes _ h]
      simp [takeT, partX, h]
    · rw [List.nil_append, takeT_no _ h]
      simp [takeT, partX, h]
  | y :: q, c, x => by
    by_cases h : y ≤ c
    · rw [List.cons_append, takeT_yes _ h, takeT_yes _ h, takeT_snoc q (c - y) x]
      unfold partX
      split <;> rfl
    · rw [List.cons_append, takeT_no _ h, takeT_no _ h]
      simp [partX]
theorem take_succ_snoc (q : List Int) (k : Nat) (h : k < q.length) : q.take (k + 1) = q.take k ++ [q.getD k 0] := by
  rw [List.take_succ_eq_append_getElem h]
  simp [List.getD_eq_getElem?_getD, h]
theorem takeT_in (q : List Int) (c : Int) (hc : 0 ≤ c) (hq : ∀ x ∈ q, 0 ≤ x) : 0 ≤ (takeT c q).2.2 ∧ (takeT c q).2.2 ≤ c ∧ (takeT c q).1.length ≤ q.length ∧ (takeT c q).2.1.length ≤ q.length := by
  have h1 := takeT_pos q c hc
  have h2 := takeT_sum q c
  have h3 := takeT_app q c
  have h4 : ∀ x ∈ (takeT c q).1, 0 ≤ x := fun x hx => hq x (by rw [← h3]; exact List.mem_append_left _ hx)
  have h5 : ∀ l : List Int, (∀ x ∈ l, 0 ≤ x) → 0 ≤ sumI l := by
    intro l
    induction l with
    | nil => intro _; simp [sumI_nil]
    | cons y l ih => intro h; rw [sumI_cons]; have := h y (List.mem_cons_self); have := ih (fun x hx => h x (List.mem_cons_of_mem _ hx)); omega
  have h6 := h5 _ h4
  have h7 : (takeT c q).1.length + (takeT c q).2.1.length = q.length := by rw [← List.length_append, h3]
  omega
theorem psum_take2 (xs : List Int) : ∀ k, k ≤ xs.length → psum (fl xs) k = sumI (xs.take k) := by
  intro k hk
  unfold sumI
  rw [List.length_take, Nat.min_eq_left hk]
  have key : ∀ m, m ≤ k → psum (fl xs) m = psum (fl (xs.take k)) m := by
    intro m
    induction m with
    | zero => intro _; rfl
    | succ m ih =>
      intro hm
      show psum (fl xs) m + fl xs m = psum (fl (xs.take k)) m + fl (xs.take k) m
      rw [ih (by omega)]
      congr 1
      unfold fl
      rw [List.getD_eq_getElem?_getD, List.getD_eq_getElem?_getD, List.getElem?_take, if_pos (by omega)]
  exact key k (Nat.le_refl _)
/-- Numbers that are not negative: the first of them are no more than all. -/
theorem sumI_part2 : ∀ (xs : List Int), (∀ x ∈ xs, 0 ≤ x) → ∀ k, 0 ≤ sumI (xs.take k) ∧ sumI (xs.take k) ≤ sumI xs
  | [], _, k => by simp [sumI_nil]
  | x :: xs, h, k => by
    have ih := sumI_part2 xs (fun y hy => h y (List.mem_cons_of_mem _ hy))
    have hx := h x (List.mem_cons_self)
    cases k with
    | zero =>
      have := ih xs.length
      rw [List.take_length] at this
      rw [List.take_zero, sumI_nil, sumI_cons]
      omega
    | succ k =>
      have := ih k
      rw [List.take_succ_cons, sumI_cons, sumI_cons]
      omega
theorem send_part (D : TuD) (k : Nat) : (takeT (fl D.f2 k + fl D.f0 k) (D.f1.getD k [])).1 = sendT D k ∧ (takeT (fl D.f2 k + fl D.f0 k) (D.f1.getD k [])).2.1 = leftT D k ∧ ((leftT D k).length ≠ 0 → (takeT (fl D.f2 k + fl D.f0 k) (D.f1.getD k [])).2.2 = restT D k) := by
  unfold sendT leftT restT credT
  by_cases h : (D.f1.getD k []).length = 0
  · have h' := List.length_eq_zero_iff.1 h
    rw [h']
    simp [takeT]
  · rw [if_neg h]
    refine ⟨rfl, rfl, fun h2 => ?_⟩
    unfold leftT credT
    rw [if_neg h, if_neg h2]
theorem send_bd (q : List Int) (c : Int) (hq : ∀ x ∈ q, 0 ≤ x) (k : Nat) (hk : k ≤ (takeT c q).1.length) : 0 ≤ psum (fl (takeT c q).1) k ∧ psum (fl (takeT c q).1) k ≤ sumI q := by
  rw [psum_take2 _ k hk]
  have h3 := takeT_app q c
  have h1 := sumI_part2 (takeT c q).1 (fun x hx => hq x (by rw [← h3]; exact List.mem_append_left _ hx)) k
  have h2 := sumI_part2 q hq (takeT c q).1.length
  have e : q.take (takeT c q).1.length = (takeT c q).1 := by
    generalize takeT c q = t at h3 ⊢
    subst h3
    exact List.take_left
  rw [e] at h2
  omega
end Go.Proofs.Yteeaebelknpdjba
