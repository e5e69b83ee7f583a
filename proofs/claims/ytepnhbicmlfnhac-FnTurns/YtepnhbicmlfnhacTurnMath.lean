/-
  What a turn does (Shreedhar, Varghese): plain arithmetic, no program.
  A queue parted by a credit, packet by packet: plain words. No program.
-/
import Derived.Test.YtepnhbicmlfnhacTurnFns
namespace Go.Proofs.Ytepnhbicmlfnhac

def sumI (xs : List Int) : Int := psum (fl xs) xs.length
theorem psum_shift (f : Nat → Int) : ∀ n, psum f (n + 1) = f 0 + psum (fun i => f (i + 1)) n
  | 0 => by simp [psum]
  | n + 1 => by
    have ih := psum_shift f n
    show psum f (n + 1) + f (n + 1) = f 0 + (psum (fun i => f (i + 1)) n + f (n + 1))
    rw [ih]
    omega
theorem sumI_nil : sumI [] = 0 := rfl
theorem sumI_cons (x : Int) (q : List Int) : sumI (x :: q) = x + sumI q := by
  unfold sumI
  rw [List.length_cons, psum_shift]
  have e : (fun i => fl (x :: q) (i + 1)) = fl q := by funext i; simp [fl]
  rw [e]
  rfl
theorem sumI_append (p q : List Int) : sumI (p ++ q) = sumI p + sumI q := by
  induction p with
  | nil => rw [List.nil_append, sumI_nil]; omega
  | cons x p ih => rw [List.cons_append, sumI_cons, sumI_cons, ih]; omega
/-- What is sent of a queue with so much credit, what is left of it, and of the credit. -/
def takeT (c : Int) : List Int → List Int × List Int × Int
  | [] => ([], [], c)
  | x :: q => if x ≤ c then (x :: (takeT (c - x) q).1, (takeT (c - x) q).2.1, (takeT (c - x) q).2.2) else ([], x :: q, c)
theorem takeT_yes {c x : Int} (q : List Int) (h : x ≤ c) : takeT c (x :: q) = (x :: (takeT (c - x) q).1, (takeT (c - x) q).2.1, (takeT (c - x) q).2.2) := by rw [takeT, if_pos h]
theorem takeT_no {c x : Int} (q : List Int) (h : ¬ x ≤ c) : takeT c (x :: q) = ([], x :: q, c) := by rw [takeT, if_neg h]
theorem takeT_app : ∀ (q : List Int) (c : Int), (takeT c q).1 ++ (takeT c q).2.1 = q
  | [], _ => rfl
  | x :: q, c => by
    by_cases h : x ≤ c
    · rw [takeT_yes q h]; simp only [List.cons_append]; rw [takeT_app q]
    · rw [takeT_no q h]; rfl
theorem takeT_sum : ∀ (q : List Int) (c : Int), sumI (takeT c q).1 + (takeT c q).2.2 = c
  | [], c => by show sumI [] + c = c; rw [sumI_nil]; omega
  | x :: q, c => by
    by_cases h : x ≤ c
    · have ih := takeT_sum q (c - x)
      rw [takeT_yes q h]
      simp only
      rw [sumI_cons]
      omega
    · rw [takeT_no q h]; show sumI [] + c = c; rw [sumI_nil]; omega
theorem takeT_head : ∀ (q : List Int) (c : Int) (x : Int) (r : List Int), (takeT c q).2.1 = x :: r → (takeT c q).2.2 < x
  | [], _, _, _, h => by cases h
  | y :: q, c, x, r, h => by
    by_cases hy : y ≤ c
    · rw [takeT_yes q hy] at h ⊢
      exact takeT_head q (c - y) x r h
    · rw [takeT_no q hy] at h ⊢
      simp only [List.cons.injEq] at h
      show c < x
      omega
theorem takeT_pos : ∀ (q : List Int) (c : Int), 0 ≤ c → 0 ≤ (takeT c q).2.2
  | [], _, h => h
  | y :: q, c, h => by
    by_cases hy : y ≤ c
    · rw [takeT_yes q hy]; exact takeT_pos q (c - y) (by omega)
    · rw [takeT_no q hy]; exact h
/-- A turn: what the queues are then, and what was sent. -/
def credT (D : TuD) (k : Nat) : Int := if (D.f1.getD k []).length = 0 then fl D.f2 k else fl D.f2 k + fl D.f0 k
def sendT (D : TuD) (k : Nat) : List Int := (takeT (credT D k) (D.f1.getD k [])).1
def leftT (D : TuD) (k : Nat) : List Int := (takeT (credT D k) (D.f1.getD k [])).2.1
def restT (D : TuD) (k : Nat) : Int := if (leftT D k).length = 0 then 0 else (takeT (credT D k) (D.f1.getD k [])).2.2
def nextD (D : TuD) (k : Nat) : TuD := ⟨D.f0, D.f1.set k (leftT D k), D.f2.set k (restT D k), D.f3.set k (fl D.f3 k + sumI (sendT D k)), ((k + 1) % D.f1.length : Nat)⟩
theorem sumI_set {xs : List Int} {k : Nat} (hk : k < xs.length) (y : Int) : sumI (xs.set k y) = sumI xs - fl xs k + y := by
  have e1 : xs = xs.take k ++ xs[k] :: xs.drop (k + 1) := by rw [← List.drop_eq_getElem_cons hk]; exact (List.take_append_drop k xs).symm
  have e2 : xs.set k y = xs.take k ++ y :: xs.drop (k + 1) := by rw [List.set_eq_take_append_cons_drop, if_pos hk]
  have e3 : fl xs k = xs[k] := by simp [fl, List.getD_eq_getElem?_getD, hk]
  have e4 : sumI xs = sumI (xs.take k) + (xs[k] + sumI (xs.drop (k + 1))) := by
    have h := congrArg sumI e1
    rw [sumI_append, sumI_cons] at h
    exact h
  rw [e2, e3, e4, sumI_append, sumI_cons]
  omega
theorem waitT_is (D : TuD) : waitT D = sumI (D.f1.map sumI) := by
  unfold waitT sumI
  rw [List.length_map]
  refine psum_congr _ fun i hi => ?_
  have e : fl (D.f1.map sumI) i = sumI (D.f1.getD i []) := by simp [fl, List.getD_eq_getElem?_getD, hi]
  exact e.symm
/-- What is sent and what waits together stay as much. -/
theorem next_sum {D : TuD} {k : Nat} (h1 : k < D.f1.length) (h3 : k < D.f3.length) : totT (nextD D k) + waitT (nextD D k) = totT D + waitT D ∧ totT (nextD D k) = totT D + sumI (sendT D k) := by
  have a1 : totT (nextD D k) = totT D - fl D.f3 k + (fl D.f3 k + sumI (sendT D k)) := by
    show sumI (D.f3.set k (fl D.f3 k + sumI (sendT D k))) = sumI D.f3 - fl D.f3 k + (fl D.f3 k + sumI (sendT D k))
    exact sumI_set h3 _
  have a2 : waitT (nextD D k) = waitT D - sumI (D.f1.getD k []) + sumI (leftT D k) := by
    rw [waitT_is, waitT_is]
    show sumI ((D.f1.set k (leftT D k)).map sumI) = _
    rw [List.map_set, sumI_set (by rw [List.length_map]; exact h1)]
    have : fl (D.f1.map sumI) k = sumI (D.f1.getD k []) := by simp [fl, List.getD_eq_getElem?_getD, h1]
    rw [this]
  have a3 : sumI (sendT D k) + sumI (leftT D k) = sumI (D.f1.getD k []) := by
    rw [← sumI_append]
    exact congrArg sumI (takeT_app _ _)
  omega
/-- Where something is left the credit is what it was, a quantum more, and less what was sent; and the first that waits is greater. -/
theorem next_credit {D : TuD} {k : Nat} (hg : GoodT D) (hk : k < D.f1.length) (hl : (leftT D k).length ≠ 0) : sumI (sendT D k) + restT D k = fl D.f2 k + fl D.f0 k ∧ restT D k < fl (leftT D k) 0 ∧ (sendT D k).length ≠ 0 := by
  have happ : sendT D k ++ leftT D k = D.f1.getD k [] := takeT_app _ _
  have hq : (D.f1.getD k []).length ≠ 0 := by rw [← happ, List.length_append]; omega
  have hc : credT D k = fl D.f2 k + fl D.f0 k := by rw [credT, if_neg hq]
  have hr : restT D k = (takeT (credT D k) (D.f1.getD k [])).2.2 := by rw [restT, if_neg hl]
  have hs := takeT_sum (D.f1.getD k []) (credT D k)
  have hs' : sumI (sendT D k) + restT D k = credT D k := by rw [hr]; exact hs
  obtain ⟨x, r, hx⟩ : ∃ x r, leftT D k = x :: r := by
    cases e : leftT D k with
    | nil => rw [e] at hl; simp at hl
    | cons x r => exact ⟨x, r, rfl⟩
  have hh := takeT_head (D.f1.getD k []) (credT D k) x r hx
  refine ⟨by rw [hs', hc], by rw [hr, hx]; exact hh, fun e => ?_⟩
  have hse : sendT D k = [] := List.eq_nil_of_length_eq_zero e
  rw [hse, List.nil_append] at happ
  have h20 := (hg.k k hk).2.1 0 (by omega)
  rw [← happ, hx] at h20
  have hq0 := hg.q k (by rw [← hg.l1]; exact hk)
  have hc0 := hg.c k
  rw [hse, sumI_nil] at hs'
  rw [hr] at hs'
  have : fl (x :: r) 0 = x := rfl
  omega
end Go.Proofs.Ytepnhbicmlfnhac
namespace Go.Proofs.Ytepnhbicmlfnhac

/-- What one packet more does. -/
def partX (s : List Int × List Int × Int) (x : Int) : List Int × List Int × Int := if s.2.1.length = 0 ∧ x ≤ s.2.2 then (s.1 ++ [x], s.2.1, s.2.2 - x) else (s.1, s.2.1 ++ [x], s.2.2)
theorem takeT_snoc : ∀ (q : List Int) (c x : Int), takeT c (q ++ [x]) = partX (takeT c q) x
  | [], c, x => by
    by_cases h : x ≤ c
    · rw [List.nil_append, takeT_yes _ h]
      simp [takeT, partX, h]
    · rw [List.nil_append, takeT_no _ h]
      simp [takeT, partX, h]
  | y :: q, c, x => by
    by_cases h : y ≤ c
    · rw [List.cons_append, takeT_yes _ h, takeT_yes _ h, takeT_snoc q (c - y) x]
      unfold partX
      split <;> rfl
    · rw [List.cons_append, takeT_no _ h, takeT_no _ h]
      simp [partX]
theorem take_succ_snoc (q : List Int) (k : Nat) (h : k < q.length) : q.take (k + 1) = q.take k ++ [q.getD k 0] := by
  rw [List.take_succ_eq_append_getElem h]
  simp [List.getD_eq_getElem?_getD, h]
theorem takeT_in (q : List Int) (c : Int) (hc : 0 ≤ c) (hq : ∀ x ∈ q, 0 ≤ x) : 0 ≤ (takeT c q).2.2 ∧ (takeT c q).2.2 ≤ c ∧ (takeT c q).1.length ≤ q.length ∧ (takeT c q).2.1.length ≤ q.length := by
  have h1 := takeT_pos q c hc
  have h2 := takeT_sum q c
  have h3 := takeT_app q c
  have h4 : ∀ x ∈ (takeT c q).1, 0 ≤ x := fun x hx => hq x (by rw [← h3]; exact List.mem_append_left _ hx)
  have h5 : ∀ l : List Int, (∀ x ∈ l, 0 ≤ x) → 0 ≤ sumI l := by
    intro l
    induction l with
    | nil => intro _; simp [sumI_nil]
    | cons y l ih => intro h; rw [sumI_cons]; have := h y (List.mem_cons_self); have := ih (fun x hx => h x (List.mem_cons_of_mem _ hx)); omega
  have h6 := h5 _ h4
  have h7 : (takeT c q).1.length + (takeT c q).2.1.length = q.length := by rw [← List.length_append, h3]
  omega
theorem psum_take2 (xs : List Int) : ∀ k, k ≤ xs.length → psum (fl xs) k = sumI (xs.take k) := by
  intro k hk
  unfold sumI
  rw [List.length_take, Nat.min_eq_left hk]
  have key : ∀ m, m ≤ k → psum (fl xs) m = psum (fl (xs.take k)) m := by
    intro m
    induction m with
    | zero => intro _; rfl
    | succ m ih =>
      intro hm
      show psum (fl xs) m + fl xs m = psum (fl (xs.take k)) m + fl (xs.take k) m
      rw [ih (by omega)]
      congr 1
      unfold fl
      rw [List.getD_eq_getElem?_getD, List.getD_eq_getElem?_getD, List.getElem?_take, if_pos (by omega)]
  exact key k (Nat.le_refl _)
/-- Numbers that are not negative: the first of them are no more than all. -/
theorem sumI_part2 : ∀ (xs : List Int), (∀ x ∈ xs, 0 ≤ x) → ∀ k, 0 ≤ sumI (xs.take k) ∧ sumI (xs.take k) ≤ sumI xs
  | [], _, k => by simp [sumI_nil]
  | x :: xs, h, k => by
    have ih := sumI_part2 xs (fun y hy => h y (List.mem_cons_of_mem _ hy))
    have hx := h x (List.mem_cons_self)
    cases k with
    | zero =>
      have := ih xs.length
      rw [List.take_length] at this
      rw [List.take_zero, sumI_nil, sumI_cons]
      omega
    | succ k =>
      have := ih k
      rw [List.take_succ_cons, sumI_cons, sumI_cons]
      omega
theorem send_part (D : TuD) (k : Nat) : (takeT (fl D.f2 k + fl D.f0 k) (D.f1.getD k [])).1 = sendT D k ∧ (takeT (fl D.f2 k + fl D.f0 k) (D.f1.getD k [])).2.1 = leftT D k ∧ ((leftT D k).length ≠ 0 → (takeT (fl D.f2 k + fl D.f0 k) (D.f1.getD k [])).2.2 = restT D k) := by
  unfold sendT leftT restT credT
  by_cases h : (D.f1.getD k []).length = 0
  · have h' := List.length_eq_zero_iff.1 h
    rw [h']
    simp [takeT]
  · rw [if_neg h]
    refine ⟨rfl, rfl, fun h2 => ?_⟩
    unfold leftT credT
    rw [if_neg h, if_neg h2]
theorem send_bd (q : List Int) (c : Int) (hq : ∀ x ∈ q, 0 ≤ x) (k : Nat) (hk : k ≤ (takeT c q).1.length) : 0 ≤ psum (fl (takeT c q).1) k ∧ psum (fl (takeT c q).1) k ≤ sumI q := by
  rw [psum_take2 _ k hk]
  have h3 := takeT_app q c
  have h1 := sumI_part2 (takeT c q).1 (fun x hx => hq x (by rw [← h3]; exact List.mem_append_left _ hx)) k
  have h2 := sumI_part2 q hq (takeT c q).1.length
  have e : q.take (takeT c q).1.length = (takeT c q).1 := by
    generalize takeT c q = t at h3 ⊢
    subst h3
    exact List.take_left
  rw [e] at h2
  omega
end Go.Proofs.Ytepnhbicmlfnhac
