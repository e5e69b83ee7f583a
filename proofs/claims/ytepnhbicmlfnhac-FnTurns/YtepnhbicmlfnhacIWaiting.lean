/-
  impl.WaitingIn: all that waits. Nothing old is written.
-/
import Derived.Test.YtepnhbicmlfnhacTurnMath
import Derived.Test.YtepnhbicmlfnhacIGoodT
import Derived.Test.YtepnhbicmlfnhacFlowFns
import Derived.Test.YtepnhbicmlfnhacIGrow
namespace Go.Proofs.Ytepnhbicmlfnhac
open Go.RowKit

theorem catL_sum (D : TuD) : sumI (catL D.f1 D.f1.length) = waitT D := by
  rw [waitT_is]
  have key : ∀ (l : List (List Int)), sumI l.flatten = sumI (l.map sumI) := by
    intro l
    induction l with
    | nil => rfl
    | cons x l ih => rw [List.flatten_cons, sumI_append, List.map_cons, sumI_cons, ih]
  unfold catL
  rw [List.take_length]
  exact key _
theorem psum_take (xs : List Int) : ∀ k, k ≤ xs.length → psum (fl xs) k = sumI (xs.take k) := by
  intro k hk
  unfold sumI
  rw [List.length_take, Nat.min_eq_left hk]
  have key : ∀ m, m ≤ k → psum (fl xs) m = psum (fl (xs.take k)) m := by
    intro m
    induction m with
    | zero => intro _; rfl
    | succ m ih =>
      intro hm
      show psum (fl xs) m + fl xs m = psum (fl (xs.take k)) m + fl (xs.take k) m
      rw [ih (by omega)]
      congr 1
      unfold fl
      rw [List.getD_eq_getElem?_getD, List.getD_eq_getElem?_getD, List.getElem?_take, if_pos (by omega)]
  exact key k (Nat.le_refl _)
/-- Numbers that are not negative: the first of them are no more than all. -/
theorem sumI_part : ∀ (xs : List Int), (∀ x ∈ xs, 0 ≤ x) → ∀ k, 0 ≤ sumI (xs.take k) ∧ sumI (xs.take k) ≤ sumI xs
  | [], _, k => by simp [sumI_nil]
  | x :: xs, h, k => by
    have ih := sumI_part xs (fun y hy => h y (List.mem_cons_of_mem _ hy))
    have hx := h x (List.mem_cons_self)
    cases k with
    | zero =>
      have := ih xs.length
      rw [List.take_length] at this
      rw [List.take_zero, sumI_nil, sumI_cons]
      omega
    | succ k =>
      have := ih k
      rw [List.take_succ_cons, sumI_cons, sumI_cons]
      omega
theorem catL_nonneg {D : TuD} (hg : GoodT D) : ∀ x ∈ catL D.f1 D.f1.length, 0 ≤ x := by
  intro x hx
  unfold catL at hx
  rw [List.take_length, List.mem_flatten] at hx
  obtain ⟨l, hl, hx⟩ := hx
  obtain ⟨i, hi, rfl⟩ := List.mem_iff_getElem.1 hl
  obtain ⟨j, hj, rfl⟩ := List.mem_iff_getElem.1 hx
  have e : D.f1.getD i [] = D.f1[i] := by simp [List.getD_eq_getElem?_getD, hi]
  have := (hg.k i hi).2.1 j (by rw [e]; exact hj)
  rw [e] at this
  have e2 : fl D.f1[i] j = D.f1[i][j] := by simp [fl, List.getD_eq_getElem?_getD, hj]
  rw [e2] at this
  omega
theorem cat_in {D : TuD} (hg : GoodT D) (k : Nat) (hk : k ≤ (catL D.f1 D.f1.length).length) : 0 ≤ psum (fl (catL D.f1 D.f1.length)) k ∧ psum (fl (catL D.f1 D.f1.length)) k ≤ 1000000000 := by
  rw [psum_take _ k hk]
  have h1 := sumI_part _ (catL_nonneg hg) k
  have h2 := wait_inT hg D.f1.length
  have h3 : sumI (catL D.f1 D.f1.length) = psum (rowT D) D.f1.length := catL_sum D
  have h4 := hg.l1
  have h5 := hg.n
  omega
theorem preL_in {D : TuD} (hg : GoodT D) : preL D.f1 D.f1.length ≤ 1000 := by
  have key : ∀ k, k ≤ D.f1.length → preL D.f1 k ≤ 30 * k := by
    intro k
    induction k with
    | zero => intro _; rw [preL_zero]; omega
    | succ k ih =>
      intro hk
      rw [preL_succ D.f1 k (by omega)]
      have := ih (by omega)
      have := (hg.k k (by omega)).1
      omega
  have := key D.f1.length (Nat.le_refl _)
  have h4 := hg.l1
  have h5 := hg.n
  omega
set_option maxRecDepth 100000 in
set_option maxHeartbeats 4000000 in
theorem iwaiting_eq (v : Value) (D : TuD) (w : World) (hr : TuReads w v D) :
    Calls Try.prog 38 #[v] w fun e w' => e = .returned (.tuple #[.int .i64 (waitV D), .bool (goodTu D)]) ∧ Below w.heap.size w w' := by
  have HR := hid hr
  obtain ⟨v0, v1, v2, v3, rfl, _, r1, _, _⟩ := hr
  have R1 := hid r1
  clear r1
  have PB := hid (boxL_new w [v0, v1, v2, v3, .int .i64 D.f4] 55)
  have BW : Hid (Below w.heap.size w (w.alloc (.cells #[v0, v1, v2, v3, .int .i64 D.f4] 55))) := (Below.refl _ _).alloc (Nat.le_refl _) _
  obtain ⟨q0, q1, q2, q3, q4⟩ := PB.out.five
  obtain ⟨t, ht⟩ : ∃ t, goodTu D = t := ⟨_, rfl⟩
  obtain ⟨s, hs⟩ : ∃ s, waitV D = s := ⟨_, rfl⟩
  have HT := hid ht
  have HS := hid hs
  rw [ht, hs]
  clear ht hs
  go_enter Try.func38, Try.ntmps38
  go_wp2_with fail
  refine (igoodT_eq _ D t HT.out _ (HR.out.below BW.out)).mono ?_
  rintro e w1 ⟨rfl, b1⟩
  have B1 : Hid (Below w.heap.size w w1) := BW.out.trans (b1.mono BW.out.size)
  have PB1 := hid (PB.out.below b1 PB.out.lt)
  clear b1 q0 q1 q2 q3 q4
  obtain ⟨q0, q1, q2, q3, q4⟩ := PB1.out.five
  cases t
  · have HV : Hid (s = 0) := by show _ = _; rw [← HS.out, waitV, HT.out]; rfl
    go_wp2
    go_ret2
    exact ⟨by rw [HV.out]; rfl, B1.out⟩
  · have hg := goodT_of HT.out
    have HG := hid hg
    have HV : Hid (psum (fl (catL D.f1 D.f1.length)) (catL D.f1 D.f1.length).length = s) := by show sumI (catL D.f1 D.f1.length) = s; rw [catL_sum, ← HS.out, waitV, HT.out]; rfl
    have hl : D.f1.length ≤ 4 := by rw [hg.l1]; exact hg.n.2
    clear hg
    go_wp2_with fail
    refine (concat_rows _ D.f1 _ (R1.out.below B1.out) (preL_in HG.out) (by omega)).mono ?_
    rintro e w2 ⟨u, rfl, hu, b2⟩
    have HU := hid hu.reads
    have B2 : Hid (Below w.heap.size w w2) := B1.out.trans (b2.mono B1.out.size)
    clear b2 hu
    go_wp2_with fail
    refine (isum8_eq _ (catL D.f1 D.f1.length) _ HU.out (fun k hk => cat_in HG.out k hk) s HV.out).mono ?_
    rintro e w' ⟨rfl, hw⟩; obtain rfl := hw.symm
    go_wp2
    go_ret2
    exact ⟨rfl, B2.out⟩
end Go.Proofs.Ytepnhbicmlfnhac
