/-
  What was sent and what waits, added up: plain words. No program.
-/
import Derived.Test.YtnnmiddhbeiogbaTurnFns
import Derived.Test.YtnnmiddhbeiogbaFlowFns
namespace Go.Proofs.Ytnnmiddhbeiogba

def totT (D : TuD) : Int := psum (fl D.f3) D.f3.length
def rowT (D : TuD) (i : Nat) : Int := psum (fl (D.f1.getD i [])) (D.f1.getD i []).length
def waitT (D : TuD) : Int := psum (rowT D) D.f1.length
structure GoodT (D : TuD) : Prop where
  n : 1 ≤ D.f0.length ∧ D.f0.length ≤ 4
  q : ∀ i, i < D.f0.length → 20 ≤ fl D.f0 i ∧ fl D.f0 i ≤ 100
  l1 : D.f1.length = D.f0.length
  l2 : D.f2.length = D.f0.length
  l3 : D.f3.length = D.f0.length
  c : ∀ i, 0 ≤ fl D.f2 i ∧ fl D.f2 i ≤ 19
  s : ∀ i, 0 ≤ fl D.f3 i ∧ fl D.f3 i ≤ 1000000
  at_ : 0 ≤ D.f4 ∧ D.f4 ≤ (D.f0.length : Int) - 1
  k : ∀ i, i < D.f1.length → (D.f1.getD i []).length ≤ 30 ∧ (∀ j, j < (D.f1.getD i []).length → 1 ≤ fl (D.f1.getD i []) j ∧ fl (D.f1.getD i []) j ≤ 20) ∧ ((D.f1.getD i []).length = 0 → fl D.f2 i = 0)
theorem all_fl {xs : List Int} {lo hi : Int} (h : (xs.all fun x => decide (lo ≤ x ∧ x ≤ hi)) = true) (i : Nat) (hi' : i < xs.length) : lo ≤ fl xs i ∧ fl xs i ≤ hi := by
  rw [List.all_eq_true] at h
  have := h (xs.getD i 0) (by rw [List.getD_eq_getElem?_getD, List.getElem?_eq_getElem hi']; exact List.getElem_mem _)
  rw [decide_eq_true_eq] at this
  exact this
theorem fl_out {xs : List Int} {i : Nat} (h : ¬ i < xs.length) : fl xs i = 0 := by
  unfold fl
  rw [List.getD_eq_getElem?_getD, List.getElem?_eq_none (by omega)]
  rfl
theorem goodT_of {D : TuD} (h : goodTu D = true) : GoodT D := by
  unfold goodTu at h
  simp only [Bool.and_eq_true] at h
  obtain ⟨h1, h2, h3, h4, h5, h6, h7, h8, h9⟩ := h
  unfold gt1 at h1
  unfold gt3 at h3
  unfold gt4 at h4
  unfold gt5 at h5
  unfold gt8 at h8
  rw [decide_eq_true_eq] at h1 h3 h4 h5 h8
  refine ⟨by omega, all_fl h2, h3, h4, h5, fun i => ?_, fun i => ?_, h8, fun i hi => ?_⟩
  · by_cases hi : i < D.f2.length
    · exact all_fl h6 i hi
    · rw [fl_out hi]; omega
  · by_cases hi : i < D.f3.length
    · exact all_fl h7 i hi
    · rw [fl_out hi]; omega
  · unfold gt9 at h9
    rw [List.all_eq_true] at h9
    have := h9 i (List.mem_range.2 hi)
    unfold qokT at this
    simp only [Bool.and_eq_true, Bool.or_eq_true, decide_eq_true_eq] at this
    exact ⟨this.1, all_fl this.2.1, fun e => this.2.2.elim (fun h => by omega) (fun h => h)⟩
theorem row_in {D : TuD} (h : GoodT D) (i : Nat) (k : Nat) : 0 ≤ psum (fl (D.f1.getD i [])) k ∧ psum (fl (D.f1.getD i [])) k ≤ 600 := by
  by_cases hi : i < D.f1.length
  · obtain ⟨h1, h2, _⟩ := h.k i hi
    have key : ∀ m, 0 ≤ psum (fl (D.f1.getD i [])) m ∧ psum (fl (D.f1.getD i [])) m ≤ 20 * (min m (D.f1.getD i []).length : Nat) := by
      intro m
      induction m with
      | zero => simp [psum]
      | succ m ih =>
        have e : psum (fl (D.f1.getD i [])) (m + 1) = psum (fl (D.f1.getD i [])) m + fl (D.f1.getD i []) m := rfl
        by_cases hm : m < (D.f1.getD i []).length
        · have := h2 m hm
          rw [e]
          omega
        · rw [e, fl_out hm]
          omega
    have := key k
    omega
  · have e : D.f1.getD i [] = [] := by rw [List.getD_eq_getElem?_getD, List.getElem?_eq_none (by omega)]; rfl
    rw [e]
    have key : ∀ m, psum (fl []) m = 0 := by
      intro m
      induction m with
      | zero => rfl
      | succ m ih => show psum (fl []) m + fl [] m = 0; rw [ih, fl_out (by simp)]; rfl
    rw [key]
    omega
theorem wait_inT {D : TuD} (h : GoodT D) (k : Nat) : 0 ≤ psum (rowT D) k ∧ psum (rowT D) k ≤ 600 * k := psum_in (f := rowT D) (b := 600) (fun i => row_in h i _) k
theorem sent_inT {D : TuD} (h : GoodT D) (k : Nat) : 0 ≤ psum (fl D.f3) k ∧ psum (fl D.f3) k ≤ 1000000 * k := psum_in (f := fl D.f3) (b := 1000000) h.s k
/-- What TotalSent tells. -/
def totV (D : TuD) : Int := bif goodTu D then totT D else 0
/-- What WaitingIn tells. -/
def waitV (D : TuD) : Int := bif goodTu D then waitT D else 0
end Go.Proofs.Ytnnmiddhbeiogba
