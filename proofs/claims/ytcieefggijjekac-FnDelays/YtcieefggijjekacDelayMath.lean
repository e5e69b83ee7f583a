/-
  What conforms waits no longer than its burst takes to be served, as WorstDelay tells it (Cruz): plain arithmetic, no program.
-/
import Derived.Test.YtcieefggijjekacShapedMath
namespace Go.Proofs.Ytcieefggijjekac
open Go.RowKit

theorem kOf_congr {o p : Nat → Int} {c : Int} {n : Nat} (h : ∀ i, i < n → o i = p i) : kOf o c n = kOf p c n := by
  obtain ⟨h1, h2, h3⟩ := kOf_is p c n
  refine kOf_only h1 (fun i hi => ?_) ?_
  · rw [psum_congr i fun j hj => h j (by omega)]
    exact h2 i hi
  · rcases h3 with h3 | h3
    · left
      rw [psum_congr _ fun j hj => h j (by omega)]
      exact h3
    · exact .inr h3
theorem dly_congr {f o p : Nat → Int} {n : Nat} (h : ∀ i, i < n → o i = p i) (t : Nat) : dly f o n t = dly f p n t := by
  have h1 := (kOf_is p (psum f (t + 1)) n).1
  unfold dly
  rw [kOf_congr h, psum_congr _ fun j hj => h j (by omega)]
theorem wstU_congr {f o p : Nat → Int} {n : Nat} (h : ∀ i, i < n → o i = p i) : ∀ t, wstU f o n t = wstU f p n t
  | 0 => rfl
  | t + 1 => by
    unfold wstU
    rw [wstU_congr h t, dly_congr h t]
theorem delays_yes {r d s : Int} {xs : List Int} (hb : rateB r d = true) (hf : flowB xs = true) (hc : confF r d xs = true) (h1 : r ≤ s) (h2 : s ≤ 60) :
    delF xs (goL (pgo s (fl xs)) xs.length) = true ∧ delG xs (goL (pgo s (fl xs)) xs.length) ≤ (d - 1) / s := by
  have hr := rateB_in hb
  have hp : ∀ i, 0 ≤ pgo s (fl xs) i ∧ pgo s (fl xs) i ≤ s := fun i => pgo_in (by omega) (fun i => (flowB_in hf i).1) i
  have hD : delF xs (goL (pgo s (fl xs)) xs.length) = true := by
    unfold delF outF goneF
    rw [Bool.and_eq_true, Bool.and_eq_true, Bool.and_eq_true, decide_eq_true_eq, List.all_eq_true, List.all_eq_true]
    refine ⟨⟨⟨hf, fun x hx => ?_⟩, goL_len _ _⟩, fun t ht => ?_⟩
    · obtain ⟨i, _, rfl⟩ := List.mem_map.1 hx
      have := hp i
      rw [decide_eq_true_eq]
      omega
    · have ht' := List.mem_range.1 ht
      rw [decide_eq_true_eq, psum_congr (g := pgo s (fl xs)) (t + 1) fun i hi => fl_goL (g := pgo s (fl xs)) (show i < xs.length by omega)]
      have := pgo_sum (serve := s) (f := fl xs) (t + 1)
      have := pw_nonneg (serve := s) (f := fl xs) (t + 1)
      omega
  refine ⟨hD, ?_⟩
  unfold delG
  rw [hD]
  simp only [if_true]
  rw [wstU_congr (p := pgo s (fl xs)) fun i hi => fl_goL hi]
  exact wstU_le (Int.ediv_nonneg (by omega) (by omega)) _ fun i hi => cruz ((confF_iff r d xs).1 hc) h1 (by omega) (by omega) (fun i => (flowB_in hf i).1) hi
theorem waits_le {r d s : Int} {xs : List Int} (hb : rateB r d = true) (hc : confF r d xs = true) (h1 : r ≤ s) {i : Nat} (hi : i < xs.length) : fl (goL (fun t => pw s (fl xs) (t + 1)) xs.length) i ≤ d := by
  have hr := rateB_in hb
  rw [fl_goL hi]
  rcases pw_le ((confF_iff r d xs).1 hc) h1 (t := i + 1) (by omega) with h | h <;> omega
theorem delG_in (xs ys : List Int) : 0 ≤ delG xs ys := by
  unfold delG
  split
  · have : ∀ t, 0 ≤ wstU (fl xs) (fl ys) xs.length t := by
      intro t
      induction t with
      | zero => exact Int.le_refl _
      | succ t ih => unfold wstU; split <;> omega
    exact this _
  · exact Int.le_refl _
end Go.Proofs.Ytcieefggijjekac
