/-
  What is told of shaped flows, and of buckets that were ticked, taken from, or new: plain arithmetic, no program.
-/
import Derived.Test.YtcieefggijjekacDelFns
import Derived.Test.YtcieefggijjekacBkForm
namespace Go.Proofs.Ytcieefggijjekac
open Go.RowKit

theorem fl_goL {g : Nat → Int} {n i : Nat} (h : i < n) : fl (goL g n) i = g i := goL_get h
theorem goes_flow {r d : Int} {xs : List Int} (hb : rateB r d = true) (hf : flowB xs = true) : flowB (goL (goes r d (fl xs)) xs.length) = true := by
  have h1 := rateB_in hb
  have h2 := flowB_len hf
  unfold flowB
  rw [Bool.and_eq_true, decide_eq_true_eq, goL_len, List.all_eq_true]
  refine ⟨h2, fun x hx => ?_⟩
  obtain ⟨i, _, rfl⟩ := List.mem_map.1 hx
  have := goes_in (rate := r) (depth := d) (f := fl xs) (by omega) (by omega) (fun i => (flowB_in hf i).1) i
  rw [decide_eq_true_eq]
  omega
theorem confF_iff (r d : Int) (xs : List Int) : confF r d xs = true ↔ Conf r d (fl xs) xs.length := by
  unfold confF Conf
  rw [List.all_eq_true]
  constructor
  · intro h a b hab hb
    have h1 := h a (List.mem_range.2 (by omega))
    rw [List.all_eq_true] at h1
    have h2 := h1 b (List.mem_range.2 hb)
    rw [decide_eq_true_eq] at h2
    exact h2 hab
  · intro h a ha
    rw [List.all_eq_true]
    intro b hb
    rw [decide_eq_true_eq]
    exact fun hab => h a b hab (List.mem_range.1 hb)
theorem goes_confF {r d : Int} {xs : List Int} (hb : rateB r d = true) (hf : flowB xs = true) : confF r d (goL (goes r d (fl xs)) xs.length) = true := by
  have h1 := rateB_in hb
  rw [confF_iff, goL_len]
  exact conf_congr (fun i hi => (fl_goL hi).symm) (goes_conf (by omega) (by omega) (fun i => (flowB_in hf i).1) _)
theorem confF_same {r d : Int} {xs : List Int} (hb : rateB r d = true) (hf : flowB xs = true) : confF r d xs = decide (goL (goes r d (fl xs)) xs.length = xs) := by
  have h1 := rateB_in hb
  have h2 := conf_iff (rate := r) (depth := d) (f := fl xs) (n := xs.length) (by omega) (by omega) (fun i => (flowB_in hf i).1)
  rw [Bool.eq_iff_iff, confF_iff, h2, decide_eq_true_eq]
  constructor
  · intro h
    refine List.ext_getElem (goL_len _ _) fun i h3 h4 => ?_
    have h5 := h i h4
    have h6 : (goL (goes r d (fl xs)) xs.length)[i] = goes r d (fl xs) i := by simp [goL]
    rw [h6, h5]
    simp [fl, List.getD_eq_getElem?_getD, h4]
  · intro h i hi
    have := fl_goL (g := goes r d (fl xs)) hi
    rw [h] at this
    exact this.symm
theorem psum_goL (g : Nat → Int) (n : Nat) : psum (fl (goL g n)) (goL g n).length = psum g n := by
  rw [goL_len]
  exact psum_congr n fun i hi => fl_goL hi
theorem shape_sum {r d : Int} {xs : List Int} (hb : rateB r d = true) (hf : flowB xs = true) {k : Nat} (hk : xs.length = k + 1) :
    psum (fl (goL (goes r d (fl xs)) xs.length)) (goL (goes r d (fl xs)) xs.length).length + fl (goL (fun t => (sh r d (fl xs) (t + 1)).2) xs.length) k = psum (fl xs) xs.length ∧ 0 ≤ psum (fl (goL (goes r d (fl xs)) xs.length)) (goL (goes r d (fl xs)) xs.length).length ∧ psum (fl (goL (goes r d (fl xs)) xs.length)) (goL (goes r d (fl xs)) xs.length).length ≤ 10000 ∧ 0 ≤ fl (goL (fun t => (sh r d (fl xs) (t + 1)).2) xs.length) k ∧ fl (goL (fun t => (sh r d (fl xs) (t + 1)).2) xs.length) k ≤ 10000 := by
  have h1 := rateB_in hb
  have hl := flowB_len hf
  have hs := goes_sum (rate := r) (depth := d) (f := fl xs) xs.length
  have hp := psum_in (fun i => flowB_in hf i) xs.length
  have hg := psum_in (f := goes r d (fl xs)) (b := d) (fun i => goes_in (by omega) (by omega) (fun i => (flowB_in hf i).1) i) xs.length
  have hi := (sh_in (rate := r) (depth := d) (f := fl xs) (by omega) (by omega) (fun i => (flowB_in hf i).1) xs.length).2
  rw [psum_goL, fl_goL (by omega), ← hk]
  refine ⟨hs, hg.1, ?_, hi, ?_⟩ <;> omega
theorem tick_good {x : BkEl} (h : bktB x = true) : bktB (tickK x) = true := by
  unfold bktB at *
  rw [Bool.and_eq_true, decide_eq_true_eq] at *
  obtain ⟨h1, h2⟩ := h
  have h3 := rateB_in h1
  refine ⟨h1, ?_⟩
  show 0 ≤ lst7 x.2.1 (x.2.2 + x.1) ∧ lst7 x.2.1 (x.2.2 + x.1) ≤ x.2.1
  unfold lst7
  split <;> omega
theorem take_good {x : BkEl} {m : Int} (h : takeF x m = true) : bktB (x.1, x.2.1, x.2.2 - m) = true ∧ IntKind.i64.wrap (((x.1, x.2.1, x.2.2 - m) : BkEl).2.2 + m) = x.2.2 := by
  unfold takeF at h
  rw [Bool.and_eq_true, decide_eq_true_eq] at h
  obtain ⟨h0, h3⟩ := h
  unfold bktB at h0
  rw [Bool.and_eq_true, decide_eq_true_eq] at h0
  obtain ⟨h1, h2⟩ := h0
  have h4 := rateB_in h1
  constructor
  · unfold bktB
    rw [Bool.and_eq_true, decide_eq_true_eq]
    exact ⟨h1, by show 0 ≤ x.2.2 - m ∧ x.2.2 - m ≤ x.2.1; omega⟩
  · show IntKind.i64.wrap (x.2.2 - m + m) = x.2.2
    rw [IntKind.wrap_i64]
    omega
theorem new_good {r d : Int} (h : rateB r d = true) : bktB (r, d, d) = true ∧ (((r, d, d) : BkEl).2.2 == d) = true := by
  have h1 := rateB_in h
  constructor
  · unfold bktB
    rw [Bool.and_eq_true, decide_eq_true_eq]
    exact ⟨h, by show 0 ≤ d ∧ d ≤ d; omega⟩
  · simp
end Go.Proofs.Ytcieefggijjekac
