/-
  Whether a flow conforms, looked at from each of its ticks on: plain arithmetic, no program.
-/
import Derived.Test.YtcieefggijjekacDelFns
namespace Go.Proofs.Ytcieefggijjekac

def cf1 (r d : Int) (ys : List Int) : Bool := (List.range ys.length).all fun b => decide (psum (fl ys) (b + 1) ≤ d + r * (b : Int))
theorem cf1_iff (r d : Int) (ys : List Int) : cf1 r d ys = true ↔ ∀ b, b < ys.length → psum (fl ys) (b + 1) ≤ d + r * (b : Int) := by
  unfold cf1
  rw [List.all_eq_true]
  constructor
  · intro h b hb
    have := h b (List.mem_range.2 hb)
    rw [decide_eq_true_eq] at this
    exact this
  · intro h b hb
    rw [decide_eq_true_eq]
    exact h b (List.mem_range.1 hb)
theorem cf1_false {r d : Int} {ys : List Int} {b : Nat} (hb : b < ys.length) (h : d + r * (b : Int) < psum (fl ys) (b + 1)) : cf1 r d ys = false := by
  cases e : cf1 r d ys with
  | false => rfl
  | true =>
    have := (cf1_iff r d ys).1 e b hb
    omega
theorem fl_drop (xs : List Int) (k i : Nat) : fl (xs.drop k) i = fl xs (k + i) := by
  unfold fl
  simp [List.getD_eq_getElem?_getD, List.getElem?_drop]
theorem psum_drop (xs : List Int) (k : Nat) : ∀ m, psum (fl (xs.drop k)) m = psum (fl xs) (k + m) - psum (fl xs) k
  | 0 => by simp [psum]
  | m + 1 => by
    have ih := psum_drop xs k m
    have e1 : psum (fl (xs.drop k)) (m + 1) = psum (fl (xs.drop k)) m + fl (xs.drop k) m := rfl
    have e2 : psum (fl xs) (k + (m + 1)) = psum (fl xs) (k + m) + fl xs (k + m) := rfl
    rw [e1, e2, ih, fl_drop]
    omega
theorem flowB_drop {xs : List Int} (h : flowB xs = true) (k : Nat) : flowB (xs.drop k) = true := by
  unfold flowB at h ⊢
  rw [Bool.and_eq_true, decide_eq_true_eq, List.all_eq_true] at h ⊢
  refine ⟨by rw [List.length_drop]; omega, fun x hx => h.2 x (List.mem_of_mem_drop hx)⟩
theorem confF_no {r d : Int} {xs : List Int} {k : Nat} (hk : k < xs.length) (h : cf1 r d (xs.drop k) = false) : confF r d xs = false := by
  cases e : confF r d xs with
  | false => rfl
  | true =>
    exfalso
    have h' : ¬ cf1 r d (xs.drop k) = true := by rw [h]; simp
    apply h'
    rw [cf1_iff]
    intro b hb
    rw [List.length_drop] at hb
    unfold confF at e
    rw [List.all_eq_true] at e
    have e1 := e k (List.mem_range.2 hk)
    rw [List.all_eq_true] at e1
    have e2 := e1 (k + b) (List.mem_range.2 (by omega))
    rw [decide_eq_true_eq] at e2
    have e3 := e2 (by omega)
    rw [psum_drop, show k + (b + 1) = k + b + 1 by omega]
    rw [show ((k + b : Nat) : Int) - (k : Int) = (b : Int) by omega] at e3
    exact e3
theorem confF_yes {r d : Int} {xs : List Int} (h : ∀ k, k < xs.length → cf1 r d (xs.drop k) = true) : confF r d xs = true := by
  unfold confF
  rw [List.all_eq_true]
  intro a ha
  rw [List.all_eq_true]
  intro b hb
  rw [decide_eq_true_eq]
  intro hab
  have h1 := (cf1_iff _ _ _).1 (h a (List.mem_range.1 ha)) (b - a) (by rw [List.length_drop]; have := List.mem_range.1 hb; omega)
  rw [psum_drop, show a + (b - a + 1) = b + 1 by omega, show ((b - a : Nat) : Int) = (b : Int) - a by omega] at h1
  exact h1
end Go.Proofs.Ytcieefggijjekac
