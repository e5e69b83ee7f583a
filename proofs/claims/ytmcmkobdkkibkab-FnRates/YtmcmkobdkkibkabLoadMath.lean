/-
  The load of tasks, task by task, and its bounds: plain arithmetic, no program.
-/
import Derived.Test.YtmcmkobdkkibkabAgnLoad
namespace Go.Proofs.Ytmcmkobdkkibkab

theorem ipairs_take (xs : List AgEl) {k : Nat} (h : k < xs.length) : pairsA (xs.take (k + 1)) = pairsA (xs.take k) ++ [((needA xs k).toNat, (everyA xs k).toNat)] := by
  unfold pairsA
  rw [List.take_succ_eq_append_getElem h, List.map_append]
  congr 1
  simp [needA, everyA, List.getD_eq_getElem?_getD, h]
theorem iload_bound : ∀ (L : List (Nat × Nat)), (∀ x, x ∈ L → x.1 ≤ 10 ∧ x.2 ≤ 40) → (loadF L.reverse).2 ≤ 40 ^ L.length ∧ (loadF L.reverse).1 ≤ L.length * 10 * 40 ^ L.length
  | [], _ => by decide
  | x :: L, h => by
    obtain ⟨h1, h2⟩ := iload_bound L fun y hy => h y (List.mem_cons_of_mem _ hy)
    obtain ⟨g1, g2⟩ := h x (by simp)
    rw [List.reverse_cons, loadF_snoc, List.length_cons]
    obtain ⟨s, hs⟩ : ∃ s, s = loadF L.reverse := ⟨_, rfl⟩
    rw [← hs] at h1 h2 ⊢
    obtain ⟨P, hP⟩ : ∃ P, P = 40 ^ L.length := ⟨_, rfl⟩
    rw [← hP] at h1 h2
    have e : 40 ^ (L.length + 1) = P * 40 := by rw [Nat.pow_succ, hP]
    rw [e]
    unfold loadStep
    simp only
    constructor
    · exact Nat.le_trans (Nat.div_le_self _ _) (Nat.mul_le_mul h1 g2)
    · refine Nat.le_trans (Nat.div_le_self _ _) ?_
      have k1 : s.1 * x.2 ≤ L.length * 10 * P * 40 := Nat.mul_le_mul h2 g2
      have k2 : x.1 * s.2 ≤ 10 * P := Nat.mul_le_mul g1 h1
      have k3 : (L.length + 1) * 10 * (P * 40) = L.length * 10 * P * 40 + 10 * (P * 40) := by
        rw [Nat.add_mul, Nat.add_mul, Nat.one_mul, Nat.mul_assoc (L.length * 10) P 40]
      rw [k3]
      omega
theorem iload_small {xs : List AgEl} (h : goodA xs = true) (k : Nat) (hk : k ≤ xs.length) : (loadF (pairsA (xs.take k))).2 ≤ 102400000 ∧ (loadF (pairsA (xs.take k))).1 ≤ 5120000000 := by
  have hl := goodA_len h
  have hb := iload_bound (pairsA (xs.take k)).reverse fun x hx => by
    rw [List.mem_reverse] at hx
    obtain ⟨y, hy, rfl⟩ := List.mem_map.1 hx
    have := goodA_mem h (List.mem_of_mem_take hy)
    show y.1.toNat ≤ 10 ∧ y.2.toNat ≤ 40
    omega
  rw [List.reverse_reverse, List.length_reverse] at hb
  have hn : (pairsA (xs.take k)).length = k := by rw [pairsA, List.length_map, List.length_take]; omega
  rw [hn] at hb
  have hp : 40 ^ k ≤ 102400000 := Nat.le_trans (Nat.pow_le_pow_right (by omega) (by omega : k ≤ 5)) (by decide)
  refine ⟨Nat.le_trans hb.1 hp, Nat.le_trans hb.2 ?_⟩
  have := Nat.mul_le_mul (show k * 10 ≤ 50 by omega) hp
  omega
theorem iload_low {xs : List AgEl} (h : goodA xs = true) (k : Nat) : 0 < (loadF (pairsA (xs.take k))).2 :=
  (loadOk_of (pairsA (xs.take k)) fun x hx => by
    obtain ⟨y, hy, rfl⟩ := List.mem_map.1 hx
    have := goodA_mem h (List.mem_of_mem_take hy)
    show 0 < y.2.toNat
    omega).low
end Go.Proofs.Ytmcmkobdkkibkab
