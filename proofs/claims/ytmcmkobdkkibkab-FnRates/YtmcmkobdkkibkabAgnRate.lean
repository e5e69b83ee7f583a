/-
  Where some order has all in time the one by how often they come has, and then there is no more load than one (Liu and Layland): plain arithmetic, no program.
-/
import Derived.Test.YtmcmkobdkkibkabByMath
namespace Go.Proofs.Ytmcmkobdkkibkab

/-- Each task has some length within how often it comes that the recurrence does not leave. -/
def InT (C T : Nat → Int) (n : Nat) : Prop := ∀ k, k < n → ∃ r, 0 ≤ r ∧ r ≤ T k ∧ fR C T k r ≤ r
theorem inT_iff {C T : Nat → Int} {n : Nat} (h : Tasks C T n) : (∀ k, k < n → 0 ≤ longC C T k ∧ longC C T k ≤ T k) ↔ InT C T n := by
  constructor
  · intro hl k hk
    obtain ⟨h0, h1⟩ := hl k hk
    rcases longC_is h hk with ⟨e, _⟩ | ⟨_, _, e, _⟩
    · omega
    · exact ⟨_, h0, h1, by omega⟩
  · intro hi k hk
    obtain ⟨r, h0, h1, h2⟩ := hi k hk
    have ht := h.every k hk
    rcases longC_is h hk with ⟨_, hn⟩ | ⟨g0, _, _, hl⟩
    · exact absurd h2 (hn r h0 (by omega))
    · exact ⟨g0, Int.le_trans (hl r h0 h2) h1⟩
theorem sumL_le {g : Nat → Int} : ∀ (N : Nat) (L : List Nat), (∀ i, i < N → 0 ≤ g i) → L.Nodup → (∀ x, x ∈ L → x < N) → sumL g L ≤ sumI g N
  | 0, L, _, _, h => by
    have : L = [] := by
      cases L with
      | nil => rfl
      | cons x L => exact absurd (h x (by simp)) (by omega)
    subst this
    exact Int.le_refl _
  | N + 1, L, hg, hn, h => by
    simp only [sumI]
    by_cases hN : N ∈ L
    · have hp := List.perm_cons_erase hN
      have hs : sumL g L = g N + sumL g (L.erase N) := by rw [sumL_perm hp]; rfl
      have hn' : (L.erase N).Nodup := hn.erase N
      have ih := sumL_le N (L.erase N) (fun i hi => hg i (by omega)) hn' fun x hx => by
        have h1 := h x (List.mem_of_mem_erase hx)
        have h2 : x ≠ N := fun e => by
          subst e
          exact (List.Nodup.not_mem_erase hn) hx
        omega
      omega
    · have ih := sumL_le N L (fun i hi => hg i (by omega)) hn fun x hx => by
        have h1 := h x hx
        have h2 : x ≠ N := fun e => hN (by rw [← e]; exact hx)
        omega
      have := hg N (by omega)
      omega
theorem max_mem : ∀ (L : List Nat), L ≠ [] → ∃ j, j ∈ L ∧ ∀ x, x ∈ L → x ≤ j
  | [], h => absurd rfl h
  | [a], _ => ⟨a, by simp, fun x hx => by simp at hx; omega⟩
  | a :: b :: L, _ => by
    obtain ⟨j, hj, hm⟩ := max_mem (b :: L) (by simp)
    by_cases h : j ≤ a
    · exact ⟨a, by simp, fun x hx => by
        rcases List.mem_cons.1 hx with rfl | hx
        · exact Nat.le_refl _
        · exact Nat.le_trans (hm x hx) h⟩
    · exact ⟨j, List.mem_cons_of_mem _ hj, fun x hx => by
        rcases List.mem_cons.1 hx with rfl | hx
        · omega
        · exact hm x hx⟩
theorem sumI_take (g : Nat → Int) (o : List Nat) : ∀ m, m ≤ o.length → sumI (fun i => g (o.getD i 0)) m = sumL g (o.take m)
  | 0, _ => rfl
  | m + 1, h => by
    simp only [sumI]
    rw [sumI_take g o m (by omega), List.take_succ_eq_append_getElem (by omega), sumL_app]
    simp [sumL, List.getD_eq_getElem?_getD, show m < o.length by omega]
/-- Liu and Layland. -/
theorem rates {C T : Nat → Int} {n : Nat} (h : Tasks C T n) (hi : InT C T n) {o : List Nat} (ho : o.Perm (List.range n)) (hs : o.Pairwise fun a b => T a ≤ T b) : InT (fun i => C (o.getD i 0)) (fun i => T (o.getD i 0)) n := by
  intro m hm
  have hl : o.length = n := by rw [ho.length_eq, List.length_range]
  have hnd : o.Nodup := ho.nodup_iff.2 List.nodup_range
  have hlt : ∀ x, x ∈ o → x < n := fun x hx => List.mem_range.1 (ho.mem_iff.1 hx)
  have hmo : m < o.length := by omega
  obtain ⟨k, hk⟩ : ∃ k, k = o.getD m 0 := ⟨_, rfl⟩
  have hko : o.take (m + 1) = o.take m ++ [k] := by
    rw [List.take_succ_eq_append_getElem hmo, hk]
    simp [List.getD_eq_getElem?_getD, hmo]
  have hkin : k ∈ o := by
    rw [hk, List.getD_eq_getElem?_getD, List.getElem?_eq_getElem hmo]
    exact List.getElem_mem _
  obtain ⟨j, hj, hmax⟩ := max_mem (o.take (m + 1)) (by rw [hko]; simp)
  have hjn := hlt j (List.mem_of_mem_take hj)
  obtain ⟨r, h0, h1, h2⟩ := hi j hjn
  have hTj : T j ≤ T k := by
    rw [hko] at hj
    rcases List.mem_append.1 hj with hj | hj
    · have hp : (o.take m ++ [k]).Pairwise fun a b => T a ≤ T b := by rw [← hko]; exact hs.sublist (List.take_sublist _ _)
      exact (List.pairwise_append.1 hp).2.2 j hj k (by simp)
    · rw [List.mem_singleton.1 hj]
      exact Int.le_refl _
  have hr1 : 1 ≤ r := by
    have := fR_ge h hjn h0
    have := h.need j hjn
    omega
  obtain ⟨g, hg⟩ : ∃ g : Nat → Int, g = fun i => C i * cl r (T i) := ⟨_, rfl⟩
  have hg0 : ∀ i, i < n → 0 ≤ g i := fun i hi' => by rw [hg]; exact Int.mul_nonneg (by have := h.need i hi'; omega) (cl_nonneg (h.one hi') h0)
  refine ⟨r, h0, by show r ≤ T (o.getD m 0); rw [← hk]; omega, ?_⟩
  have hnH : (o.take (m + 1)).Nodup := (List.take_sublist _ _).nodup hnd
  have hp := List.perm_cons_erase hj
  have hsum : sumL g (o.take (m + 1)) = g j + sumL g ((o.take (m + 1)).erase j) := by rw [sumL_perm hp]; rfl
  have hle := sumL_le (g := g) j ((o.take (m + 1)).erase j) (fun i hi' => hg0 i (by omega)) (hnH.erase j) fun x hx => by
    have h3 := hmax x (List.mem_of_mem_erase hx)
    have h4 : x ≠ j := fun e => by
      subst e
      exact (List.Nodup.not_mem_erase hnH) hx
    omega
  have hgj : g j = C j := by rw [hg]; show C j * cl r (T j) = C j; rw [cl_one hr1 h1, Int.mul_one]
  have hgk : C k ≤ g k := by
    rw [hg]
    show C k ≤ C k * cl r (T k)
    have h5 := Int.mul_le_mul_of_nonneg_left (cl_pos (h.one (hlt k hkin)) hr1) (show 0 ≤ C k by have := h.need k (hlt k hkin); omega)
    rw [Int.mul_one] at h5
    exact h5
  have hcut : sumL g (o.take (m + 1)) = sumL g (o.take m) + g k := by rw [hko, sumL_app]; simp [sumL]
  have hin : sumI (fun i => g (o.getD i 0)) m = sumL g (o.take m) := sumI_take g o m (by omega)
  have h2' : C j + sumI g j ≤ r := by rw [hg]; exact h2
  show C (o.getD m 0) + sumI (fun i => C (o.getD i 0) * cl r (T (o.getD i 0))) m ≤ r
  have e : sumI (fun i => C (o.getD i 0) * cl r (T (o.getD i 0))) m = sumI (fun i => g (o.getD i 0)) m := by rw [hg]
  rw [e, hin, ← hk]
  omega
/-- All together: with some r no more is to be done in r units than they are. -/
theorem inT_all {C T : Nat → Int} {n : Nat} (h : Tasks C T n) (hi : InT C T n) (hn : 0 < n) : ∃ r, 1 ≤ r ∧ sumI (fun i => C i * cl r (T i)) n ≤ r := by
  obtain ⟨k, rfl⟩ : ∃ k, n = k + 1 := ⟨n - 1, by omega⟩
  obtain ⟨r, h0, h1, h2⟩ := hi k (by omega)
  have hr1 : 1 ≤ r := by
    have := fR_ge h (k := k) (by omega) h0
    have := h.need k (by omega)
    omega
  refine ⟨r, hr1, ?_⟩
  unfold fR at h2
  simp only [sumI]
  rw [cl_one hr1 h1, Int.mul_one]
  omega
end Go.Proofs.Ytmcmkobdkkibkab
