/-
  Work for several hands (Graham): plain arithmetic, no program.
-/
import Derived.Test.YtdlkilacnnjglaaLeastAt
namespace Go.Proofs.Ytdlkilacnnjglaa


/-- What of ks lies on hand h. -/
def ld (p g : Nat → Nat) : List Nat → Nat → Nat
  | [], _ => 0
  | k :: ks, h => (if g k = h then p k else 0) + ld p g ks h
def sumK (p : Nat → Nat) : List Nat → Nat
  | [] => 0
  | k :: ks => p k + sumK p ks
/-- The sum over all hands. -/
def allH (f : Nat → Nat) : Nat → Nat
  | 0 => 0
  | n + 1 => allH f n + f n
theorem allH_add (f f' : Nat → Nat) : ∀ n, allH (fun h => f h + f' h) n = allH f n + allH f' n
  | 0 => rfl
  | n + 1 => by simp only [allH, allH_add f f' n]; omega
theorem allH_zero : ∀ n, allH (fun _ => 0) n = 0
  | 0 => rfl
  | n + 1 => by simp only [allH, allH_zero n]
theorem allH_one (c x : Nat) : ∀ n, allH (fun h => if x = h then c else 0) n = if x < n then c else 0
  | 0 => by simp [allH]
  | n + 1 => by
    simp only [allH, allH_one c x n]
    by_cases h1 : x < n
    · rw [if_pos h1, if_neg (by omega), if_pos (by omega)]; rfl
    · by_cases h2 : x = n
      · rw [if_neg h1, if_pos h2, if_pos (by omega)]; omega
      · rw [if_neg h1, if_neg h2, if_neg (by omega)]
theorem allH_ge {f : Nat → Nat} {c : Nat} : ∀ {n}, (∀ h, h < n → c ≤ f h) → n * c ≤ allH f n
  | 0, _ => by simp [allH]
  | n + 1, hh => by
    have := allH_ge (n := n) fun h hn => hh h (by omega)
    have := hh n (by omega)
    simp only [allH, Nat.add_mul]; omega
theorem allH_le {f : Nat → Nat} {c : Nat} : ∀ {n}, (∀ h, h < n → f h ≤ c) → allH f n ≤ n * c
  | 0, _ => by simp [allH]
  | n + 1, hh => by
    have := allH_le (n := n) fun h hn => hh h (by omega)
    have := hh n (by omega)
    simp only [allH, Nat.add_mul]; omega
theorem ld_all (p g : Nat → Nat) (H : Nat) : ∀ ks, (∀ k, k ∈ ks → g k < H) → allH (ld p g ks) H = sumK p ks
  | [], _ => allH_zero H
  | k :: ks, h => by
    have ih := ld_all p g H ks fun x hx => h x (List.mem_cons_of_mem _ hx)
    have hk := h k (List.mem_cons_self ..)
    have : allH (ld p g (k :: ks)) H = allH (fun h => (if g k = h then p k else 0) + ld p g ks h) H := rfl
    rw [this, allH_add, allH_one, if_pos hk, ih]
    rfl
theorem ld_app (p g : Nat → Nat) (a b : List Nat) (h : Nat) : ld p g (a ++ b) h = ld p g a h + ld p g b h := by
  induction a with
  | nil => simp [ld]
  | cons x a ih => simp only [List.cons_append, ld, ih]; omega
theorem sumK_app (p : Nat → Nat) (a b : List Nat) : sumK p (a ++ b) = sumK p a + sumK p b := by
  induction a with
  | nil => simp [sumK]
  | cons x a ih => simp only [List.cons_append, sumK, ih]; omega
theorem ld_perm {p g : Nat → Nat} {a b : List Nat} (hp : a.Perm b) (h : Nat) : ld p g a h = ld p g b h := by
  induction hp with
  | nil => rfl
  | cons x _ ih => simp only [ld, ih]
  | swap x y l => simp only [ld]; omega
  | trans _ _ h1 h2 => exact h1.trans h2
theorem sumK_perm {p : Nat → Nat} {a b : List Nat} (hp : a.Perm b) : sumK p a = sumK p b := by
  induction hp with
  | nil => rfl
  | cons x _ ih => simp only [sumK, ih]
  | swap x y l => simp only [sumK]; omega
  | trans _ _ h1 h2 => exact h1.trans h2
theorem ld_congr {p g g' : Nat → Nat} {ks : List Nat} (hk : ∀ k, k ∈ ks → g k = g' k) (h : Nat) : ld p g ks h = ld p g' ks h := by
  induction ks with
  | nil => rfl
  | cons x ks ih => simp only [ld, hk x (List.mem_cons_self ..), ih fun k hx => hk k (List.mem_cons_of_mem _ hx)]
theorem ld_mem {p g : Nat → Nat} {ks : List Nat} {k : Nat} (hk : k ∈ ks) : p k ≤ ld p g ks (g k) := by
  induction ks with
  | nil => simp at hk
  | cons x ks ih =>
    simp only [ld]
    rcases List.mem_cons.1 hk with rfl | h
    · simp
    · have := ih h; omega
/-- Each was given to a hand with the least so far. -/
def Least (p g : Nat → Nat) (H : Nat) (ks : List Nat) : Prop := ∀ a k b, ks = a ++ k :: b → ∀ h, h < H → ld p g a (g k) ≤ ld p g a h
theorem ld_none {p g : Nat → Nat} {b : List Nat} {h : Nat} (hb : ∀ k, k ∈ b → g k ≠ h) : ld p g b h = 0 := by
  induction b with
  | nil => rfl
  | cons x b ih => simp only [ld, if_neg (hb x (List.mem_cons_self ..)), ih fun k hk => hb k (List.mem_cons_of_mem _ hk)]
/-- The last one on a hand. -/
theorem last_on (g : Nat → Nat) (h : Nat) : ∀ ks : List Nat, (∀ k, k ∈ ks → g k ≠ h) ∨ ∃ a k b, ks = a ++ k :: b ∧ g k = h ∧ ∀ x, x ∈ b → g x ≠ h
  | [] => .inl fun _ hk => absurd hk (List.not_mem_nil)
  | x :: ks => by
    rcases last_on g h ks with hn | ⟨a, k, b, rfl, hk, hb⟩
    · by_cases hx : g x = h
      · exact .inr ⟨[], x, ks, rfl, hx, hn⟩
      · refine .inl fun k hk => ?_
        rcases List.mem_cons.1 hk with rfl | hk
        · exact hx
        · exact hn k hk
    · exact .inr ⟨x :: a, k, b, rfl, hk, hb⟩
/-- Whatever the greatest is, it ends with one that came to a hand that had the least. -/
theorem critical {p g : Nat → Nat} {H : Nat} {ks : List Nat} (hl : Least p g H ks) (h : Nat) :
    ld p g ks h = 0 ∨ ∃ a k b, ks = a ++ k :: b ∧ g k = h ∧ ld p g ks h = ld p g a h + p k ∧ ∀ j, j < H → ld p g a h ≤ ld p g a j := by
  rcases last_on g h ks with hn | ⟨a, k, b, e, hk, hb⟩
  · exact .inl (ld_none hn)
  · refine .inr ⟨a, k, b, e, hk, ?_, fun j hj => ?_⟩
    · rw [e, ld_app]; simp only [ld, if_pos hk, ld_none hb]; omega
    · have := hl a k b e j hj; rw [hk] at this; exact this
/-- Graham: in whatever order. M bounds the sums of some way g' to give them. -/
theorem graham {p g g' : Nat → Nat} {H M : Nat} {ks : List Nat} (hl : Least p g H ks) (hg : ∀ k, k ∈ ks → g k < H) (hg' : ∀ k, k ∈ ks → g' k < H) (hM : ∀ h, h < H → ld p g' ks h ≤ M) (h : Nat) (hh : h < H) :
    H * ld p g ks h + M ≤ 2 * H * M := by
  have hsum : sumK p ks ≤ H * M := by rw [← ld_all p g' H ks hg']; exact allH_le hM
  have hHM : 1 * M ≤ H * M := Nat.mul_le_mul_right _ (by omega)
  rcases critical hl h with h0 | ⟨a, k, b, e, hk, hs, hle⟩
  · rw [h0]; rw [Nat.mul_assoc]; omega
  · have hmem : k ∈ ks := by rw [e]; simp
    have hpk : p k ≤ M := Nat.le_trans (ld_mem hmem) (hM _ (hg' k hmem))
    have h1 : H * ld p g a h ≤ sumK p a := by rw [← ld_all p g H a fun x hx => hg x (by rw [e]; simp [hx])]; exact allH_ge hle
    have h2 : sumK p a + p k ≤ sumK p ks := by rw [e, sumK_app]; simp only [sumK]; omega
    rw [hs, Nat.mul_add, Nat.mul_assoc]
    have h3 : H * p k + M ≤ H * M + p k := by
      obtain ⟨c, rfl⟩ := Nat.exists_eq_add_of_le hpk
      obtain ⟨H', rfl⟩ : ∃ H', H = H' + 1 := ⟨H - 1, by omega⟩
      simp only [Nat.add_mul, Nat.mul_add]; omega
    omega
/-- Weights: two for what can stand with no other. -/
def wt (p : Nat → Nat) (M q k : Nat) : Nat := if M < p k + q then 2 else 1
theorem wt_pos (p : Nat → Nat) (M q k : Nat) : 1 ≤ wt p M q k := by unfold wt; split <;> omega
/-- How many of ks lie on a hand. -/
theorem wt_le {p g : Nat → Nat} {M q : Nat} (hq : M < 3 * q) {h : Nat} : ∀ {ks : List Nat}, (∀ k, k ∈ ks → q ≤ p k) → ld p g ks h ≤ M → ld (wt p M q) g ks h ≤ 2 := by
  intro ks hp hM
  -- none, one, two
  have key : ∀ ks : List Nat, (∀ k, k ∈ ks → q ≤ p k) → (ld (wt p M q) g ks h = 0 ∧ ld p g ks h = 0) ∨ (∃ k, q ≤ p k ∧ ld (wt p M q) g ks h = wt p M q k ∧ ld p g ks h = p k) ∨ (∃ k j, q ≤ p k ∧ q ≤ p j ∧ ld (wt p M q) g ks h = wt p M q k + wt p M q j ∧ ld p g ks h = p k + p j) ∨ 3 * q ≤ ld p g ks h := by
    intro ks
    induction ks with
    | nil => exact fun _ => .inl ⟨rfl, rfl⟩
    | cons x ks ih =>
      intro hp
      have hx := hp x (List.mem_cons_self ..)
      have ih := ih fun k hk => hp k (List.mem_cons_of_mem _ hk)
      simp only [ld]
      by_cases hg : g x = h
      · rw [if_pos hg, if_pos hg]
        rcases ih with ⟨h1, h2⟩ | ⟨k, hk, h1, h2⟩ | ⟨k, j, hk, hj, h1, h2⟩ | h3
        · exact .inr (.inl ⟨x, hx, by omega, by omega⟩)
        · exact .inr (.inr (.inl ⟨x, k, hx, hk, by omega, by omega⟩))
        · exact .inr (.inr (.inr (by omega)))
        · exact .inr (.inr (.inr (by omega)))
      · rw [if_neg hg, if_neg hg]; simpa using ih
  rcases key ks hp with ⟨h1, _⟩ | ⟨k, _, h1, _⟩ | ⟨k, j, hk, hj, h1, h2⟩ | h3
  · omega
  · rw [h1]; unfold wt; split <;> omega
  · rw [h1]; unfold wt; rw [if_neg (by omega), if_neg (by omega)]; exact Nat.le_refl 2
  · omega
theorem wt_ge {p g : Nat → Nat} {M q : Nat} (hqM : q ≤ M) {h : Nat} {ks : List Nat} (hM : M < ld p g ks h + q) : 2 ≤ ld (wt p M q) g ks h := by
  have key : ∀ ks : List Nat, (ld (wt p M q) g ks h = 0 ∧ ld p g ks h = 0) ∨ (∃ k, ld (wt p M q) g ks h = wt p M q k ∧ ld p g ks h = p k) ∨ 2 ≤ ld (wt p M q) g ks h := by
    intro ks
    induction ks with
    | nil => exact .inl ⟨rfl, rfl⟩
    | cons x ks ih =>
      simp only [ld]
      have hw := wt_pos p M q x
      by_cases hg : g x = h
      · rw [if_pos hg, if_pos hg]
        rcases ih with ⟨h1, h2⟩ | ⟨k, h1, h2⟩ | h3
        · exact .inr (.inl ⟨x, by omega, by omega⟩)
        · have := wt_pos p M q k; exact .inr (.inr (by omega))
        · exact .inr (.inr (by omega))
      · rw [if_neg hg, if_neg hg]; simpa using ih
  rcases key ks with ⟨_, h2⟩ | ⟨k, h1, h2⟩ | h3
  · omega
  · rw [h1]; unfold wt; rw [if_pos (by omega)]; omega
  · exact h3
/-- Graham: from the longest on. -/
theorem graham_long {p g g' : Nat → Nat} {H M : Nat} {ks : List Nat} (hl : Least p g H ks) (hg : ∀ k, k ∈ ks → g k < H) (hg' : ∀ k, k ∈ ks → g' k < H) (hM : ∀ h, h < H → ld p g' ks h ≤ M)
    (hd : ∀ a k b, ks = a ++ k :: b → ∀ x, x ∈ a → p k ≤ p x) (h : Nat) (hh : h < H) :
    3 * H * ld p g ks h + M ≤ 4 * H * M := by
  have hsum : sumK p ks ≤ H * M := by rw [← ld_all p g' H ks hg']; exact allH_le hM
  have hHM : 1 * M ≤ H * M := Nat.mul_le_mul_right _ (by omega)
  have e4 : 4 * H * M = 4 * (H * M) := Nat.mul_assoc ..
  have e3 : ∀ t, 3 * H * t = 3 * (H * t) := fun t => Nat.mul_assoc ..
  rw [e4, e3]
  rcases critical hl h with h0 | ⟨a, k, b, e, hk, hs, hle⟩
  · rw [h0]; omega
  · have hmem : k ∈ ks := by rw [e]; simp
    have hpk : p k ≤ M := Nat.le_trans (ld_mem hmem) (hM _ (hg' k hmem))
    have h1 : H * ld p g a h ≤ sumK p a := by rw [← ld_all p g H a fun x hx => hg x (by rw [e]; simp [hx])]; exact allH_ge hle
    have h2 : sumK p a + p k ≤ sumK p ks := by rw [e, sumK_app]; simp only [sumK]; omega
    by_cases hq : M < 3 * p k
    · -- all of them are great: then it is as good as any
      have hfit : ld p g ks h ≤ M := by
        rw [hs]
        refine Nat.le_of_not_lt fun hbad => ?_
        have hall : ∀ x, x ∈ a ++ [k] → p k ≤ p x := by
          intro x hx
          rcases List.mem_append.1 hx with hx | hx
          · exact hd a k b e x hx
          · simp at hx; subst hx; exact Nat.le_refl _
        have u1 : sumK (wt p M (p k)) (a ++ [k]) ≤ H * 2 := by
          rw [← ld_all _ g' H (a ++ [k]) fun x hx => hg' x (by rw [e]; simp at hx ⊢; rcases hx with h | h <;> simp [h])]
          refine allH_le fun j hj => wt_le hq hall ?_
          have := hM j hj
          rw [e, show a ++ k :: b = (a ++ [k]) ++ b by simp, ld_app] at this
          omega
        have u2 : H * 2 ≤ sumK (wt p M (p k)) a := by
          rw [← ld_all _ g H a fun x hx => hg x (by rw [e]; simp [hx])]
          exact allH_ge fun j hj => wt_ge hpk (by have := hle j hj; omega)
        have u3 := wt_pos p M (p k) k
        rw [sumK_app] at u1
        simp only [sumK] at u1
        omega
      have : H * ld p g ks h ≤ H * M := Nat.mul_le_mul_left _ hfit
      omega
    · rw [hs, Nat.mul_add]
      have h3 : 3 * (H * p k) + M ≤ H * M + 3 * p k := by
        obtain ⟨c, hc⟩ := Nat.exists_eq_add_of_le (Nat.le_of_not_lt hq)
        obtain ⟨H', rfl⟩ : ∃ H', H = H' + 1 := ⟨H - 1, by omega⟩
        subst hc
        simp only [Nat.add_mul, Nat.mul_add]
        have : H' * (3 * p k) = 3 * (H' * p k) := by rw [Nat.mul_left_comm]
        omega
      omega

/-! # The same over lists -/
def maxN : List Nat → Nat
  | [] => 0
  | x :: s => max x (maxN s)
theorem maxN_ge : ∀ (s : List Nat) h, s.getD h 0 ≤ maxN s
  | [], h => by simp
  | x :: s, 0 => by simp only [List.getD_cons_zero, maxN]; omega
  | x :: s, h + 1 => by have := maxN_ge s h; simp only [List.getD_cons_succ, maxN]; omega
theorem maxN_le {c : Nat} : ∀ {s : List Nat}, (∀ h, h < s.length → s.getD h 0 ≤ c) → maxN s ≤ c
  | [], _ => Nat.zero_le _
  | x :: s, hh => by
    have h0 := hh 0 (by simp)
    have := maxN_le (s := s) fun h hs => by have := hh (h + 1) (by simpa using hs); simpa using this
    simp only [List.getD_cons_zero] at h0
    simp only [maxN]; omega
theorem maxN_at : ∀ {s : List Nat}, 0 < s.length → ∃ h, h < s.length ∧ maxN s = s.getD h 0
  | [x], _ => ⟨0, by simp, by simp [maxN]⟩
  | x :: y :: s, _ => by
    obtain ⟨h, hh, e⟩ := maxN_at (s := y :: s) (by simp)
    by_cases hx : maxN (y :: s) ≤ x
    · exact ⟨0, by simp, by show max x (maxN (y :: s)) = _; simp only [List.getD_cons_zero]; omega⟩
    · exact ⟨h + 1, by simp at hh ⊢; omega, by show max x (maxN (y :: s)) = _; simp only [List.getD_cons_succ, ← e]; omega⟩
/-- The sums of the first i. -/
def spanP (l g : List Nat) (H : Nat) : Nat → List Nat
  | 0 => List.replicate H 0
  | i + 1 => addAt (spanP l g H i) (g.getD i 0) (l.getD i 0)
def spanN (l g : List Nat) (H : Nat) : Nat := maxN (spanP l g H l.length)
theorem spanP_len (l g : List Nat) (H : Nat) : ∀ i, (spanP l g H i).length = H
  | 0 => by simp [spanP]
  | i + 1 => by simp only [spanP, addAt_len, spanP_len l g H i]
theorem spanP_ld (l g : List Nat) (H : Nat) : ∀ i, (∀ k, k < i → g.getD k 0 < H) → ∀ h, (spanP l g H i).getD h 0 = ld (fun k => l.getD k 0) (fun k => g.getD k 0) (List.range i) h
  | 0, _, h => by simp only [spanP, repl_getD]; rfl
  | i + 1, hg, h => by
    simp only [spanP]
    rw [addAt_getD _ _ _ (by rw [spanP_len]; exact hg i (by omega)), spanP_ld l g H i (fun k hk => hg k (by omega)) h, List.range_succ, ld_app]
    simp only [ld]; omega
/-- One chore more to the hand with the least. -/
def giveStep (l : List Nat) (so : List Nat × List Nat) (k : Nat) : List Nat × List Nat :=
  (addAt so.1 (bestN (fun h => so.1.getD h 0) so.1.length) (l.getD k 0), so.2.set k (bestN (fun h => so.1.getD h 0) so.1.length))
def giveP (l : List Nat) (H : Nat) (ks : List Nat) : Nat → List Nat × List Nat
  | 0 => (List.replicate H 0, List.replicate l.length 0)
  | i + 1 => giveStep l (giveP l H ks i) (ks.getD i 0)
theorem giveP_len1 (l : List Nat) (H : Nat) (ks : List Nat) : ∀ i, (giveP l H ks i).1.length = H
  | 0 => by simp [giveP]
  | i + 1 => by simp only [giveP, giveStep, addAt_len, giveP_len1 l H ks i]
theorem giveP_len2 (l : List Nat) (H : Nat) (ks : List Nat) : ∀ i, (giveP l H ks i).2.length = l.length
  | 0 => by simp [giveP]
  | i + 1 => by simp only [giveP, giveStep, List.length_set, giveP_len2 l H ks i]
theorem giveP_lt (l : List Nat) {H : Nat} (hH : 0 < H) (ks : List Nat) : ∀ i k, (giveP l H ks i).2.getD k 0 < H
  | 0, k => by simp only [giveP, repl_getD]; exact hH
  | i + 1, k => by
    simp only [giveP, giveStep]
    rw [getD_setH]
    split
    · have := bestN_lt (fun h => (giveP l H ks i).1.getD h 0) (giveP l H ks i).1.length (by rw [giveP_len1]; exact hH)
      rw [giveP_len1] at this ⊢; exact this
    · exact giveP_lt l hH ks i k
theorem take_oneH (ks : List Nat) {i : Nat} (h : i < ks.length) : ks.take (i + 1) = ks.take i ++ [ks.getD i 0] := by
  rw [List.take_add_one, List.getElem?_eq_getElem h, List.getD_eq_getElem?_getD, List.getElem?_eq_getElem h]; rfl
theorem giveP_inv (l : List Nat) {H : Nat} (hH : 0 < H) (ks : List Nat) (hn : ks.Nodup) (hk : ∀ k, k ∈ ks → k < l.length) : ∀ i, i ≤ ks.length →
    (∀ h, (giveP l H ks i).1.getD h 0 = ld (fun k => l.getD k 0) (fun k => (giveP l H ks i).2.getD k 0) (ks.take i) h) ∧ Least (fun k => l.getD k 0) (fun k => (giveP l H ks i).2.getD k 0) H (ks.take i)
  | 0, _ => ⟨fun h => by simp only [giveP, repl_getD]; rfl, fun a k b e => by simp at e⟩
  | i + 1, hi => by
    obtain ⟨h1, h2⟩ := giveP_inv l hH ks hn hk i (by omega)
    have hlt : i < ks.length := by omega
    have ht := take_oneH ks hlt
    have hkn : ks.getD i 0 < l.length := hk _ (by rw [List.getD_eq_getElem?_getD, List.getElem?_eq_getElem hlt]; exact List.getElem_mem hlt)
    have hnot : ∀ k, k ∈ ks.take i → k ≠ ks.getD i 0 := by
      have : (ks.take (i + 1)).Nodup := (List.take_sublist _ _).nodup hn
      rw [ht, List.nodup_append] at this
      exact fun k hk => this.2.2 k hk _ (by simp)
    have hsame : ∀ k, k ∈ ks.take i → (giveP l H ks (i + 1)).2.getD k 0 = (giveP l H ks i).2.getD k 0 := by
      intro k hk
      simp only [giveP, giveStep]
      rw [getD_setH, if_neg]
      exact fun hh => hnot k hk hh.1
    have hown : (giveP l H ks (i + 1)).2.getD (ks.getD i 0) 0 = bestN (fun h => (giveP l H ks i).1.getD h 0) (giveP l H ks i).1.length := by
      simp only [giveP, giveStep]
      rw [getD_setH, if_pos ⟨rfl, by rw [giveP_len2]; exact hkn⟩]
    have hb := bestN_lt (fun h => (giveP l H ks i).1.getD h 0) (giveP l H ks i).1.length (by rw [giveP_len1]; exact hH)
    refine ⟨fun h => ?_, ?_⟩
    · have : (giveP l H ks (i + 1)).1.getD h 0 = (addAt (giveP l H ks i).1 (bestN (fun h => (giveP l H ks i).1.getD h 0) (giveP l H ks i).1.length) (l.getD (ks.getD i 0) 0)).getD h 0 := rfl
      rw [this, addAt_getD _ _ _ hb, ht, ld_app, h1, ld_congr hsame]
      simp only [ld]
      rw [hown]; omega
    · intro a k b e h hh
      rw [ht] at e
      rcases List.eq_nil_or_concat b with rfl | ⟨b', y, rfl⟩
      · have e2 := List.append_inj' e.symm (by simp)
        have hk2 : k = ks.getD i 0 := by simpa using e2.2
        rw [e2.1, hk2]
        show ld _ _ _ ((giveP l H ks (i + 1)).2.getD (ks.getD i 0) 0) ≤ _
        rw [hown, ld_congr hsame, ld_congr hsame, ← h1, ← h1]
        exact bestN_le (fun h => (giveP l H ks i).1.getD h 0) _ h (by rw [giveP_len1]; exact hh)
      · have e2 : ks.take i ++ [ks.getD i 0] = (a ++ k :: b') ++ [y] := by rw [e]; simp
        have e3 := (List.append_inj' e2 (by simp)).1
        have hm : ∀ x, x ∈ a → (giveP l H ks (i + 1)).2.getD x 0 = (giveP l H ks i).2.getD x 0 := fun x hx => hsame x (by rw [e3]; simp [hx])
        rw [ld_congr hm, ld_congr hm]
        show ld _ _ _ ((giveP l H ks (i + 1)).2.getD k 0) ≤ _
        rw [hsame k (by rw [e3]; simp)]
        exact h2 a k b' e3 h hh
/-- The least that comes of it, each chore given to the first n hands. -/
def bestB (H : Nat) : List Nat → List Nat → Nat
  | [], s => maxN s
  | p :: l, s => bestB H l (addAt s (bestN (fun h => bestB H l (addAt s h p)) H) p)
def sumsF (g : List Nat) : List Nat → List Nat → List Nat
  | [], s => s
  | p :: l, s => sumsF g.tail l (addAt s (g.headD 0) p)
theorem sumsF_getD : ∀ (l g s : List Nat), (∀ k, k < l.length → g.getD k 0 < s.length) → ∀ h, (sumsF g l s).getD h 0 = s.getD h 0 + ld (fun k => l.getD k 0) (fun k => g.getD k 0) (List.range l.length) h
  | [], g, s, _, h => by simp [sumsF, ld]
  | p :: l, g, s, hg, h => by
    have h0 : g.headD 0 = g.getD 0 0 := by cases g <;> rfl
    have ht : ∀ k, g.tail.getD k 0 = g.getD (k + 1) 0 := by intro k; cases g <;> simp
    have hl : g.headD 0 < s.length := by rw [h0]; exact hg 0 (by simp)
    simp only [sumsF]
    rw [sumsF_getD l g.tail _ (fun k hk => by rw [addAt_len, ht]; exact hg (k + 1) (by simp; omega)) h, addAt_getD _ _ _ hl, h0, List.length_cons, List.range_succ_eq_map]
    simp only [ld, List.getD_cons_zero]
    have : ∀ ks : List Nat, ld (fun k => (p :: l).getD k 0) (fun k => g.getD k 0) (ks.map Nat.succ) h = ld (fun k => l.getD k 0) (fun k => g.tail.getD k 0) ks h := by
      intro ks
      induction ks with
      | nil => rfl
      | cons x ks ih => simp only [List.map_cons, ld, ih, ht, List.getD_cons_succ]
    rw [this]; omega
theorem sumsF_len : ∀ (l g s : List Nat), (sumsF g l s).length = s.length
  | [], _, _ => rfl
  | p :: l, g, s => by simp only [sumsF]; rw [sumsF_len, addAt_len]
theorem bestB_le (H : Nat) : ∀ (l g s : List Nat), g.length = l.length → (∀ k, k < l.length → g.getD k 0 < H) → bestB H l s ≤ maxN (sumsF g l s)
  | [], _, _, _, _ => Nat.le_refl _
  | p :: l, [], _, h, _ => by simp at h
  | p :: l, x :: g, s, hl, hg => by
    have hx : x < H := by have := hg 0 (by simp); simpa using this
    have h1 := bestN_le (fun h => bestB H l (addAt s h p)) H x hx
    have h2 := bestB_le H l g (addAt s x p) (by simpa using hl) fun k hk => by have := hg (k + 1) (by simp; omega); simpa using this
    exact Nat.le_trans h1 h2
theorem bestB_at {H : Nat} (hH : 0 < H) : ∀ (l s : List Nat), ∃ g : List Nat, g.length = l.length ∧ (∀ k, k < l.length → g.getD k 0 < H) ∧ bestB H l s = maxN (sumsF g l s)
  | [], s => ⟨[], rfl, fun k h => absurd h (by simp), rfl⟩
  | p :: l, s => by
    obtain ⟨g, h1, h2, h3⟩ := bestB_at hH l (addAt s (bestN (fun h => bestB H l (addAt s h p)) H) p)
    refine ⟨bestN (fun h => bestB H l (addAt s h p)) H :: g, by simp [h1], fun k hk => ?_, h3⟩
    cases k with
    | zero => exact bestN_lt _ _ hH
    | succ k => simp only [List.getD_cons_succ]; exact h2 k (by simpa using hk)
/-- The longest, or the sum of all shared out. -/
def leastN (l : List Nat) (H : Nat) : Nat := max (maxN l) ((sumK (fun k => l.getD k 0) (List.range l.length) + H - 1) / H)
theorem span_lds (l g : List Nat) {H : Nat} (hg : ∀ k, k < l.length → g.getD k 0 < H) (h : Nat) : ld (fun k => l.getD k 0) (fun k => g.getD k 0) (List.range l.length) h ≤ spanN l g H := by
  rw [← spanP_ld l g H l.length hg h]
  exact maxN_ge _ h
theorem span_sums (l g : List Nat) {H : Nat} (hg : ∀ k, k < l.length → g.getD k 0 < H) : maxN (sumsF g l (List.replicate H 0)) = spanN l g H := by
  unfold spanN
  congr 1
  refine List.ext_getElem ?_ fun i h1 h2 => ?_
  · rw [sumsF_len, spanP_len]; simp
  · have a1 := sumsF_getD l g (List.replicate H 0) (by simpa using hg) i
    have a2 := spanP_ld l g H l.length hg i
    rw [repl_getD, Nat.zero_add] at a1
    rw [← a2, List.getD_eq_getElem?_getD, List.getD_eq_getElem?_getD, List.getElem?_eq_getElem h1, List.getElem?_eq_getElem h2] at a1
    exact a1
theorem best_le_span (l g : List Nat) {H : Nat} (hl : g.length = l.length) (hg : ∀ k, k < l.length → g.getD k 0 < H) : bestB H l (List.replicate H 0) ≤ spanN l g H := by
  rw [← span_sums l g hg]
  exact bestB_le H l g _ hl hg
theorem best_is (l : List Nat) {H : Nat} (hH : 0 < H) : ∃ g : List Nat, (∀ k, k < l.length → g.getD k 0 < H) ∧ bestB H l (List.replicate H 0) = spanN l g H := by
  obtain ⟨g, h1, h2, h3⟩ := bestB_at hH l (List.replicate H 0)
  exact ⟨g, h2, by rw [h3, span_sums l g h2]⟩
theorem least_le_best (l : List Nat) {H : Nat} (hH : 0 < H) : leastN l H ≤ bestB H l (List.replicate H 0) := by
  obtain ⟨g, hg, e⟩ := best_is l hH
  rw [e]
  have hall := ld_all (fun k => l.getD k 0) (fun k => g.getD k 0) H (List.range l.length) fun k hk => hg k (List.mem_range.1 hk)
  have hsum : allH (ld (fun k => l.getD k 0) (fun k => g.getD k 0) (List.range l.length)) H ≤ H * spanN l g H := allH_le fun h _ => span_lds l g hg h
  rw [hall] at hsum
  refine Nat.max_le.2 ⟨maxN_le fun k hk => ?_, ?_⟩
  · exact Nat.le_trans (ld_mem (p := fun k => l.getD k 0) (g := fun k => g.getD k 0) (List.mem_range.2 hk)) (span_lds l g hg _)
  · rw [Nat.div_le_iff_le_mul_add_pred hH]
    omega
/-- What is given by an order: its span. -/
theorem give_span (l : List Nat) {H : Nat} (hH : 0 < H) {ks : List Nat} (hp : ks.Perm (List.range l.length)) :
    ∃ h, h < H ∧ spanN l (giveP l H ks ks.length).2 H = ld (fun k => l.getD k 0) (fun k => (giveP l H ks ks.length).2.getD k 0) ks h := by
  obtain ⟨h, hh, e⟩ := maxN_at (s := spanP l (giveP l H ks ks.length).2 H l.length) (by rw [spanP_len]; exact hH)
  rw [spanP_len] at hh
  refine ⟨h, hh, ?_⟩
  unfold spanN
  rw [e, spanP_ld _ _ _ _ (fun k _ => giveP_lt l hH ks _ k) h]
  exact (ld_perm hp h).symm
theorem graham_list (l : List Nat) {H : Nat} (hH : 0 < H) {ks : List Nat} (hp : ks.Perm (List.range l.length)) :
    H * spanN l (giveP l H ks ks.length).2 H + bestB H l (List.replicate H 0) ≤ 2 * H * bestB H l (List.replicate H 0) := by
  obtain ⟨h, hh, e⟩ := give_span l hH hp
  obtain ⟨g, hg, eb⟩ := best_is l hH
  have hk : ∀ k, k ∈ ks → k < l.length := fun k hk => List.mem_range.1 (hp.mem_iff.1 hk)
  have hi := giveP_inv l hH ks (hp.symm.nodup List.nodup_range) hk ks.length (Nat.le_refl _)
  rw [List.take_length] at hi
  rw [e]
  exact graham (g' := fun k => g.getD k 0) hi.2 (fun k _ => giveP_lt l hH ks _ k) (fun k hk' => hg k (hk k hk')) (fun h _ => by rw [ld_perm hp, eb]; exact span_lds l g hg h) h hh
theorem graham_list_long (l : List Nat) {H : Nat} (hH : 0 < H) {ks : List Nat} (hp : ks.Perm (List.range l.length)) (hd : ∀ a k b, ks = a ++ k :: b → ∀ x, x ∈ a → l.getD k 0 ≤ l.getD x 0) :
    3 * H * spanN l (giveP l H ks ks.length).2 H + bestB H l (List.replicate H 0) ≤ 4 * H * bestB H l (List.replicate H 0) := by
  obtain ⟨h, hh, e⟩ := give_span l hH hp
  obtain ⟨g, hg, eb⟩ := best_is l hH
  have hk : ∀ k, k ∈ ks → k < l.length := fun k hk => List.mem_range.1 (hp.mem_iff.1 hk)
  have hi := giveP_inv l hH ks (hp.symm.nodup List.nodup_range) hk ks.length (Nat.le_refl _)
  rw [List.take_length] at hi
  rw [e]
  exact graham_long (g' := fun k => g.getD k 0) hi.2 (fun k _ => giveP_lt l hH ks _ k) (fun k hk' => hg k (hk k hk')) (fun h _ => by rw [ld_perm hp, eb]; exact span_lds l g hg h) hd h hh

/-! # Looking through all that may be given -/
theorem maxN_perm {a b : List Nat} (h : a.Perm b) : maxN a = maxN b := by
  induction h with
  | nil => rfl
  | cons x _ ih => simp only [maxN, ih]
  | swap x y l => simp only [maxN]; omega
  | trans _ _ h1 h2 => exact h1.trans h2
theorem perm_add (p : Nat) {a b : List Nat} (hp : a.Perm b) : ∀ h, h < a.length → ∃ h', h' < b.length ∧ (addAt a h p).Perm (addAt b h' p) := by
  induction hp with
  | nil => intro h hh; simp at hh
  | @cons x a b _ ih =>
    intro h hh
    cases h with
    | zero => exact ⟨0, by simp, by simp only [addAt, List.getD_cons_zero, List.set_cons_zero]; exact .cons _ ‹_›⟩
    | succ h =>
      obtain ⟨h', h1, h2⟩ := ih h (by simpa using hh)
      exact ⟨h' + 1, by simpa using h1, by rw [addAt_cons, addAt_cons]; exact .cons _ h2⟩
  | swap x y l =>
    intro h hh
    match h with
    | 0 => exact ⟨1, by simp, by simp only [addAt, List.getD_cons_zero, List.getD_cons_succ, List.set_cons_zero, List.set_cons_succ]; exact .swap ..⟩
    | 1 => exact ⟨0, by simp, by simp only [addAt, List.getD_cons_zero, List.getD_cons_succ, List.set_cons_zero, List.set_cons_succ]; exact .swap ..⟩
    | h + 2 => exact ⟨h + 2, by simpa using hh, by simp only [addAt_cons]; exact .swap ..⟩
  | @trans a b c h1 h2 i1 i2 =>
    intro h hh
    obtain ⟨h', a1, a2⟩ := i1 h hh
    obtain ⟨h'', b1, b2⟩ := i2 h' a1
    exact ⟨h'', b1, a2.trans b2⟩
theorem bestB_perm_le {H : Nat} (hH : 0 < H) : ∀ (l : List Nat) {s s' : List Nat}, s.Perm s' → s.length = H → bestB H l s' ≤ bestB H l s
  | [], s, s', hp, _ => by simp only [bestB, maxN_perm hp]; exact Nat.le_refl _
  | p :: l, s, s', hp, hl => by
    have hb := bestN_lt (fun h => bestB H l (addAt s h p)) H hH
    obtain ⟨h', h1, h2⟩ := perm_add p hp _ (by rw [hl]; exact hb)
    have h3 := bestN_le (fun h => bestB H l (addAt s' h p)) H h' (by rw [← hl, hp.length_eq]; exact h1)
    exact Nat.le_trans h3 (bestB_perm_le hH l h2 (by rw [addAt_len, hl]))
theorem bestB_perm {H : Nat} (hH : 0 < H) (l : List Nat) {s s' : List Nat} (hp : s.Perm s') (hl : s.length = H) : bestB H l s = bestB H l s' :=
  Nat.le_antisymm (bestB_perm_le hH l hp.symm (by rw [← hp.length_eq, hl])) (bestB_perm_le hH l hp hl)
theorem perm_set0 (x : Nat) : ∀ (t : List Nat) j, j < t.length → (x :: t).Perm (t.getD j 0 :: t.set j x)
  | y :: t, 0, _ => by simp only [List.getD_cons_zero, List.set_cons_zero]; exact .swap ..
  | y :: t, j + 1, h => by
    simp only [List.getD_cons_succ, List.set_cons_succ]
    exact (List.Perm.swap y x t).trans ((List.Perm.cons y (perm_set0 x t j (by simpa using h))).trans (.swap ..))
theorem perm_sets (x : Nat) : ∀ (s : List Nat) i j, i < j → j < s.length → s.getD i 0 = s.getD j 0 → (s.set i x).Perm (s.set j x)
  | [], _, _, _, h, _ => by simp at h
  | y :: t, 0, 0, h, _, _ => absurd h (Nat.lt_irrefl _)
  | y :: t, 0, j + 1, _, h, e => by
    simp only [List.getD_cons_zero, List.getD_cons_succ] at e
    simp only [List.set_cons_zero, List.set_cons_succ]
    rw [e]
    exact perm_set0 x t j (by simpa using h)
  | y :: t, i + 1, 0, h, _, _ => absurd h (Nat.not_lt_zero _)
  | y :: t, i + 1, j + 1, h, hl, e => by
    simp only [List.getD_cons_succ] at e
    simp only [List.set_cons_succ]
    exact .cons _ (perm_sets x t i j (by omega) (by simpa using hl) e)
/-- Behind the first that has nothing none has anything. -/
def Zs (s : List Nat) : Prop := ∀ i j, i < j → s.getD i 0 = 0 → s.getD j 0 = 0
/-- How many hands are unlike: the first with nothing is the last of them. -/
def unlk : List Nat → Nat
  | [] => 0
  | x :: s => if x = 0 then 1 else unlk s + 1
theorem unl_le : ∀ s : List Nat, unlk s ≤ s.length
  | [] => Nat.le_refl _
  | x :: s => by have := unl_le s; unfold unlk; split <;> simp only [List.length_cons] <;> omega
theorem unl_pos {s : List Nat} (h : 0 < s.length) : 0 < unlk s := by
  cases s with
  | nil => simp at h
  | cons x s => unfold unlk; split <;> omega
theorem unl_zero : ∀ {s : List Nat}, unlk s < s.length → s.getD (unlk s - 1) 0 = 0
  | [], h => by simp at h
  | x :: s, h => by
    unfold unlk at h ⊢
    split
    · rename_i e; simpa using e
    · rename_i e
      rw [if_neg e] at h
      have h1 : unlk s < s.length := by simp only [List.length_cons] at h; omega
      have h2 := unl_pos (s := s) (by omega)
      have := unl_zero h1
      obtain ⟨n, hn⟩ : ∃ n, unlk s = n + 1 := ⟨unlk s - 1, by omega⟩
      rw [hn] at this ⊢
      simpa using this
theorem unl_ne : ∀ {s : List Nat} i, i + 1 < unlk s → s.getD i 0 ≠ 0
  | [], i, h => by simp [unlk] at h
  | x :: s, i, h => by
    unfold unlk at h
    split at h
    · omega
    · cases i with
      | zero => simpa
      | succ i => simp only [List.getD_cons_succ]; exact unl_ne i (by omega)
theorem Zs_add {s : List Nat} (hz : Zs s) {h p : Nat} (hp : 0 < p) (hh : h < unlk s) : Zs (addAt s h p) := by
  have hl : h < s.length := Nat.lt_of_lt_of_le hh (unl_le s)
  intro i j hij h0
  rw [addAt_getD _ _ _ hl] at h0 ⊢
  have hs : s.getD i 0 = 0 := by omega
  have hne : h ≠ i := fun e => by rw [if_pos e] at h0; omega
  have hj := hz i j hij hs
  have hge : unlk s ≤ i + 1 := Nat.le_of_not_lt fun hb => unl_ne i hb hs
  rw [hj, if_neg (by omega)]
theorem Zs_start (H : Nat) : Zs (List.replicate H 0) := fun _ j _ _ => repl_getD H j
/-- It is enough to look at those. -/
theorem best_unl {H : Nat} (hH : 0 < H) (l : List Nat) {s : List Nat} (p : Nat) (hl : s.length = H) (hz : Zs s) :
    bestB H l (addAt s (bestN (fun h => bestB H l (addAt s h p)) (unlk s)) p) = bestB H (p :: l) s := by
  show (fun h => bestB H l (addAt s h p)) (bestN (fun h => bestB H l (addAt s h p)) (unlk s)) = (fun h => bestB H l (addAt s h p)) (bestN (fun h => bestB H l (addAt s h p)) H)
  have hu0 := unl_pos (s := s) (by omega)
  have hul := unl_le s
  have b1 := bestN_lt (fun h => bestB H l (addAt s h p)) (unlk s) hu0
  have b2 := bestN_lt (fun h => bestB H l (addAt s h p)) H hH
  refine Nat.le_antisymm ?_ (bestN_le (fun h => bestB H l (addAt s h p)) H _ (by omega))
  by_cases hb : bestN (fun h => bestB H l (addAt s h p)) H < unlk s
  · exact bestN_le (fun h => bestB H l (addAt s h p)) (unlk s) _ hb
  · generalize bestN (fun h => bestB H l (addAt s h p)) H = b at b2 hb ⊢
    have h0 := unl_zero (s := s) (by omega)
    have hb0 := hz (unlk s - 1) b (by omega) h0
    have : bestB H l (addAt s (unlk s - 1) p) = bestB H l (addAt s b p) := by
      refine bestB_perm hH l ?_ (by rw [addAt_len, hl])
      unfold addAt
      rw [h0, hb0]
      exact perm_sets _ s _ _ (by omega) (by omega) (by rw [h0, hb0])
    show _ ≤ bestB H l (addAt s b p)
    rw [← this]
    exact bestN_le (fun h => bestB H l (addAt s h p)) (unlk s) (unlk s - 1) (by omega)
/-- The least of the first n and of what is the least so far. -/
def minTo (f : Nat → Nat) (b : Nat) : Nat → Nat
  | 0 => b
  | n + 1 => min (minTo f b n) (f n)
theorem minTo_eq (f : Nat → Nat) (b : Nat) : ∀ n, 0 < n → minTo f b n = min b (f (bestN f n))
  | 1, _ => by simp [minTo, bestN]
  | n + 2, _ => by
    have ih := minTo_eq f b (n + 1) (by omega)
    have hs : bestN f (n + 2) = if f (n + 1) < f (bestN f (n + 1)) then n + 1 else bestN f (n + 1) := rfl
    have hm : minTo f b (n + 2) = min (minTo f b (n + 1)) (f (n + 1)) := rfl
    rw [hm, ih, hs]
    split <;> omega
theorem bestB_ge (H : Nat) (hH : 0 < H) : ∀ (l s : List Nat), s.length = H → maxN s ≤ bestB H l s
  | [], _, _ => Nat.le_refl _
  | p :: l, s, hl => by
    have hb := bestN_lt (fun h => bestB H l (addAt s h p)) H hH
    have h1 := bestB_ge H hH l (addAt s (bestN (fun h => bestB H l (addAt s h p)) H) p) (by rw [addAt_len, hl])
    refine Nat.le_trans (maxN_le fun h hh => ?_) h1
    have h2 := maxN_ge (addAt s (bestN (fun h => bestB H l (addAt s h p)) H) p) h
    rw [addAt_getD _ _ _ (by rw [hl]; exact hb)] at h2
    omega
theorem bestB_cons (H : Nat) (hH : 0 < H) (p : Nat) (l s : List Nat) (b : Nat) : min b (bestB H (p :: l) s) = minTo (fun h => bestB H l (addAt s h p)) b H := (minTo_eq (fun h => bestB H l (addAt s h p)) b H hH).symm
theorem maxN_sum : ∀ s : List Nat, maxN s ≤ s.sum
  | [] => Nat.le_refl _
  | x :: s => by have := maxN_sum s; simp only [maxN, List.sum_cons]; omega
/-- No more than the sum of all. -/
theorem bestB_sum {H : Nat} (hH : 0 < H) : ∀ (l s : List Nat), s.length = H → bestB H l s ≤ s.sum + l.sum
  | [], s, _ => by simp only [bestB, List.sum_nil]; exact maxN_sum s
  | p :: l, s, hl => by
    have hb := bestN_lt (fun h => bestB H l (addAt s h p)) H hH
    have := bestB_sum hH l (addAt s (bestN (fun h => bestB H l (addAt s h p)) H) p) (by rw [addAt_len, hl])
    rw [sum_addAt _ _ _ (by rw [hl]; exact hb)] at this
    simp only [bestB, List.sum_cons]; omega

end Go.Proofs.Ytdlkilacnnjglaa
