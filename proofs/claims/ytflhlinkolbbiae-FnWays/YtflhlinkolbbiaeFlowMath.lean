/-
  Flows, buckets and how long what comes waits (Turner; Cruz): plain arithmetic, no program.
-/
import Derived.Test.YtflhlinkolbbiaeKIntRows
namespace Go.Proofs.Ytflhlinkolbbiae

/-- The first k of a flow added up. -/
def psum (f : Nat → Int) : Nat → Int
  | 0 => 0
  | k + 1 => psum f k + f k
theorem psum_mono {f : Nat → Int} {a : Nat} (hf : ∀ i, 0 ≤ f i) : ∀ b, a ≤ b → psum f a ≤ psum f b
  | 0, h => by obtain rfl : a = 0 := by omega
               exact Int.le_refl _
  | b + 1, h => by
    by_cases e : a = b + 1
    · rw [e]; exact Int.le_refl _
    · have h1 := psum_mono (a := a) hf b (by omega)
      have h2 := hf b
      simp only [psum]
      omega
theorem psum_congr {f g : Nat → Int} : ∀ k, (∀ i, i < k → f i = g i) → psum f k = psum g k
  | 0, _ => rfl
  | k + 1, h => by
    have h1 := psum_congr k fun i hi => h i (by omega)
    have h2 := h k (by omega)
    simp only [psum]
    omega
def lst7 (a b : Int) : Int := if a < b then a else b
theorem lst7_le (a b : Int) : lst7 a b ≤ a ∧ lst7 a b ≤ b := by unfold lst7; split <;> omega
theorem lst7_is (a b : Int) : lst7 a b = a ∨ lst7 a b = b := by unfold lst7; split <;> simp
theorem lst7_eq {a b : Int} (h : a ≤ b) : lst7 a b = a := by unfold lst7; split <;> omega
/-- What a bucket has and how much waits, behind so many ticks. -/
def sh (rate depth : Int) (f : Nat → Int) : Nat → Int × Int
  | 0 => (depth, 0)
  | t + 1 =>
    let h := if t = 0 then (sh rate depth f t).1 else lst7 depth ((sh rate depth f t).1 + rate)
    let w := (sh rate depth f t).2 + f t
    (h - lst7 w h, w - lst7 w h)
/-- What it has in a tick, ahead of what goes; and what goes. -/
def hasB (rate depth : Int) (f : Nat → Int) (t : Nat) : Int := if t = 0 then (sh rate depth f t).1 else lst7 depth ((sh rate depth f t).1 + rate)
def goes (rate depth : Int) (f : Nat → Int) (t : Nat) : Int := lst7 ((sh rate depth f t).2 + f t) (hasB rate depth f t)
theorem sh_succ (rate depth : Int) (f : Nat → Int) (t : Nat) : sh rate depth f (t + 1) = (hasB rate depth f t - goes rate depth f t, (sh rate depth f t).2 + f t - goes rate depth f t) := rfl
theorem hasB_le (rate depth : Int) (f : Nat → Int) (t : Nat) : hasB rate depth f t ≤ depth := by
  unfold hasB
  split
  · rename_i h; subst h; exact Int.le_refl _
  · exact (lst7_le _ _).1
theorem sh_in {rate depth : Int} {f : Nat → Int} (hr : 0 ≤ rate) (hd : 0 ≤ depth) (hf : ∀ i, 0 ≤ f i) : ∀ t, (0 ≤ (sh rate depth f t).1 ∧ (sh rate depth f t).1 ≤ depth) ∧ 0 ≤ (sh rate depth f t).2
  | 0 => ⟨⟨hd, Int.le_refl _⟩, Int.le_refl _⟩
  | t + 1 => by
    obtain ⟨⟨h1, h2⟩, h3⟩ := sh_in hr hd hf t
    have hb := hasB_le rate depth f t
    have hb0 : 0 ≤ hasB rate depth f t := by
      unfold hasB
      split
      · exact h1
      · rcases lst7_is depth ((sh rate depth f t).1 + rate) with e | e <;> rw [e] <;> omega
    have hl := lst7_le ((sh rate depth f t).2 + f t) (hasB rate depth f t)
    have hft := hf t
    have hg0 : 0 ≤ goes rate depth f t := by
      unfold goes
      rcases lst7_is ((sh rate depth f t).2 + f t) (hasB rate depth f t) with e | e <;> rw [e] <;> omega
    rw [sh_succ]
    unfold goes at hg0 ⊢
    simp only
    omega
theorem goes_in {rate depth : Int} {f : Nat → Int} (hr : 0 ≤ rate) (hd : 0 ≤ depth) (hf : ∀ i, 0 ≤ f i) (t : Nat) : 0 ≤ goes rate depth f t ∧ goes rate depth f t ≤ depth := by
  obtain ⟨⟨h1, h2⟩, h3⟩ := sh_in hr hd hf t
  have hb := hasB_le rate depth f t
  have hl := lst7_le ((sh rate depth f t).2 + f t) (hasB rate depth f t)
  have hft := hf t
  have h4 := (sh_in hr hd hf (t + 1)).1.1
  rw [sh_succ] at h4
  simp only at h4
  refine ⟨?_, by unfold goes; omega⟩
  unfold goes
  rcases lst7_is ((sh rate depth f t).2 + f t) (hasB rate depth f t) with e | e
  · rw [e]; omega
  · rw [e]
    unfold hasB
    split
    · exact h1
    · rcases lst7_is depth ((sh rate depth f t).1 + rate) with e | e <;> rw [e] <;> omega
/-- In each while at most depth, and rate for each tick but one. -/
def Conf (rate depth : Int) (f : Nat → Int) (n : Nat) : Prop := ∀ from_ to, from_ ≤ to → to < n → psum f (to + 1) - psum f from_ ≤ depth + rate * ((to : Int) - from_)
theorem goes_run {rate depth : Int} {f : Nat → Int} (from_ : Nat) : ∀ to, from_ ≤ to → psum (goes rate depth f) (to + 1) - psum (goes rate depth f) from_ + (sh rate depth f (to + 1)).1 ≤ depth + rate * ((to : Int) - from_)
  | 0, h => by
    obtain rfl : from_ = 0 := by omega
    have := hasB_le rate depth f 0
    rw [sh_succ]
    simp only [psum]
    omega
  | to + 1, h => by
    by_cases e : from_ = to + 1
    · subst e
      have := hasB_le rate depth f (to + 1)
      rw [sh_succ]
      simp only [psum]
      rw [show (((to + 1 : Nat) : Int) - ((to + 1 : Nat) : Int)) = 0 by omega, Int.mul_zero]
      omega
    · have ih := goes_run (rate := rate) (depth := depth) (f := f) from_ to (by omega)
      have hb : hasB rate depth f (to + 1) ≤ (sh rate depth f (to + 1)).1 + rate := by
        unfold hasB
        rw [if_neg (by omega)]
        exact (lst7_le _ _).2
      rw [sh_succ rate depth f (to + 1)]
      have hp : psum (goes rate depth f) (to + 1 + 1) = psum (goes rate depth f) (to + 1) + goes rate depth f (to + 1) := rfl
      have hm : rate * (((to + 1 : Nat) : Int) - from_) = rate * ((to : Int) - from_) + rate := by
        rw [show ((to + 1 : Nat) : Int) - (from_ : Int) = ((to : Int) - from_) + 1 by omega, Int.mul_add, Int.mul_one]
      rw [hp, hm]
      simp only
      omega
/-- What a bucket lets go conforms (Turner). -/
theorem goes_conf {rate depth : Int} {f : Nat → Int} (hr : 0 ≤ rate) (hd : 0 ≤ depth) (hf : ∀ i, 0 ≤ f i) (n : Nat) : Conf rate depth (goes rate depth f) n := fun from_ to h _ => by
  have h1 := goes_run (rate := rate) (depth := depth) (f := f) from_ to h
  have h2 := (sh_in hr hd hf (to + 1)).1.1
  omega
/-- What conforms goes at once. -/
theorem conf_goes {rate depth : Int} {f : Nat → Int} {n : Nat} (hc : Conf rate depth f n) : ∀ t, t ≤ n → (sh rate depth f t).2 = 0 ∧ (∀ i, i < t → goes rate depth f i = f i) ∧ (t < n → ∃ k, k ≤ t ∧ hasB rate depth f t = depth + rate * ((t : Int) - k) - (psum f t - psum f k))
  | 0, _ => ⟨rfl, fun i h => absurd h (by omega), fun _ => ⟨0, by omega, by
      show depth = depth + rate * (((0 : Nat) : Int) - ((0 : Nat) : Int)) - (psum f 0 - psum f 0)
      simp⟩⟩
  | t + 1, ht => by
    obtain ⟨h1, h2, h3⟩ := conf_goes hc t (by omega)
    obtain ⟨k, hk, hb⟩ := h3 (by omega)
    have hcc := hc k t hk (by omega)
    have hps : psum f (t + 1) = psum f t + f t := rfl
    have hg : goes rate depth f t = f t := by
      unfold goes
      rw [h1, Int.zero_add]
      exact lst7_eq (by omega)
    refine ⟨by rw [sh_succ, hg, h1]; simp, fun i hi => ?_, fun _ => ?_⟩
    · by_cases e : i = t
      · rw [e]; exact hg
      · exact h2 i (by omega)
    · have hs : (sh rate depth f (t + 1)).1 = hasB rate depth f t - f t := by rw [sh_succ, hg]
      have hB : hasB rate depth f (t + 1) = lst7 depth (hasB rate depth f t - f t + rate) := by
        show (if t + 1 = 0 then _ else lst7 depth ((sh rate depth f (t + 1)).1 + rate)) = _
        rw [if_neg (by omega), hs]
      rcases lst7_is depth (hasB rate depth f t - f t + rate) with e | e
      · exact ⟨t + 1, by omega, by rw [hB, e]; simp⟩
      · refine ⟨k, by omega, ?_⟩
        have hm : rate * (((t + 1 : Nat) : Int) - k) = rate * ((t : Int) - k) + rate := by
          rw [show ((t + 1 : Nat) : Int) - (k : Int) = ((t : Int) - k) + 1 by omega, Int.mul_add, Int.mul_one]
        rw [hB, e, hm, hps]
        omega
theorem conf_congr {rate depth : Int} {f g : Nat → Int} {n : Nat} (h : ∀ i, i < n → f i = g i) (hc : Conf rate depth f n) : Conf rate depth g n := fun from_ to h1 h2 => by
  rw [← psum_congr (to + 1) (fun i hi => h i (by omega)), ← psum_congr from_ (fun i hi => h i (by omega))]
  exact hc from_ to h1 h2
theorem conf_iff {rate depth : Int} {f : Nat → Int} {n : Nat} (hr : 0 ≤ rate) (hd : 0 ≤ depth) (hf : ∀ i, 0 ≤ f i) : Conf rate depth f n ↔ ∀ i, i < n → goes rate depth f i = f i :=
  ⟨fun hc => (conf_goes hc n (Nat.le_refl _)).2.1, fun h => conf_congr h (goes_conf hr hd hf n)⟩
theorem goes_sum {rate depth : Int} {f : Nat → Int} : ∀ t, psum (goes rate depth f) t + (sh rate depth f t).2 = psum f t
  | 0 => rfl
  | t + 1 => by
    have ih := goes_sum (rate := rate) (depth := depth) (f := f) t
    rw [sh_succ]
    simp only [psum]
    omega

/-- How much waits where so much is served in each tick; and what goes. -/
def pw (serve : Int) (f : Nat → Int) : Nat → Int
  | 0 => 0
  | t + 1 => pw serve f t + f t - lst7 (pw serve f t + f t) serve
def pgo (serve : Int) (f : Nat → Int) (t : Nat) : Int := lst7 (pw serve f t + f t) serve
theorem pw_succ (serve : Int) (f : Nat → Int) (t : Nat) : pw serve f (t + 1) = pw serve f t + f t - pgo serve f t := rfl
theorem pw_nonneg {serve : Int} {f : Nat → Int} : ∀ t, 0 ≤ pw serve f t
  | 0 => Int.le_refl _
  | t + 1 => by
    have := lst7_le (pw serve f t + f t) serve
    rw [pw_succ]
    unfold pgo
    omega
theorem pgo_in {serve : Int} {f : Nat → Int} (hs : 0 ≤ serve) (hf : ∀ i, 0 ≤ f i) (t : Nat) : 0 ≤ pgo serve f t ∧ pgo serve f t ≤ serve := by
  have h1 := pw_nonneg (serve := serve) (f := f) t
  have h2 := hf t
  have h3 := lst7_le (pw serve f t + f t) serve
  unfold pgo
  rcases lst7_is (pw serve f t + f t) serve with e | e <;> rw [e] at h3 ⊢ <;> omega
theorem pgo_sum {serve : Int} {f : Nat → Int} : ∀ t, psum (pgo serve f) t + pw serve f t = psum f t
  | 0 => rfl
  | t + 1 => by
    have ih := pgo_sum (serve := serve) (f := f) t
    rw [pw_succ]
    simp only [psum]
    omega
theorem pw_is {serve : Int} {f : Nat → Int} : ∀ t, pw serve f t = 0 ∨ ∃ k, k < t ∧ pw serve f t = psum f t - psum f k - serve * ((t : Int) - k)
  | 0 => .inl rfl
  | t + 1 => by
    rcases lst7_is (pw serve f t + f t) serve with e | e
    · left
      rw [pw_succ]
      unfold pgo
      rw [e]
      omega
    · right
      have hp : pw serve f (t + 1) = pw serve f t + f t - serve := by rw [pw_succ]; unfold pgo; rw [e]
      have hs : psum f (t + 1) = psum f t + f t := rfl
      rcases pw_is (serve := serve) (f := f) t with h | ⟨k, hk, h⟩
      · refine ⟨t, by omega, ?_⟩
        rw [hp, h, hs, show (((t + 1 : Nat) : Int) - (t : Int)) = 1 by omega, Int.mul_one]
        omega
      · refine ⟨k, by omega, ?_⟩
        have hm : serve * (((t + 1 : Nat) : Int) - k) = serve * ((t : Int) - k) + serve := by
          rw [show ((t + 1 : Nat) : Int) - (k : Int) = ((t : Int) - k) + 1 by omega, Int.mul_add, Int.mul_one]
        rw [hp, h, hs, hm]
        omega
/-- What conforms, served no slower than its rate, waits at most its burst less what is served at once. -/
theorem pw_le {rate depth serve : Int} {f : Nat → Int} {n : Nat} (hc : Conf rate depth f n) (hs : rate ≤ serve) {t : Nat} (ht : t ≤ n) : pw serve f t = 0 ∨ pw serve f t ≤ depth - serve := by
  rcases pw_is (serve := serve) (f := f) t with h | ⟨k, hk, h⟩
  · exact .inl h
  · right
    obtain ⟨u, rfl⟩ : ∃ u, t = u + 1 := ⟨t - 1, by omega⟩
    have h1 := hc k u (by omega) (by omega)
    have h2 : rate * ((u : Int) - k) ≤ serve * ((u : Int) - k) := Int.mul_le_mul_of_nonneg_right hs (by omega)
    have hm : serve * (((u + 1 : Nat) : Int) - k) = serve * ((u : Int) - k) + serve := by
      rw [show ((u + 1 : Nat) : Int) - (k : Int) = ((u : Int) - k) + 1 by omega, Int.mul_add, Int.mul_one]
    rw [hm] at h
    omega
/-- So many ticks on all is gone that had come, or as much as can be served. -/
theorem pgo_on {serve : Int} {f : Nat → Int} (hs : 0 ≤ serve) (hf : ∀ i, 0 ≤ f i) (t : Nat) : ∀ j : Nat, psum f t ≤ psum (pgo serve f) (t + j) ∨ psum (pgo serve f) t + serve * j ≤ psum (pgo serve f) (t + j)
  | 0 => .inr (by simp)
  | j + 1 => by
    have hm : serve * ((j + 1 : Nat) : Int) = serve * (j : Int) + serve := by rw [show ((j + 1 : Nat) : Int) = (j : Int) + 1 by omega, Int.mul_add, Int.mul_one]
    have hp : psum (pgo serve f) (t + (j + 1)) = psum (pgo serve f) (t + j) + pgo serve f (t + j) := rfl
    have h0 := (pgo_in hs hf (t + j)).1
    rcases lst7_is (pw serve f (t + j) + f (t + j)) serve with e | e
    · left
      have hz : pw serve f (t + j + 1) = 0 := by rw [pw_succ]; unfold pgo; rw [e]; omega
      have hsum := pgo_sum (serve := serve) (f := f) (t + j + 1)
      have hmo := psum_mono hf (a := t) (t + j + 1) (by omega)
      rw [hz] at hsum
      show psum f t ≤ psum (pgo serve f) (t + j + 1)
      omega
    · have he : pgo serve f (t + j) = serve := e
      rcases pgo_on hs hf t j with h | h
      · left; rw [hp]; omega
      · right; rw [hp, hm, he]; omega
/-- The first place at which so much has gone; n where it has not. -/
def kOf (o : Nat → Int) (c : Int) : Nat → Nat
  | 0 => 0
  | n + 1 => if c ≤ psum o (kOf o c n) then kOf o c n else n + 1
theorem kOf_is (o : Nat → Int) (c : Int) : ∀ n, kOf o c n ≤ n ∧ (∀ i, i < kOf o c n → psum o i < c) ∧ (c ≤ psum o (kOf o c n) ∨ kOf o c n = n)
  | 0 => ⟨Nat.le_refl _, fun i h => absurd h (by simp [kOf]), .inr rfl⟩
  | n + 1 => by
    obtain ⟨h1, h2, h3⟩ := kOf_is o c n
    unfold kOf
    split
    · rename_i h
      exact ⟨by omega, h2, .inl h⟩
    · rename_i h
      refine ⟨Nat.le_refl _, fun i hi => ?_, .inr rfl⟩
      rcases h3 with h3 | h3
      · exact absurd h3 h
      · by_cases e : i = n
        · rw [e, ← h3]; omega
        · exact h2 i (by omega)
theorem kOf_only {o : Nat → Int} {c : Int} {n k : Nat} (h1 : k ≤ n) (h2 : ∀ i, i < k → psum o i < c) (h3 : c ≤ psum o k ∨ k = n) : kOf o c n = k := by
  obtain ⟨g1, g2, g3⟩ := kOf_is o c n
  rcases Nat.lt_trichotomy (kOf o c n) k with h | h | h
  · have := h2 _ h
    rcases g3 with g3 | g3 <;> omega
  · exact h
  · have := g2 _ h
    rcases h3 with h3 | h3 <;> omega
/-- How many ticks go by till all that has come up to tick t has gone. -/
def dly (f o : Nat → Int) (n t : Nat) : Int := if psum o (kOf o (psum f (t + 1)) n) < psum f (t + 1) then (n : Int) - t else (kOf o (psum f (t + 1)) n : Int) - 1 - t
def wstU (f o : Nat → Int) (n : Nat) : Nat → Int
  | 0 => 0
  | t + 1 => if wstU f o n t > dly f o n t then wstU f o n t else dly f o n t
theorem wstU_le {f o : Nat → Int} {n : Nat} {b : Int} (hb : 0 ≤ b) : ∀ t, (∀ i, i < t → dly f o n i ≤ b) → wstU f o n t ≤ b
  | 0, _ => hb
  | t + 1, h => by
    have h1 := wstU_le hb t fun i hi => h i (by omega)
    have h2 := h t (by omega)
    unfold wstU
    split <;> omega
theorem ediv_up {d s : Int} (hs : 1 ≤ s) {b : Int} (h0 : 0 ≤ b) (hb : b = 0 ∨ b ≤ d - s) (hd : 1 ≤ d) : ∃ q : Nat, b ≤ s * q ∧ (q : Int) ≤ (d - 1) / s := by
  rcases hb with rfl | hb
  · exact ⟨0, by simp, Int.ediv_nonneg (by omega) (by omega)⟩
  · have h1 : 0 ≤ (d - 1) / s := Int.ediv_nonneg (by omega) (by omega)
    refine ⟨((d - 1) / s).toNat, ?_, by omega⟩
    have h2 : ((((d - 1) / s).toNat : Nat) : Int) = (d - 1) / s := by omega
    rw [h2]
    have h3 := Int.mul_ediv_add_emod (d - 1) s
    have h4 := Int.emod_lt_of_pos (d - 1) (show 0 < s by omega)
    omega
/-- What conforms waits no longer than its burst takes to be served (Cruz). -/
theorem cruz {rate depth serve : Int} {f : Nat → Int} {n : Nat} (hc : Conf rate depth f n) (hr : rate ≤ serve) (hs : 1 ≤ serve) (hd : 1 ≤ depth) (hf : ∀ i, 0 ≤ f i) {t : Nat} (ht : t < n) : dly f (pgo serve f) n t ≤ (depth - 1) / serve := by
  have hb := pw_le hc hr (t := t + 1) (by omega)
  obtain ⟨q, hq1, hq2⟩ := ediv_up hs (pw_nonneg (serve := serve) (f := f) (t + 1)) hb hd
  have hsum := pgo_sum (serve := serve) (f := f) (t + 1)
  have hon := pgo_on (serve := serve) (by omega) hf (t + 1) q
  have hreach : psum f (t + 1) ≤ psum (pgo serve f) (t + 1 + q) := by
    rcases hon with h | h
    · exact h
    · omega
  obtain ⟨k1, k2, k3⟩ := kOf_is (pgo serve f) (psum f (t + 1)) n
  have hkq : kOf (pgo serve f) (psum f (t + 1)) n ≤ t + 1 + q := by
    rcases Nat.lt_or_ge (t + 1 + q) (kOf (pgo serve f) (psum f (t + 1)) n) with h | h
    · have := k2 _ h
      omega
    · exact h
  unfold dly
  split
  · rename_i h
    have hkn : kOf (pgo serve f) (psum f (t + 1)) n = n := by rcases k3 with k3 | k3 <;> omega
    rcases Nat.lt_or_ge n (t + 1 + q) with h5 | h5
    · omega
    · have hmo := psum_mono (f := pgo serve f) (fun i => (pgo_in (serve := serve) (by omega) hf i).1) (a := t + 1 + q) n h5
      rw [hkn] at h
      omega
  · omega
end Go.Proofs.Ytflhlinkolbbiae
