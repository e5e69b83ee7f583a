/-
  Which letters are ever taken for lost: where none comes late none that comes (Iyengar); those that do not come and lie far enough behind. Plain arithmetic.
-/
import Derived.Test.YtnkpboobfkjibadPlayMath
import Derived.Test.YtnkpboobfkjibadFlowFns
namespace Go.Proofs.Ytnkpboobfkjibad

theorem top_iff {J : List Sp} (h : goodL J = true) {x : Int} (h0 : 0 ≤ x) : x + 3 ≤ topH J ↔ ∃ y, hasL J y = true ∧ x + 3 ≤ y := by
  unfold topH
  by_cases hl : J.length = 0
  · rw [decide_eq_true hl]
    have e : J = [] := List.eq_nil_of_length_eq_zero hl
    subst e
    constructor
    · intro hx
      have : x + 3 ≤ -1 := hx
      omega
    · rintro ⟨y, hy, _⟩
      cases hy
  · rw [decide_eq_false hl]
    show x + 3 ≤ lastTo J - 1 ↔ _
    constructor
    · intro hx
      exact ⟨_, chain_last (good_chain h) hl, hx⟩
    · rintro ⟨y, hy, hx⟩
      have hb : belB J (lastTo J) = true := by
        unfold belB
        rw [h, decide_eq_true (Int.le_refl _), Bool.or_true]
        rfl
      have := (bel_has hb hy).2
      omega
/-- At some time x had not come, and one that is 3 greater had. -/
def ever (l : List Int) (x : Int) : Prop := ∃ k, k ≤ l.length ∧ x ∉ l.take k ∧ ∃ y ∈ l.take k, x + 3 ≤ y
theorem has_one (n x : Int) : hasL (oneL n) x = (x == n) := by
  unfold oneL hasL hasL inB
  rw [Bool.or_false, Bool.eq_iff_iff, Bool.and_eq_true, decide_eq_true_eq, decide_eq_true_eq, beq_iff_eq]
  show n ≤ x ∧ x < n + 1 ↔ _
  omega
theorem take_snocF {l : List Int} {k : Nat} (h : k < l.length) : l.take (k + 1) = l.take k ++ [fl l k] := by
  rw [List.take_succ_eq_append_getElem h, fl_get h]
/-- What a sender that hears of letters one by one has, has lost, and had lost at some time. -/
theorem play_told {many : Int} {l : List Int} (ht : playT many l = true) : ∀ k, k ≤ l.length →
    playB (newSd many) (l.take k) = true ∧ (∀ x, hasL (playSd (newSd many) (l.take k)).f1 x = (l.take k).contains x) ∧ goodSd (playSd (newSd many) (l.take k)) = true ∧ (playSd (newSd many) (l.take k)).f0 = many ∧
    (∀ x, x ∈ (playSd (newSd many) (l.take k)).f2 ↔ (0 ≤ x ∧ x < many) ∧ x ∉ l.take k ∧ ∃ y ∈ l.take k, x + 3 ≤ y) ∧
    (∀ x, x ∈ playE (newSd many) (l.take k) ↔ (0 ≤ x ∧ x < many) ∧ ∃ j, j ≤ k ∧ x ∉ l.take j ∧ ∃ y ∈ l.take j, x + 3 ≤ y) := by
  have ht' := ht
  unfold playT at ht'
  rw [Bool.and_eq_true, Bool.and_eq_true] at ht'
  obtain ⟨hn, ho, hp⟩ := ht'
  have hN : newSd many = ⟨many, [], []⟩ := by unfold newSd; rw [hn]; rfl
  have h60 : 0 ≤ many ∧ many ≤ 60 := by unfold newSdB at hn; rwa [decide_eq_true_eq] at hn
  have hgN : goodSd (newSd many) = true := by
    rw [hN]
    unfold goodSd
    rw [decide_eq_true (show 0 ≤ (⟨many, [], []⟩ : SdD).f0 ∧ (⟨many, [], []⟩ : SdD).f0 ≤ 60 from h60)]
    rfl
  intro k
  induction k with
  | zero =>
    intro _
    rw [hN]
    refine ⟨rfl, fun x => rfl, by rw [← hN]; exact hgN, rfl, fun x => ?_, fun x => ?_⟩
    · constructor
      · intro h; cases h
      · rintro ⟨_, _, y, hy, _⟩; cases hy
    · constructor
      · intro h; cases h
      · rintro ⟨_, j, hj, _, y, hy, _⟩
        obtain rfl : j = 0 := by omega
        cases hy
  | succ k ih =>
    intro hk
    obtain ⟨b1, i1, i2, i3, i4, i5⟩ := ih (by omega)
    have hlt : k < l.length := by omega
    have hpk : playB (newSd many) (l.take (k + 1)) = true := by
      cases h : playB (newSd many) (l.take (k + 1))
      · have := playB_no (l.take (k + 1)) (l.drop (k + 1)) _ h
        rw [List.take_append_drop, hp] at this
        cases this
      · rfl
    have hpk' := hpk
    rw [take_snocF hlt, playB_snoc, Bool.and_eq_true] at hpk'
    obtain ⟨_, hb⟩ := hpk'
    obtain ⟨S, hS⟩ : ∃ S, playSd (newSd many) (l.take k) = S := ⟨_, rfl⟩
    rw [hS] at i1 i2 i3 i4 hb
    obtain ⟨v, hv⟩ : ∃ v, fl l k = v := ⟨_, rfl⟩
    have eS : playSd (newSd many) (l.take (k + 1)) = hearSd S (oneL v) := by rw [take_snocF hlt, playSd_snoc, hS, hv]
    have eE : playE (newSd many) (l.take (k + 1)) = playE (newSd many) (l.take k) ++ hearLa S (oneL v) := by rw [take_snocF hlt, playE_snoc, hS, hv]
    rw [hv] at hb
    have hg2 := goodSd_hear hb
    have hb' := hb
    unfold hearB at hb'
    rw [Bool.and_eq_true, Bool.and_eq_true, decide_eq_true_eq] at hb'
    obtain ⟨_, hbo, hjl⟩ := hb'
    obtain ⟨g1, _⟩ := goodSd_parts i2
    have c1 := good_chain (bel_good g1)
    have c2 := good_chain (bel_good hbo)
    have hJ := join_bel g1 hbo hjl
    obtain ⟨n, hnn⟩ : ∃ n : Nat, S.f0 = (n : Int) := ⟨S.f0.toNat, by omega⟩
    have e : hearSd S (oneL v) = ⟨S.f0, joinL S.f1 (oneL v), selU (lostF (joinL S.f1 (oneL v)) S.f2) n⟩ := by unfold hearSd; rw [hb, hnn]; rfl
    have eL : hearLa S (oneL v) = selU (lateF (joinL S.f1 (oneL v)) S.f2) n := by unfold hearLa; rw [hb, hnn]; rfl
    have hhas : ∀ x, hasL (joinL S.f1 (oneL v)) x = (l.take (k + 1)).contains x := fun x => by
      rw [joinL_has c1 c2, i1, has_one, take_snocF hlt, hv, Bool.eq_iff_iff, Bool.or_eq_true, List.contains_eq_mem, List.contains_eq_mem, decide_eq_true_eq, decide_eq_true_eq, List.mem_append, List.mem_singleton, beq_iff_eq]
    have htop : ∀ x, 0 ≤ x → (x + 3 ≤ topH (joinL S.f1 (oneL v)) ↔ ∃ y ∈ l.take (k + 1), x + 3 ≤ y) := fun x h0 => by
      rw [top_iff (bel_good hJ) h0]
      constructor
      · rintro ⟨y, hy, hx⟩
        rw [hhas, List.contains_eq_mem, decide_eq_true_eq] at hy
        exact ⟨y, hy, hx⟩
      · rintro ⟨y, hy, hx⟩
        exact ⟨y, by rw [hhas, List.contains_eq_mem, decide_eq_true_eq]; exact hy, hx⟩
    have hsub : ∀ x y, x ∉ l.take (k + 1) → (x ∉ l.take k) ∧ (y ∈ l.take k → y ∈ l.take (k + 1)) := fun x y hx => by
      rw [take_snocF hlt] at hx ⊢
      exact ⟨fun h => hx (List.mem_append_left _ h), fun h => List.mem_append_left _ h⟩
    have hin : ∀ x, hasL (joinL S.f1 (oneL v)) x = false ↔ x ∉ l.take (k + 1) := fun x => by
      rw [hhas, List.contains_eq_mem, decide_eq_false_iff_not]
    refine ⟨hpk, ?_, ?_, ?_, ?_, ?_⟩
    · intro x
      rw [eS, e]
      exact hhas x
    · rw [eS]; exact hg2.1
    · rw [eS, hg2.2, i3]
    · intro x
      rw [eS, e]
      show x ∈ selU (lostF (joinL S.f1 (oneL v)) S.f2) n ↔ _
      rw [selU_mem]
      unfold lostF upTo
      rw [← hnn, i3]
      simp only [Bool.and_eq_true, Bool.or_eq_true, decide_eq_true_eq, Bool.not_eq_true']
      constructor
      · rintro ⟨hx0, hx1, hx2⟩
        have hx1' := (hin x).1 hx1
        refine ⟨hx0, hx1', ?_⟩
        rcases hx2 with hx2 | hx2
        · obtain ⟨_, _, y, hy, hx⟩ := (i4 x).1 (by simpa using hx2)
          exact ⟨y, (hsub x y hx1').2 hy, hx⟩
        · exact (htop x hx0.1).1 hx2
      · rintro ⟨hx0, hx1, hx2⟩
        exact ⟨hx0, (hin x).2 hx1, .inr ((htop x hx0.1).2 hx2)⟩
    · intro x
      rw [eE, List.mem_append, i5, eL, selU_mem]
      unfold lateF upTo
      rw [← hnn, i3]
      simp only [Bool.and_eq_true, decide_eq_true_eq, Bool.not_eq_true']
      constructor
      · rintro (⟨hx0, j, hj, hr⟩ | ⟨hx0, hx1, _, hx2⟩)
        · exact ⟨hx0, j, by omega, hr⟩
        · exact ⟨hx0, k + 1, Nat.le_refl _, (hin x).1 hx1, (htop x hx0.1).1 hx2⟩
      · rintro ⟨hx0, j, hj, hr1, hr2⟩
        by_cases ej : j = k + 1
        · subst ej
          by_cases hf : x ∈ S.f2
          · obtain ⟨_, q1, q2⟩ := (i4 x).1 hf
            exact .inl ⟨hx0, k, Nat.le_refl _, q1, q2⟩
          · refine .inr ⟨hx0, (hin x).2 hr1, by simpa using hf, (htop x hx0.1).2 hr2⟩
        · exact .inl ⟨hx0, j, by omega, hr1, hr2⟩
theorem mostU_mono (l : List Int) : ∀ a b, a ≤ b → mostU l a ≤ mostU l b
  | a, 0, h => by obtain rfl : a = 0 := by omega
                  exact Int.le_refl _
  | a, b + 1, h => by
    by_cases e : a = b + 1
    · subst e; exact Int.le_refl _
    · have := mostU_mono l a b (by omega)
      simp only [mostU]
      omega
theorem topU_ge (l : List Int) : ∀ k i, i < k → fl l i ≤ topU l k
  | 0, i, h => by omega
  | k + 1, i, h => by
    simp only [topU]
    by_cases e : i = k
    · subst e; omega
    · have := topU_ge l k i (by omega)
      omega
theorem topU_mem (l : List Int) : ∀ k, k ≤ l.length → topU l k = -1 ∨ topU l k ∈ l.take k
  | 0, _ => .inl rfl
  | k + 1, h => by
    have ih := topU_mem l k (by omega)
    rw [take_snocF (by omega : k < l.length)]
    simp only [topU]
    rcases Int.le_total (topU l k) (fl l k) with h1 | h1
    · right
      rw [Int.max_eq_right h1]
      simp
    · rw [Int.max_eq_left h1]
      rcases ih with ih | ih
      · exact .inl ih
      · exact .inr (List.mem_append_left _ ih)
theorem oruB_wide {l : List Int} {many : Int} (h : oruB l many = true) (hm : many ≤ 60) : oruB l 60 = true := by
  rw [oruB_iff] at h ⊢
  exact ⟨h.1, fun x hx => by have := h.2 x hx; omega⟩
/-- Iyengar: where none is as late as the threshold none that comes is ever taken for lost. -/
theorem none_lost {many : Int} {l : List Int} (ht : playT many l = true) {x : Int} (hx : x ∈ playL many l) (hin : x ∈ l) : 3 ≤ lateN l := by
  have ht' := ht
  unfold playT at ht'
  rw [Bool.and_eq_true, Bool.and_eq_true] at ht'
  have hm : many ≤ 60 := by have := ht'.1; unfold newSdB at this; rw [decide_eq_true_eq] at this; exact this.2
  have h1 := (play_told ht l.length (Nat.le_refl _)).2.2.2.2.2 x
  rw [List.take_length] at h1
  unfold playL at hx
  rw [ht] at hx
  have hx' := (selU_mem _ _ x).1 hx
  rw [Bool.and_eq_true, List.contains_eq_mem, decide_eq_true_eq, h1] at hx'
  obtain ⟨_, _, k, hk, hno, y, hy, h3⟩ := hx'
  obtain ⟨j, hj, ej⟩ := List.getElem_of_mem hin
  have hkj : k ≤ j := by
    refine Nat.le_of_not_lt fun hlt => hno ?_
    rw [← ej]
    exact List.mem_take_iff_getElem.2 ⟨j, by omega, rfl⟩
  obtain ⟨i, hi, ei⟩ := List.mem_take_iff_getElem.1 hy
  have hi' : i < k := by omega
  have h4 := topU_ge l j i (by omega)
  rw [fl_get (by omega : i < l.length), ei] at h4
  unfold lateN
  rw [oruB_wide ht'.2.1 hm]
  show 3 ≤ mostU l l.length
  have h5 := mostU_mono l (j + 1) l.length (by omega)
  simp only [mostU] at h5
  rw [fl_get hj, ej] at h5
  omega
/-- One that does not come and lies far enough behind is. -/
theorem far_lost {many : Int} {l : List Int} (ht : playT many l = true) {x : Int} (h0 : 0 ≤ x) (hx : x + 3 ≤ topU l l.length) (hin : x ∉ l) : x ∈ playL many l := by
  have ht' := ht
  unfold playT at ht'
  rw [Bool.and_eq_true, Bool.and_eq_true] at ht'
  have hm : 0 ≤ many ∧ many ≤ 60 := by have := ht'.1; unfold newSdB at this; rwa [decide_eq_true_eq] at this
  have ho := (oruB_iff l many).1 ht'.2.1
  have ht2 := topU_mem l l.length (Nat.le_refl _)
  rw [List.take_length] at ht2
  have hmem := ht2.resolve_left (by omega)
  have htm := ho.2 _ hmem
  have h1 := (play_told ht l.length (Nat.le_refl _)).2.2.2.2.2 x
  rw [List.take_length] at h1
  unfold playL
  rw [ht]
  refine (selU_mem _ _ x).2 ?_
  rw [Bool.and_eq_true, List.contains_eq_mem, decide_eq_true_eq, h1]
  refine ⟨?_, by omega, l.length, Nat.le_refl _, by rw [List.take_length]; exact hin, topU l l.length, by rw [List.take_length]; exact hmem, hx⟩
  unfold upTo
  rw [decide_eq_true_eq]
  omega
/-- As many numbers are in the spans of letters as there are letters. -/
theorem acks_len {l : List Int} (h : oruB l 60 = true) : ∀ k, k ≤ l.length → lenL (acksU l k) = (k : Int) ∧ (∀ x, hasL (acksU l k) x = (l.take k).contains x) ∧ chainB (-1) (acksU l k) = true := by
  have ho := (oruB_iff l 60).1 h
  have hat : ∀ i, i < l.length → 0 ≤ fl l i ∧ fl l i ≤ 59 := fun i hi => by rw [fl_get hi]; have := ho.2 _ (List.getElem_mem hi); omega
  intro k
  induction k with
  | zero => intro _; exact ⟨rfl, fun _ => rfl, rfl⟩
  | succ k ih =>
    intro hk
    obtain ⟨i1, i2, i3⟩ := ih (by omega)
    have hlt : k < l.length := by omega
    have hc := acks_chain (xs := l) (k + 1) fun i hi => hat i (by omega)
    have hv := hat k hlt
    have hh : ∀ x, hasL (acksU l (k + 1)) x = (l.take (k + 1)).contains x := fun x => by
      show hasL (addL (acksU l k) (fl l k, fl l k + 1)) x = _
      rw [addL_has i3 (by show fl l k < fl l k + 1; omega), i2, take_snocF hlt, Bool.eq_iff_iff, Bool.or_eq_true, List.contains_eq_mem, List.contains_eq_mem, decide_eq_true_eq, decide_eq_true_eq, List.mem_append, List.mem_singleton, inB_iff]
      show _ ∨ (fl l k ≤ x ∧ x < fl l k + 1) ↔ _
      constructor
      · rintro (h | h)
        · exact .inl h
        · exact .inr (by omega)
      · rintro (h | h)
        · exact .inl h
        · exact .inr (by omega)
    refine ⟨?_, hh, hc⟩
    have hb : ∀ m, m ≤ l.length → ∀ x, (l.take m).contains x = true → x < ((60 : Nat) : Int) := fun m _ x hx => by
      rw [List.contains_eq_mem, decide_eq_true_eq] at hx
      have := ho.2 x (List.mem_of_mem_take hx)
      omega
    have hnew : (l.take k).contains (fl l k) = false := by
      have h1 := oruU_iff l 60 (k + 1) hk
      have h2 : oruU l 60 (k + 1) = true := by
        cases e : oruU l 60 (k + 1)
        · have := oruU_no e l.length hk
          unfold oruB at h
          rw [h] at this
          cases this
        · rfl
      simp only [oruU, Bool.and_eq_true, Bool.not_eq_true'] at h2
      exact h2.2.2
    rw [len_sel (n := 60) hc (fun x hx => hb (k + 1) hk x (by rw [← hh]; exact hx)) (by omega)]
    rw [len_sel (n := 60) i3 (fun x hx => hb k (by omega) x (by rw [← i2]; exact hx)) (by omega)] at i1
    rw [sel_split (f := hasL (acksU l k)) (g := fun x => x == fl l k) 60 fun x _ _ => by
      rw [hh, i2, take_snocF hlt]
      constructor
      · rw [Bool.eq_iff_iff, Bool.or_eq_true, List.contains_eq_mem, List.contains_eq_mem, decide_eq_true_eq, decide_eq_true_eq, List.mem_append, List.mem_singleton, beq_iff_eq]
      · by_cases e : x = fl l k
        · subst e; rw [hnew]; rfl
        · rw [beq_eq_false_iff_ne.2 e, Bool.and_false], sel_one 60 hv.1 (by omega)]
    omega
end Go.Proofs.Ytnkpboobfkjibad
