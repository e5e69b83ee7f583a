/-
  Letters heard of one by one, in plain words: the state stays good; those that are late at some time. Plain arithmetic.
-/
import Derived.Test.YtijojdempijhbadSmallSd
import Derived.Test.YtijojdempijhbadISortI
namespace Go.Proofs.Ytijojdempijhbad

theorem noneU_of {h : List Sp} {l : List Int} : ∀ k, (∀ i, i < k → hasL h (fl l i) = false) → noneU h l k = true
  | 0, _ => rfl
  | k + 1, hk => by
    show (noneU h l k && !hasL h (fl l k)) = true
    rw [noneU_of k fun i hi => hk i (by omega), hk k (by omega)]
    rfl
/-- What is heard of by a good sender leaves a good sender. -/
theorem goodSd_hear {D : SdD} {l : List Sp} (h : hearB D l = true) : goodSd (hearSd D l) = true ∧ (hearSd D l).f0 = D.f0 := by
  have h' := h
  unfold hearB at h'
  rw [Bool.and_eq_true, Bool.and_eq_true, decide_eq_true_eq] at h'
  obtain ⟨hg, hb, hl⟩ := h'
  have h60 := (goodSd_few hg).1
  obtain ⟨g1, _⟩ := goodSd_parts hg
  have e : hearSd D l = ⟨D.f0, joinL D.f1 l, selU (lostF (joinL D.f1 l) D.f2) D.f0.toNat⟩ := by unfold hearSd; rw [h]; rfl
  rw [e]
  refine ⟨?_, rfl⟩
  have hm : ∀ x ∈ selU (lostF (joinL D.f1 l) D.f2) D.f0.toNat, (0 ≤ x ∧ x ≤ D.f0 - 1) ∧ hasL (joinL D.f1 l) x = false := by
    intro x hx
    have h1 := (selU_mem _ _ x).1 hx
    unfold lostF at h1
    simp only [upTo, Bool.and_eq_true, decide_eq_true_eq, Bool.not_eq_true'] at h1
    exact ⟨by omega, h1.2.1⟩
  have hr := (risB_rising (selU_rising (lostF (joinL D.f1 l) D.f2) D.f0.toNat) D.f0).2 fun x hx => (hm x hx).1
  have hn := noneU_of (h := joinL D.f1 l) (l := selU (lostF (joinL D.f1 l) D.f2) D.f0.toNat) _ fun i hi => (hm _ (by rw [fl_get hi]; exact List.getElem_mem hi)).2
  show (decide (0 ≤ D.f0 ∧ D.f0 ≤ 60) && (belB (joinL D.f1 l) D.f0 && (risB (selU (lostF (joinL D.f1 l) D.f2) D.f0.toNat) D.f0 && noneU (joinL D.f1 l) (selU (lostF (joinL D.f1 l) D.f2) D.f0.toNat) (selU (lostF (joinL D.f1 l) D.f2) D.f0.toNat).length))) = true
  rw [hr, hn, join_bel g1 hb hl, decide_eq_true h60]
  rfl
/-- One letter as spans. -/
def oneL (n : Int) : List Sp := [(n, n + 1)]
theorem bel_one {n z : Int} (h : 0 ≤ n ∧ n ≤ z - 1) (hz : z ≤ 60) : belB (oneL n) z = true := by
  unfold belB goodL oneL
  simp only [chainB, spB, lastTo, List.length_cons, List.length_nil, Bool.and_true, Bool.and_eq_true, Bool.or_eq_true, decide_eq_true_eq]
  refine ⟨⟨⟨by omega, ⟨h.1, by omega⟩, by omega⟩, by omega⟩, .inr ?_⟩
  show decide (n + 1 ≤ z) = true
  rw [decide_eq_true_eq]
  omega
/-- Letters heard of one by one: whether all went well, the state, all that was late. -/
def playB (D : SdD) : List Int → Bool
  | [] => true
  | n :: l => hearB D (oneL n) && playB (hearSd D (oneL n)) l
def playSd (D : SdD) : List Int → SdD
  | [] => D
  | n :: l => playSd (hearSd D (oneL n)) l
def playE (D : SdD) : List Int → List Int
  | [] => []
  | n :: l => hearLa D (oneL n) ++ playE (hearSd D (oneL n)) l
theorem playB_snoc (n : Int) : ∀ (l : List Int) (D : SdD), playB D (l ++ [n]) = (playB D l && hearB (playSd D l) (oneL n))
  | [], D => by simp [playB, playSd]
  | m :: l, D => by
    show (hearB D (oneL m) && playB (hearSd D (oneL m)) (l ++ [n])) = ((hearB D (oneL m) && playB (hearSd D (oneL m)) l) && hearB (playSd (hearSd D (oneL m)) l) (oneL n))
    rw [playB_snoc n l, Bool.and_assoc]
theorem playSd_snoc (n : Int) : ∀ (l : List Int) (D : SdD), playSd D (l ++ [n]) = hearSd (playSd D l) (oneL n)
  | [], _ => rfl
  | m :: l, D => playSd_snoc n l (hearSd D (oneL m))
theorem playE_snoc (n : Int) : ∀ (l : List Int) (D : SdD), playE D (l ++ [n]) = playE D l ++ hearLa (playSd D l) (oneL n)
  | [], D => by simp [playE, playSd]
  | m :: l, D => by
    show hearLa D (oneL m) ++ playE (hearSd D (oneL m)) (l ++ [n]) = (hearLa D (oneL m) ++ playE (hearSd D (oneL m)) l) ++ hearLa (playSd (hearSd D (oneL m)) l) (oneL n)
    rw [playE_snoc n l, List.append_assoc]
/-- What was ill stays ill. -/
theorem playB_no : ∀ (l m : List Int) (D : SdD), playB D l = false → playB D (l ++ m) = false
  | [], _, _, h => by cases h
  | n :: l, m, D, h => by
    have h' : (hearB D (oneL n) && playB (hearSd D (oneL n)) l) = false := h
    show (hearB D (oneL n) && playB (hearSd D (oneL n)) (l ++ m)) = false
    cases h1 : hearB D (oneL n)
    · rfl
    · rw [h1, Bool.true_and] at h'
      rw [Bool.true_and]
      exact playB_no l m _ h'
theorem play_good : ∀ (l : List Int) (D : SdD), goodSd D = true → playB D l = true → goodSd (playSd D l) = true ∧ (playSd D l).f0 = D.f0
  | [], _, h, _ => ⟨h, rfl⟩
  | n :: l, D, _, hb => by
    have hb' : (hearB D (oneL n) && playB (hearSd D (oneL n)) l) = true := hb
    rw [Bool.and_eq_true] at hb'
    have g := goodSd_hear hb'.1
    have r := play_good l _ g.1 hb'.2
    exact ⟨r.1, r.2.trans g.2⟩
theorem hearLa_in {D : SdD} {l : List Sp} {x : Int} (h : x ∈ hearLa D l) : 0 ≤ x ∧ x < D.f0 := by
  unfold hearLa at h
  cases hb : hearB D l
  · rw [hb] at h; cases h
  · rw [hb] at h
    have h1 := (selU_mem _ _ x).1 h
    simp only [upTo, Bool.and_eq_true, decide_eq_true_eq] at h1
    omega
theorem playE_in : ∀ (l : List Int) (D : SdD), playB D l = true → ∀ x ∈ playE D l, 0 ≤ x ∧ x < D.f0
  | [], _, _, x, h => by cases h
  | n :: l, D, hb, x, h => by
    have hb' : (hearB D (oneL n) && playB (hearSd D (oneL n)) l) = true := hb
    rw [Bool.and_eq_true] at hb'
    have h' : x ∈ hearLa D (oneL n) ++ playE (hearSd D (oneL n)) l := h
    rcases List.mem_append.1 h' with h' | h'
    · exact hearLa_in h'
    · have := playE_in l _ hb'.2 x h'
      rw [(goodSd_hear hb'.1).2] at this
      exact this
/-- The answer: all that was ever late, in order. -/
def playT (many : Int) (l : List Int) : Bool := newSdB many && (oruB l many && playB (newSd many) l)
def playL (many : Int) (l : List Int) : List Int := bif playT many l then selU (fun x => (playE (newSd many) l).contains x) many.toNat else []
theorem play_of_set {ys : List Int} {many : Int} {l : List Int} (ht : playT many l = true) (hy : ys.Pairwise (· < ·)) (hm : ∀ x, x ∈ ys ↔ (playE (newSd many) l).contains x = true) : ys = playL many l := by
  have ht' := ht
  unfold playT at ht'
  rw [Bool.and_eq_true, Bool.and_eq_true] at ht'
  have hn : newSd many = ⟨many, [], []⟩ := by unfold newSd; rw [ht'.1]; rfl
  have h0 : 0 ≤ many := by have := ht'.1; unfold newSdB at this; rw [decide_eq_true_eq] at this; exact this.1
  unfold playL
  rw [ht]
  refine sel_of_set hy hm fun x => ?_
  cases hc : (playE (newSd many) l).contains x
  · rw [Bool.and_false]
  · have := playE_in l _ ht'.2.2 x (by simpa using hc)
    rw [hn] at this
    rw [Bool.and_true]
    symm
    show decide _ = true
    rw [decide_eq_true_eq]
    have h2 : 0 ≤ x ∧ x < many := this
    omega
end Go.Proofs.Ytijojdempijhbad
