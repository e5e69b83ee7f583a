/-
  Letters heard of one by one, in plain words: the state stays good; those that are late at some time. Plain arithmetic.
  What is told of letters heard of: each is heard of, lost or open; heard of twice changes nothing. Plain arithmetic.
-/
import Derived.Test.YtnkpboobfkjibadSmallSd
import Derived.Test.YtnkpboobfkjibadISortI
namespace Go.Proofs.Ytnkpboobfkjibad

theorem noneU_of {h : List Sp} {l : List Int} : ∀ k, (∀ i, i < k → hasL h (fl l i) = false) → noneU h l k = true
  | 0, _ => rfl
  | k + 1, hk => by
    show (noneU h l k && !hasL h (fl l k)) = true
    rw [noneU_of k fun i hi => hk i (by omega), hk k (by omega)]
    rfl
/-- What is heard of by a good sender leaves a good sender. -/
theorem goodSd_hear {D : SdD} {l : List Sp} (h : hearB D l = true) : goodSd (hearSd D l) = true ∧ (hearSd D l).f0 = D.f0 := by
  have h' := h
  unfold hearB at h'
  rw [Bool.and_eq_true, Bool.and_eq_true, decide_eq_true_eq] at h'
  obtain ⟨hg, hb, hl⟩ := h'
  have h60 := (goodSd_few hg).1
  obtain ⟨g1, _⟩ := goodSd_parts hg
  have e : hearSd D l = ⟨D.f0, joinL D.f1 l, selU (lostF (joinL D.f1 l) D.f2) D.f0.toNat⟩ := by unfold hearSd; rw [h]; rfl
  rw [e]
  refine ⟨?_, rfl⟩
  have hm : ∀ x ∈ selU (lostF (joinL D.f1 l) D.f2) D.f0.toNat, (0 ≤ x ∧ x ≤ D.f0 - 1) ∧ hasL (joinL D.f1 l) x = false := by
    intro x hx
    have h1 := (selU_mem _ _ x).1 hx
    unfold lostF at h1
    simp only [upTo, Bool.and_eq_true, decide_eq_true_eq, Bool.not_eq_true'] at h1
    exact ⟨by omega, h1.2.1⟩
  have hr := (risB_rising (selU_rising (lostF (joinL D.f1 l) D.f2) D.f0.toNat) D.f0).2 fun x hx => (hm x hx).1
  have hn := noneU_of (h := joinL D.f1 l) (l := selU (lostF (joinL D.f1 l) D.f2) D.f0.toNat) _ fun i hi => (hm _ (by rw [fl_get hi]; exact List.getElem_mem hi)).2
  show (decide (0 ≤ D.f0 ∧ D.f0 ≤ 60) && (belB (joinL D.f1 l) D.f0 && (risB (selU (lostF (joinL D.f1 l) D.f2) D.f0.toNat) D.f0 && noneU (joinL D.f1 l) (selU (lostF (joinL D.f1 l) D.f2) D.f0.toNat) (selU (lostF (joinL D.f1 l) D.f2) D.f0.toNat).length))) = true
  rw [hr, hn, join_bel g1 hb hl, decide_eq_true h60]
  rfl
/-- One letter as spans. -/
def oneL (n : Int) : List Sp := [(n, n + 1)]
theorem bel_one {n z : Int} (h : 0 ≤ n ∧ n ≤ z - 1) (hz : z ≤ 60) : belB (oneL n) z = true := by
  unfold belB goodL oneL
  simp only [chainB, spB, lastTo, List.length_cons, List.length_nil, Bool.and_true, Bool.and_eq_true, Bool.or_eq_true, decide_eq_true_eq]
  refine ⟨⟨⟨by omega, ⟨h.1, by omega⟩, by omega⟩, by omega⟩, .inr ?_⟩
  show decide (n + 1 ≤ z) = true
  rw [decide_eq_true_eq]
  omega
/-- Letters heard of one by one: whether all went well, the state, all that was late. -/
def playB (D : SdD) : List Int → Bool
  | [] => true
  | n :: l => hearB D (oneL n) && playB (hearSd D (oneL n)) l
def playSd (D : SdD) : List Int → SdD
  | [] => D
  | n :: l => playSd (hearSd D (oneL n)) l
def playE (D : SdD) : List Int → List Int
  | [] => []
  | n :: l => hearLa D (oneL n) ++ playE (hearSd D (oneL n)) l
theorem playB_snoc (n : Int) : ∀ (l : List Int) (D : SdD), playB D (l ++ [n]) = (playB D l && hearB (playSd D l) (oneL n))
  | [], D => by simp [playB, playSd]
  | m :: l, D => by
    show (hearB D (oneL m) && playB (hearSd D (oneL m)) (l ++ [n])) = ((hearB D (oneL m) && playB (hearSd D (oneL m)) l) && hearB (playSd (hearSd D (oneL m)) l) (oneL n))
    rw [playB_snoc n l, Bool.and_assoc]
theorem playSd_snoc (n : Int) : ∀ (l : List Int) (D : SdD), playSd D (l ++ [n]) = hearSd (playSd D l) (oneL n)
  | [], _ => rfl
  | m :: l, D => playSd_snoc n l (hearSd D (oneL m))
theorem playE_snoc (n : Int) : ∀ (l : List Int) (D : SdD), playE D (l ++ [n]) = playE D l ++ hearLa (playSd D l) (oneL n)
  | [], D => by simp [playE, playSd]
  | m :: l, D => by
    show hearLa D (oneL m) ++ playE (hearSd D (oneL m)) (l ++ [n]) = (hearLa D (oneL m) ++ playE (hearSd D (oneL m)) l) ++ hearLa (playSd (hearSd D (oneL m)) l) (oneL n)
    rw [playE_snoc n l, List.append_assoc]
/-- What was ill stays ill. -/
theorem playB_no : ∀ (l m : List Int) (D : SdD), playB D l = false → playB D (l ++ m) = false
  | [], _, _, h => by cases h
  | n :: l, m, D, h => by
    have h' : (hearB D (oneL n) && playB (hearSd D (oneL n)) l) = false := h
    show (hearB D (oneL n) && playB (hearSd D (oneL n)) (l ++ m)) = false
    cases h1 : hearB D (oneL n)
    · rfl
    · rw [h1, Bool.true_and] at h'
      rw [Bool.true_and]
      exact playB_no l m _ h'
theorem play_good : ∀ (l : List Int) (D : SdD), goodSd D = true → playB D l = true → goodSd (playSd D l) = true ∧ (playSd D l).f0 = D.f0
  | [], _, h, _ => ⟨h, rfl⟩
  | n :: l, D, _, hb => by
    have hb' : (hearB D (oneL n) && playB (hearSd D (oneL n)) l) = true := hb
    rw [Bool.and_eq_true] at hb'
    have g := goodSd_hear hb'.1
    have r := play_good l _ g.1 hb'.2
    exact ⟨r.1, r.2.trans g.2⟩
theorem hearLa_in {D : SdD} {l : List Sp} {x : Int} (h : x ∈ hearLa D l) : 0 ≤ x ∧ x < D.f0 := by
  unfold hearLa at h
  cases hb : hearB D l
  · rw [hb] at h; cases h
  · rw [hb] at h
    have h1 := (selU_mem _ _ x).1 h
    simp only [upTo, Bool.and_eq_true, decide_eq_true_eq] at h1
    omega
theorem playE_in : ∀ (l : List Int) (D : SdD), playB D l = true → ∀ x ∈ playE D l, 0 ≤ x ∧ x < D.f0
  | [], _, _, x, h => by cases h
  | n :: l, D, hb, x, h => by
    have hb' : (hearB D (oneL n) && playB (hearSd D (oneL n)) l) = true := hb
    rw [Bool.and_eq_true] at hb'
    have h' : x ∈ hearLa D (oneL n) ++ playE (hearSd D (oneL n)) l := h
    rcases List.mem_append.1 h' with h' | h'
    · exact hearLa_in h'
    · have := playE_in l _ hb'.2 x h'
      rw [(goodSd_hear hb'.1).2] at this
      exact this
/-- The answer: all that was ever late, in order. -/
def playT (many : Int) (l : List Int) : Bool := newSdB many && (oruB l many && playB (newSd many) l)
def playL (many : Int) (l : List Int) : List Int := bif playT many l then selU (fun x => (playE (newSd many) l).contains x) many.toNat else []
theorem play_of_set {ys : List Int} {many : Int} {l : List Int} (ht : playT many l = true) (hy : ys.Pairwise (· < ·)) (hm : ∀ x, x ∈ ys ↔ (playE (newSd many) l).contains x = true) : ys = playL many l := by
  have ht' := ht
  unfold playT at ht'
  rw [Bool.and_eq_true, Bool.and_eq_true] at ht'
  have hn : newSd many = ⟨many, [], []⟩ := by unfold newSd; rw [ht'.1]; rfl
  have h0 : 0 ≤ many := by have := ht'.1; unfold newSdB at this; rw [decide_eq_true_eq] at this; exact this.1
  unfold playL
  rw [ht]
  refine sel_of_set hy hm fun x => ?_
  cases hc : (playE (newSd many) l).contains x
  · rw [Bool.and_false]
  · have := playE_in l _ ht'.2.2 x (by simpa using hc)
    rw [hn] at this
    rw [Bool.and_true]
    symm
    show decide _ = true
    rw [decide_eq_true_eq]
    have h2 : 0 ≤ x ∧ x < many := this
    omega
end Go.Proofs.Ytnkpboobfkjibad
namespace Go.Proofs.Ytnkpboobfkjibad

theorem selU_succ (f : Int → Bool) (n : Nat) : selU f (n + 1) = selU f n ++ (bif f n then [(n : Int)] else []) := rfl
theorem sel_split {f g h : Int → Bool} : ∀ n : Nat, (∀ x, 0 ≤ x → x < (n : Int) → h x = (f x || g x) ∧ (f x && g x) = false) → (selU h n).length = (selU f n).length + (selU g n).length
  | 0, _ => rfl
  | n + 1, hx => by
    have ih := sel_split n fun x h0 h1 => hx x h0 (by omega)
    obtain ⟨h1, h2⟩ := hx n (by omega) (by omega)
    rw [selU_succ, selU_succ, selU_succ, List.length_append, List.length_append, List.length_append, ih, h1]
    revert h2
    cases f (n : Int) <;> cases g (n : Int) <;> simp <;> omega
theorem sel_all {f : Int → Bool} : ∀ n : Nat, (∀ x, 0 ≤ x → x < (n : Int) → f x = true) → (selU f n).length = n
  | 0, _ => rfl
  | n + 1, h => by
    rw [selU_succ, List.length_append, sel_all n fun x h0 h1 => h x h0 (by omega), h n (by omega) (by omega)]
    rfl
theorem sel_none {f : Int → Bool} : ∀ n : Nat, (∀ x, 0 ≤ x → x < (n : Int) → f x = false) → selU f n = []
  | 0, _ => rfl
  | n + 1, h => by
    rw [selU_succ, sel_none n fun x h0 h1 => h x h0 (by omega), h n (by omega) (by omega)]
    rfl
theorem sel_congr {f g : Int → Bool} : ∀ n : Nat, (∀ x, 0 ≤ x → x < (n : Int) → f x = g x) → selU f n = selU g n
  | 0, _ => rfl
  | n + 1, h => by
    rw [selU_succ, selU_succ, sel_congr n fun x h0 h1 => h x h0 (by omega), h n (by omega) (by omega)]
theorem sel_one {v : Int} : ∀ n : Nat, 0 ≤ v → v < (n : Int) → (selU (fun x => x == v) n).length = 1
  | 0, h0, h1 => by omega
  | n + 1, h0, h1 => by
    rw [selU_succ, List.length_append]
    by_cases e : v = n
    · subst e
      rw [sel_none n fun x _ h2 => by rw [beq_eq_false_iff_ne]; omega]
      simp
    · have e' : ((n : Int) == v) = false := by rw [beq_eq_false_iff_ne]; omega
      rw [sel_one n h0 (by omega), e']
      rfl
theorem openU_sel (h : List Sp) (l : List Int) : ∀ n, openU h l n = selU (fun x => !(hasL h x || l.contains x)) n
  | 0 => rfl
  | n + 1 => by
    show openU h l n ++ (bif hasL h n || l.contains (n : Int) then [] else [(n : Int)]) = _
    rw [openU_sel h l n, selU_succ]
    cases hasL h n || l.contains (n : Int) <;> rfl
theorem sel_cnt (f : Int → Bool) : ∀ n : Nat, cnt f 0 n = ((selU f n).length : Int)
  | 0 => rfl
  | n + 1 => by
    rw [cnt_split f n 0 1, sel_cnt f n, selU_succ, List.length_append]
    simp only [cnt, Int.zero_add]
    cases f (n : Int) <;> simp
/-- How many numbers are in spans below n. -/
theorem len_sel {J : List Sp} {n : Nat} (h : chainB (-1) J = true) (hn : ∀ x, hasL J x = true → x < (n : Int)) (hn' : n ≤ 1000000) : lenL J = ((selU (hasL J) n).length : Int) := by
  have h1 := len_cnt h (by omega)
  have e : (1000000 - (-1) : Int).toNat = 1 + (n + (1000000 - n)) := by omega
  rw [e, cnt_split, cnt_split] at h1
  rw [cnt_none (hasL J) 1 (-1) fun x h0 h1 => has_le h (by omega)] at h1
  rw [cnt_none (hasL J) (1000000 - n) _ fun x h0 h1 => by
    cases hx : hasL J x
    · rfl
    · have := hn x hx; omega] at h1
  rw [← sel_cnt]
  rw [← h1]
  simp
theorem bel_good {l : List Sp} {z : Int} (h : belB l z = true) : goodL l = true := by unfold belB at h; rw [Bool.and_eq_true] at h; exact h.1
theorem len_bel {J : List Sp} {n : Nat} (h : belB J (n : Int) = true) (hn : n ≤ 60) : lenL J = ((selU (hasL J) n).length : Int) :=
  len_sel (good_chain (bel_good h)) (fun _ hx => (bel_has h hx).2) (by omega)
theorem hearSd_yes {D : SdD} {l : List Sp} (h : hearB D l = true) : hearSd D l = ⟨D.f0, joinL D.f1 l, selU (lostF (joinL D.f1 l) D.f2) D.f0.toNat⟩ := by unfold hearSd; rw [h]; rfl
/-- What is told of a sender that has heard. -/
theorem heard_told {D : SdD} {l : List Sp} (h : hearB D l = true) :
    goodSd (hearSd D l) = true ∧ goodL (hearSd D l).f1 = true ∧ goodL D.f1 = true ∧ lenL (hearSd D l).f1 = lenL D.f1 + ((hearFr D l).length : Int) ∧
    lenL (hearSd D l).f1 + ((hearSd D l).f2.length : Int) + ((openL (hearSd D l)).length : Int) = (hearSd D l).f0 ∧
    (∀ x ∈ hearLa D l ++ openL (hearSd D l), x ∈ openL D) ∧ hearB (hearSd D l) l = true ∧ hearSd (hearSd D l) l = hearSd D l ∧ hearFr (hearSd D l) l = [] ∧ hearLa (hearSd D l) l = [] := by
  have hg := goodSd_hear h
  have h' := h
  unfold hearB at h'
  rw [Bool.and_eq_true, Bool.and_eq_true, decide_eq_true_eq] at h'
  obtain ⟨hgD, hb, hl⟩ := h'
  have h60 := (goodSd_few hgD).1
  obtain ⟨g1, _⟩ := goodSd_parts hgD
  obtain ⟨n, hn⟩ : ∃ n : Nat, D.f0 = (n : Int) := ⟨D.f0.toNat, by omega⟩
  have hn60 : n ≤ 60 := by omega
  have e : hearSd D l = ⟨D.f0, joinL D.f1 l, selU (lostF (joinL D.f1 l) D.f2) n⟩ := by unfold hearSd; rw [h, hn]; rfl
  have eF : hearFr D l = selU (freshF (joinL D.f1 l) D.f1) n := by unfold hearFr; rw [h, hn]; rfl
  have eL : hearLa D l = selU (lateF (joinL D.f1 l) D.f2) n := by unfold hearLa; rw [h, hn]; rfl
  have c1 := good_chain (bel_good g1)
  have c2 := good_chain (bel_good hb)
  have hJ := join_bel g1 hb hl
  have cJ := good_chain (bel_good hJ)
  have hhas : ∀ x, hasL (joinL D.f1 l) x = (hasL D.f1 x || hasL l x) := joinL_has c1 c2
  have eO : openL (hearSd D l) = openU (joinL D.f1 l) (selU (lostF (joinL D.f1 l) D.f2) n) n := by unfold openL; rw [hg.1, e, hn]; rfl
  have eOD : openL D = openU D.f1 D.f2 n := by unfold openL; rw [hgD, hn]; rfl
  have hmem : ∀ x, (selU (lostF (joinL D.f1 l) D.f2) n).contains x = (upTo n x && lostF (joinL D.f1 l) D.f2 x) := fun x => by
    rw [List.contains_eq_mem, Bool.eq_iff_iff, decide_eq_true_eq]
    exact selU_mem _ n x
  have hup : ∀ x : Int, 0 ≤ x → x < (n : Int) → upTo n x = true := fun x h0 h1 => by unfold upTo; rw [decide_eq_true_eq]; exact ⟨h0, h1⟩
  have hJJ : joinL (joinL D.f1 l) l = joinL D.f1 l := canon (joinL_chain cJ c2) cJ fun x => by
    rw [joinL_has cJ c2, hhas]
    cases hasL D.f1 x <;> cases hasL l x <;> rfl
  have hB2 : hearB (hearSd D l) l = true := by
    unfold hearB
    rw [hg.1, e]
    show (true && (belB l D.f0 && decide ((joinL (joinL D.f1 l) l).length ≤ 20))) = true
    rw [hb, hJJ, decide_eq_true hl]
    rfl
  have hLL : ∀ x : Int, 0 ≤ x → x < (n : Int) → lostF (joinL D.f1 l) (selU (lostF (joinL D.f1 l) D.f2) n) x = lostF (joinL D.f1 l) D.f2 x := fun x h0 h1 => by
    show (!hasL (joinL D.f1 l) x && ((selU (lostF (joinL D.f1 l) D.f2) n).contains x || decide (x + 3 ≤ topH (joinL D.f1 l)))) = _
    rw [hmem, hup x h0 h1]
    unfold lostF
    cases hasL (joinL D.f1 l) x <;> cases D.f2.contains x <;> cases decide (x + 3 ≤ topH (joinL D.f1 l)) <;> rfl
  refine ⟨hg.1, by rw [e]; exact bel_good hJ, bel_good g1, ?_, ?_, ?_, hB2, ?_, ?_, ?_⟩
  · rw [e, eF]
    show lenL (joinL D.f1 l) = _
    rw [hn] at hJ g1
    rw [len_bel hJ hn60, len_bel g1 hn60, sel_split (f := hasL D.f1) (g := freshF (joinL D.f1 l) D.f1) n]
    · simp
    · intro x _ _
      unfold freshF
      rw [hhas]
      cases hasL D.f1 x <;> cases hasL l x <;> exact ⟨rfl, rfl⟩
  · rw [eO, e]
    show lenL (joinL D.f1 l) + _ + _ = D.f0
    rw [hn] at hJ
    rw [len_bel hJ hn60, openU_sel]
    have s1 := sel_split (f := hasL (joinL D.f1 l)) (g := lostF (joinL D.f1 l) D.f2) (h := fun x => hasL (joinL D.f1 l) x || lostF (joinL D.f1 l) D.f2 x) n fun x _ _ => by
      refine ⟨rfl, ?_⟩
      unfold lostF
      cases hasL (joinL D.f1 l) x <;> rfl
    have s2 := sel_split (f := fun x => hasL (joinL D.f1 l) x || lostF (joinL D.f1 l) D.f2 x) (g := fun x => !(hasL (joinL D.f1 l) x || (selU (lostF (joinL D.f1 l) D.f2) n).contains x)) (h := fun _ => true) n fun x h0 h1 => by
      simp only [hmem, hup x h0 h1, Bool.true_and]
      cases hasL (joinL D.f1 l) x <;> cases lostF (joinL D.f1 l) D.f2 x <;> exact ⟨rfl, rfl⟩
    rw [sel_all n fun _ _ _ => rfl] at s2
    rw [hn]
    show ((selU (hasL (joinL D.f1 l)) n).length : Int) + ((selU (lostF (joinL D.f1 l) D.f2) n).length : Int) + _ = (n : Int)
    omega
  · intro x hx
    rw [eOD, openU_mem]
    have key : upTo n x = true ∧ hasL (joinL D.f1 l) x = false ∧ D.f2.contains x = false := by
      rcases List.mem_append.1 hx with hx | hx
      · rw [eL, selU_mem] at hx
        unfold lateF at hx
        simp only [Bool.and_eq_true, Bool.not_eq_true'] at hx
        exact ⟨hx.1, hx.2.1, hx.2.2.1⟩
      · rw [eO, openU_mem, hmem] at hx
        simp only [Bool.and_eq_true, Bool.not_eq_true'] at hx
        obtain ⟨⟨k1, k2⟩, k3⟩ := hx
        refine ⟨k1, k2, ?_⟩
        rw [k1, Bool.true_and] at k3
        unfold lostF at k3
        rw [k2] at k3
        revert k3
        cases D.f2.contains x
        · intro _; rfl
        · intro k3; cases k3
    obtain ⟨k1, k2, k3⟩ := key
    rw [hhas] at k2
    rw [k1, k3]
    revert k2
    cases hasL D.f1 x
    · intro _; rfl
    · intro k2; cases k2
  · have : hearSd (hearSd D l) l = ⟨(hearSd D l).f0, joinL (hearSd D l).f1 l, selU (lostF (joinL (hearSd D l).f1 l) (hearSd D l).f2) (hearSd D l).f0.toNat⟩ := by
      exact hearSd_yes hB2
    rw [this, e]
    show (⟨D.f0, joinL (joinL D.f1 l) l, selU (lostF (joinL (joinL D.f1 l) l) (selU (lostF (joinL D.f1 l) D.f2) n)) D.f0.toNat⟩ : SdD) = _
    rw [hJJ, hn, Int.toNat_natCast, sel_congr n hLL]
  · unfold hearFr
    rw [hB2, e]
    show selU (freshF (joinL (joinL D.f1 l) l) (joinL D.f1 l)) D.f0.toNat = []
    rw [hJJ]
    refine sel_none _ fun x _ _ => ?_
    unfold freshF
    cases hasL (joinL D.f1 l) x <;> rfl
  · unfold hearLa
    rw [hB2, e]
    show selU (lateF (joinL (joinL D.f1 l) l) (selU (lostF (joinL D.f1 l) D.f2) n)) D.f0.toNat = []
    rw [hJJ, hn, Int.toNat_natCast]
    refine sel_none _ fun x h0 h1 => ?_
    unfold lateF
    rw [hmem, hup x h0 h1]
    unfold lostF
    cases hasL (joinL D.f1 l) x <;> cases D.f2.contains x <;> cases decide (x + 3 ≤ topH (joinL D.f1 l)) <;> rfl
end Go.Proofs.Ytnkpboobfkjibad
