/-
  What is told of letters heard of: each is heard of, lost or open; heard of twice changes nothing. Plain arithmetic.
-/
import Derived.Test.YtijojdempijhbadPlayMath
namespace Go.Proofs.Ytijojdempijhbad

theorem selU_succ (f : Int → Bool) (n : Nat) : selU f (n + 1) = selU f n ++ (bif f n then [(n : Int)] else []) := rfl
theorem sel_split {f g h : Int → Bool} : ∀ n : Nat, (∀ x, 0 ≤ x → x < (n : Int) → h x = (f x || g x) ∧ (f x && g x) = false) → (selU h n).length = (selU f n).length + (selU g n).length
  | 0, _ => rfl
  | n + 1, hx => by
    have ih := sel_split n fun x h0 h1 => hx x h0 (by omega)
    obtain ⟨h1, h2⟩ := hx n (by omega) (by omega)
    rw [selU_succ, selU_succ, selU_succ, List.length_append, List.length_append, List.length_append, ih, h1]
    revert h2
    cases f (n : Int) <;> cases g (n : Int) <;> simp <;> omega
theorem sel_all {f : Int → Bool} : ∀ n : Nat, (∀ x, 0 ≤ x → x < (n : Int) → f x = true) → (selU f n).length = n
  | 0, _ => rfl
  | n + 1, h => by
    rw [selU_succ, List.length_append, sel_all n fun x h0 h1 => h x h0 (by omega), h n (by omega) (by omega)]
    rfl
theorem sel_none {f : Int → Bool} : ∀ n : Nat, (∀ x, 0 ≤ x → x < (n : Int) → f x = false) → selU f n = []
  | 0, _ => rfl
  | n + 1, h => by
    rw [selU_succ, sel_none n fun x h0 h1 => h x h0 (by omega), h n (by omega) (by omega)]
    rfl
theorem sel_congr {f g : Int → Bool} : ∀ n : Nat, (∀ x, 0 ≤ x → x < (n : Int) → f x = g x) → selU f n = selU g n
  | 0, _ => rfl
  | n + 1, h => by
    rw [selU_succ, selU_succ, sel_congr n fun x h0 h1 => h x h0 (by omega), h n (by omega) (by omega)]
theorem sel_one {v : Int} : ∀ n : Nat, 0 ≤ v → v < (n : Int) → (selU (fun x => x == v) n).length = 1
  | 0, h0, h1 => by omega
  | n + 1, h0, h1 => by
    rw [selU_succ, List.length_append]
    by_cases e : v = n
    · subst e
      rw [sel_none n fun x _ h2 => by rw [beq_eq_false_iff_ne]; omega]
      simp
    · have e' : ((n : Int) == v) = false := by rw [beq_eq_false_iff_ne]; omega
      rw [sel_one n h0 (by omega), e']
      rfl
theorem openU_sel (h : List Sp) (l : List Int) : ∀ n, openU h l n = selU (fun x => !(hasL h x || l.contains x)) n
  | 0 => rfl
  | n + 1 => by
    show openU h l n ++ (bif hasL h n || l.contains (n : Int) then [] else [(n : Int)]) = _
    rw [openU_sel h l n, selU_succ]
    cases hasL h n || l.contains (n : Int) <;> rfl
theorem sel_cnt (f : Int → Bool) : ∀ n : Nat, cnt f 0 n = ((selU f n).length : Int)
  | 0 => rfl
  | n + 1 => by
    rw [cnt_split f n 0 1, sel_cnt f n, selU_succ, List.length_append]
    simp only [cnt, Int.zero_add]
    cases f (n : Int) <;> simp
/-- How many numbers are in spans below n. -/
theorem len_sel {J : List Sp} {n : Nat} (h : chainB (-1) J = true) (hn : ∀ x, hasL J x = true → x < (n : Int)) (hn' : n ≤ 1000000) : lenL J = ((selU (hasL J) n).length : Int) := by
  have h1 := len_cnt h (by omega)
  have e : (1000000 - (-1) : Int).toNat = 1 + (n + (1000000 - n)) := by omega
  rw [e, cnt_split, cnt_split] at h1
  rw [cnt_none (hasL J) 1 (-1) fun x h0 h1 => has_le h (by omega)] at h1
  rw [cnt_none (hasL J) (1000000 - n) _ fun x h0 h1 => by
    cases hx : hasL J x
    · rfl
    · have := hn x hx; omega] at h1
  rw [← sel_cnt]
  rw [← h1]
  simp
theorem bel_good {l : List Sp} {z : Int} (h : belB l z = true) : goodL l = true := by unfold belB at h; rw [Bool.and_eq_true] at h; exact h.1
theorem len_bel {J : List Sp} {n : Nat} (h : belB J (n : Int) = true) (hn : n ≤ 60) : lenL J = ((selU (hasL J) n).length : Int) :=
  len_sel (good_chain (bel_good h)) (fun _ hx => (bel_has h hx).2) (by omega)
theorem hearSd_yes {D : SdD} {l : List Sp} (h : hearB D l = true) : hearSd D l = ⟨D.f0, joinL D.f1 l, selU (lostF (joinL D.f1 l) D.f2) D.f0.toNat⟩ := by unfold hearSd; rw [h]; rfl
/-- What is told of a sender that has heard. -/
theorem heard_told {D : SdD} {l : List Sp} (h : hearB D l = true) :
    goodSd (hearSd D l) = true ∧ goodL (hearSd D l).f1 = true ∧ goodL D.f1 = true ∧ lenL (hearSd D l).f1 = lenL D.f1 + ((hearFr D l).length : Int) ∧
    lenL (hearSd D l).f1 + ((hearSd D l).f2.length : Int) + ((openL (hearSd D l)).length : Int) = (hearSd D l).f0 ∧
    (∀ x ∈ hearLa D l ++ openL (hearSd D l), x ∈ openL D) ∧ hearB (hearSd D l) l = true ∧ hearSd (hearSd D l) l = hearSd D l ∧ hearFr (hearSd D l) l = [] ∧ hearLa (hearSd D l) l = [] := by
  have hg := goodSd_hear h
  have h' := h
  unfold hearB at h'
  rw [Bool.and_eq_true, Bool.and_eq_true, decide_eq_true_eq] at h'
  obtain ⟨hgD, hb, hl⟩ := h'
  have h60 := (goodSd_few hgD).1
  obtain ⟨g1, _⟩ := goodSd_parts hgD
  obtain ⟨n, hn⟩ : ∃ n : Nat, D.f0 = (n : Int) := ⟨D.f0.toNat, by omega⟩
  have hn60 : n ≤ 60 := by omega
  have e : hearSd D l = ⟨D.f0, joinL D.f1 l, selU (lostF (joinL D.f1 l) D.f2) n⟩ := by unfold hearSd; rw [h, hn]; rfl
  have eF : hearFr D l = selU (freshF (joinL D.f1 l) D.f1) n := by unfold hearFr; rw [h, hn]; rfl
  have eL : hearLa D l = selU (lateF (joinL D.f1 l) D.f2) n := by unfold hearLa; rw [h, hn]; rfl
  have c1 := good_chain (bel_good g1)
  have c2 := good_chain (bel_good hb)
  have hJ := join_bel g1 hb hl
  have cJ := good_chain (bel_good hJ)
  have hhas : ∀ x, hasL (joinL D.f1 l) x = (hasL D.f1 x || hasL l x) := joinL_has c1 c2
  have eO : openL (hearSd D l) = openU (joinL D.f1 l) (selU (lostF (joinL D.f1 l) D.f2) n) n := by unfold openL; rw [hg.1, e, hn]; rfl
  have eOD : openL D = openU D.f1 D.f2 n := by unfold openL; rw [hgD, hn]; rfl
  have hmem : ∀ x, (selU (lostF (joinL D.f1 l) D.f2) n).contains x = (upTo n x && lostF (joinL D.f1 l) D.f2 x) := fun x => by
    rw [List.contains_eq_mem, Bool.eq_iff_iff, decide_eq_true_eq]
    exact selU_mem _ n x
  have hup : ∀ x : Int, 0 ≤ x → x < (n : Int) → upTo n x = true := fun x h0 h1 => by unfold upTo; rw [decide_eq_true_eq]; exact ⟨h0, h1⟩
  have hJJ : joinL (joinL D.f1 l) l = joinL D.f1 l := canon (joinL_chain cJ c2) cJ fun x => by
    rw [joinL_has cJ c2, hhas]
    cases hasL D.f1 x <;> cases hasL l x <;> rfl
  have hB2 : hearB (hearSd D l) l = true := by
    unfold hearB
    rw [hg.1, e]
    show (true && (belB l D.f0 && decide ((joinL (joinL D.f1 l) l).length ≤ 20))) = true
    rw [hb, hJJ, decide_eq_true hl]
    rfl
  have hLL : ∀ x : Int, 0 ≤ x → x < (n : Int) → lostF (joinL D.f1 l) (selU (lostF (joinL D.f1 l) D.f2) n) x = lostF (joinL D.f1 l) D.f2 x := fun x h0 h1 => by
    show (!hasL (joinL D.f1 l) x && ((selU (lostF (joinL D.f1 l) D.f2) n).contains x || decide (x + 3 ≤ topH (joinL D.f1 l)))) = _
    rw [hmem, hup x h0 h1]
    unfold lostF
    cases hasL (joinL D.f1 l) x <;> cases D.f2.contains x <;> cases decide (x + 3 ≤ topH (joinL D.f1 l)) <;> rfl
  refine ⟨hg.1, by rw [e]; exact bel_good hJ, bel_good g1, ?_, ?_, ?_, hB2, ?_, ?_, ?_⟩
  · rw [e, eF]
    show lenL (joinL D.f1 l) = _
    rw [hn] at hJ g1
    rw [len_bel hJ hn60, len_bel g1 hn60, sel_split (f := hasL D.f1) (g := freshF (joinL D.f1 l) D.f1) n]
    · simp
    · intro x _ _
      unfold freshF
      rw [hhas]
      cases hasL D.f1 x <;> cases hasL l x <;> exact ⟨rfl, rfl⟩
  · rw [eO, e]
    show lenL (joinL D.f1 l) + _ + _ = D.f0
    rw [hn] at hJ
    rw [len_bel hJ hn60, openU_sel]
    have s1 := sel_split (f := hasL (joinL D.f1 l)) (g := lostF (joinL D.f1 l) D.f2) (h := fun x => hasL (joinL D.f1 l) x || lostF (joinL D.f1 l) D.f2 x) n fun x _ _ => by
      refine ⟨rfl, ?_⟩
      unfold lostF
      cases hasL (joinL D.f1 l) x <;> rfl
    have s2 := sel_split (f := fun x => hasL (joinL D.f1 l) x || lostF (joinL D.f1 l) D.f2 x) (g := fun x => !(hasL (joinL D.f1 l) x || (selU (lostF (joinL D.f1 l) D.f2) n).contains x)) (h := fun _ => true) n fun x h0 h1 => by
      simp only [hmem, hup x h0 h1, Bool.true_and]
      cases hasL (joinL D.f1 l) x <;> cases lostF (joinL D.f1 l) D.f2 x <;> exact ⟨rfl, rfl⟩
    rw [sel_all n fun _ _ _ => rfl] at s2
    rw [hn]
    show ((selU (hasL (joinL D.f1 l)) n).length : Int) + ((selU (lostF (joinL D.f1 l) D.f2) n).length : Int) + _ = (n : Int)
    omega
  · intro x hx
    rw [eOD, openU_mem]
    have key : upTo n x = true ∧ hasL (joinL D.f1 l) x = false ∧ D.f2.contains x = false := by
      rcases List.mem_append.1 hx with hx | hx
      · rw [eL, selU_mem] at hx
        unfold lateF at hx
        simp only [Bool.and_eq_true, Bool.not_eq_true'] at hx
        exact ⟨hx.1, hx.2.1, hx.2.2.1⟩
      · rw [eO, openU_mem, hmem] at hx
        simp only [Bool.and_eq_true, Bool.not_eq_true'] at hx
        obtain ⟨⟨k1, k2⟩, k3⟩ := hx
        refine ⟨k1, k2, ?_⟩
        rw [k1, Bool.true_and] at k3
        unfold lostF at k3
        rw [k2] at k3
        revert k3
        cases D.f2.contains x
        · intro _; rfl
        · intro k3; cases k3
    obtain ⟨k1, k2, k3⟩ := key
    rw [hhas] at k2
    rw [k1, k3]
    revert k2
    cases hasL D.f1 x
    · intro _; rfl
    · intro k2; cases k2
  · have : hearSd (hearSd D l) l = ⟨(hearSd D l).f0, joinL (hearSd D l).f1 l, selU (lostF (joinL (hearSd D l).f1 l) (hearSd D l).f2) (hearSd D l).f0.toNat⟩ := by
      exact hearSd_yes hB2
    rw [this, e]
    show (⟨D.f0, joinL (joinL D.f1 l) l, selU (lostF (joinL (joinL D.f1 l) l) (selU (lostF (joinL D.f1 l) D.f2) n)) D.f0.toNat⟩ : SdD) = _
    rw [hJJ, hn, Int.toNat_natCast, sel_congr n hLL]
  · unfold hearFr
    rw [hB2, e]
    show selU (freshF (joinL (joinL D.f1 l) l) (joinL D.f1 l)) D.f0.toNat = []
    rw [hJJ]
    refine sel_none _ fun x _ _ => ?_
    unfold freshF
    cases hasL (joinL D.f1 l) x <;> rfl
  · unfold hearLa
    rw [hB2, e]
    show selU (lateF (joinL (joinL D.f1 l) l) (selU (lostF (joinL D.f1 l) D.f2) n)) D.f0.toNat = []
    rw [hJJ, hn, Int.toNat_natCast]
    refine sel_none _ fun x h0 h1 => ?_
    unfold lateF
    rw [hmem, hup x h0 h1]
    unfold lostF
    cases hasL (joinL D.f1 l) x <;> cases D.f2.contains x <;> cases decide (x + 3 ≤ topH (joinL D.f1 l)) <;> rfl
end Go.Proofs.Ytijojdempijhbad
