/-
  Blocks in plain words: whether one is good, whether it is done. No program.
-/
import Derived.Test.YtnkpboobfkjibalFlowFns
import Derived.Test.YtnkpboobfkjibalPcMath
import Derived.Test.YtnkpboobfkjibalZeroTxt
import Derived.Test.YtnkpboobfkjibalKSpanSf
namespace Go.Proofs.Ytnkpboobfkjibal

def idB (z l : Int) : Bool := decide (0 ≤ z ∧ z ≤ 1000) && decide (1 ≤ l ∧ l ≤ 40)
/-- Of the first k places each that spans have not holds byte 0. -/
def blankU (t : ByteArray) (xs : List Sp) : Nat → Bool
  | 0 => true
  | k + 1 => blankU t xs k && (bt t k == 0 || hasL xs (k : Nat))
theorem blankU_no {t : ByteArray} {xs : List Sp} {k : Nat} (h : blankU t xs k = false) : ∀ j, k ≤ j → blankU t xs j = false
  | 0, hj => by obtain rfl : k = 0 := by omega
                exact h
  | j + 1, hj => by
    by_cases e : k = j + 1
    · rw [← e]; exact h
    · simp only [blankU]; rw [blankU_no h j (by omega)]; rfl
theorem blankU_iff (t : ByteArray) (xs : List Sp) : ∀ k, blankU t xs k = true ↔ ∀ i, i < k → bt t i = 0 ∨ hasL xs (i : Nat) = true
  | 0 => by simp [blankU]
  | k + 1 => by
    simp only [blankU, Bool.and_eq_true, blankU_iff t xs k, Bool.or_eq_true, beq_iff_eq]
    constructor
    · rintro ⟨h1, h2⟩ i hi
      by_cases e : i = k
      · subst e; exact h2
      · exact h1 i (by omega)
    · intro h
      exact ⟨fun i hi => h i (by omega), h k (by omega)⟩
def goodBl (D : BlD) : Bool := idB D.f0 D.f1 && (decide ((D.f2.size : Int) = D.f1) && (belB D.f3 D.f1 && blankU D.f2 D.f3 D.f1.toNat))
def doneBl (D : BlD) : Bool := decide (lenL D.f3 = D.f1)
/-- All bytes in the first k gaps are 0. -/
def gapsU (t : ByteArray) (gs : List Sp) : Nat → Bool
  | 0 => true
  | k + 1 => gapsU t gs k && zeroB (t.extract (gs.getD k (0, 0)).1.toNat (gs.getD k (0, 0)).2.toNat)
theorem gapsU_no {t : ByteArray} {gs : List Sp} {k : Nat} (h : gapsU t gs k = false) : ∀ j, k ≤ j → gapsU t gs j = false
  | 0, hj => by obtain rfl : k = 0 := by omega
                exact h
  | j + 1, hj => by
    by_cases e : k = j + 1
    · rw [← e]; exact h
    · simp only [gapsU]; rw [gapsU_no h j (by omega)]; rfl
theorem gapsU_iff (t : ByteArray) (gs : List Sp) : ∀ k, gapsU t gs k = true ↔ ∀ i, i < k → zeroB (t.extract (gs.getD i (0, 0)).1.toNat (gs.getD i (0, 0)).2.toNat) = true
  | 0 => by simp [gapsU]
  | k + 1 => by
    simp only [gapsU, Bool.and_eq_true, gapsU_iff t gs k]
    constructor
    · rintro ⟨h1, h2⟩ i hi
      by_cases e : i = k
      · subst e; exact h2
      · exact h1 i (by omega)
    · intro h
      exact ⟨fun i hi => h i (by omega), h k (by omega)⟩
theorem zeroB_iff (s : ByteArray) : zeroB s = true ↔ ∀ i, i < s.size → bt s i = 0 := by
  unfold zeroB zeroU
  rw [List.all_eq_true]
  simp only [List.mem_range, beq_iff_eq]
theorem has_spot (m : List Sp) (x : Int) : hasL m x = true ↔ ∃ k, k < m.length ∧ inB (m.getD k (0, 0)) x = true := by
  induction m with
  | nil => simp [hasL]
  | cons y m ih =>
    show (inB y x || hasL m x) = true ↔ _
    rw [Bool.or_eq_true, ih]
    constructor
    · rintro (h | ⟨k, hk, e⟩)
      · exact ⟨0, by simp, h⟩
      · exact ⟨k + 1, by simpa using hk, e⟩
    · rintro ⟨k, hk, e⟩
      rcases k with _ | k
      · exact .inl e
      · exact .inr ⟨k, by simpa using hk, e⟩
theorem bel_chain {xs : List Sp} {u : Int} (h : belB xs u = true) : chainB (-1) xs = true := by
  unfold belB at h
  rw [Bool.and_eq_true] at h
  exact good_chain h.1
theorem bel_goodL {xs : List Sp} {u : Int} (h : belB xs u = true) : goodL xs = true := by
  unfold belB at h
  rw [Bool.and_eq_true] at h
  exact h.1
/-- What is missing lies within. -/
theorem miss_in {xs : List Sp} {u : Int} (h : chainB (-1) xs = true) (h1 : u ≤ 1000000) (k : Nat) (hk : k < (missL xs u).length) : 0 ≤ ((missL xs u).getD k (0, 0)).1 ∧ ((missL xs u).getD k (0, 0)).1 < ((missL xs u).getD k (0, 0)).2 ∧ ((missL xs u).getD k (0, 0)).2 ≤ u := by
  have hc := chain_spot (missL_chain h h1) k hk
  have hs := (spB_iff _).1 hc.1.2
  have hx : hasL (missL xs u) (((missL xs u).getD k (0, 0)).2 - 1) = true := (has_spot _ _).2 ⟨k, hk, (inB_iff _ _).2 (by omega)⟩
  rw [missL_has h, Bool.and_eq_true, Bool.and_eq_true, decide_eq_true_eq, decide_eq_true_eq] at hx
  omega
/-- Where no gap has another byte no place has that spans have not. -/
theorem gaps_blank {t : ByteArray} {xs : List Sp} {u : Nat} (hs : t.size = u) (h : chainB (-1) xs = true) (h1 : (u : Int) ≤ 1000000) : gapsU t (missL xs u) (missL xs u).length = blankU t xs u := by
  rw [Bool.eq_iff_iff, gapsU_iff, blankU_iff]
  constructor
  · intro hg i hi
    by_cases hx : hasL xs (i : Nat) = true
    · exact .inr hx
    · left
      have hm : hasL (missL xs u) (i : Nat) = true := by
        rw [missL_has h, Bool.and_eq_true, Bool.and_eq_true, decide_eq_true_eq, decide_eq_true_eq, Bool.not_eq_true']
        exact ⟨⟨by omega, by omega⟩, by simpa using hx⟩
      obtain ⟨k, hk, e⟩ := (has_spot _ _).1 hm
      rw [inB_iff] at e
      have hin := miss_in h h1 k hk
      have hz := (zeroB_iff _).1 (hg k hk) (i - ((missL xs u).getD k (0, 0)).1.toNat) (by rw [ByteArray.size_extract]; omega)
      rw [bt_extract _ _ _ _ (by omega), if_pos (by omega)] at hz
      rw [show ((missL xs u).getD k (0, 0)).1.toNat + (i - ((missL xs u).getD k (0, 0)).1.toNat) = i by omega] at hz
      exact hz
  · intro hb k hk
    have hin := miss_in h h1 k hk
    rw [zeroB_iff]
    intro i hi
    rw [ByteArray.size_extract] at hi
    rw [bt_extract _ _ _ _ (by omega), if_pos (by omega)]
    have hx : hasL (missL xs u) ((((missL xs u).getD k (0, 0)).1.toNat + i : Nat) : Int) = true := (has_spot _ _).2 ⟨k, hk, (inB_iff _ _).2 (by omega)⟩
    rw [missL_has h, Bool.and_eq_true, Bool.not_eq_true'] at hx
    rcases hb (((missL xs u).getD k (0, 0)).1.toNat + i) (by omega) with h0 | h0
    · exact h0
    · rw [hx.2] at h0; cases h0
/-- All is had where nothing is missing. -/
theorem done_miss {xs : List Sp} {u : Int} (hb : belB xs u = true) (h0 : 0 < u) (h1 : u ≤ 1000000) : decide (lenL xs = u) = decide ((missL xs u).length = 0) := by
  have hc := bel_chain hb
  have hm := missL_chain hc h1
  have hs := len_sum hc hm
  have hj : joinL xs (missL xs u) = [(0, u)] := by
    refine canon (p := -1) (q := -1) (joinL_chain hc hm) (by rw [chain_cons, spB_iff]; exact ⟨by simp, by simp only; omega, rfl⟩) fun n => ?_
    rw [joinL_has hc hm, missL_has hc]
    show _ = (inB (0, u) n || false)
    rw [Bool.or_false, Bool.eq_iff_iff, inB_iff]
    simp only [Bool.or_eq_true, Bool.and_eq_true, decide_eq_true_eq, Bool.not_eq_true']
    constructor
    · rintro (h | h)
      · exact bel_has hb h
      · exact h.1
    · intro h
      cases e : hasL xs n
      · exact .inr ⟨h, rfl⟩
      · exact .inl rfl
  have hn : meetL xs (missL xs u) = [] := by
    refine canon (p := -1) (q := -1) (meetL_chain hc hm) rfl fun n => ?_
    rw [meetL_has, missL_has hc]
    cases hasL xs n <;> simp [hasL]
  rw [hj, hn] at hs
  simp only [lenL] at hs
  have hz : lenL (missL xs u) = 0 ↔ (missL xs u).length = 0 := by
    rcases hM : missL xs u with _ | ⟨x, l⟩
    · simp [lenL]
    · rw [hM] at hm
      have h2 := (chain_cons _ _ _).1 hm
      have h3 := (spB_iff _).1 h2.2.1
      have h4 := len_bounds h2.2.2 (by omega)
      simp only [lenL, List.length_cons]
      omega
  rw [decide_eq_decide, ← hz]
  omega
theorem goodBl_parts {D : BlD} (h : goodBl D = true) : (0 ≤ D.f0 ∧ D.f0 ≤ 1000) ∧ (1 ≤ D.f1 ∧ D.f1 ≤ 40) ∧ (D.f2.size : Int) = D.f1 ∧ belB D.f3 D.f1 = true ∧ blankU D.f2 D.f3 D.f1.toNat = true := by
  unfold goodBl idB at h
  simp only [Bool.and_eq_true, decide_eq_true_eq] at h
  exact ⟨h.1.1, h.1.2, h.2.1, h.2.2.1, h.2.2.2⟩
end Go.Proofs.Ytnkpboobfkjibal
