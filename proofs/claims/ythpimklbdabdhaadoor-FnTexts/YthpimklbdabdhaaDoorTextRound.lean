/-
  Lists and texts come back from their bytes, whatever stands behind: plain arithmetic, no program.
-/
import Derived.Test.YthpimklbdabdhaaDoorRound
import Derived.Test.YthpimklbdabdhaaDoorListMath
import Derived.Test.YthpimklbdabdhaaDoorPutList
import Derived.Test.YthpimklbdabdhaaDoorSGetText
namespace Go.Proofs.YthpimklbdabdhaaDoor
open Go.RowKit

theorem num_read (n : Int) (h0 : 0 ≤ n) (h1 : n ≤ 1152921504606846975) : gsz (numB n) 0 = (szI n).toNat ∧ (gnum (numB n) 0 : Int) = n ∧ (numB n).size = (szI n).toNat := by
  obtain ⟨m, rfl⟩ := Int.eq_ofNat_of_zero_le h0
  have hsz := szI_is m
  obtain ⟨s, hs⟩ := Int.eq_ofNat_of_zero_le (show 0 ≤ szI m by omega)
  have hs4 : s = 1 ∨ s = 2 ∨ s = 4 ∨ s = 8 := by omega
  have hf := fits_of m s hs4 (by omega) (by omega)
  have e : numB (m : Int) = ⟨(wideL m s).toArray⟩ := by unfold numB wideB; rw [hs]; simp
  refine ⟨?_, ?_, ?_⟩
  · rw [e, gsz_wide m s hs4 hf, hs]; simp
  · rw [e, gnum_wide m s hs4 hf]
  · rw [e, hs]; show (wideL m s).toArray.size = _; simp [length_wideL]

theorem gval_part (s t : ByteArray) (k z : Nat) (h : ∀ j, j < z → sb s (k + j) = sb t j) : ∀ j, j < z → gval s k j = gval t 0 j
  | 0, hj => by have := h 0 hj; simp only [gval]; rw [Nat.add_zero] at this; rw [this]
  | j + 1, hj => by
    simp only [gval]
    rw [gval_part s t k z h j (by omega), h (j + 1) hj, Nat.zero_add]

/-- A number's text within a text. -/
theorem at_part (s : ByteArray) (k : Nat) (n : Int) (h0 : 0 ≤ n) (h1 : n ≤ 1152921504606846975) (h : ∀ j, j < (numB n).size → sb s (k + j) = sb (numB n) j) (hs : k + (numB n).size ≤ s.size) :
    GoodAt s k ∧ (gnum s k : Int) = n ∧ gsz s k = (numB n).size := by
  obtain ⟨a, b, c⟩ := num_read n h0 h1
  have hz := szI_is n
  have hp : 0 < (numB n).size := by omega
  have e1 : gsz s k = (numB n).size := by
    have hsb := h 0 hp
    rw [Nat.add_zero] at hsb
    have : gcl s k = gcl (numB n) 0 := by unfold gcl; rw [hsb]
    unfold gsz at a ⊢
    rw [this, a, c]
  have e2 : (gnum s k : Int) = n := by
    have : gnum s k = gnum (numB n) 0 := by
      unfold gnum
      rw [e1, a, c]
      exact gval_part s (numB n) k (numB n).size h _ (by omega)
    rw [this, b]
  refine ⟨⟨by omega, by omega, by omega, ?_⟩, e2, e1⟩
  rw [e2, e1, c]
  omega

theorem numL_get (n : Int) (j : Nat) (h : j < (numB n).data.toList.length) : ((numB n).data.toList[j]'h).toNat = sb (numB n) j := by
  rw [sb_eq (numB n) j (by simpa using h)]
  simp
  rfl

theorem rest_cat : ∀ (xs : List Int) (pre : List UInt8), (∀ x ∈ xs, 0 ≤ x ∧ x ≤ 1152921504606846975) → restL ⟨(pre ++ catL xs).toArray⟩ pre.length = some xs
  | [], pre, _ => by
    apply restL_end
    show ¬ pre.length < (pre ++ catL []).toArray.size
    simp [catL]
  | x :: xs, pre, h => by
    obtain ⟨h0, h1⟩ := h x (by simp)
    have el : catL (x :: xs) = (numB x).data.toList ++ catL xs := by simp [catL]
    have hlen : (numB x).data.toList.length = (numB x).size := by rw [Array.length_toList]; rfl
    obtain ⟨g, gn, gz⟩ := at_part ⟨(pre ++ catL (x :: xs)).toArray⟩ pre.length x h0 h1 (fun j hj => by
      have hj' : j < (numB x).data.toList.length := by omega
      rw [sb_list _ _ (by rw [el, List.length_append, List.length_append]; omega), ← numL_get x j hj']
      congr 1
      simp only [el]
      rw [List.getElem_append_right (by omega), List.getElem_append_left (by simpa using hj')]
      simp) (by show _ ≤ (pre ++ catL (x :: xs)).toArray.size; rw [el, List.size_toArray, List.length_append, List.length_append]; omega)
    rw [restL_good _ _ g, gn, gz]
    have ih := rest_cat xs (pre ++ (numB x).data.toList) (fun y hy => h y (by simp [hy]))
    rw [el, ← List.append_assoc]
    rw [List.length_append, hlen] at ih
    rw [ih]
    rfl
theorem list_cat (xs : List Int) (h60 : xs.length ≤ 60) (h : ∀ x ∈ xs, 0 ≤ x ∧ x ≤ 1152921504606846975) : listR (catB xs) = some xs := by
  have := rest_cat xs [] h
  unfold listR
  have e : restL (catB xs) 0 = some xs := this
  rw [e]
  simp [h60]

theorem cat_rest (s : ByteArray) : ∀ (d k : Nat) (l : List Int), s.size - k = d → k ≤ s.size → restL s k = some l → catL l = s.data.toList.drop k ∧ ∀ x ∈ l, 0 ≤ x ∧ x ≤ 1152921504606846975 := by
  intro d
  induction d using Nat.strongRecOn with
  | _ d ih =>
    intro k l hd hk hl
    have hds : s.data.toList.length = s.size := by rw [Array.length_toList]; rfl
    by_cases hlt : k < s.size
    · by_cases hG : GoodAt s k
      · rw [restL_good s k hG] at hl
        have hp := gsz_pos s k
        have hfit := hG.2.1
        cases hq : restL s (k + gsz s k) with
        | none => rw [hq] at hl; cases hl
        | some l' =>
          rw [hq] at hl
          simp at hl
          subst hl
          obtain ⟨h1, h2⟩ := ih (s.size - (k + gsz s k)) (by omega) (k + gsz s k) l' rfl (by omega) hq
          have hrb := read_back s k hG
          have e1 : (numB (gnum s k : Nat)).data.toList = (s.data.toList.drop k).take (gsz s k) := by
            rw [← hrb, ByteArray.data_extract, Array.toList_extract]
            simp [List.extract]
          constructor
          · show (numB (gnum s k : Nat)).data.toList ++ catL l' = _
            rw [e1, h1, ← List.drop_drop, List.take_append_drop]
          · intro x hx
            simp only [List.mem_cons] at hx
            rcases hx with rfl | hx
            · exact ⟨by omega, by have := hG.2.2.1; omega⟩
            · exact h2 x hx
      · rw [restL_bad s k hlt hG] at hl; cases hl
    · rw [restL_end s k hlt] at hl
      cases hl
      exact ⟨by rw [List.drop_of_length_le (by omega)]; rfl, by simp⟩
theorem cat_list (s : ByteArray) (l : List Int) (h : listR s = some l) : catB l = s ∧ l.length ≤ 60 ∧ ∀ x ∈ l, 0 ≤ x ∧ x ≤ 1152921504606846975 := by
  unfold listR at h
  cases hr : restL s 0 with
  | none => rw [hr] at h; cases h
  | some l' =>
    rw [hr] at h
    simp at h
    obtain ⟨h60, rfl⟩ := h
    obtain ⟨h1, h2⟩ := cat_rest s s.size 0 l' (by omega) (Nat.zero_le _) hr
    refine ⟨?_, h60, h2⟩
    unfold catB
    rw [h1]
    simp
theorem allIn_of {l : List Int} (h : ∀ x ∈ l, 0 ≤ x ∧ x ≤ 1152921504606846975) : allIn l 0 1152921504606846975 := fun i hi => by
  have := h l[i] (List.getElem_mem hi)
  simpa [List.getD_eq_getElem?_getD, hi] using this
theorem all_of_allIn {l : List Int} (h : allIn l 0 1152921504606846975) : ∀ x ∈ l, 0 ≤ x ∧ x ≤ 1152921504606846975 := fun x hx => by
  obtain ⟨i, hi, rfl⟩ := List.getElem_of_mem hx
  have := h i hi
  simpa [List.getD_eq_getElem?_getD, hi] using this

/-- A text's text, whatever stands behind. -/
theorem text_back (u t : ByteArray) (hu : u.size ≤ 200) : TextAt (numB u.size ++ u ++ t) 0 ∧ textB (numB u.size ++ u ++ t) 0 = u ∧ gsz (numB u.size ++ u ++ t) 0 + gnum (numB u.size ++ u ++ t) 0 = (numB u.size ++ u).size := by
  have hsz : (numB u.size ++ u ++ t).size = (numB u.size).size + u.size + t.size := by rw [ByteArray.size_append, ByteArray.size_append]
  obtain ⟨g, gn, gz⟩ := at_part (numB u.size ++ u ++ t) 0 u.size (by omega) (by omega) (fun j hj => by
    rw [Nat.zero_add, sb_eq _ _ (by omega), sb_eq _ _ hj]
    rw [ByteArray.getElem_append_left (by rw [ByteArray.size_append]; omega), ByteArray.getElem_append_left hj]) (by omega)
  have gn' : gnum (numB u.size ++ u ++ t) 0 = u.size := by omega
  refine ⟨⟨g, by omega, by omega⟩, ?_, ?_⟩
  · unfold textB
    rw [gn', gz, Nat.zero_add]
    apply ByteArray.ext
    rw [ByteArray.data_extract, ByteArray.data_append, ByteArray.data_append]
    apply Array.toList_inj.1
    have e1 : (numB u.size).data.toList.length = (numB u.size).size := by rw [Array.length_toList]; rfl
    have e2 : u.data.toList.length = u.size := by rw [Array.length_toList]; rfl
    rw [Array.toList_extract]
    simp only [Array.toList_append, List.extract]
    rw [List.append_assoc, List.drop_append_of_le_length (by omega), List.drop_of_length_le (by omega)]
    rw [List.nil_append, List.take_append_of_le_length (by omega), List.take_of_length_le (by omega)]
  · rw [gn', gz, ByteArray.size_append]
end Go.Proofs.YthpimklbdabdhaaDoor
