/-
  Texts of noughts: plain words.
-/
import Derived.Test.YtnkpboobfkjibakPiMath
namespace Go.Proofs.Ytnkpboobfkjibak

def zeroU (s : ByteArray) (k : Nat) : Bool := (List.range k).all fun i => bt s i == 0
theorem zeroU_succ (s : ByteArray) (k : Nat) : zeroU s (k + 1) = (zeroU s k && bt s k == 0) := by simp [zeroU, List.range_succ]
def zeroB (s : ByteArray) : Bool := zeroU s s.size
theorem zeroB_bad (s : ByteArray) (k : Nat) (h : k < s.size) (hb : bt s k ≠ 0) : zeroB s = false := by
  rw [← Bool.not_eq_true]
  intro hh
  unfold zeroB zeroU at hh
  rw [List.all_eq_true] at hh
  have := hh k (List.mem_range.2 h)
  exact hb (by simpa using this)
theorem zeroB_list (l : List UInt8) : zeroB ⟨l.toArray⟩ = true ↔ l = List.replicate l.length 0 := by
  unfold zeroB zeroU
  rw [List.all_eq_true, List.eq_replicate_iff]
  have hs : (⟨l.toArray⟩ : ByteArray).size = l.length := by simp [ByteArray.size]
  rw [hs]
  constructor
  · intro h
    refine ⟨rfl, fun b hb => ?_⟩
    obtain ⟨i, hi, rfl⟩ := List.mem_iff_getElem.1 hb
    have := h i (List.mem_range.2 hi)
    rw [bt_list] at this
    simpa [List.getD_eq_getElem?_getD, hi] using this
  · rintro ⟨_, h⟩ i hi
    have hi' := List.mem_range.1 hi
    rw [bt_list]
    have := h l[i] (List.getElem_mem hi')
    simpa [List.getD_eq_getElem?_getD, hi'] using this
theorem zrow_get (n j : Nat) : (List.replicate n (0 : UInt8)).getD j 0 = 0 := by
  rw [List.getD_eq_getElem?_getD, List.getElem?_replicate]
  split <;> rfl
def wholeB (xs : List XEl) : Bool := goodP xs && zeroB (parT xs)
end Go.Proofs.Ytnkpboobfkjibak
