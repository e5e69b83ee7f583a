/-
  A text split into texts of one length: plain words.
-/
import Derived.Test.YtnkpboobfkjibakPcMath
import Derived.Test.YtnkpboobfkjibakXRows
namespace Go.Proofs.Ytnkpboobfkjibak

theorem bt_out (s : ByteArray) (i : Nat) (h : s.size ≤ i) : bt s i = 0 := by
  unfold bt
  rw [Array.getD_eq_getD_getElem?, Array.getElem?_eq_none (by exact h)]
  rfl
/-- The k-th of texts of l bytes; behind the end bytes 0. -/
def pcL (s : ByteArray) (l k : Nat) : List UInt8 := (List.range l).map fun j => bt s (k * l + j)
theorem length_pcL (s : ByteArray) (l k : Nat) : (pcL s l k).length = l := by simp [pcL]
theorem pcL_get (s : ByteArray) (l k j : Nat) (h : j < l) : (pcL s l k).getD j 0 = bt s (k * l + j) := by simp [pcL, List.getD_eq_getElem?_getD, h]
def pcT (s : ByteArray) (l k : Nat) : ByteArray := ⟨(pcL s l k).toArray⟩
def spU (s : ByteArray) (l k : Nat) : List XEl := (List.range k).map (pcT s l)
theorem length_spU (s : ByteArray) (l k : Nat) : (spU s l k).length = k := by simp [spU]
theorem spU_succ (s : ByteArray) (l k : Nat) : spU s l (k + 1) = spU s l k ++ [pcT s l k] := by simp [spU, List.range_succ]
theorem spU_get (s : ByteArray) (l m k : Nat) (h : k < m) : (spU s l m).getD k xz = pcT s l k := by simp [spU, List.getD_eq_getElem?_getD, h]
def splB (s : ByteArray) (many : Int) : Bool := decide (1 ≤ many ∧ many ≤ 7) && decide ((s.size : Int) ≤ many * 16)
def splL (s : ByteArray) (many : Int) : List XEl := if splB s many then spU s ((s.size + many.toNat - 1) / many.toNat) many.toNat else []
theorem splL_len (s : ByteArray) (many : Int) : (splL s many).length ≤ 1048576 := by
  unfold splL
  cases h : splB s many
  · simp
  · simp only [if_true, length_spU]
    simp [splB] at h
    omega
theorem splB_parts {s : ByteArray} {many : Int} (h : splB s many = true) : ∃ m l : Nat, many = m ∧ 1 ≤ m ∧ m ≤ 7 ∧ s.size ≤ m * 16 ∧ (s.size + m - 1) / m = l ∧ l ≤ 16 ∧ s.size ≤ m * l ∧ m * l ≤ 112 ∧ splL s many = spU s l m := by
  have h0 := h
  simp [splB] at h
  obtain ⟨⟨h1, h2⟩, h3⟩ := h
  obtain ⟨m, rfl⟩ := Int.eq_ofNat_of_zero_le (show (0 : Int) ≤ many by omega)
  have hm : 1 ≤ m := by omega
  have hl1 : (s.size + m - 1) / m ≤ 16 := by
    refine Nat.le_of_lt_succ ?_
    rw [Nat.div_lt_iff_lt_mul (by omega)]
    omega
  have hl2 : s.size ≤ m * ((s.size + m - 1) / m) := by
    have h4 := Nat.div_add_mod (s.size + m - 1) m
    have h5 := Nat.mod_lt (s.size + m - 1) (show 0 < m by omega)
    omega
  have hl3 : m * ((s.size + m - 1) / m) ≤ 7 * 16 := Nat.mul_le_mul (by omega) hl1
  refine ⟨m, _, rfl, hm, by omega, by omega, rfl, hl1, hl2, hl3, ?_⟩
  unfold splL
  rw [h0, if_pos rfl]
  simp
/-- A text cut: its bytes. -/
theorem bt_extract (s : ByteArray) (a b i : Nat) (hb : b ≤ s.size) : bt (s.extract a b) i = if i < b - a then bt s (a + i) else 0 := by
  by_cases h : i < b - a
  · rw [if_pos h]
    have hs : i < (s.extract a b).size := by simp [ByteArray.size_extract]; omega
    have e1 := bt_eq (s.extract a b) i hs
    have hs2 : a + i < s.size := by omega
    have e2 := bt_eq s (a + i) hs2
    rw [← e1, ← e2, ByteArray.getElem_extract]
  · rw [if_neg h]
    exact bt_out _ _ (by simp [ByteArray.size_extract]; omega)
theorem text_ext (s : ByteArray) (l : List UInt8) (hs : s.size = l.length) (h : ∀ j, j < l.length → bt s j = l.getD j 0) : s = ⟨l.toArray⟩ := by
  have : s.data = l.toArray := by
    apply Array.ext
    · exact hs
    · intro i h1 h2
      have h1' : i < s.size := h1
      have := h i (by omega)
      rw [bt_data s i h1, List.getD_eq_getElem?_getD, List.getElem?_eq_getElem (by omega)] at this
      simpa using this
  rw [← this]
end Go.Proofs.Ytnkpboobfkjibak
