/-
  Rows written across: which byte of what was handed in stands where. Plain arithmetic.
  A text split into texts of one length: plain words.
-/
import Derived.Test.YtnkpboobfkjibalInts
import Derived.Test.YtnkpboobfkjibalXRows
namespace Go.Proofs.Ytnkpboobfkjibal

/-- The byte at a place; 0 where there is none. -/
def bt (s : ByteArray) (i : Nat) : UInt8 := s.data.getD i 0
theorem bt_eq (s : ByteArray) (k : Nat) (h : k < s.size) : (s[k]'h) = bt s k := by
  have h' : k < s.data.size := h
  have e : bt s k = s.data[k] := by
    unfold bt
    rw [Array.getD_eq_getD_getElem?, Array.getElem?_eq_getElem h']
    rfl
  rw [e]
  rfl
theorem bt_list (l : List UInt8) (i : Nat) : bt ⟨l.toArray⟩ i = l.getD i 0 := by
  unfold bt
  rw [Array.getD_eq_getD_getElem?, List.getD_eq_getElem?_getD]
  simp
theorem bt_data (s : ByteArray) (i : Nat) (h : i < s.data.size) : bt s i = s.data[i] := by
  unfold bt
  rw [Array.getD_eq_getD_getElem?, Array.getElem?_eq_getElem h]
  rfl
/-- Rows of c columns each, r of them, read column by column. -/
def colsL (s : ByteArray) (r c : Nat) : List UInt8 := (List.range (c * r)).map fun i => bt s (i % r * c + i / r)
theorem length_colsL (s : ByteArray) (r c : Nat) : (colsL s r c).length = c * r := by simp [colsL]
theorem colsL_get (s : ByteArray) (r c i : Nat) (h : i < c * r) : (colsL s r c).getD i 0 = bt s (i % r * c + i / r) := by
  simp [colsL, List.getD_eq_getElem?_getD, h]
/-- Where the byte at i goes to, and back. -/
theorem fwd_lt (i d w : Nat) (h : i < w * d) : i % d * w + i / d < w * d := by
  have hd : 0 < d := by rcases d with _ | d; simp at h; omega
  have h1 : i / d < w := by rw [Nat.div_lt_iff_lt_mul hd]; exact h
  have h2 : i % d < d := Nat.mod_lt _ hd
  have h3 : (i % d + 1) * w ≤ d * w := Nat.mul_le_mul_right w h2
  rw [Nat.add_mul, Nat.one_mul] at h3
  rw [Nat.mul_comm w d]
  omega
theorem fwd_back (i d w : Nat) (h : i < w * d) : (i % d * w + i / d) % w * d + (i % d * w + i / d) / w = i := by
  have hd : 0 < d := by rcases d with _ | d; simp at h; omega
  have h1 : i / d < w := by rw [Nat.div_lt_iff_lt_mul hd]; exact h
  have hw : 0 < w := Nat.lt_of_le_of_lt (Nat.zero_le _) h1
  rw [Nat.mul_comm (i % d) w, Nat.mul_add_mod, Nat.mod_eq_of_lt h1, Nat.mul_add_div hw, Nat.div_eq_of_lt h1, Nat.add_zero, Nat.mul_comm]
  exact Nat.div_add_mod i d
theorem fwd_inj (i j d w : Nat) (hi : i < w * d) (hj : j < w * d) (h : i % d * w + i / d = j % d * w + j / d) : i = j := by
  rw [← fwd_back i d w hi, ← fwd_back j d w hj, h]
/-- Written across and back again. -/
theorem cols_back (s : ByteArray) (d w : Nat) (h : s.size = w * d) : colsL ⟨(colsL s d w).toArray⟩ w d = s.data.toList := by
  apply List.ext_getElem
  · rw [length_colsL, Nat.mul_comm, ← h]; rfl
  · intro i h1 h2
    have hi : i < d * w := by rwa [length_colsL] at h1
    have hi' : i < s.data.size := by simpa using h2
    have hf := fwd_lt i w d hi
    have e : (colsL ⟨(colsL s d w).toArray⟩ w d)[i] = bt ⟨(colsL s d w).toArray⟩ (i % w * d + i / w) := by simp [colsL]
    rw [e]
    rw [bt_list, colsL_get s d w _ (by rw [Nat.mul_comm w d]; exact hf), fwd_back i w d hi, bt_data s i hi']
    simp
/-- Whether so many bytes can be written into so many rows. -/
def deepB (many deep : Int) : Bool := decide (1 ≤ deep ∧ deep ≤ 12) && (decide (0 ≤ many ∧ many ≤ 120) && decide (many % deep = 0))
def ilvT (s : ByteArray) (d : Int) : ByteArray := if deepB s.size d then ⟨(colsL s d.toNat (s.size / d.toNat)).toArray⟩ else ByteArray.empty
def dlvT (s : ByteArray) (d : Int) : ByteArray := if deepB s.size d then ⟨(colsL s (s.size / d.toNat) d.toNat).toArray⟩ else ByteArray.empty
theorem deepB_parts {n : Nat} {deep : Int} (h : deepB n deep = true) : ∃ d c : Nat, deep = d ∧ 1 ≤ d ∧ d ≤ 12 ∧ n ≤ 120 ∧ n = c * d ∧ n / d = c ∧ n % d = 0 := by
  simp [deepB] at h
  obtain ⟨⟨h1, h2⟩, h3, h4⟩ := h
  obtain ⟨d, rfl⟩ := Int.eq_ofNat_of_zero_le (show (0 : Int) ≤ deep by omega)
  have hm : n % d = 0 := by omega
  refine ⟨d, n / d, rfl, by omega, by omega, by omega, ?_, rfl, hm⟩
  rw [Nat.mul_comm]
  have := Nat.div_add_mod n d
  omega
end Go.Proofs.Ytnkpboobfkjibal
namespace Go.Proofs.Ytnkpboobfkjibal

theorem bt_out (s : ByteArray) (i : Nat) (h : s.size ≤ i) : bt s i = 0 := by
  unfold bt
  rw [Array.getD_eq_getD_getElem?, Array.getElem?_eq_none (by exact h)]
  rfl
/-- The k-th of texts of l bytes; behind the end bytes 0. -/
def pcL (s : ByteArray) (l k : Nat) : List UInt8 := (List.range l).map fun j => bt s (k * l + j)
theorem length_pcL (s : ByteArray) (l k : Nat) : (pcL s l k).length = l := by simp [pcL]
theorem pcL_get (s : ByteArray) (l k j : Nat) (h : j < l) : (pcL s l k).getD j 0 = bt s (k * l + j) := by simp [pcL, List.getD_eq_getElem?_getD, h]
def pcT (s : ByteArray) (l k : Nat) : ByteArray := ⟨(pcL s l k).toArray⟩
def spU (s : ByteArray) (l k : Nat) : List XEl := (List.range k).map (pcT s l)
theorem length_spU (s : ByteArray) (l k : Nat) : (spU s l k).length = k := by simp [spU]
theorem spU_succ (s : ByteArray) (l k : Nat) : spU s l (k + 1) = spU s l k ++ [pcT s l k] := by simp [spU, List.range_succ]
theorem spU_get (s : ByteArray) (l m k : Nat) (h : k < m) : (spU s l m).getD k xz = pcT s l k := by simp [spU, List.getD_eq_getElem?_getD, h]
def splB (s : ByteArray) (many : Int) : Bool := decide (1 ≤ many ∧ many ≤ 7) && decide ((s.size : Int) ≤ many * 16)
def splL (s : ByteArray) (many : Int) : List XEl := if splB s many then spU s ((s.size + many.toNat - 1) / many.toNat) many.toNat else []
theorem splL_len (s : ByteArray) (many : Int) : (splL s many).length ≤ 1048576 := by
  unfold splL
  cases h : splB s many
  · simp
  · simp only [if_true, length_spU]
    simp [splB] at h
    omega
theorem splB_parts {s : ByteArray} {many : Int} (h : splB s many = true) : ∃ m l : Nat, many = m ∧ 1 ≤ m ∧ m ≤ 7 ∧ s.size ≤ m * 16 ∧ (s.size + m - 1) / m = l ∧ l ≤ 16 ∧ s.size ≤ m * l ∧ m * l ≤ 112 ∧ splL s many = spU s l m := by
  have h0 := h
  simp [splB] at h
  obtain ⟨⟨h1, h2⟩, h3⟩ := h
  obtain ⟨m, rfl⟩ := Int.eq_ofNat_of_zero_le (show (0 : Int) ≤ many by omega)
  have hm : 1 ≤ m := by omega
  have hl1 : (s.size + m - 1) / m ≤ 16 := by
    refine Nat.le_of_lt_succ ?_
    rw [Nat.div_lt_iff_lt_mul (by omega)]
    omega
  have hl2 : s.size ≤ m * ((s.size + m - 1) / m) := by
    have h4 := Nat.div_add_mod (s.size + m - 1) m
    have h5 := Nat.mod_lt (s.size + m - 1) (show 0 < m by omega)
    omega
  have hl3 : m * ((s.size + m - 1) / m) ≤ 7 * 16 := Nat.mul_le_mul (by omega) hl1
  refine ⟨m, _, rfl, hm, by omega, by omega, rfl, hl1, hl2, hl3, ?_⟩
  unfold splL
  rw [h0, if_pos rfl]
  simp
/-- A text cut: its bytes. -/
theorem bt_extract (s : ByteArray) (a b i : Nat) (hb : b ≤ s.size) : bt (s.extract a b) i = if i < b - a then bt s (a + i) else 0 := by
  by_cases h : i < b - a
  · rw [if_pos h]
    have hs : i < (s.extract a b).size := by simp [ByteArray.size_extract]; omega
    have e1 := bt_eq (s.extract a b) i hs
    have hs2 : a + i < s.size := by omega
    have e2 := bt_eq s (a + i) hs2
    rw [← e1, ← e2, ByteArray.getElem_extract]
  · rw [if_neg h]
    exact bt_out _ _ (by simp [ByteArray.size_extract]; omega)
theorem text_ext (s : ByteArray) (l : List UInt8) (hs : s.size = l.length) (h : ∀ j, j < l.length → bt s j = l.getD j 0) : s = ⟨l.toArray⟩ := by
  have : s.data = l.toArray := by
    apply Array.ext
    · exact hs
    · intro i h1 h2
      have h1' : i < s.size := h1
      have := h i (by omega)
      rw [bt_data s i h1, List.getD_eq_getElem?_getD, List.getElem?_eq_getElem (by omega)] at this
      simpa using this
  rw [← this]
end Go.Proofs.Ytnkpboobfkjibal
