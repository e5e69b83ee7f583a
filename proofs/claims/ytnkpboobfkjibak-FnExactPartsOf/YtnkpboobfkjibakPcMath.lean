/-
  Rows written across: which byte of what was handed in stands where. Plain arithmetic.
-/
import Derived.Test.YtnkpboobfkjibakInts
namespace Go.Proofs.Ytnkpboobfkjibak

/-- The byte at a place; 0 where there is none. -/
def bt (s : ByteArray) (i : Nat) : UInt8 := s.data.getD i 0
theorem bt_eq (s : ByteArray) (k : Nat) (h : k < s.size) : (s[k]'h) = bt s k := by
  have h' : k < s.data.size := h
  have e : bt s k = s.data[k] := by
    unfold bt
    rw [Array.getD_eq_getD_getElem?, Array.getElem?_eq_getElem h']
    rfl
  rw [e]
  rfl
theorem bt_list (l : List UInt8) (i : Nat) : bt ⟨l.toArray⟩ i = l.getD i 0 := by
  unfold bt
  rw [Array.getD_eq_getD_getElem?, List.getD_eq_getElem?_getD]
  simp
theorem bt_data (s : ByteArray) (i : Nat) (h : i < s.data.size) : bt s i = s.data[i] := by
  unfold bt
  rw [Array.getD_eq_getD_getElem?, Array.getElem?_eq_getElem h]
  rfl
/-- Rows of c columns each, r of them, read column by column. -/
def colsL (s : ByteArray) (r c : Nat) : List UInt8 := (List.range (c * r)).map fun i => bt s (i % r * c + i / r)
theorem length_colsL (s : ByteArray) (r c : Nat) : (colsL s r c).length = c * r := by simp [colsL]
theorem colsL_get (s : ByteArray) (r c i : Nat) (h : i < c * r) : (colsL s r c).getD i 0 = bt s (i % r * c + i / r) := by
  simp [colsL, List.getD_eq_getElem?_getD, h]
/-- Where the byte at i goes to, and back. -/
theorem fwd_lt (i d w : Nat) (h : i < w * d) : i % d * w + i / d < w * d := by
  have hd : 0 < d := by rcases d with _ | d; simp at h; omega
  have h1 : i / d < w := by rw [Nat.div_lt_iff_lt_mul hd]; exact h
  have h2 : i % d < d := Nat.mod_lt _ hd
  have h3 : (i % d + 1) * w ≤ d * w := Nat.mul_le_mul_right w h2
  rw [Nat.add_mul, Nat.one_mul] at h3
  rw [Nat.mul_comm w d]
  omega
theorem fwd_back (i d w : Nat) (h : i < w * d) : (i % d * w + i / d) % w * d + (i % d * w + i / d) / w = i := by
  have hd : 0 < d := by rcases d with _ | d; simp at h; omega
  have h1 : i / d < w := by rw [Nat.div_lt_iff_lt_mul hd]; exact h
  have hw : 0 < w := Nat.lt_of_le_of_lt (Nat.zero_le _) h1
  rw [Nat.mul_comm (i % d) w, Nat.mul_add_mod, Nat.mod_eq_of_lt h1, Nat.mul_add_div hw, Nat.div_eq_of_lt h1, Nat.add_zero, Nat.mul_comm]
  exact Nat.div_add_mod i d
theorem fwd_inj (i j d w : Nat) (hi : i < w * d) (hj : j < w * d) (h : i % d * w + i / d = j % d * w + j / d) : i = j := by
  rw [← fwd_back i d w hi, ← fwd_back j d w hj, h]
/-- Written across and back again. -/
theorem cols_back (s : ByteArray) (d w : Nat) (h : s.size = w * d) : colsL ⟨(colsL s d w).toArray⟩ w d = s.data.toList := by
  apply List.ext_getElem
  · rw [length_colsL, Nat.mul_comm, ← h]; rfl
  · intro i h1 h2
    have hi : i < d * w := by rwa [length_colsL] at h1
    have hi' : i < s.data.size := by simpa using h2
    have hf := fwd_lt i w d hi
    have e : (colsL ⟨(colsL s d w).toArray⟩ w d)[i] = bt ⟨(colsL s d w).toArray⟩ (i % w * d + i / w) := by simp [colsL]
    rw [e]
    rw [bt_list, colsL_get s d w _ (by rw [Nat.mul_comm w d]; exact hf), fwd_back i w d hi, bt_data s i hi']
    simp
/-- Whether so many bytes can be written into so many rows. -/
def deepB (many deep : Int) : Bool := decide (1 ≤ deep ∧ deep ≤ 12) && (decide (0 ≤ many ∧ many ≤ 120) && decide (many % deep = 0))
def ilvT (s : ByteArray) (d : Int) : ByteArray := if deepB s.size d then ⟨(colsL s d.toNat (s.size / d.toNat)).toArray⟩ else ByteArray.empty
def dlvT (s : ByteArray) (d : Int) : ByteArray := if deepB s.size d then ⟨(colsL s (s.size / d.toNat) d.toNat).toArray⟩ else ByteArray.empty
theorem deepB_parts {n : Nat} {deep : Int} (h : deepB n deep = true) : ∃ d c : Nat, deep = d ∧ 1 ≤ d ∧ d ≤ 12 ∧ n ≤ 120 ∧ n = c * d ∧ n / d = c ∧ n % d = 0 := by
  simp [deepB] at h
  obtain ⟨⟨h1, h2⟩, h3, h4⟩ := h
  obtain ⟨d, rfl⟩ := Int.eq_ofNat_of_zero_le (show (0 : Int) ≤ deep by omega)
  have hm : n % d = 0 := by omega
  refine ⟨d, n / d, rfl, by omega, by omega, by omega, ?_, rfl, hm⟩
  rw [Nat.mul_comm]
  have := Nat.div_add_mod n d
  omega
end Go.Proofs.Ytnkpboobfkjibak
