/-
  Numbers come back from their bytes, and bytes that are read as a number are that number's: plain arithmetic, no program.
-/
import Derived.Test.YthpimklbdabdhaaDoorGetMath
namespace Go.Proofs.YthpimklbdabdhaaDoor
open Go.RowKit

theorem sb_list (l : List UInt8) (j : Nat) (h : j < l.length) : sb ⟨l.toArray⟩ j = (l[j]'h).toNat := by
  rw [sb_eq _ _ (show j < (ByteArray.mk l.toArray).size by show j < l.toArray.size; simpa using h)]
  rfl
theorem sb_wide (m size j : Nat) (hs : size = 1 ∨ size = 2 ∨ size = 4 ∨ size = 8) (hm : m < 64 * 256 ^ (size - 1)) (hj : j < size) :
    sb ⟨(wideL m size).toArray⟩ j = byteAt m size j + if j = 0 then markN size else 0 := by
  have hl : j < (wideL m size).length := by rw [length_wideL]; exact hj
  rw [sb_list _ j hl, wideL_toNat m size j hs hm hl]
theorem gsz_wide (m size : Nat) (hs : size = 1 ∨ size = 2 ∨ size = 4 ∨ size = 8) (hm : m < 64 * 256 ^ (size - 1)) : gsz ⟨(wideL m size).toArray⟩ 0 = size := by
  have h := sb_wide m size 0 hs hm (by omega)
  have hz := (byteAt_zero m size hm).1
  unfold gsz gcl
  rw [h, if_pos rfl]
  generalize byteAt m size 0 = x at hz
  rcases hs with rfl | rfl | rfl | rfl
  · rw [show (x + markN 1) / 64 = 0 by simp [markN]; omega]; rfl
  · rw [show (x + markN 2) / 64 = 1 by simp [markN]; omega]; rfl
  · rw [show (x + markN 4) / 64 = 2 by simp [markN]; omega]; rfl
  · rw [show (x + markN 8) / 64 = 3 by simp [markN]; omega]; rfl
theorem gval_wide (m size : Nat) (hs : size = 1 ∨ size = 2 ∨ size = 4 ∨ size = 8) (hm : m < 64 * 256 ^ (size - 1)) : ∀ j, j < size → gval ⟨(wideL m size).toArray⟩ 0 j = m / 256 ^ (size - 1 - j)
  | 0, hj => by
    have hz := byteAt_zero m size hm
    have hmk : markN size % 64 = 0 := by rcases hs with rfl | rfl | rfl | rfl <;> rfl
    simp only [gval]
    rw [sb_wide m size 0 hs hm hj, if_pos rfl, Nat.sub_zero, ← hz.2]
    omega
  | j + 1, hj => by
    have ih := gval_wide m size hs hm j (by omega)
    simp only [gval]
    rw [ih, Nat.zero_add, sb_wide m size (j + 1) hs hm hj, if_neg (by omega)]
    unfold byteAt
    have e : m / 256 ^ (size - 1 - j) = m / 256 ^ (size - 1 - (j + 1)) / 256 := by
      rw [Nat.div_div_eq_div_mul, ← Nat.pow_succ, show (size - 1 - (j + 1)).succ = size - 1 - j by omega]
    rw [e]
    omega
theorem gnum_wide (m size : Nat) (hs : size = 1 ∨ size = 2 ∨ size = 4 ∨ size = 8) (hm : m < 64 * 256 ^ (size - 1)) : gnum ⟨(wideL m size).toArray⟩ 0 = m := by
  unfold gnum
  rw [gsz_wide m size hs hm, gval_wide m size hs hm (size - 1) (by omega), Nat.sub_self]
  simp

/-- What was read is a part of what is read further on. -/
theorem gval_div (s : ByteArray) (k : Nat) : ∀ i j, gval s k (j + i) / 256 ^ i = gval s k j
  | 0, j => by simp
  | i + 1, j => by
    rw [Nat.pow_succ, Nat.mul_comm, ← Nat.div_div_eq_div_mul]
    have e : gval s k (j + (i + 1)) / 256 = gval s k (j + i) := by
      show (gval s k (j + i) * 256 + sb s (k + (j + i + 1))) / 256 = _
      have := sb_lt s (k + (j + i + 1))
      omega
    rw [e]
    exact gval_div s k i j
theorem byteAt_read (s : ByteArray) (k j : Nat) (hj : j < gsz s k) : byteAt (gnum s k) (gsz s k) j = if j = 0 then sb s k % 64 else sb s (k + j) := by
  unfold byteAt gnum
  have e : gval s k (gsz s k - 1) / 256 ^ (gsz s k - 1 - j) = gval s k j := by
    have := gval_div s k (gsz s k - 1 - j) j
    rw [show j + (gsz s k - 1 - j) = gsz s k - 1 by omega] at this
    exact this
  rw [e]
  rcases j with _ | j
  · simp only [gval, if_pos]; omega
  · rw [if_neg (by omega)]
    show (gval s k j * 256 + sb s (k + (j + 1))) % 256 = _
    have := sb_lt s (k + (j + 1))
    omega
theorem mark_read (s : ByteArray) (k : Nat) : markN (gsz s k) = gcl s k * 64 := by
  have h := gcl_le s k
  unfold gsz
  generalize gcl s k = c at h
  rcases (by omega : c = 0 ∨ c = 1 ∨ c = 2 ∨ c = 3) with rfl | rfl | rfl | rfl <;> rfl

/-- The bytes that are read as a number are that number's. -/
theorem read_back (s : ByteArray) (k : Nat) (h : GoodAt s k) : s.extract k (k + gsz s k) = numB (gnum s k : Nat) := by
  obtain ⟨h1, h2, h3, h4⟩ := h
  have e1 : numB (gnum s k : Nat) = ⟨(wideL (gnum s k) (gsz s k)).toArray⟩ := by
    unfold numB wideB
    rw [h4]
    simp
  rw [e1]
  apply ByteArray.ext
  apply Array.ext
  · rw [ByteArray.data_extract]
    simp [length_wideL]
    have : s.data.size = s.size := rfl
    omega
  · intro j hj1 hj2
    have hj : j < gsz s k := by simpa [length_wideL] using hj2
    have hsz : k + j < s.size := by omega
    have hb := byteAt_read s k j hj
    have hsb := sb_eq s (k + j) hsz
    have hl : j < (wideL (gnum s k) (gsz s k)).length := by rw [length_wideL]; exact hj
    have hw := wideL_get (gnum s k) (gsz s k) j hl
    have ea : (s.extract k (k + gsz s k)).data[j] = s[k + j]'hsz := by
      simp [ByteArray.data_extract]
      rfl
    have eb : ((wideL (gnum s k) (gsz s k)).toArray)[j]'(by simpa using hl) = (wideL (gnum s k) (gsz s k))[j]'hl := by simp
    rw [ea]
    show _ = ((wideL (gnum s k) (gsz s k)).toArray)[j]'(by simpa using hl)
    rw [eb, hw, hb, mark_read]
    apply UInt8.toNat_inj.1
    rw [← hsb, UInt8.toNat_ofNat']
    rcases j with _ | j
    · have := sb_lt s k
      simp only [if_pos, Nat.add_zero]
      unfold gcl
      omega
    · have := sb_lt s (k + (j + 1))
      rw [if_neg (by omega), if_neg (by omega)]
      omega
theorem szI_half (n : Int) (h : 0 ≤ n) : szI (n / 2) ≤ szI n := by
  unfold szI
  repeat' split
  all_goals omega
end Go.Proofs.YthpimklbdabdhaaDoor
