/-
  spec.l1Wide, impl.PutWide, spec.l1Put, impl.PutNumber at every whole number: the bytes, or the zero answer; nothing old is written.
-/
import Derived.Test.YthpimklbdabdhaaDoorPutWide
namespace Go.Proofs.YthpimklbdabdhaaDoor
open Go.RowKit

/-- The text of a number in a size. -/
def wideB (n k : Int) : ByteArray := ⟨(wideL n.toNat k.toNat).toArray⟩
/-- The text of a number. -/
def numB (n : Int) : ByteArray := wideB n (szI n)

theorem szI_is (n : Int) : szI n = 1 ∨ szI n = 2 ∨ szI n = 4 ∨ szI n = 8 := by
  unfold szI
  repeat' split
  all_goals omega
theorem szI_le (n : Int) : 1 ≤ szI n ∧ szI n ≤ 8 := by have := szI_is n; omega
theorem size_wideB (n k : Int) : (wideB n k).size = k.toNat := by
  show ((wideL n.toNat k.toNat).toArray).size = _
  simp [length_wideL]

theorem l1Wide_int (n k : Int) (w : World) (h0 : 0 ≤ n) (h1 : n ≤ 1152921504606846975) (hk : k = 1 ∨ k = 2 ∨ k = 4 ∨ k = 8) (hle : szI n ≤ k) :
    Calls Tryd.prog 36 #[.int .i64 n, .int .i64 k] w fun e w' => e = .returned (.string (wideB n k)) ∧ Below w.heap.size w w' := by
  obtain ⟨m, rfl⟩ := Int.eq_ofNat_of_zero_le h0
  obtain ⟨s, rfl⟩ := Int.eq_ofNat_of_zero_le (show 0 ≤ k by omega)
  exact l1Wide_any m s w (by omega) (fits_of m s (by omega) (by omega) hle) (by omega)

theorem putWide_int (n k : Int) (w : World) (hT : Tab w) (h0 : 0 ≤ n) (h1 : n ≤ 1152921504606846975) (hk : k = 1 ∨ k = 2 ∨ k = 4 ∨ k = 8) (hle : szI n ≤ k) :
    Calls Tryd.prog 12 #[.int .i64 n, .int .i64 k] w fun e w' => e = .returned (.tuple #[.string (wideB n k), .bool true]) ∧ Below w.heap.size w w' := by
  obtain ⟨m, rfl⟩ := Int.eq_ofNat_of_zero_le h0
  obtain ⟨s, rfl⟩ := Int.eq_ofNat_of_zero_le (show 0 ≤ k by omega)
  exact putWide_yes m s w hT (by omega) (by omega) hle

/-- impl.PutWide, the zero answer. -/
theorem putWide_no (n k : Int) (w : World) (hT : Tab w) (h : ¬ (0 ≤ n ∧ n ≤ 1152921504606846975 ∧ (k = 1 ∨ k = 2 ∨ k = 4 ∨ k = 8) ∧ szI n ≤ k)) :
    Calls Tryd.prog 12 #[.int .i64 n, .int .i64 k] w fun e w' => e = .returned (.tuple #[.string ⟨#[]⟩, .bool false]) ∧ w' = w := by
  have HT : Hid (Tab w) := hT
  clear hT
  by_cases hn : 0 ≤ n ∧ n ≤ 1152921504606846975
  · by_cases hk : k = 1 ∨ k = 2 ∨ k = 4 ∨ k = 8
    · have hlt : k < szI n := by omega
      obtain ⟨h0, h1⟩ := hn
      have Hk : Hid (k = 1 ∨ k = 2 ∨ k = 4 ∨ k = 8) := hk
      clear h hk
      go_enter Tryd.func12, Tryd.ntmps12
      go_wp2_with (first
        | (go_at_call 8; refine (size_yes n _ HT.out h0 h1).mono ?_; rintro e w' ⟨rfl, hw⟩; obtain rfl := hw.symm)
        | (go_at_call 35; refine (class_yes k _ HT.out Hk.out).mono ?_; rintro e w' ⟨rfl, hw⟩; obtain rfl := hw.symm))
      go_ret2
      exact ⟨rfl, rfl⟩
    · obtain ⟨h0, h1⟩ := hn
      have Hk : Hid (¬ (k = 1 ∨ k = 2 ∨ k = 4 ∨ k = 8)) := hk
      clear h hk
      go_enter Tryd.func12, Tryd.ntmps12
      go_wp2_with (first
        | (go_at_call 8; refine (size_yes n _ HT.out h0 h1).mono ?_; rintro e w' ⟨rfl, hw⟩; obtain rfl := hw.symm)
        | (go_at_call 35; refine (class_no k _ HT.out Hk.out).mono ?_; rintro e w' ⟨rfl, hw⟩; obtain rfl := hw.symm))
      go_ret2
      exact ⟨rfl, rfl⟩
  · have Hn : Hid (n < 0 ∨ 1152921504606846975 < n) := by show _ ∨ _; omega
    clear h hn
    by_cases hk : k = 1 ∨ k = 2 ∨ k = 4 ∨ k = 8
    · have Hk : Hid (k = 1 ∨ k = 2 ∨ k = 4 ∨ k = 8) := hk
      clear hk
      go_enter Tryd.func12, Tryd.ntmps12
      go_wp2_with (first
        | (go_at_call 8; refine (size_no n _ HT.out Hn.out).mono ?_; rintro e w' ⟨rfl, hw⟩; obtain rfl := hw.symm)
        | (go_at_call 35; refine (class_yes k _ HT.out Hk.out).mono ?_; rintro e w' ⟨rfl, hw⟩; obtain rfl := hw.symm))
      go_ret2
      exact ⟨rfl, rfl⟩
    · have Hk : Hid (¬ (k = 1 ∨ k = 2 ∨ k = 4 ∨ k = 8)) := hk
      clear hk
      go_enter Tryd.func12, Tryd.ntmps12
      go_wp2_with (first
        | (go_at_call 8; refine (size_no n _ HT.out Hn.out).mono ?_; rintro e w' ⟨rfl, hw⟩; obtain rfl := hw.symm)
        | (go_at_call 35; refine (class_no k _ HT.out Hk.out).mono ?_; rintro e w' ⟨rfl, hw⟩; obtain rfl := hw.symm))
      go_ret2
      exact ⟨rfl, rfl⟩

/-- spec.l1Put. -/
theorem l1Put_any (n : Int) (w : World) (h0 : 0 ≤ n) (h1 : n ≤ 1152921504606846975) :
    Calls Tryd.prog 31 #[.int .i64 n] w fun e w' => e = .returned (.string (numB n)) ∧ Below w.heap.size w w' := by
  go_enter Tryd.func31, Tryd.ntmps31
  go_wp2_with (first
    | (go_at_call 32; refine (l1Size_any n _).mono ?_; rintro e w' ⟨rfl, hw⟩; obtain rfl := hw.symm)
    | (go_at_call 36; refine (l1Wide_int n (szI n) _ h0 h1 (szI_is n) (Int.le_refl _)).mono ?_; rintro e w' ⟨rfl, hb⟩))
  go_ret
  exact ⟨rfl, hb⟩

/-- impl.PutNumber. -/
theorem put_yes (n : Int) (w : World) (hT : Tab w) (h0 : 0 ≤ n) (h1 : n ≤ 1152921504606846975) :
    Calls Tryd.prog 6 #[.int .i64 n] w fun e w' => e = .returned (.tuple #[.string (numB n), .bool true]) ∧ Below w.heap.size w w' := by
  have HT : Hid (Tab w) := hT
  clear hT
  go_enter Tryd.func6, Tryd.ntmps6
  go_wp2_with (first
    | (go_at_call 8; refine (size_yes n _ HT.out h0 h1).mono ?_; rintro e w' ⟨rfl, hw⟩; obtain rfl := hw.symm)
    | (go_at_call 12; refine (putWide_int n (szI n) _ HT.out h0 h1 (szI_is n) (Int.le_refl _)).mono ?_; rintro e w' ⟨rfl, hb⟩))
  go_ret2
  exact ⟨rfl, hb⟩
theorem put_no (n : Int) (w : World) (hT : Tab w) (h : n < 0 ∨ 1152921504606846975 < n) :
    Calls Tryd.prog 6 #[.int .i64 n] w fun e w' => e = .returned (.tuple #[.string ⟨#[]⟩, .bool false]) ∧ w' = w := by
  have H : Hid (n < 0 ∨ 1152921504606846975 < n) := h
  have HT : Hid (Tab w) := hT
  clear h hT
  go_enter Tryd.func6, Tryd.ntmps6
  go_wp2_with (first
    | (go_at_call 8; refine (size_no n _ HT.out H.out).mono ?_; rintro e w' ⟨rfl, hw⟩; obtain rfl := hw.symm))
  go_ret2
  exact ⟨rfl, rfl⟩
end Go.Proofs.YthpimklbdabdhaaDoor
