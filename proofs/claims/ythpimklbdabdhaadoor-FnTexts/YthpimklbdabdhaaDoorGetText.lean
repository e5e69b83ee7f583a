/-
  impl.GetText answers with the bytes that stand at a place, or with the zero answer; nothing old is written.
-/
import Derived.Test.YthpimklbdabdhaaDoorGet
import Derived.Test.YthpimklbdabdhaaDoorSGetText
import Derived.Test.YthpimklbdabdhaaDoorClone
namespace Go.Proofs.YthpimklbdabdhaaDoor
open Go.RowKit

theorem getText_yes (s : ByteArray) (k : Nat) (w : World) (hT : Tab w) (hs : s.size ≤ maxLen) (h : TextAt s k) :
    Calls Tryd.prog 26 #[.string s, .int .i64 k] w fun e w' => e = .returned (.tuple #[.string (textB s k), .int .i64 (k + gsz s k + gnum s k : Nat), .bool true]) ∧ Below w.heap.size w w' := by
  have HT : Hid (Tab w) := hT
  have hs' := hs
  unfold maxLen at hs'
  have hsl := slice_text s k w h
  obtain ⟨hG, h200, hfit⟩ := h
  have hk := hG.1
  have hfit0 := hG.2.1
  have hst := size_textB s k h200
  have HG : Hid (GoodAt s k) := hG
  clear hG hT
  have hz8 : gsz s k ≤ 8 := by have := gsz_is s k; omega
  go_enter Tryd.func26, Tryd.ntmps26
  go_wp2_with (first
    | (go_at_call 10; refine (get_yes s k _ HT.out hs HG.out).mono ?_; rintro e w' ⟨rfl, hw⟩; obtain rfl := hw.symm)
    | (go_at_call 47; refine (clone_any (textB s k) _ (by omega)).mono ?_; rintro e w1 ⟨rfl, hb⟩))
  go_ret3
  exact ⟨by simp, hb⟩

theorem getText_no (s : ByteArray) (a : Int) (w : World) (hT : Tab w) (hs : s.size ≤ maxLen) (h : ¬ (0 ≤ a ∧ TextAt s a.toNat)) :
    Calls Tryd.prog 26 #[.string s, .int .i64 a] w fun e w' => e = .returned (.tuple #[.string ⟨#[]⟩, .int .i64 0, .bool false]) ∧ w' = w := by
  have HT : Hid (Tab w) := hT
  have hs' := hs
  unfold maxLen at hs'
  clear hT
  by_cases hG : 0 ≤ a ∧ GoodAt s a.toNat
  · obtain ⟨k, rfl⟩ := Int.eq_ofNat_of_zero_le hG.1
    have hG := hG.2
    rw [Int.toNat_natCast] at hG
    have hn : ¬ TextAt s k := fun hg => h ⟨by omega, by simpa using hg⟩
    have hz8 : gsz s k ≤ 8 := by have := gsz_is s k; omega
    have h62 : gnum s k ≤ 1152921504606846975 := hG.2.2.1
    have hk := hG.1
    have hfit0 := hG.2.1
    have HG : Hid (GoodAt s k) := hG
    clear h
    by_cases h200 : (200 : Int) < (gnum s k : Nat)
    · clear hn hG
      go_enter Tryd.func26, Tryd.ntmps26
      go_wp2_with (go_at_call 10; refine (get_yes s k _ HT.out hs HG.out).mono ?_; rintro e w' ⟨rfl, hw⟩; obtain rfl := hw.symm)
      go_ret3
      exact ⟨rfl, rfl⟩
    · have hfit : (s.size : Int) - ((k : Int) + (gsz s k : Nat)) < (gnum s k : Nat) := by
        have : ¬ gnum s k ≤ s.size - (k + gsz s k) := fun hf => hn ⟨hG, by omega, hf⟩
        omega
      clear hn hG
      go_enter Tryd.func26, Tryd.ntmps26
      go_wp2_with (go_at_call 10; refine (get_yes s k _ HT.out hs HG.out).mono ?_; rintro e w' ⟨rfl, hw⟩; obtain rfl := hw.symm)
      go_ret3
      exact ⟨rfl, rfl⟩
  · have HG : Hid (¬ (0 ≤ a ∧ GoodAt s a.toNat)) := hG
    clear h hG
    go_enter Tryd.func26, Tryd.ntmps26
    go_wp2_with (go_at_call 10; refine (get_no s a _ HT.out hs HG.out).mono ?_; rintro e w' ⟨rfl, hw⟩; obtain rfl := hw.symm)
    go_ret3
    exact ⟨rfl, rfl⟩
end Go.Proofs.YthpimklbdabdhaaDoor
