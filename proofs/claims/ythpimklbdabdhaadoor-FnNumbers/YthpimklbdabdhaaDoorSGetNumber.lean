/-
  spec.GetNumber answers with the number that stands at a place of a text, or with the zero answer; it writes nothing.
-/
import Derived.Test.YthpimklbdabdhaaDoorSGet
namespace Go.Proofs.YthpimklbdabdhaaDoor
open Go.RowKit

theorem sget_yes (s : ByteArray) (k : Nat) (w : World) (hs : s.size ≤ maxLen) (h : GoodAt s k) :
    Calls Tryd.prog 15 #[.string s, .int .i64 k] w fun e w' => e = .returned (.tuple #[.int .i64 (gnum s k : Nat), .int .i64 (k + gsz s k : Nat), .bool true]) ∧ w' = w := by
  have HG : Hid (GoodAt s k) := h
  have hk := h.1
  have hz8 : gsz s k ≤ 8 := by have := gsz_is s k; omega
  have hs' := hs
  unfold maxLen at hs'
  clear h
  have hd1 : decide (s.size ≤ k) = false := by simp; omega
  have hd2 : decide ((k : Int) < 0) = false := by simp
  go_enter Tryd.func15, Tryd.ntmps15
  go_wp2_with (go_at_call 39; refine (l1Get_yes s k _ hs HG.out).mono ?_; rintro e w' ⟨rfl, hw⟩; obtain rfl := hw.symm)
  go_ret3
  exact ⟨rfl, rfl⟩

theorem sget_no (s : ByteArray) (a : Int) (w : World) (hs : s.size ≤ maxLen) (h : ¬ (0 ≤ a ∧ GoodAt s a.toNat)) :
    Calls Tryd.prog 15 #[.string s, .int .i64 a] w fun e w' => e = .returned (.tuple #[.int .i64 0, .int .i64 0, .bool false]) ∧ w' = w := by
  have hs' := hs
  unfold maxLen at hs'
  by_cases ho : a < 0 ∨ (s.size : Int) ≤ a
  · clear h
    rcases ho with ho | ho
    · go_enter Tryd.func15, Tryd.ntmps15
      go_wp2
      go_ret3
      exact ⟨rfl, rfl⟩
    · have h0 : ¬ a < 0 := by omega
      go_enter Tryd.func15, Tryd.ntmps15
      go_wp2
      go_ret3
      exact ⟨rfl, rfl⟩
  · obtain ⟨k, rfl⟩ := Int.eq_ofNat_of_zero_le (show 0 ≤ a by omega)
    have hn : Hid (¬ GoodAt s k) := fun hg => h ⟨by omega, by simpa using hg⟩
    have hk : k < s.size := by omega
    clear h ho
    have hd1 : decide (s.size ≤ k) = false := by simp; omega
    have hd2 : decide ((k : Int) < 0) = false := by simp
    go_enter Tryd.func15, Tryd.ntmps15
    go_wp2_with (go_at_call 39; refine (l1Get_no s k _ hs hk hn.out).mono ?_; rintro e w' ⟨rfl, hw⟩; obtain rfl := hw.symm)
    go_ret3
    exact ⟨rfl, rfl⟩
end Go.Proofs.YthpimklbdabdhaaDoor
