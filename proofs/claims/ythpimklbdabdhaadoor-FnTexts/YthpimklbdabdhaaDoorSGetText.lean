/-
  spec.GetText answers with the bytes that stand at a place, or with the zero answer; it writes nothing.
-/
import Derived.Test.YthpimklbdabdhaaDoorSGet
namespace Go.Proofs.YthpimklbdabdhaaDoor
open Go.RowKit

/-- A text stands there. -/
def TextAt (s : ByteArray) (k : Nat) : Prop := GoodAt s k ∧ gnum s k ≤ 200 ∧ gnum s k ≤ s.size - (k + gsz s k)
/-- It. -/
def textB (s : ByteArray) (k : Nat) : ByteArray := s.extract (k + gsz s k) (k + gsz s k + gnum s k)

theorem slice_text (s : ByteArray) (k : Nat) (w : World) (h : TextAt s k) :
    (Instr.slice 9 (.string s) (some (.int .i64 ((k : Int) + (gsz s k : Nat)))) (some (.int .i64 ((k : Int) + (gsz s k : Nat) + (gnum s k : Nat)))) none).run Tryd.prog w = .ok (.string (textB s k)) w := by
  obtain ⟨hG, _, hfit⟩ := h
  have h1 := hG.1
  have h2 := hG.2.1
  have e := run_slice_string (P := Tryd.prog) w 9 s .i64 .i64 ((k : Int) + (gsz s k : Nat)) ((k : Int) + (gsz s k : Nat) + (gnum s k : Nat)) Tryd.underlying9 (by omega) (by omega) (by omega)
  rw [show ((k : Int) + (gsz s k : Nat)).toNat = k + gsz s k by omega, show ((k : Int) + (gsz s k : Nat) + (gnum s k : Nat)).toNat = k + gsz s k + gnum s k by omega] at e
  exact e

theorem size_textB (s : ByteArray) (k : Nat) (h : gnum s k ≤ 200) : (textB s k).size ≤ 200 := by
  unfold textB
  rw [ByteArray.size_extract]
  omega

theorem sgetText_yes (s : ByteArray) (k : Nat) (w : World) (hs : s.size ≤ maxLen) (h : TextAt s k) :
    Calls Tryd.prog 28 #[.string s, .int .i64 k] w fun e w' => e = .returned (.tuple #[.string (textB s k), .int .i64 (k + gsz s k + gnum s k : Nat), .bool true]) ∧ w' = w := by
  have hs' := hs
  unfold maxLen at hs'
  have hsl := slice_text s k w h
  obtain ⟨hG, h200, hfit⟩ := h
  have hk := hG.1
  have hfit0 := hG.2.1
  have HG : Hid (GoodAt s k) := hG
  clear hG
  have hz8 : gsz s k ≤ 8 := by have := gsz_is s k; omega
  have hd1 : decide (s.size ≤ k) = false := by simp; omega
  have hd2 : decide ((k : Int) < 0) = false := by simp
  go_enter Tryd.func28, Tryd.ntmps28
  go_wp2_with (go_at_call 39; refine (l1Get_yes s k _ hs HG.out).mono ?_; rintro e w' ⟨rfl, hw⟩; obtain rfl := hw.symm)
  go_ret3
  exact ⟨by simp, rfl⟩

theorem sgetText_no (s : ByteArray) (a : Int) (w : World) (hs : s.size ≤ maxLen) (h : ¬ (0 ≤ a ∧ TextAt s a.toNat)) :
    Calls Tryd.prog 28 #[.string s, .int .i64 a] w fun e w' => e = .returned (.tuple #[.string ⟨#[]⟩, .int .i64 0, .bool false]) ∧ w' = w := by
  have hs' := hs
  unfold maxLen at hs'
  by_cases ho : a < 0 ∨ (s.size : Int) ≤ a
  · clear h
    rcases ho with ho | ho
    · go_enter Tryd.func28, Tryd.ntmps28
      go_wp2
      go_ret3
      exact ⟨rfl, rfl⟩
    · have h0 : ¬ a < 0 := by omega
      go_enter Tryd.func28, Tryd.ntmps28
      go_wp2
      go_ret3
      exact ⟨rfl, rfl⟩
  · obtain ⟨k, rfl⟩ := Int.eq_ofNat_of_zero_le (show 0 ≤ a by omega)
    have hn : ¬ TextAt s k := fun hg => h ⟨by omega, by simpa using hg⟩
    have hk : k < s.size := by omega
    clear h ho
    have hd1 : decide (s.size ≤ k) = false := by simp; omega
    have hd2 : decide ((k : Int) < 0) = false := by simp
    have hz8 : gsz s k ≤ 8 := by have := gsz_is s k; omega
    by_cases hG : GoodAt s k
    · have h62 : gnum s k ≤ 1152921504606846975 := hG.2.2.1
      have hfit0 := hG.2.1
      have HG : Hid (GoodAt s k) := hG
      by_cases h200 : (200 : Int) < (gnum s k : Nat)
      · clear hn hG
        go_enter Tryd.func28, Tryd.ntmps28
        go_wp2_with (go_at_call 39; refine (l1Get_yes s k _ hs HG.out).mono ?_; rintro e w' ⟨rfl, hw⟩; obtain rfl := hw.symm)
        go_ret3
        exact ⟨rfl, rfl⟩
      · have hfit : (s.size : Int) - ((k : Int) + (gsz s k : Nat)) < (gnum s k : Nat) := by
          have : ¬ gnum s k ≤ s.size - (k + gsz s k) := fun hf => hn ⟨hG, by omega, hf⟩
          omega
        clear hn hG
        go_enter Tryd.func28, Tryd.ntmps28
        go_wp2_with (go_at_call 39; refine (l1Get_yes s k _ hs HG.out).mono ?_; rintro e w' ⟨rfl, hw⟩; obtain rfl := hw.symm)
        go_ret3
        exact ⟨rfl, rfl⟩
    · have HG : Hid (¬ GoodAt s k) := hG
      clear hn hG
      go_enter Tryd.func28, Tryd.ntmps28
      go_wp2_with (go_at_call 39; refine (l1Get_no s k _ hs hk HG.out).mono ?_; rintro e w' ⟨rfl, hw⟩; obtain rfl := hw.symm)
      go_ret3
      exact ⟨rfl, rfl⟩
end Go.Proofs.YthpimklbdabdhaaDoor
