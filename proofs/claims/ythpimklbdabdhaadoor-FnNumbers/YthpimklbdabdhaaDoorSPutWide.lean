/-
  spec.PutWide answers with the bytes of a number in a size, or with the zero answer; nothing old is written.
-/
import Derived.Test.YthpimklbdabdhaaDoorPutNumber
namespace Go.Proofs.YthpimklbdabdhaaDoor
open Go.RowKit

theorem sputWide_yes (n k : Int) (w : World) (h0 : 0 ≤ n) (h1 : n ≤ 1152921504606846975) (hk : k = 1 ∨ k = 2 ∨ k = 4 ∨ k = 8) (hle : szI n ≤ k) :
    Calls Tryd.prog 13 #[.int .i64 n, .int .i64 k] w fun e w' => e = .returned (.tuple #[.string (wideB n k), .bool true]) ∧ Below w.heap.size w w' := by
  rcases hk with rfl | rfl | rfl | rfl
  all_goals
    go_enter Tryd.func13, Tryd.ntmps13
    go_wp2_with (first
      | (go_at_call 30; refine (number_yes n _ h0 h1).mono ?_; rintro e w' ⟨rfl, hw⟩; obtain rfl := hw.symm)
      | (go_at_call 32; refine (l1Size_any n _).mono ?_; rintro e w' ⟨rfl, hw⟩; obtain rfl := hw.symm)
      | (go_at_call 36; refine (l1Wide_int n _ _ h0 h1 (by omega) hle).mono ?_; rintro e w' ⟨rfl, hb⟩))
    go_ret2
    exact ⟨rfl, hb⟩

theorem sputWide_no (n k : Int) (w : World) (h : ¬ (0 ≤ n ∧ n ≤ 1152921504606846975 ∧ (k = 1 ∨ k = 2 ∨ k = 4 ∨ k = 8) ∧ szI n ≤ k)) :
    Calls Tryd.prog 13 #[.int .i64 n, .int .i64 k] w fun e w' => e = .returned (.tuple #[.string ⟨#[]⟩, .bool false]) ∧ w' = w := by
  by_cases hn : 0 ≤ n ∧ n ≤ 1152921504606846975
  · obtain ⟨h0, h1⟩ := hn
    by_cases hk : k = 1 ∨ k = 2 ∨ k = 4 ∨ k = 8
    · have hlt : k < szI n := by omega
      clear h
      rcases hk with rfl | rfl | rfl | rfl
      all_goals
        go_enter Tryd.func13, Tryd.ntmps13
        go_wp2_with (first
          | (go_at_call 30; refine (number_yes n _ h0 h1).mono ?_; rintro e w' ⟨rfl, hw⟩; obtain rfl := hw.symm)
          | (go_at_call 32; refine (l1Size_any n _).mono ?_; rintro e w' ⟨rfl, hw⟩; obtain rfl := hw.symm))
        go_ret2
        exact ⟨rfl, rfl⟩
    · have a : (k != 1) = true := by rw [bne_iff_ne]; omega
      have b : (k != 2) = true := by rw [bne_iff_ne]; omega
      have c : (k != 4) = true := by rw [bne_iff_ne]; omega
      have d : (k != 8) = true := by rw [bne_iff_ne]; omega
      clear h hk
      go_enter Tryd.func13, Tryd.ntmps13
      go_wp2_with (first
        | (go_at_call 30; refine (number_yes n _ h0 h1).mono ?_; rintro e w' ⟨rfl, hw⟩; obtain rfl := hw.symm))
      go_ret2
      exact ⟨rfl, rfl⟩
  · have H : Hid (n < 0 ∨ 1152921504606846975 < n) := by show _ ∨ _; omega
    clear h hn
    go_enter Tryd.func13, Tryd.ntmps13
    go_wp2_with (first
      | (go_at_call 30; refine (number_no n _ H.out).mono ?_; rintro e w' ⟨rfl, hw⟩; obtain rfl := hw.symm))
    go_ret2
    exact ⟨rfl, rfl⟩
end Go.Proofs.YthpimklbdabdhaaDoor
