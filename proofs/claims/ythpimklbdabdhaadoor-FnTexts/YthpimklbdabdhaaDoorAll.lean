/-
  spec.l1In and spec.l1All: whether a number, whether all numbers of a list are from lo to hi; nothing is written.
-/
import Derived.Test.YthpimklbdabdhaaDoorInts
namespace Go.Proofs.YthpimklbdabdhaaDoor
open Go.RowKit

theorem in_yes (n lo hi : Int) (w : World) (h0 : lo ≤ n) (h1 : n ≤ hi) :
    Calls Tryd.prog 49 #[.int .i64 n, .int .i64 lo, .int .i64 hi] w fun e w' => e = .returned (.bool true) ∧ w' = w := by
  go_enter Tryd.func49, Tryd.ntmps49
  go_wp2
  go_ret; exact ⟨rfl, rfl⟩
theorem in_no (n lo hi : Int) (w : World) (h : n < lo ∨ hi < n) :
    Calls Tryd.prog 49 #[.int .i64 n, .int .i64 lo, .int .i64 hi] w fun e w' => e = .returned (.bool false) ∧ w' = w := by
  by_cases h0 : lo ≤ n
  · have h1 : ¬ n ≤ hi := by omega
    clear h
    go_enter Tryd.func49, Tryd.ntmps49
    go_wp2
    go_ret; exact ⟨rfl, rfl⟩
  · clear h
    go_enter Tryd.func49, Tryd.ntmps49
    go_wp2
    go_ret; exact ⟨rfl, rfl⟩

/-- All from lo to hi. -/
def allIn (xs : List Int) (lo hi : Int) : Prop := ∀ i, i < xs.length → lo ≤ xs.getD i 0 ∧ xs.getD i 0 ≤ hi

set_option maxHeartbeats 1000000 in
theorem l1All_yes (v : Value) (xs : List Int) (lo hi : Int) (w : World) (hr : Reads w v xs) (ha : allIn xs lo hi) :
    Calls Tryd.prog 43 #[v, .int .i64 lo, .int .i64 hi] w fun e w' => e = .returned (.bool true) ∧ w' = w := by
  obtain ⟨a, cap, rfl, hl, hx⟩ := hr
  have HC := hid hx
  have HA := hid ha
  clear hx ha
  go_enter Tryd.func43, Tryd.ntmps43
  go_wp2
  go_loopw [11] (fun i wr => ∃ k : Nat, k ≤ xs.length ∧ i = .int .i64 k ∧ w = wr) (fun i _ => xs.length - (intOf i).toNat)
  case atStart => exact ⟨0, Nat.zero_le _, rfl, rfl⟩
  case round =>
    obtain ⟨k, hk, rfl, rfl⟩ := hrel
    by_cases hlt : k < xs.length
    · obtain ⟨b, off, rfl, hc⟩ : ∃ b off, a = some ⟨b, off, none⟩ ∧ ∀ i, i < xs.length → w.cell? ⟨b, off + i, none⟩ = some (.int .i64 (xs.getD i 0)) := by
        rcases HC.out with h | h
        · subst h; simp at hlt
        · exact h
      have h1 := hc k hlt
      obtain ⟨h2, h3⟩ := HA.out k hlt
      clear hc
      generalize xs.getD k 0 = x at h1 h2 h3
      go_wp2_with (go_at_call 49; refine (in_yes x lo hi _ h2 h3).mono ?_; rintro e w' ⟨rfl, hw⟩; obtain rfl := hw.symm)
      go_roundw
      case rel => exact ⟨k + 1, by omega, by go_num, trivial⟩
      case measure => simp [intOf]; omega
    · go_wp2
      go_ret
      exact ⟨rfl, rfl⟩

set_option maxHeartbeats 1000000 in
theorem l1All_no (v : Value) (xs : List Int) (lo hi : Int) (w : World) (hr : Reads w v xs) (ha : ¬ allIn xs lo hi) :
    Calls Tryd.prog 43 #[v, .int .i64 lo, .int .i64 hi] w fun e w' => e = .returned (.bool false) ∧ w' = w := by
  obtain ⟨a, cap, rfl, hl, hx⟩ := hr
  have HC := hid hx
  have HA := hid ha
  clear hx ha
  go_enter Tryd.func43, Tryd.ntmps43
  go_wp2
  go_loopw [11] (fun i wr => ∃ k : Nat, k ≤ xs.length ∧ i = .int .i64 k ∧ (∀ j, j < k → lo ≤ xs.getD j 0 ∧ xs.getD j 0 ≤ hi) ∧ w = wr) (fun i _ => xs.length - (intOf i).toNat)
  case atStart => exact ⟨0, Nat.zero_le _, rfl, fun j hj => absurd hj (Nat.not_lt_zero j), rfl⟩
  case round =>
    obtain ⟨k, hk, rfl, hso, rfl⟩ := hrel
    have HS := hid hso
    clear hso
    by_cases hlt : k < xs.length
    · obtain ⟨b, off, rfl, hc⟩ : ∃ b off, a = some ⟨b, off, none⟩ ∧ ∀ i, i < xs.length → w.cell? ⟨b, off + i, none⟩ = some (.int .i64 (xs.getD i 0)) := by
        rcases HC.out with h | h
        · subst h; simp at hlt
        · exact h
      have h1 := hc k hlt
      clear hc
      by_cases hin : lo ≤ xs.getD k 0 ∧ xs.getD k 0 ≤ hi
      · have hst : Hid (∀ j, j < k + 1 → lo ≤ xs.getD j 0 ∧ xs.getD j 0 ≤ hi) := fun j hj => by
          by_cases e : j = k
          · subst e; exact hin
          · exact HS.out j (by omega)
        obtain ⟨h2, h3⟩ := hin
        generalize xs.getD k 0 = x at h1 h2 h3
        go_wp2_with (go_at_call 49; refine (in_yes x lo hi _ h2 h3).mono ?_; rintro e w' ⟨rfl, hw⟩; obtain rfl := hw.symm)
        go_roundw
        case rel => exact ⟨k + 1, by omega, by go_num, hst.out, trivial⟩
        case measure => simp [intOf]; omega
      · have hin' : Hid (xs.getD k 0 < lo ∨ hi < xs.getD k 0) := by show _ ∨ _; omega
        clear hin
        generalize xs.getD k 0 = x at h1 hin'
        go_wp2_with (go_at_call 49; refine (in_no x lo hi _ hin'.out).mono ?_; rintro e w' ⟨rfl, hw⟩; obtain rfl := hw.symm)
        go_ret
        exact ⟨rfl, rfl⟩
    · exact absurd (fun i hi => HS.out i (by omega)) HA.out
end Go.Proofs.YthpimklbdabdhaaDoor
