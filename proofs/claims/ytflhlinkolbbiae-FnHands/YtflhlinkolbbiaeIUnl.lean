/-
  slices.Index of nought, impl.handsUnlike: how many hands are unlike. Nothing is written.
-/
import Derived.Test.YtflhlinkolbbiaeHandFns
import Derived.Test.YtflhlinkolbbiaeKIntRows
namespace Go.Proofs.Ytflhlinkolbbiae
open Go.RowKit

theorem unlk_at {s : List Nat} : ∀ k, (∀ i, i < k → s.getD i 0 ≠ 0) → k < s.length → s.getD k 0 = 0 → unlk s = k + 1 := by
  induction s with
  | nil => intro k _ h _; simp at h
  | cons x s ih =>
    intro k hne hk h0
    cases k with
    | zero => simp only [List.getD_cons_zero] at h0; unfold unlk; rw [if_pos h0]
    | succ k =>
      have hx := hne 0 (by omega)
      simp only [List.getD_cons_zero] at hx
      simp only [List.getD_cons_succ] at h0
      unfold unlk
      rw [if_neg hx, ih k (fun i hi => by have := hne (i + 1) (by omega); simpa using this) (by simpa using hk) h0]
theorem unlk_all {s : List Nat} (h : ∀ i, i < s.length → s.getD i 0 ≠ 0) : unlk s = s.length := by
  induction s with
  | nil => rfl
  | cons x s ih =>
    have hx := h 0 (by simp)
    simp only [List.getD_cons_zero] at hx
    unfold unlk
    rw [if_neg hx, ih fun i hi => by have := h (i + 1) (by simpa using hi); simpa using this, List.length_cons]
set_option maxHeartbeats 2000000 in
theorem iindex0_any (v : Value) (s : List Nat) (w : World) (hl : s.length ≤ 1000) (hr : KReads w v (ofN s)) :
    Calls Try.prog 126 #[v, .int .i64 0] w fun e w' => (∃ r : Int, e = .returned (.int .i64 r) ∧ ((r = -1 ∧ unlk s = s.length) ∨ ∃ k : Nat, r = k ∧ k < s.length ∧ unlk s = k + 1)) ∧ w' = w := by
  have HR := hid hr
  obtain ⟨a, cap, rfl, _, _⟩ := hr
  have e0 : (ofN s).length = s.length := List.length_map ..
  have HL := hid e0
  rw [e0] at HR ⊢
  clear e0
  go_enter Try.func126, Try.ntmps126
  go_wp2
  go_loopw [8] (fun i wr => ∃ k : Nat, k ≤ s.length ∧ i = .int .i64 k ∧ (∀ i, i < k → s.getD i 0 ≠ 0) ∧ w = wr) (fun i _ => s.length - (intOf i).toNat)
  case atStart => exact ⟨0, Nat.zero_le _, rfl, fun i h => absurd h (by omega), rfl⟩
  case round =>
    obtain ⟨k, hk, rfl, hall, rfl⟩ := hrel
    have HA := hid hall
    clear hall
    by_cases hlt : k < s.length
    · obtain ⟨g, o, c, e, hc⟩ := HR.out.cells k (by rw [HL.out]; exact hlt)
      rw [HL.out] at e
      cases e
      obtain ⟨x, hx⟩ : ∃ x, x = s.getD k 0 := ⟨_, rfl⟩
      have ck : w.cell? ⟨g, o + k, none⟩ = some (.int .i64 (x : Nat)) := by have := hc k (by rw [HL.out]; exact hlt); rw [ofN_at, ← hx] at this; exact this
      have HX := hid hx
      have n0 : (0 : Int) ≤ (k : Int) := by omega
      have n1 : (k : Int) < (s.length : Int) := by omega
      clear hc hx
      by_cases h0 : x = 0
      · have HV : Hid (unlk s = k + 1) := unlk_at k HA.out hlt (by rw [← HX.out]; exact h0)
        have d0 : decide ((0 : Int) = (x : Int)) = true := by rw [decide_eq_true_eq]; omega
        subst h0
        go_wp2
        go_ret
        exact ⟨⟨_, rfl, .inr ⟨k, rfl, hlt, HV.out⟩⟩, rfl⟩
      · have HS : Hid (∀ i, i < k + 1 → s.getD i 0 ≠ 0) := fun i hi => by
          by_cases e : i = k
          · rw [e, ← HX.out]; exact h0
          · exact HA.out i (by omega)
        have d0 : decide ((0 : Int) = (x : Int)) = false := by rw [decide_eq_false_iff_not]; omega
        go_wp2
        go_roundw
        case rel => exact ⟨k + 1, by omega, by go_num, HS.out, by first | rfl | trivial⟩
        case measure => simp [intOf]; omega
    · obtain rfl : k = s.length := by omega
      have HV : Hid (unlk s = s.length) := unlk_all HA.out
      go_wp2
      go_ret
      exact ⟨⟨_, rfl, .inl ⟨rfl, HV.out⟩⟩, rfl⟩
set_option maxHeartbeats 2000000 in
theorem iunl_eq (v : Value) (s : List Nat) (u : Nat) (hu : unlk s = u) (w : World) (hl : s.length ≤ 1000) (hr : KReads w v (ofN s)) :
    Calls Try.prog 114 #[v] w fun e w' => e = .returned (.int .i64 (u : Nat)) ∧ w' = w := by
  have HR := hid hr
  have HU := hid hu
  obtain ⟨a, cap, rfl, _, _⟩ := hr
  have e0 : (ofN s).length = s.length := List.length_map ..
  rw [e0] at HR ⊢
  clear e0 hu
  go_enter Try.func114, Try.ntmps114
  go_wp2_with fail
  refine (iindex0_any _ s _ hl HR.out).mono ?_
  rintro e w' ⟨⟨r, rfl, hcase⟩, hw⟩; obtain rfl := hw.symm
  rcases hcase with ⟨rfl, h⟩ | ⟨k, rfl, hk, h⟩
  · have HV : Hid (u = s.length) := by show _ = _; rw [← HU.out, h]
    clear h
    go_wp2
    go_ret
    exact ⟨by rw [HV.out]; rfl, rfl⟩
  · obtain ⟨m, hm⟩ : ∃ m, m = k + 1 := ⟨_, rfl⟩
    have HV : Hid (u = m) := by show _ = _; rw [← HU.out, h, hm]
    have d0 : decide ((k : Int) < 0) = false := by rw [decide_eq_false_iff_not]; omega
    have hw1 : IntKind.i64.wrap ((k : Int) + 1) = (m : Int) := by rw [IntKind.wrap_i64]; omega
    clear h hm
    go_wp2
    go_ret
    exact ⟨by rw [HV.out]; rfl, rfl⟩
end Go.Proofs.Ytflhlinkolbbiae
