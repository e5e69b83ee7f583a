/-
  laws.szIntS, laws.szIntSS: what is left of a bound behind a list's length, and behind those of all its rows. Nothing is written.
-/
import Derived.Test.YteeaebelknpdjbaKIntArg
namespace Go.Proofs.Yteeaebelknpdjba
open Go.RowKit

set_option maxHeartbeats 2000000 in
theorem szIntS_any (v : Value) (xs : List KEl) (w : World) (h : KArgV w v xs) (l : Int) (h0 : 0 ≤ l) (h1 : l ≤ 1048576) :
    Calls Try.prog 29 #[v, .int .i64 l] w fun e w' => ∃ r : Int, e = .returned (.int .i64 r) ∧ ((r = -1 ∨ r = l - (xs.length : Nat)) ∧ (0 ≤ r → (xs.length : Nat) ≤ l) ∧ -1 ≤ r ∧ r ≤ l) ∧ w' = w := by
  obtain ⟨a, cap, rfl, hm⟩ := h.form
  unfold maxLen at hm
  have hw : IntKind.i64.wrap (l - (xs.length : Int)) = l - xs.length := by rw [IntKind.wrap_i64]; omega
  clear h
  by_cases hl : l - (xs.length : Int) < 0
  · have hd : decide (l - (xs.length : Int) < 0) = true := by simpa using hl
    go_enter Try.func29, Try.ntmps29
    go_wp2
    go_ret
    exact ⟨-1, rfl, ⟨.inl rfl, by omega, by omega, by omega⟩, rfl⟩
  · have hd : decide (l - (xs.length : Int) < 0) = false := by simpa using hl
    go_enter Try.func29, Try.ntmps29
    go_wp2
    go_ret
    exact ⟨_, rfl, ⟨.inr rfl, by omega, by omega, by omega⟩, rfl⟩
set_option maxRecDepth 100000 in
set_option maxHeartbeats 8000000 in
theorem szIntSS_any (v : Value) (xss : List (List KEl)) (w : World) (h : QArgV w v xss) (l : Int) (h0 : 0 ≤ l) (h1 : l ≤ 1048576) :
    Calls Try.prog 30 #[v, .int .i64 l] w fun e w' => ∃ r : Int, e = .returned (.int .i64 r) ∧ ((r = -1 ∨ r = l - (xss.length + preL xss xss.length : Nat)) ∧ (0 ≤ r → (xss.length + preL xss xss.length : Nat) ≤ l) ∧ -1 ≤ r ∧ r ≤ l) ∧ w' = w := by
  obtain ⟨a, cap, rfl, ⟨hc, hm⟩, hrow⟩ := h
  unfold maxLen at hm
  have HROW := hid hrow
  have hw : IntKind.i64.wrap (l - (xss.length : Int)) = l - xss.length := by rw [IntKind.wrap_i64]; omega
  clear hrow
  by_cases hl : l - (xss.length : Int) < 0
  · have hd : decide (l - (xss.length : Int) < 0) = true := by simpa using hl
    go_enter Try.func30, Try.ntmps30
    go_wp2
    go_ret
    exact ⟨-1, rfl, ⟨.inl rfl, by omega, by omega, by omega⟩, rfl⟩
  · have hd : decide (l - (xss.length : Int) < 0) = false := by simpa using hl
    go_enter Try.func30, Try.ntmps30
    go_wp2
    go_loopw [1, 5] (fun lv i wr => ∃ t : Nat, t ≤ xss.length ∧ i = .int .i64 t ∧ ∃ z : Int, lv = .int .i64 z ∧ (z = l - (xss.length + preL xss t : Nat) ∧ 0 ≤ z) ∧ w = wr) (fun _ i _ => xss.length - (intOf i).toNat)
    case atStart => exact ⟨0, Nat.zero_le _, rfl, _, rfl, ⟨by rw [preL_zero]; simp, by omega⟩, rfl⟩
    case round =>
      obtain ⟨t, ht, rfl, z, rfl, hz, rfl⟩ := hrel
      by_cases hlt : t < xss.length
      · obtain ⟨b, off, ea, hc'⟩ : ∃ b off, a = some ⟨b, off, none⟩ ∧ ∀ i, i < xss.length → ∃ u, w.cell? ⟨b, off + i, none⟩ = some u ∧ KArgV w u (xss.getD i []) := by
          rcases HROW.out with h | h
          · rw [h] at hlt; simp at hlt
          · exact h
        subst ea
        obtain ⟨u, cu, hu⟩ := hc' t hlt
        have HU := hid hu
        have HP := hid (preL_succ xss t hlt)
        have n0 : (0 : Int) ≤ (t : Int) := by omega
        have n1 : (t : Int) < (xss.length : Int) := by omega
        have hzb : z ≤ 1048576 := by omega
        have HZ := hid hz.1
        have hz0 := hz.2
        clear hc' hu hz
        go_wp2_with fail
        refine (szIntS_any u _ _ HU.out z hz0 hzb).mono ?_
        rintro e w' ⟨r, rfl, hr, hw'⟩; obtain rfl := hw'.symm
        by_cases hneg : r < 0
        · have hd2 : decide (r < 0) = true := by simpa using hneg
          go_wp2
          go_ret
          exact ⟨-1, rfl, ⟨.inl rfl, by omega, by omega, by omega⟩, rfl⟩
        · have hd2 : decide (r < 0) = false := by simpa using hneg
          have HR : Hid (r = l - (xss.length + preL xss (t + 1) : Nat) ∧ 0 ≤ r) := by
            have h1 := HP.out
            have h2 := HZ.out
            exact ⟨by rcases hr.1 with h | h <;> omega, by omega⟩
          clear hr
          go_wp2
          go_roundw
          case rel => exact ⟨t + 1, by omega, by go_num, r, rfl, HR.out, by first | rfl | trivial⟩
          case measure => simp [intOf]; omega
      · obtain rfl : t = xss.length := by omega
        go_wp2
        go_ret
        exact ⟨z, rfl, ⟨.inr hz.1, by omega, by omega, by omega⟩, rfl⟩
end Go.Proofs.Yteeaebelknpdjba
