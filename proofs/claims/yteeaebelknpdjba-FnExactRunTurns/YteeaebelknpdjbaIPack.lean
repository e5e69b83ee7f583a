/-
  slices.ContainsFunc with impl.wrongPacket, impl.goodPackets: whether packets are as the document says. Nothing is written.
-/
import Derived.Test.YteeaebelknpdjbaTurnFns
import Derived.Test.YteeaebelknpdjbaKIntRows
import Derived.Test.YteeaebelknpdjbaTurnIG
namespace Go.Proofs.Yteeaebelknpdjba
open Go.RowKit

/-- slices.IndexFunc with wrongPacket: below 0 just where all are good. -/
theorem pkindex_any (v : Value) (xs : List Int) (w : World) (hr : KReads w v xs) :
    Calls Try.prog 55 #[v, pkV] w fun e w' => ∃ r : Int, e = .returned (.int .i64 r) ∧ decide (0 ≤ r) = !(xs.all pkB) ∧ w' = w := by
  have HR := hid hr
  obtain ⟨a, cap, rfl, hl, _⟩ := hr
  go_enter Try.func55, Try.ntmps55
  go_wp2
  go_loopw [8] (fun i wr => ∃ k : Nat, k ≤ xs.length ∧ i = .int .i64 k ∧ (xs.take k).all pkB = true ∧ w = wr) (fun i _ => xs.length - (intOf i).toNat)
  case atStart => exact ⟨0, Nat.zero_le _, rfl, rfl, rfl⟩
  case round =>
    obtain ⟨k, hk, rfl, hall, rfl⟩ := hrel
    have HL := hid hall
    clear hall
    by_cases hlt : k < xs.length
    · obtain ⟨g, o, cap', e, hc⟩ := HR.out.cells k hlt
      cases e
      obtain ⟨x, hx0⟩ : ∃ x, x = xs.getD k 0 := ⟨_, rfl⟩
      have hck : w.cell? ⟨g, o + k, none⟩ = some (.int .i64 x) := by rw [hx0]; exact hc k hlt
      obtain ⟨b, hb⟩ : ∃ b, pkB (xs.getD k 0) = b := ⟨_, rfl⟩
      have HK := hid hb
      have HKX : Hid (pkB x = b) := by rw [hx0]; exact hb
      have HS : Hid ((xs.take (k + 1)).all pkB = b) := by show _ = _; rw [pk_take xs k hlt, HL.out, hb, Bool.true_and]
      clear hc hb hx0
      go_wp2_with fail
      refine (pkwrong_eq x b HKX.out _).mono ?_
      rintro e w' ⟨rfl, hw⟩; obtain rfl := hw.symm
      cases b
      · have hv : Hid (xs.all pkB = false) := pk_false k hlt HK.out
        go_wp2
        go_ret
        exact ⟨_, rfl, by rw [hv.out]; simp, rfl⟩
      · go_wp2
        go_roundw
        case rel => exact ⟨k + 1, by omega, by go_num, HS.out, by first | rfl | trivial⟩
        case measure => simp [intOf]; omega
    · have hv : Hid (xs.all pkB = true) := by show _ = _; have := HL.out; rw [List.take_of_length_le (by omega)] at this; exact this
      go_wp2
      go_ret
      exact ⟨_, rfl, by rw [hv.out]; rfl, rfl⟩
theorem pkcontains_any (v : Value) (xs : List Int) (t : Bool) (ht : xs.all pkB = t) (w : World) (hr : KReads w v xs) :
    Calls Try.prog 50 #[v, pkV] w fun e w' => e = .returned (.bool (!t)) ∧ w' = w := by
  have HR := hid hr
  have HT := hid ht
  clear hr ht
  go_enter Try.func50, Try.ntmps50
  go_wp2_with fail
  refine (pkindex_any v xs _ HR.out).mono ?_
  rintro e w' ⟨r, rfl, hd, hw⟩; obtain rfl := hw.symm
  rw [HT.out] at hd
  go_wp2
  go_ret
  exact ⟨by rw [← hd]; rfl, rfl⟩
set_option maxHeartbeats 1000000 in
theorem ipackets_eq (v : Value) (xs : List Int) (t : Bool) (h : packB xs = t) (w : World) (hr : KReads w v xs) :
    Calls Try.prog 36 #[v] w fun e w' => e = .returned (.bool t) ∧ w' = w := by
  have HT : Hid ((decide (xs.length ≤ 30) && xs.all pkB) = t) := h
  clear h
  have HR := hid hr
  obtain ⟨a, cap, rfl, _, _⟩ := hr
  by_cases h8 : xs.length ≤ 30
  · obtain ⟨b, hb⟩ : ∃ b, xs.all pkB = b := ⟨_, rfl⟩
    have HA : Hid (t = b) := by show _ = _; rw [← HT.out, hb]; simp [h8]
    have hd : decide ((xs.length : Int) ≤ 30) = true := by simp; omega
    have HB := hid hb
    clear hb
    go_enter Try.func36, Try.ntmps36
    go_wp2_with fail
    refine (pkcontains_any _ xs b HB.out _ HR.out).mono ?_
    rintro e w' ⟨rfl, hw⟩; obtain rfl := hw.symm
    go_wp2
    go_ret
    exact ⟨by rw [HA.out]; simp, rfl⟩
  · have hv : Hid (t = false) := by show _ = _; rw [← HT.out]; simp [h8]
    have hd : decide ((xs.length : Int) ≤ 30) = false := by simp; omega
    go_enter Try.func36, Try.ntmps36
    go_wp2
    go_ret
    exact ⟨by rw [hv.out]; rfl, rfl⟩
end Go.Proofs.Yteeaebelknpdjba
