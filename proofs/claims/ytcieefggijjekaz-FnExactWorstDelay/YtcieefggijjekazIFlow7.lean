/-
  impl.wrongUnits, slices.ContainsFunc with it, impl.goodFlow: whether a flow is as the document says. Nothing is written.
-/
import Derived.Test.YtcieefggijjekazFlowFns
import Derived.Test.YtcieefggijjekazKIntRows
namespace Go.Proofs.Ytcieefggijjekaz
open Go.RowKit

def unitB (k : Int) : Bool := decide (0 ≤ k ∧ k ≤ 60)
abbrev wrongUV : Value := .func (.func 43) #[] #[]
theorem uall_take (l : List Int) (k : Nat) (hk : k < l.length) : (l.take (k + 1)).all unitB = ((l.take k).all unitB && unitB (l.getD k 0)) := by
  rw [List.take_succ_eq_append_getElem hk, List.all_append]
  simp [List.getD_eq_getElem?_getD, hk]
theorem uall_false {l : List Int} (k : Nat) (hk : k < l.length) (h : unitB (l.getD k 0) = false) : l.all unitB = false := by
  rw [← Bool.not_eq_true, List.all_eq_true]
  intro hh
  have := hh (l.getD k 0) (by simp [List.getD_eq_getElem?_getD, hk])
  rw [h] at this
  cases this
set_option maxHeartbeats 2000000 in
theorem wrongUnits_eq (x : Int) (t : Bool) (h : unitB x = t) (w : World) : Calls Try.prog 43 #[.int .i64 x] w fun e w' => e = .returned (.bool (!t)) ∧ w' = w := by
  have HT : Hid (decide (0 ≤ x ∧ x ≤ 60) = t) := h
  clear h
  by_cases h1 : x < 0
  · have HV : Hid (t = false) := by show _ = _; rw [← HT.out, decide_eq_false (by omega)]
    have d1 : decide (x < 0) = true := by simpa using h1
    clear HT
    go_enter Try.func43, Try.ntmps43
    go_wp2
    go_ret
    exact ⟨by rw [HV.out]; rfl, rfl⟩
  have d1 : decide (x < 0) = false := by simpa using h1
  by_cases h2 : 60 < x
  · have HV : Hid (t = false) := by show _ = _; rw [← HT.out, decide_eq_false (by omega)]
    have d2 : decide (60 < x) = true := by simpa using h2
    clear HT
    go_enter Try.func43, Try.ntmps43
    go_wp2
    go_ret
    exact ⟨by rw [HV.out]; rfl, rfl⟩
  have d2 : decide (60 < x) = false := by simpa using h2
  have HV : Hid (t = true) := by show _ = _; rw [← HT.out, decide_eq_true (by omega)]
  clear HT
  go_enter Try.func43, Try.ntmps43
  go_wp2
  go_ret
  exact ⟨by rw [HV.out]; rfl, rfl⟩
/-- slices.IndexFunc with wrongUnits: below 0 just where all are good. -/
theorem uindex_any (v : Value) (xs : List Int) (w : World) (hr : KReads w v xs) :
    Calls Try.prog 46 #[v, wrongUV] w fun e w' => ∃ r : Int, e = .returned (.int .i64 r) ∧ decide (0 ≤ r) = !(xs.all unitB) ∧ w' = w := by
  have HR := hid hr
  obtain ⟨a, cap, rfl, hl, _⟩ := hr
  go_enter Try.func46, Try.ntmps46
  go_wp2
  go_loopw [8] (fun i wr => ∃ k : Nat, k ≤ xs.length ∧ i = .int .i64 k ∧ (xs.take k).all unitB = true ∧ w = wr) (fun i _ => xs.length - (intOf i).toNat)
  case atStart => exact ⟨0, Nat.zero_le _, rfl, rfl, rfl⟩
  case round =>
    obtain ⟨k, hk, rfl, hall, rfl⟩ := hrel
    have HL := hid hall
    clear hall
    by_cases hlt : k < xs.length
    · obtain ⟨g, o, cap', e, hc⟩ := HR.out.cells k hlt
      cases e
      obtain ⟨x, hx0⟩ : ∃ x, x = xs.getD k 0 := ⟨_, rfl⟩
      have hck : w.cell? ⟨g, o + k, none⟩ = some (.int .i64 x) := by rw [hx0]; exact hc k hlt
      obtain ⟨b, hb⟩ : ∃ b, unitB (xs.getD k 0) = b := ⟨_, rfl⟩
      have HK := hid hb
      have HKX : Hid (unitB x = b) := by rw [hx0]; exact hb
      have HS : Hid ((xs.take (k + 1)).all unitB = b) := by show _ = _; rw [uall_take xs k hlt, HL.out, hb, Bool.true_and]
      clear hc hb hx0
      go_wp2_with fail
      refine (wrongUnits_eq x b HKX.out _).mono ?_
      rintro e w' ⟨rfl, hw⟩; obtain rfl := hw.symm
      cases b
      · have hv : Hid (xs.all unitB = false) := uall_false k hlt HK.out
        go_wp2
        go_ret
        exact ⟨_, rfl, by rw [hv.out]; simp, rfl⟩
      · go_wp2
        go_roundw
        case rel => exact ⟨k + 1, by omega, by go_num, HS.out, by first | rfl | trivial⟩
        case measure => simp [intOf]; omega
    · have hv : Hid (xs.all unitB = true) := by show _ = _; have := HL.out; rw [List.take_of_length_le (by omega)] at this; exact this
      go_wp2
      go_ret
      exact ⟨_, rfl, by rw [hv.out]; rfl, rfl⟩
theorem ucontains_any (v : Value) (xs : List Int) (t : Bool) (ht : xs.all unitB = t) (w : World) (hr : KReads w v xs) :
    Calls Try.prog 42 #[v, wrongUV] w fun e w' => e = .returned (.bool (!t)) ∧ w' = w := by
  have HR := hid hr
  have HT := hid ht
  clear hr ht
  go_enter Try.func42, Try.ntmps42
  go_wp2_with fail
  refine (uindex_any v xs _ HR.out).mono ?_
  rintro e w' ⟨r, rfl, hd, hw⟩; obtain rfl := hw.symm
  rw [HT.out] at hd
  go_wp2
  go_ret
  exact ⟨by rw [← hd]; rfl, rfl⟩
set_option maxHeartbeats 1000000 in
theorem iflow_eq (v : Value) (xs : List Int) (t : Bool) (h : flowB xs = t) (w : World) (hr : KReads w v xs) :
    Calls Try.prog 33 #[v] w fun e w' => e = .returned (.bool t) ∧ w' = w := by
  have HT : Hid ((decide (xs.length ≤ 40) && xs.all unitB) = t) := h
  clear h
  have HR := hid hr
  obtain ⟨a, cap, rfl, _, _⟩ := hr
  by_cases h8 : xs.length ≤ 40
  · obtain ⟨b, hb⟩ : ∃ b, xs.all unitB = b := ⟨_, rfl⟩
    have HA : Hid (t = b) := by show _ = _; rw [← HT.out, hb]; simp [h8]
    have hd : decide ((xs.length : Int) ≤ 40) = true := by simp; omega
    have HB := hid hb
    clear hb
    go_enter Try.func33, Try.ntmps33
    go_wp2_with fail
    refine (ucontains_any _ xs b HB.out _ HR.out).mono ?_
    rintro e w' ⟨rfl, hw⟩; obtain rfl := hw.symm
    go_wp2
    go_ret
    exact ⟨by rw [HA.out]; simp, rfl⟩
  · have hv : Hid (t = false) := by show _ = _; rw [← HT.out]; simp [h8]
    have hd : decide ((xs.length : Int) ≤ 40) = false := by simp; omega
    go_enter Try.func33, Try.ntmps33
    go_wp2
    go_ret
    exact ⟨by rw [hv.out]; rfl, rfl⟩
end Go.Proofs.Ytcieefggijjekaz
