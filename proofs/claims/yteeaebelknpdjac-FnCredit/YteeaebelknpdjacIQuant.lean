/-
  impl.wrongQuantum, slices.ContainsFunc with it, impl.goodQuanta: whether quanta are as the document says. Nothing is written.
-/
import Derived.Test.YteeaebelknpdjacTurnFns
import Derived.Test.YteeaebelknpdjacKIntRows
namespace Go.Proofs.Yteeaebelknpdjac
open Go.RowKit

def qnB (k : Int) : Bool := decide (20 ≤ k ∧ k ≤ 100)
abbrev qnV : Value := .func (.func 115) #[] #[]
theorem qn_take (l : List Int) (k : Nat) (hk : k < l.length) : (l.take (k + 1)).all qnB = ((l.take k).all qnB && qnB (l.getD k 0)) := by
  rw [List.take_succ_eq_append_getElem hk, List.all_append]
  simp [List.getD_eq_getElem?_getD, hk]
theorem qn_false {l : List Int} (k : Nat) (hk : k < l.length) (h : qnB (l.getD k 0) = false) : l.all qnB = false := by
  rw [← Bool.not_eq_true, List.all_eq_true]
  intro hh
  have := hh (l.getD k 0) (by simp [List.getD_eq_getElem?_getD, hk])
  rw [h] at this
  cases this
set_option maxHeartbeats 2000000 in
theorem qnwrong_eq (x : Int) (t : Bool) (h : qnB x = t) (w : World) : Calls Try.prog 115 #[.int .i64 x] w fun e w' => e = .returned (.bool (!t)) ∧ w' = w := by
  have HT : Hid (decide (20 ≤ x ∧ x ≤ 100) = t) := h
  clear h
  by_cases h1 : x < 20
  · have HV : Hid (t = false) := by show _ = _; rw [← HT.out, decide_eq_false (by omega)]
    have d1 : decide (x < 20) = true := by simpa using h1
    clear HT
    go_enter Try.func115, Try.ntmps115
    go_wp2
    go_ret
    exact ⟨by rw [HV.out]; rfl, rfl⟩
  have d1 : decide (x < 20) = false := by simpa using h1
  by_cases h2 : 100 < x
  · have HV : Hid (t = false) := by show _ = _; rw [← HT.out, decide_eq_false (by omega)]
    have d2 : decide (100 < x) = true := by simpa using h2
    clear HT
    go_enter Try.func115, Try.ntmps115
    go_wp2
    go_ret
    exact ⟨by rw [HV.out]; rfl, rfl⟩
  have d2 : decide (100 < x) = false := by simpa using h2
  have HV : Hid (t = true) := by show _ = _; rw [← HT.out, decide_eq_true (by omega)]
  clear HT
  go_enter Try.func115, Try.ntmps115
  go_wp2
  go_ret
  exact ⟨by rw [HV.out]; rfl, rfl⟩
/-- slices.IndexFunc with wrongQuantum: below 0 just where all are good. -/
theorem qnindex_any (v : Value) (xs : List Int) (w : World) (hr : KReads w v xs) :
    Calls Try.prog 120 #[v, qnV] w fun e w' => ∃ r : Int, e = .returned (.int .i64 r) ∧ decide (0 ≤ r) = !(xs.all qnB) ∧ w' = w := by
  have HR := hid hr
  obtain ⟨a, cap, rfl, hl, _⟩ := hr
  go_enter Try.func120, Try.ntmps120
  go_wp2
  go_loopw [8] (fun i wr => ∃ k : Nat, k ≤ xs.length ∧ i = .int .i64 k ∧ (xs.take k).all qnB = true ∧ w = wr) (fun i _ => xs.length - (intOf i).toNat)
  case atStart => exact ⟨0, Nat.zero_le _, rfl, rfl, rfl⟩
  case round =>
    obtain ⟨k, hk, rfl, hall, rfl⟩ := hrel
    have HL := hid hall
    clear hall
    by_cases hlt : k < xs.length
    · obtain ⟨g, o, cap', e, hc⟩ := HR.out.cells k hlt
      cases e
      obtain ⟨x, hx0⟩ : ∃ x, x = xs.getD k 0 := ⟨_, rfl⟩
      have hck : w.cell? ⟨g, o + k, none⟩ = some (.int .i64 x) := by rw [hx0]; exact hc k hlt
      obtain ⟨b, hb⟩ : ∃ b, qnB (xs.getD k 0) = b := ⟨_, rfl⟩
      have HK := hid hb
      have HKX : Hid (qnB x = b) := by rw [hx0]; exact hb
      have HS : Hid ((xs.take (k + 1)).all qnB = b) := by show _ = _; rw [qn_take xs k hlt, HL.out, hb, Bool.true_and]
      clear hc hb hx0
      go_wp2_with fail
      refine (qnwrong_eq x b HKX.out _).mono ?_
      rintro e w' ⟨rfl, hw⟩; obtain rfl := hw.symm
      cases b
      · have hv : Hid (xs.all qnB = false) := qn_false k hlt HK.out
        go_wp2
        go_ret
        exact ⟨_, rfl, by rw [hv.out]; simp, rfl⟩
      · go_wp2
        go_roundw
        case rel => exact ⟨k + 1, by omega, by go_num, HS.out, by first | rfl | trivial⟩
        case measure => simp [intOf]; omega
    · have hv : Hid (xs.all qnB = true) := by show _ = _; have := HL.out; rw [List.take_of_length_le (by omega)] at this; exact this
      go_wp2
      go_ret
      exact ⟨_, rfl, by rw [hv.out]; rfl, rfl⟩
theorem qncontains_any (v : Value) (xs : List Int) (t : Bool) (ht : xs.all qnB = t) (w : World) (hr : KReads w v xs) :
    Calls Try.prog 109 #[v, qnV] w fun e w' => e = .returned (.bool (!t)) ∧ w' = w := by
  have HR := hid hr
  have HT := hid ht
  clear hr ht
  go_enter Try.func109, Try.ntmps109
  go_wp2_with fail
  refine (qnindex_any v xs _ HR.out).mono ?_
  rintro e w' ⟨r, rfl, hd, hw⟩; obtain rfl := hw.symm
  rw [HT.out] at hd
  go_wp2
  go_ret
  exact ⟨by rw [← hd]; rfl, rfl⟩
set_option maxHeartbeats 1000000 in
theorem iquanta_eq (v : Value) (xs : List Int) (t : Bool) (h : newOk xs = t) (w : World) (hr : KReads w v xs) :
    Calls Try.prog 93 #[v] w fun e w' => e = .returned (.bool t) ∧ w' = w := by
  have HT : Hid ((decide (1 ≤ (xs.length : Int) ∧ (xs.length : Int) ≤ 4) && xs.all qnB) = t) := h
  clear h
  have HR := hid hr
  obtain ⟨a, cap, rfl, _, _⟩ := hr
  by_cases h1 : 1 ≤ xs.length
  · have d1 : decide (1 ≤ (xs.length : Int)) = true := by simp; omega
    by_cases h8 : xs.length ≤ 4
    · obtain ⟨b, hb⟩ : ∃ b, xs.all qnB = b := ⟨_, rfl⟩
      have HA : Hid (t = b) := by show _ = _; rw [← HT.out, hb, decide_eq_true (by omega)]; rfl
      have hd : decide ((xs.length : Int) ≤ 4) = true := by simp; omega
      have HB := hid hb
      clear hb
      go_enter Try.func93, Try.ntmps93
      go_wp2_with fail
      refine (qncontains_any _ xs b HB.out _ HR.out).mono ?_
      rintro e w' ⟨rfl, hw⟩; obtain rfl := hw.symm
      go_wp2
      go_ret
      exact ⟨by rw [HA.out]; simp, rfl⟩
    · have hv : Hid (t = false) := by show _ = _; rw [← HT.out, decide_eq_false (by omega)]; rfl
      have hd : decide ((xs.length : Int) ≤ 4) = false := by simp; omega
      go_enter Try.func93, Try.ntmps93
      go_wp2
      go_ret
      exact ⟨by rw [hv.out]; rfl, rfl⟩
  · have hv : Hid (t = false) := by show _ = _; rw [← HT.out, decide_eq_false (by omega)]; rfl
    have hd : decide (1 ≤ (xs.length : Int)) = false := by simp; omega
    go_enter Try.func93, Try.ntmps93
    go_wp2
    go_ret
    exact ⟨by rw [hv.out]; rfl, rfl⟩
end Go.Proofs.Yteeaebelknpdjac
