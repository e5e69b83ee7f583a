/-
  impl.wrongPacket: whether a packet is as the document says. Nothing is written.
-/
import Derived.Test.YtnnmiddhbeiogbaTurnFns
import Derived.Test.YtnnmiddhbeiogbaKIntRows
namespace Go.Proofs.Ytnnmiddhbeiogba
open Go.RowKit

def pkB (k : Int) : Bool := decide (1 ≤ k ∧ k ≤ 20)
abbrev pkV : Value := .func (.func 40) #[] #[]
theorem pk_take (l : List Int) (k : Nat) (hk : k < l.length) : (l.take (k + 1)).all pkB = ((l.take k).all pkB && pkB (l.getD k 0)) := by
  rw [List.take_succ_eq_append_getElem hk, List.all_append]
  simp [List.getD_eq_getElem?_getD, hk]
theorem pk_false {l : List Int} (k : Nat) (hk : k < l.length) (h : pkB (l.getD k 0) = false) : l.all pkB = false := by
  rw [← Bool.not_eq_true, List.all_eq_true]
  intro hh
  have := hh (l.getD k 0) (by simp [List.getD_eq_getElem?_getD, hk])
  rw [h] at this
  cases this
set_option maxHeartbeats 2000000 in
theorem pkwrong_eq (x : Int) (t : Bool) (h : pkB x = t) (w : World) : Calls Try.prog 40 #[.int .i64 x] w fun e w' => e = .returned (.bool (!t)) ∧ w' = w := by
  have HT : Hid (decide (1 ≤ x ∧ x ≤ 20) = t) := h
  clear h
  by_cases h1 : x < 1
  · have HV : Hid (t = false) := by show _ = _; rw [← HT.out, decide_eq_false (by omega)]
    have d1 : decide (x < 1) = true := by simpa using h1
    clear HT
    go_enter Try.func40, Try.ntmps40
    go_wp2
    go_ret
    exact ⟨by rw [HV.out]; rfl, rfl⟩
  have d1 : decide (x < 1) = false := by simpa using h1
  by_cases h2 : 20 < x
  · have HV : Hid (t = false) := by show _ = _; rw [← HT.out, decide_eq_false (by omega)]
    have d2 : decide (20 < x) = true := by simpa using h2
    clear HT
    go_enter Try.func40, Try.ntmps40
    go_wp2
    go_ret
    exact ⟨by rw [HV.out]; rfl, rfl⟩
  have d2 : decide (20 < x) = false := by simpa using h2
  have HV : Hid (t = true) := by show _ = _; rw [← HT.out, decide_eq_true (by omega)]
  clear HT
  go_enter Try.func40, Try.ntmps40
  go_wp2
  go_ret
  exact ⟨by rw [HV.out]; rfl, rfl⟩
end Go.Proofs.Ytnnmiddhbeiogba
