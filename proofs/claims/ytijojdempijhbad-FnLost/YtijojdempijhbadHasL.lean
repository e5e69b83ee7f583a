/-
  laws.has: whether a number is among numbers. Nothing is written.
-/
import Derived.Test.YtijojdempijhbadKIntRows
namespace Go.Proofs.Ytijojdempijhbad
open Go.RowKit

theorem hl_take (xs : List Int) (k : Nat) (h : k < xs.length) (y : Int) : (xs.take (k + 1)).contains y = ((xs.take k).contains y || xs.getD k 0 == y) := by
  rw [List.take_succ_eq_append_getElem h]
  simp only [List.getD_eq_getElem?_getD, List.getElem?_eq_getElem h, Option.getD_some]
  rw [List.contains_eq_mem, List.contains_eq_mem, Bool.eq_iff_iff, Bool.or_eq_true, decide_eq_true_eq, decide_eq_true_eq, beq_iff_eq, List.mem_append, List.mem_singleton]
  exact or_congr_right ⟨Eq.symm, Eq.symm⟩
set_option maxHeartbeats 2000000 in
theorem lhas_eq (v : Value) (xs : List Int) (y : Int) (t : Bool) (ht : xs.contains y = t) (w : World) (hr : KReads w v xs) :
    Calls Try.prog 39 #[v, .int .i64 y] w fun e w' => e = .returned (.bool t) ∧ w' = w := by
  obtain ⟨a, cap, rfl, hl, hx⟩ := hr
  have HX := hid hx
  have HT := hid ht
  clear hx ht
  go_enter Try.func39, Try.ntmps39
  go_wp2
  go_loopw [9] (fun i wr => ∃ k : Nat, k ≤ xs.length ∧ i = .int .i64 k ∧ (xs.take k).contains y = false ∧ w = wr) (fun i _ => xs.length - (intOf i).toNat)
  case atStart => exact ⟨0, Nat.zero_le _, rfl, by simp, rfl⟩
  case round =>
    obtain ⟨k, hk, rfl, hc, rfl⟩ := hrel
    have HC := hid hc
    clear hc
    by_cases hlt : k < xs.length
    · obtain ⟨b, off, rfl, hcs⟩ : ∃ b off, a = some ⟨b, off, none⟩ ∧ ∀ i, i < xs.length → KCells w b (off + i) (xs.getD i 0) := by
        rcases HX.out with h | h
        · subst h; simp at hlt
        · exact h
      have c0 : _ = _ := hcs k hlt
      have HK := hid (hl_take xs k hlt y)
      have HM : Hid (xs.getD k 0 = y → t = true) := fun e => by
        rw [← HT.out, List.contains_iff_mem, ← e]
        simp [List.getD_eq_getElem?_getD, hlt]
      obtain ⟨x, hx⟩ : ∃ x, xs.getD k 0 = x := ⟨_, rfl⟩
      rw [hx] at c0 HK HM
      clear hcs hx
      by_cases he : x = y
      · have hd : (x == y) = true := by simpa using he
        have HV := hid (HM.out he)
        have HE := hid he
        clear he
        go_wp2
        go_ret
        exact ⟨by rw [HV.out]; rfl, rfl⟩
      · have hd : (x == y) = false := by simpa using he
        have HN : Hid ((xs.take (k + 1)).contains y = false) := by show _ = _; rw [HK.out, HC.out, hd]; rfl
        clear he
        go_wp2
        go_roundw
        case rel => exact ⟨k + 1, by omega, by go_num, HN.out, trivial⟩
        case measure => simp [intOf]; omega
    · obtain rfl : k = xs.length := by omega
      have HV : Hid (t = false) := by show _ = _; rw [← HT.out]; have := HC.out; rw [List.take_length] at this; exact this
      go_wp2
      go_ret
      exact ⟨by rw [HV.out]; rfl, rfl⟩
end Go.Proofs.Ytijojdempijhbad
