/-
  slices.IndexFunc, slices.ContainsFunc with impl.wrongSeen: whether all that was seen is as said. Nothing old is written.
-/
import Derived.Test.YteeaebelknpdjbbIWrongS
import Derived.Test.YteeaebelknpdjbbSeeFns
import Derived.Test.YteeaebelknpdjbbKSeenRows
namespace Go.Proofs.Yteeaebelknpdjbb
open Go.RowKit

abbrev wsV : Value := .func (.func 30) #[] #[]
set_option maxHeartbeats 2000000 in
theorem wsindex_any (v : Value) (xs : List SnEl) (w : World) (hr : SeReads w v xs) :
    Calls Try.prog 40 #[v, wsV] w fun e w' => ∃ r : Int, e = .returned (.int .i64 r) ∧ decide (0 ≤ r) = !(allS xs) ∧ Below w.heap.size w w' := by
  have HR := hid hr
  obtain ⟨a, cap, rfl, hl, _⟩ := hr
  go_enter Try.func40, Try.ntmps40
  go_wp2
  go_loopw [8] (fun i wr => ∃ k : Nat, k ≤ xs.length ∧ i = .int .i64 k ∧ allS (xs.take k) = true ∧ Below w.heap.size w wr) (fun i _ => xs.length - (intOf i).toNat)
  case atStart => exact ⟨0, Nat.zero_le _, rfl, rfl, Below.refl _ _⟩
  case round =>
    obtain ⟨k, hk, rfl, hall, hB⟩ := hrel
    have HL := hid hall
    have HB := hid hB
    clear hall hB
    by_cases hlt : k < xs.length
    · obtain ⟨g0, o0, cap', e, hc⟩ := HR.out.cells k hlt
      cases e
      obtain ⟨x, hx0⟩ : ∃ x, x = xs.getD k (0, false, false) := ⟨_, rfl⟩
      have hck := (hc k hlt).below HB.out (hc k hlt).lt
      rw [← hx0] at hck
      obtain ⟨b, hb⟩ : ∃ b, okS x = !b := ⟨!okS x, by simp⟩
      have HK : Hid (okS (xs.getD k (0, false, false)) = !b) := by rw [← hx0]; exact hb
      have HO := hid hb
      have HS : Hid (allS (xs.take (k + 1)) = !b) := by show _ = _; rw [allS_step xs k hlt, HL.out, HK.out, Bool.true_and]
      clear hc hb hx0
      obtain ⟨t, tw, lo⟩ := x
      obtain ⟨q0, q1, q2⟩ := hck
      simp only at q0 q1 q2
      go_wp2_with fail
      refine (iwrongS_eq (t, tw, lo) b HO.out _).mono ?_
      rintro e w2 ⟨rfl, hb⟩
      have HB2 := hid (HB.out.trans (hb.mono HB.out.size))
      clear hb q0 q1 q2
      cases b
      · go_wp2
        go_roundw
        case rel => exact ⟨k + 1, by omega, by go_num, HS.out, HB2.out⟩
        case measure => simp [intOf]; omega
      · have hv : Hid (allS xs = false) := allS_false k hlt HK.out
        go_wp2
        go_ret
        exact ⟨_, rfl, by rw [hv.out]; simp, HB2.out⟩
    · have hv : Hid (allS xs = true) := by show _ = _; have := HL.out; rw [List.take_of_length_le (by omega)] at this; exact this
      go_wp2
      go_ret
      exact ⟨_, rfl, by rw [hv.out]; rfl, HB.out⟩
theorem wscontains_any (v : Value) (xs : List SnEl) (t : Bool) (ht : allS xs = !t) (w : World) (hr : SeReads w v xs) :
    Calls Try.prog 34 #[v, wsV] w fun e w' => e = .returned (.bool t) ∧ Below w.heap.size w w' := by
  have HR := hid hr
  have HT := hid ht
  clear hr ht
  go_enter Try.func34, Try.ntmps34
  go_wp2_with fail
  refine (wsindex_any v xs _ HR.out).mono ?_
  rintro e w' ⟨r, rfl, hd, hb⟩
  rw [HT.out, Bool.not_not] at hd
  have HB := hid hb
  clear hb
  go_wp2
  go_ret
  exact ⟨by rw [← hd]; rfl, HB.out⟩
end Go.Proofs.Yteeaebelknpdjbb
