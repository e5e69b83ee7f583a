/-
  spec.l3Good: whether a list of work is as the document says. Nothing old is written.
-/
import Derived.Test.YtndbdioignmaeaaSLess
namespace Go.Proofs.Ytndbdioignmaeaa
open Go.RowKit

set_option maxHeartbeats 1000000 in
theorem l3Good_eq (v : Value) (xs : List WkEl) (t : Bool) (h : goodW xs = t) (w : World) (hr : WkReads w v xs) :
    Calls Try.prog 73 #[v] w fun e w' => e = .returned (.bool t) ∧ Below w.heap.size w w' := by
  have HT : Hid ((xs.all wkB && decide (xs.length ≤ 40)) = t) := h
  clear h
  have HR := hid hr
  obtain ⟨a, cap, rfl, _, _⟩ := hr
  go_enter Try.func73, Try.ntmps73
  go_wp2
  go_loopw [7] (fun i wr => ∃ k : Nat, k ≤ xs.length ∧ i = .int .i64 k ∧ (xs.take k).all wkB = true ∧ Below w.heap.size w wr) (fun i _ => xs.length - (intOf i).toNat)
  case atStart => exact ⟨0, Nat.zero_le _, rfl, rfl, Below.refl _ _⟩
  case round =>
    obtain ⟨k, hk, rfl, hall, hbel⟩ := hrel
    have HA := hid hall
    have HB := hid hbel
    clear hall hbel
    by_cases hlt : k < xs.length
    · obtain ⟨g, o, cap', e, hc⟩ := (HR.out.below HB.out).cells k hlt
      cases e
      obtain ⟨x, hx0⟩ : ∃ x, x = xs.getD k (0, 0, 0) := ⟨_, rfl⟩
      have hck := hc k hlt
      rw [← hx0] at hck
      obtain ⟨c0, c1, c2⟩ := hck
      obtain ⟨b, hb⟩ : ∃ b, wkB (xs.getD k (0, 0, 0)) = b := ⟨_, rfl⟩
      have HK := hid hb
      have HKX : Hid (wkB x = b) := by rw [hx0]; exact hb
      have HS : Hid ((xs.take (k + 1)).all wkB = b) := by show _ = _; rw [all_take xs k hlt, HA.out, hb, Bool.true_and]
      clear hc hb hx0
      go_wp2_with fail
      refine (l3Work_eq x b HKX.out _).mono ?_
      rintro e w2 ⟨rfl, b2⟩
      have B2 : Hid (Below w.heap.size w w2) := (HB.out.alloc HB.out.size _).trans (b2.mono (by have := HB.out.size; simp; omega))
      clear b2
      cases b
      · have hv : Hid (t = false) := by have := HT.out; rw [all_false k hlt HK.out] at this; exact this.symm
        go_wp2
        go_ret
        exact ⟨by rw [hv.out]; rfl, B2.out⟩
      · go_wp2
        go_roundw
        case rel => exact ⟨k + 1, by omega, by go_num, HS.out, B2.out⟩
        case measure => simp [intOf]; omega
    · have ha : xs.all wkB = true := by have := HA.out; rw [List.take_of_length_le (by omega)] at this; exact this
      have hv : Hid (t = decide (xs.length ≤ 40)) := by have := HT.out; rw [ha, Bool.true_and] at this; exact this.symm
      clear ha
      by_cases h40 : xs.length ≤ 40
      · have hv' : Hid (t = true) := by show _ = _; rw [hv.out]; simpa using h40
        go_wp2
        go_ret
        exact ⟨by rw [hv'.out]; simp; omega, HB.out⟩
      · have hv' : Hid (t = false) := by show _ = _; rw [hv.out]; simpa using h40
        go_wp2
        go_ret
        exact ⟨by rw [hv'.out]; simp; omega, HB.out⟩
end Go.Proofs.Ytndbdioignmaeaa
