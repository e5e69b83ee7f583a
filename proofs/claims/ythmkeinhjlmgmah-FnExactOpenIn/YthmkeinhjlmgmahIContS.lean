/-
  slices.ContainsFunc with a set's method has: whether one of the numbers is in the set. Nothing old is written.
-/
import Derived.Test.YthmkeinhjlmgmahISet
namespace Go.Proofs.Ythmkeinhjlmgmah
open Go.RowKit

abbrev hasV (b : Nat) : Value := .func (.func 50) #[.map (some b)] #[]
theorem any_take (f : Int → Bool) (xs : List Int) (k : Nat) (hk : k < xs.length) : (xs.take (k + 1)).any f = ((xs.take k).any f || f (xs.getD k 0)) := by
  rw [List.take_succ_eq_append_getElem hk, List.any_append]
  simp [List.getD_eq_getElem?_getD, hk]
theorem any_true {f : Int → Bool} {xs : List Int} (k : Nat) (hk : k < xs.length) (h : f (xs.getD k 0) = true) : xs.any f = true := by
  rw [List.any_eq_true]
  exact ⟨xs.getD k 0, by simp [List.getD_eq_getElem?_getD, hk], h⟩
set_option maxRecDepth 100000 in
set_option maxHeartbeats 2000000 in
theorem sindex_any (b n : Nat) (f : Int → Bool) (v : Value) (xs : List Int) (w : World) (hr : KReads w v xs) (hm : MSet w b n f) (hw : ∀ x ∈ xs, inW x) :
    Calls Try.prog 74 #[v, hasV b] w fun e w' => ∃ r : Int, e = .returned (.int .i64 r) ∧ decide (0 ≤ r) = xs.any f ∧ Below w.heap.size w w' := by
  have HR := hid hr
  have HM := hid hm
  have HW := hid hw
  obtain ⟨a, cap, rfl, hl, _⟩ := hr
  clear hm hw
  go_enter Try.func74, Try.ntmps74
  go_wp2
  go_loopw [8] (fun i wr => ∃ k : Nat, k ≤ xs.length ∧ i = .int .i64 k ∧ (xs.take k).any f = false ∧ Below w.heap.size w wr) (fun i _ => xs.length - (intOf i).toNat)
  case atStart => exact ⟨0, Nat.zero_le _, rfl, rfl, Below.refl _ _⟩
  case round =>
    obtain ⟨k, hk, rfl, hall, hb⟩ := hrel
    have HL := hid hall
    have HB := hid hb
    clear hall hb
    by_cases hlt : k < xs.length
    · obtain ⟨g, o, cap', e, hc⟩ := (HR.out.below HB.out).cells k hlt
      cases e
      obtain ⟨x, hx0⟩ : ∃ x, x = xs.getD k 0 := ⟨_, rfl⟩
      have hck : wr.cell? ⟨g, o + k, none⟩ = some (.int .i64 x) := by rw [hx0]; exact hc k hlt
      have HX : Hid (inW x) := by
        refine HW.out x ?_
        rw [hx0]
        simp [List.getD_eq_getElem?_getD, hlt]
      obtain ⟨t, ht⟩ : ∃ t, f (xs.getD k 0) = t := ⟨_, rfl⟩
      have HK := hid ht
      have HKX : Hid (f x = t) := by rw [hx0]; exact ht
      have HS : Hid ((xs.take (k + 1)).any f = t) := by show _ = _; rw [any_take f xs k hlt, HL.out, ht, Bool.false_or]
      clear hc ht hx0
      go_wp2_with fail
      refine (ihass_eq b n f x t HKX.out _ (HM.out.below HB.out) HX.out).mono ?_
      rintro e w2 ⟨rfl, b2⟩
      have HB2 := hid (HB.out.trans (b2.mono HB.out.size))
      clear b2
      cases t
      · go_wp2
        go_roundw
        case rel => exact ⟨k + 1, by omega, by go_num, HS.out, HB2.out⟩
        case measure => simp [intOf]; omega
      · have hv : Hid (xs.any f = true) := any_true k hlt HK.out
        go_wp2
        go_ret
        exact ⟨_, rfl, by rw [hv.out]; simp, HB2.out⟩
    · have hv : Hid (xs.any f = false) := by show _ = _; have := HL.out; rw [List.take_of_length_le (by omega)] at this; exact this
      go_wp2
      go_ret
      exact ⟨_, rfl, by rw [hv.out]; rfl, HB.out⟩
set_option maxRecDepth 100000 in
theorem scontains_any (b n : Nat) (f : Int → Bool) (v : Value) (xs : List Int) (t : Bool) (ht : xs.any f = t) (w : World) (hr : KReads w v xs) (hm : MSet w b n f) (hw : ∀ x ∈ xs, inW x) :
    Calls Try.prog 48 #[v, hasV b] w fun e w' => e = .returned (.bool t) ∧ Below w.heap.size w w' := by
  have HR := hid hr
  have HM := hid hm
  have HW := hid hw
  have HT := hid ht
  clear hr ht hm hw
  go_enter Try.func48, Try.ntmps48
  go_wp2_with fail
  refine (sindex_any b n f v xs _ HR.out HM.out HW.out).mono ?_
  rintro e w' ⟨r, rfl, hd, b2⟩
  rw [HT.out] at hd
  have HB := hid b2
  clear b2
  go_wp2
  go_ret
  exact ⟨by rw [← hd]; rfl, HB.out⟩
end Go.Proofs.Ythmkeinhjlmgmah
