/-
  impl.goodSlots: whether slots tell for each of 24 a job's number, or -1. Nothing is written.
-/
import Derived.Test.YtobkockikpgcoavIMinMax
namespace Go.Proofs.Ytobkockikpgcoav
open Go.RowKit

theorem goodS_of {n : Nat} {ss : List Int} (h24 : ss.length = 24) : goodS n ss = true ↔ (∀ i, i < 24 → -1 ≤ sl ss i) ∧ ∀ i, i < 24 → sl ss i ≤ (n : Int) - 1 := by
  unfold goodS
  rw [Bool.and_eq_true, decide_eq_true_eq, List.all_eq_true]
  constructor
  · rintro ⟨_, h⟩
    have hh : ∀ i, i < 24 → -1 ≤ sl ss i ∧ sl ss i ≤ (n : Int) - 1 := fun i hi => by
      have := h (sl ss i) (by simp [sl, List.getD_eq_getElem?_getD, show i < ss.length by omega])
      simpa using this
    exact ⟨fun i hi => (hh i hi).1, fun i hi => (hh i hi).2⟩
  · rintro ⟨h1, h2⟩
    refine ⟨h24, fun x hx => ?_⟩
    obtain ⟨i, hi, rfl⟩ := List.getElem_of_mem hx
    have e : sl ss i = ss[i] := by simp [sl, List.getD_eq_getElem?_getD, hi]
    rw [decide_eq_true_eq, ← e]
    exact ⟨h1 i (by omega), h2 i (by omega)⟩
set_option maxHeartbeats 1000000 in
theorem goodSlots_eq (v : Value) (ss : List Int) (n : Nat) (t : Bool) (h : goodS n ss = t) (w : World) (hr : KReads w v ss) :
    Calls Try.prog 34 #[v, .int .i64 n] w fun e w' => e = .returned (.bool t) ∧ w' = w := by
  have HR := hid hr
  obtain ⟨a, cap, rfl, _, _⟩ := hr
  by_cases h24 : ss.length = 24
  · have HG := hid (goodS_of (n := n) h24)
    rw [h] at HG
    have hl0 : 0 < ss.length := by omega
    have hl1 : ss.length ≤ 1000 := by omega
    have hd : ((ss.length : Int) != 24) = false := by rw [h24]; rfl
    have H24 := hid h24
    clear h h24
    go_enter Try.func34, Try.ntmps34
    go_wp2_with fail
    refine (slicesMin_any _ ss _ HR.out hl0 hl1).mono ?_
    rintro e w' ⟨r, rfl, hm, hw⟩; obtain rfl := hw.symm
    have HM := hid (hm (-1))
    rw [H24.out] at HM
    clear hm hw
    by_cases h1 : -1 ≤ r
    · go_wp2_with fail
      refine (slicesMax_any _ ss _ HR.out hl0 hl1).mono ?_
      rintro e w' ⟨r2, rfl, hm2, hw⟩; obtain rfl := hw.symm
      have HM2 := hid (hm2 ((n : Int) - 1))
      rw [H24.out] at HM2
      clear hm2 hw
      have hv : decide (r2 < (n : Int)) = t := by
        have h3 := HG.out
        rw [← HM.out, ← HM2.out] at h3
        rw [Bool.eq_iff_iff, h3, decide_eq_true_eq]
        omega
      go_wp2
      go_ret
      exact ⟨rfl, rfl⟩
    · have hv : Hid (t = false) := by
        have h3 := HG.out
        rw [← HM.out] at h3
        show _ = _
        rw [← Bool.not_eq_true, h3]
        exact fun h => h1 h.1
      go_wp2
      go_ret
      exact ⟨by rw [hv.out]; rfl, rfl⟩
  · have hv : Hid (t = false) := by show _ = _; rw [← h]; unfold goodS; rw [decide_eq_false h24]; rfl
    have hd : ((ss.length : Int) != 24) = true := by rw [bne_iff_ne]; omega
    clear h h24
    go_enter Try.func34, Try.ntmps34
    go_wp2
    go_ret
    exact ⟨by rw [hv.out]; rfl, rfl⟩
end Go.Proofs.Ytobkockikpgcoav
