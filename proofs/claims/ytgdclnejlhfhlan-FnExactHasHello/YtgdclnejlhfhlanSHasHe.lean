/-
  spec.HasHello: whether a letter is among letters. Nothing old is written.
-/
import Derived.Test.YtgdclnejlhfhlanGrFns
import Derived.Test.YtgdclnejlhfhlanBoxL
import Derived.Test.YtgdclnejlhfhlanHeApp2
namespace Go.Proofs.Ytgdclnejlhfhlan
open Go.RowKit

def sameH (x y : HeEl) : Bool := x.1 == y.1 && (x.2.1 == y.2.1 && x.2.2 == y.2.2)
def hasH (xs : List HeEl) (x : HeEl) : Bool := xs.any (sameH x)
def hasHV (xs : List HeEl) (x : HeEl) : Bool := decide (xs.length ≤ 300) && hasH xs x
theorem hasH_take (xs : List HeEl) (x : HeEl) (k : Nat) (hk : k < xs.length) : hasH (xs.take (k + 1)) x = (hasH (xs.take k) x || sameH x (xs.getD k (0, 0, 0))) := by
  unfold hasH
  rw [List.take_succ_eq_append_getElem hk, List.any_append]
  simp [List.getD_eq_getElem?_getD, hk]
theorem hasH_true {xs : List HeEl} {x : HeEl} (k : Nat) (hk : k < xs.length) (h : sameH x (xs.getD k (0, 0, 0)) = true) : hasH xs x = true := by
  unfold hasH
  rw [List.any_eq_true]
  exact ⟨xs.getD k (0, 0, 0), by simp [List.getD_eq_getElem?_getD, hk], h⟩
set_option maxRecDepth 100000 in
set_option maxHeartbeats 4000000 in
theorem shasHe_any (v : Value) (xs : List HeEl) (x : HeEl) (w : World) (hr : HeReads w v xs) :
    Calls Try.prog 33 #[v, .agg #[.int .i64 x.1, .int .i64 x.2.1, .int .i64 x.2.2]] w fun e w' => e = .returned (.tuple #[.bool (hasHV xs x), .bool (decide (xs.length ≤ 300))]) ∧ Below w.heap.size w w' := by
  have HR := hid hr
  obtain ⟨a, cap, rfl, hl, _⟩ := hr
  obtain ⟨x0, x1, x2⟩ := x
  simp only
  have PX := hid (boxL_new w [.int .i64 x0, .int .i64 x1, .int .i64 x2] 61)
  have BW : Hid (Below w.heap.size w (w.alloc (.cells #[.int .i64 x0, .int .i64 x1, .int .i64 x2] 61))) := (Below.refl _ _).alloc (Nat.le_refl _) _
  by_cases h3 : xs.length ≤ 300
  rotate_left
  · have d3 : decide ((xs.length : Int) > 300) = true := by rw [decide_eq_true_eq]; omega
    have HV : Hid (hasHV xs (x0, x1, x2) = false ∧ decide (xs.length ≤ 300) = false) := ⟨by unfold hasHV; simp [h3], by simp [h3]⟩
    clear h3
    go_enter Try.func33, Try.ntmps33
    go_wp2
    go_ret2
    exact ⟨by rw [HV.out.1, HV.out.2]; rfl, BW.out⟩
  have d3 : decide ((xs.length : Int) > 300) = false := by rw [decide_eq_false_iff_not]; omega
  have HV : Hid (hasHV xs (x0, x1, x2) = hasH xs (x0, x1, x2) ∧ decide (xs.length ≤ 300) = true) := ⟨by unfold hasHV; simp [h3], by simp [h3]⟩
  rw [HV.out.1, HV.out.2]
  obtain ⟨W, hW⟩ : ∃ W, W = w.alloc (.cells #[.int .i64 x0, .int .i64 x1, .int .i64 x2] 61) := ⟨_, rfl⟩
  rw [← hW] at PX BW
  have HW := hid hW
  clear HV hW
  go_enter Try.func33, Try.ntmps33
  go_wp2
  rw [← HW.out]
  clear HW
  go_loopw [13] (fun i wr => ∃ k : Nat, k ≤ xs.length ∧ i = .int .i64 k ∧ hasH (xs.take k) (x0, x1, x2) = false ∧ Below W.heap.size W wr) (fun i _ => xs.length - (intOf i).toNat)
  case atStart => exact ⟨0, Nat.zero_le _, rfl, rfl, Below.refl _ _⟩
  case round =>
    obtain ⟨k, hk, rfl, hu, hb⟩ := hrel
    have HU := hid hu
    have HB := hid hb
    have HBW := hid (BW.out.trans (hb.mono BW.out.size))
    clear hu hb
    by_cases hlt : k < xs.length
    · obtain ⟨g, o, cap', e, hc⟩ := (HR.out.below HBW.out).cells k hlt
      cases e
      obtain ⟨y, hy⟩ : ∃ y, y = xs.getD k (0, 0, 0) := ⟨_, rfl⟩
      obtain ⟨c0, c1, c2⟩ := hc k hlt
      rw [← hy] at c0 c1 c2
      obtain ⟨s0, hs0⟩ : ∃ s, (x0 == y.1) = s := ⟨_, rfl⟩
      obtain ⟨s1, hs1⟩ : ∃ s, (x1 == y.2.1) = s := ⟨_, rfl⟩
      obtain ⟨s2, hs2⟩ : ∃ s, (x2 == y.2.2) = s := ⟨_, rfl⟩
      have HS : Hid (hasH (xs.take (k + 1)) (x0, x1, x2) = (s0 && (s1 && s2))) := by show _ = _; rw [hasH_take _ _ _ hlt, HU.out, ← hy, sameH, hs0, hs1, hs2]; rfl
      have HF : Hid ((s0 && (s1 && s2)) = true → hasH xs (x0, x1, x2) = true) := fun h => hasH_true k hlt (by rw [← hy, sameH, hs0, hs1, hs2]; exact h)
      have HA := hid (HB.out.alloc HB.out.size (.cells #[.int .i64 y.1, .int .i64 y.2.1, .int .i64 y.2.2] 61))
      have HBA := hid (BW.out.trans (HA.out.mono BW.out.size))
      obtain ⟨q0, q1, q2⟩ := (PX.out.below HA.out PX.out.lt).three
      clear hc hy
      cases s0 <;> cases s1 <;> cases s2
      case true.true.true =>
        have HT : Hid (hasH xs (x0, x1, x2) = true) := HF.out rfl
        go_wp2
        go_ret2
        exact ⟨by rw [HT.out]; rfl, HBA.out⟩
      all_goals
        have HS2 : Hid (hasH (xs.take (k + 1)) (x0, x1, x2) = false) := HS.out
        go_wp2
        go_roundw
        case rel => exact ⟨k + 1, by omega, by go_num, HS2.out, HA.out⟩
        case measure => simp [intOf]; omega
    · have HT : Hid (hasH xs (x0, x1, x2) = false) := by show _ = _; have h := HU.out; rw [List.take_of_length_le (by omega)] at h; exact h
      go_wp2
      go_ret2
      exact ⟨by rw [HT.out]; rfl, HBW.out⟩
end Go.Proofs.Ytgdclnejlhfhlan
