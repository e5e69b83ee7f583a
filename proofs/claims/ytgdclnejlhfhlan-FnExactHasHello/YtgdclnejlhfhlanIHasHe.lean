/-
  impl.HasHello: whether a letter is among letters. Nothing old is written.
-/
import Derived.Test.YtgdclnejlhfhlanSHasHe
import Derived.Deep.RegionWith
namespace Go.Proofs.Ytgdclnejlhfhlan
open Go.RowKit

set_option maxRecDepth 100000 in
set_option maxHeartbeats 4000000 in
theorem iindexHe_any (v : Value) (xs : List HeEl) (x : HeEl) (w : World) (hr : HeReads w v xs) :
    Calls Try.prog 72 #[v, .agg #[.int .i64 x.1, .int .i64 x.2.1, .int .i64 x.2.2]] w fun e w' => ∃ r : Int, e = .returned (.int .i64 r) ∧ decide (0 ≤ r) = hasH xs x ∧ Below w.heap.size w w' := by
  have HR := hid hr
  obtain ⟨a, cap, rfl, hl, _⟩ := hr
  obtain ⟨x0, x1, x2⟩ := x
  simp only
  have PX := hid (boxL_new w [.int .i64 x0, .int .i64 x1, .int .i64 x2] 61)
  have BW : Hid (Below w.heap.size w (w.alloc (.cells #[.int .i64 x0, .int .i64 x1, .int .i64 x2] 61))) := (Below.refl _ _).alloc (Nat.le_refl _) _
  obtain ⟨W, hW⟩ : ∃ W, W = w.alloc (.cells #[.int .i64 x0, .int .i64 x1, .int .i64 x2] 61) := ⟨_, rfl⟩
  rw [← hW] at PX BW
  have HW := hid hW
  clear hW
  go_enter Try.func72, Try.ntmps72
  go_wp2
  rw [← HW.out]
  clear HW
  go_loopw [8] (fun i wr => ∃ k : Nat, k ≤ xs.length ∧ i = .int .i64 k ∧ hasH (xs.take k) (x0, x1, x2) = false ∧ Below W.heap.size W wr) (fun i _ => xs.length - (intOf i).toNat)
  case atStart => exact ⟨0, Nat.zero_le _, rfl, rfl, Below.refl _ _⟩
  case round =>
    obtain ⟨k, hk, rfl, hu, hb⟩ := hrel
    have HU := hid hu
    have HB := hid hb
    have HBW := hid (BW.out.trans (hb.mono BW.out.size))
    clear hu hb
    by_cases hlt : k < xs.length
    · obtain ⟨g, o, cap', e, hc⟩ := (HR.out.below HBW.out).cells k hlt
      cases e
      obtain ⟨y, hy⟩ : ∃ y, y = xs.getD k (0, 0, 0) := ⟨_, rfl⟩
      obtain ⟨c0, c1, c2⟩ := hc k hlt
      rw [← hy] at c0 c1 c2
      obtain ⟨s0, hs0⟩ : ∃ s, (x0 == y.1) = s := ⟨_, rfl⟩
      obtain ⟨s1, hs1⟩ : ∃ s, (x1 == y.2.1) = s := ⟨_, rfl⟩
      obtain ⟨s2, hs2⟩ : ∃ s, (x2 == y.2.2) = s := ⟨_, rfl⟩
      have HS : Hid (hasH (xs.take (k + 1)) (x0, x1, x2) = (s0 && (s1 && s2))) := by show _ = _; rw [hasH_take _ _ _ hlt, HU.out, ← hy, sameH, hs0, hs1, hs2]; rfl
      have HF : Hid ((s0 && (s1 && s2)) = true → hasH xs (x0, x1, x2) = true) := fun h => hasH_true k hlt (by rw [← hy, sameH, hs0, hs1, hs2]; exact h)
      obtain ⟨q0, q1, q2⟩ := (PX.out.below HB.out PX.out.lt).three
      have m0 : (0 : Int) ≤ (k : Int) := by omega
      have n1 : (k : Int) < (xs.length : Int) := by omega
      clear hc hy
      cases s0 <;> cases s1 <;> cases s2
      case true.true.true =>
        have HT : Hid (hasH xs (x0, x1, x2) = true) := HF.out rfl
        go_wp2_with fail
        go_region
        go_wp2
        go_ret
        exact ⟨_, rfl, by rw [HT.out]; simp, HBW.out.drew⟩
      all_goals
        have HS2 : Hid (hasH (xs.take (k + 1)) (x0, x1, x2) = false) := HS.out
        go_wp2_with fail
        go_region
        go_wp2
        go_roundw
        case rel => exact ⟨k + 1, by omega, by go_num, HS2.out, HB.out.drew⟩
        case measure => simp [intOf]; omega
    · have HT : Hid (hasH xs (x0, x1, x2) = false) := by show _ = _; have h := HU.out; rw [List.take_of_length_le (by omega)] at h; exact h
      go_wp2
      go_ret
      exact ⟨_, rfl, by rw [HT.out]; rfl, HBW.out⟩
set_option maxRecDepth 100000 in
theorem icontainsHe_any (v : Value) (xs : List HeEl) (x : HeEl) (w : World) (hr : HeReads w v xs) :
    Calls Try.prog 58 #[v, .agg #[.int .i64 x.1, .int .i64 x.2.1, .int .i64 x.2.2]] w fun e w' => e = .returned (.bool (hasH xs x)) ∧ Below w.heap.size w w' := by
  have HR := hid hr
  have BW : Hid (Below w.heap.size w (w.alloc (.cells #[.int .i64 x.1, .int .i64 x.2.1, .int .i64 x.2.2] 61))) := (Below.refl _ _).alloc (Nat.le_refl _) _
  clear hr
  go_enter Try.func58, Try.ntmps58
  go_wp2_with fail
  refine (iindexHe_any v xs x _ (HR.out.below BW.out)).mono ?_
  rintro e w1 ⟨r, rfl, hd, b⟩
  have HB := hid (BW.out.trans (b.mono BW.out.size))
  have HD := hid hd
  clear b hd
  go_wp2
  go_ret
  exact ⟨by rw [← HD.out]; rfl, HB.out⟩
set_option maxRecDepth 100000 in
theorem ihasHe_any (v : Value) (xs : List HeEl) (x : HeEl) (w : World) (hr : HeReads w v xs) :
    Calls Try.prog 36 #[v, .agg #[.int .i64 x.1, .int .i64 x.2.1, .int .i64 x.2.2]] w fun e w' => e = .returned (.tuple #[.bool (hasHV xs x), .bool (decide (xs.length ≤ 300))]) ∧ Below w.heap.size w w' := by
  have HR := hid hr
  obtain ⟨a, cap, rfl, hl, _⟩ := hr
  have BW : Hid (Below w.heap.size w (w.alloc (.cells #[.int .i64 x.1, .int .i64 x.2.1, .int .i64 x.2.2] 61))) := (Below.refl _ _).alloc (Nat.le_refl _) _
  by_cases h3 : xs.length ≤ 300
  rotate_left
  · have d3 : decide ((xs.length : Int) > 300) = true := by rw [decide_eq_true_eq]; omega
    have HV : Hid (hasHV xs x = false ∧ decide (xs.length ≤ 300) = false) := ⟨by unfold hasHV; simp [h3], by simp [h3]⟩
    clear h3
    go_enter Try.func36, Try.ntmps36
    go_wp2
    go_ret2
    exact ⟨by rw [HV.out.1, HV.out.2]; rfl, BW.out⟩
  have d3 : decide ((xs.length : Int) > 300) = false := by rw [decide_eq_false_iff_not]; omega
  have HV : Hid (hasHV xs x = hasH xs x ∧ decide (xs.length ≤ 300) = true) := ⟨by unfold hasHV; simp [h3], by simp [h3]⟩
  rw [HV.out.1, HV.out.2]
  clear HV
  go_enter Try.func36, Try.ntmps36
  go_wp2_with fail
  refine (icontainsHe_any _ xs x _ (HR.out.below BW.out)).mono ?_
  rintro e w1 ⟨rfl, b⟩
  have HB := hid (BW.out.trans (b.mono BW.out.size))
  clear b
  go_wp2
  go_ret2
  exact ⟨rfl, HB.out⟩
end Go.Proofs.Ytgdclnejlhfhlan
