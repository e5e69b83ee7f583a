/-
  impl.nearestAt: the job of the nearest end that can have a slot. Nothing old is written.
-/
import Derived.Test.YtobkockikpgcoabEdfMath
namespace Go.Proofs.Ytobkockikpgcoab
open Go.RowKit

theorem nearU_step (xs : List JbEl) (slot : Int) (k : Nat) (p q r m : Int) (hm : nearU xs slot k = m) (hp : p = (xs.getD k (0, 0, 0)).1) (hq : q = (xs.getD k (0, 0, 0)).2.1) (hr : r = (xs.getD k (0, 0, 0)).2.2) :
    nearU xs slot (k + 1) = if ((decide (p ≤ slot) && decide (q ≠ 0)) && (decide (m < 0) || decide (r < (xs.getD m.toNat (0, 0, 0)).2.2))) = true then (k : Int) else m := by
  subst hm hp hq hr
  rfl

set_option maxHeartbeats 4000000 in
theorem nearestAt_eq (v : Value) (xs : List JbEl) (slot b : Int) (hb : near xs slot = b) (w : World) (hr : JbReads w v xs) (hlen : xs.length ≤ 8) :
    Calls Try.prog 43 #[v, .int .i64 slot] w fun e w' => e = .returned (.int .i64 b) ∧ Below w.heap.size w w' := by
  have HR := hid hr
  have HB0 := hid hb
  clear hb
  obtain ⟨a, cap, rfl, _, _⟩ := hr
  go_enter Try.func43, Try.ntmps43
  go_wp2
  go_loopw [5, 10] (fun m i wr => ∃ k : Nat, k ≤ xs.length ∧ i = .int .i64 k ∧ m = .int .i64 (nearU xs slot k) ∧ Below w.heap.size w wr) (fun _ i _ => xs.length - (intOf i).toNat)
  case atStart => exact ⟨0, Nat.zero_le _, rfl, rfl, Below.refl _ _⟩
  case round =>
    obtain ⟨k, hk, rfl, rfl, hbel⟩ := hrel
    have HB := hid hbel
    clear hbel
    by_cases hlt : k < xs.length
    · obtain ⟨g, o, cap', e, hc⟩ := (HR.out.below HB.out).cells k hlt
      cases e
      obtain ⟨p, hp⟩ : ∃ p, p = (xs.getD k (0, 0, 0)).1 := ⟨_, rfl⟩
      obtain ⟨q, hq⟩ : ∃ q, q = (xs.getD k (0, 0, 0)).2.1 := ⟨_, rfl⟩
      obtain ⟨r, hr⟩ : ∃ r, r = (xs.getD k (0, 0, 0)).2.2 := ⟨_, rfl⟩
      obtain ⟨c0, c1, c2⟩ := hc k hlt
      rw [← hp] at c0
      rw [← hq] at c1
      rw [← hr] at c2
      have hrg := nearU_range xs slot k
      obtain ⟨m, hm⟩ : ∃ m, nearU xs slot k = m := ⟨_, rfl⟩
      have HS := hid (nearU_step xs slot k p q r m hm hp hq hr)
      rw [hm] at hrg ⊢
      have HC := hid hc
      have n0 : (0 : Int) ≤ (k : Int) := by omega
      have n1 : (k : Int) < (xs.length : Int) := by omega
      have hgw : g < wr.heap.size := lt_of_cell c0
      clear hc hp hq hr hm
      by_cases h1 : slot < p
      · have HV : Hid (nearU xs slot (k + 1) = m) := by show _ = _; rw [HS.out, decide_eq_false (p := p ≤ slot) (by omega)]; simp
        clear HS HC
        go_wp2
        go_roundw
        case rel => exact ⟨k + 1, by omega, by go_num, by rw [HV.out], HB.out.alloc HB.out.size _⟩
        case measure => simp [intOf]; omega
      by_cases h2 : q = 0
      · have HV : Hid (nearU xs slot (k + 1) = m) := by show _ = _; rw [HS.out, decide_eq_false (p := q ≠ 0) (by omega)]; simp
        clear HS HC
        subst h2
        go_wp2
        go_roundw
        case rel => exact ⟨k + 1, by omega, by go_num, by rw [HV.out], HB.out.alloc HB.out.size _⟩
        case measure => simp [intOf]; omega
      have e2 : (q == 0) = false := by simpa using h2
      have HS2 : Hid (nearU xs slot (k + 1) = if ((decide (m < 0) || decide (r < (xs.getD m.toNat (0, 0, 0)).2.2))) = true then (k : Int) else m) := by
        show _ = _
        rw [HS.out, decide_eq_true (p := p ≤ slot) (by omega), decide_eq_true (p := q ≠ 0) h2, Bool.true_and, Bool.true_and]
      clear HS
      by_cases h3 : m = -1
      · have HV : Hid (nearU xs slot (k + 1) = k) := by show _ = _; rw [HS2.out, h3]; rfl
        clear HS2 HC
        subst h3
        go_wp2_with fail
        go_region
        all_goals go_wp2
        all_goals go_roundw
        case rel => exact ⟨k + 1, by omega, by go_num, by rw [HV.out], (HB.out.alloc HB.out.size _).drew⟩
        case measure => simp [intOf]; omega
      obtain ⟨j, rfl⟩ : ∃ j : Nat, m = (j : Int) := ⟨m.toNat, by omega⟩
      have hjl : j < xs.length := by omega
      obtain ⟨s, hs⟩ : ∃ s, s = (xs.getD j (0, 0, 0)).2.2 := ⟨_, rfl⟩
      obtain ⟨_, _, d2⟩ := HC.out j hjl
      rw [← hs] at d2
      have e3 : ((j : Int) == -1) = false := by rw [beq_eq_false_iff_ne]; omega
      have m0 : (0 : Int) ≤ (j : Int) := by omega
      have m1 : (j : Int) < (xs.length : Int) := by omega
      have HS3 : Hid (nearU xs slot (k + 1) = if r < s then (k : Int) else j) := by
        show _ = _
        rw [HS2.out, Int.toNat_natCast, ← hs, decide_eq_false (p := (j : Int) < 0) (by omega), Bool.false_or]
        simp
      clear HS2 HC hs hrg h3
      by_cases h4 : r < s
      · have HV : Hid (nearU xs slot (k + 1) = k) := by show _ = _; rw [HS3.out, if_pos h4]
        clear HS3
        go_wp2_with fail
        go_region
        all_goals go_wp2
        all_goals go_roundw
        case rel => exact ⟨k + 1, by omega, by go_num, by rw [HV.out], (HB.out.alloc HB.out.size _).drew⟩
        case measure => simp [intOf]; omega
      · have HV : Hid (nearU xs slot (k + 1) = j) := by show _ = _; rw [HS3.out, if_neg h4]
        clear HS3
        go_wp2_with fail
        go_region
        all_goals go_wp2
        all_goals go_roundw
        case rel => exact ⟨k + 1, by omega, by go_num, by rw [HV.out], (HB.out.alloc HB.out.size _).drew⟩
        case measure => simp [intOf]; omega
    · obtain rfl : k = xs.length := by omega
      have HV : Hid (nearU xs slot xs.length = b) := HB0.out
      go_wp2
      go_ret
      exact ⟨by rw [HV.out]; rfl, HB.out⟩
end Go.Proofs.Ytobkockikpgcoab
