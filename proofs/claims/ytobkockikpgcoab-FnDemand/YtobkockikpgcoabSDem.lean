/-
  spec.l4Demand: what a while demands. Nothing old is written.
-/
import Derived.Test.YtobkockikpgcoabEdfMath
namespace Go.Proofs.Ytobkockikpgcoab
open Go.RowKit

set_option maxHeartbeats 2000000 in
theorem l4Demand_eq (v : Value) (xs : List JbEl) (f t : Int) (d : Int) (hd : dem f t xs = d) (hg : goodJ xs = true) (w : World) (hr : JbReads w v xs) :
    Calls Try.prog 20 #[v, .int .i64 f, .int .i64 t] w fun e w' => e = .returned (.int .i64 d) ∧ Below w.heap.size w w' := by
  have HR := hid hr
  have HG := hid hg
  have HD := hid hd
  have hlen := goodJ_len hg
  clear hg hd
  obtain ⟨a, cap, rfl, _, _⟩ := hr
  go_enter Try.func20, Try.ntmps20
  go_wp2
  go_loopw [7, 12] (fun m i wr => ∃ k : Nat, k ≤ xs.length ∧ i = .int .i64 k ∧ m = .int .i64 (demU f t xs k) ∧ Below w.heap.size w wr) (fun _ i _ => xs.length - (intOf i).toNat)
  case atStart => exact ⟨0, Nat.zero_le _, rfl, rfl, Below.refl _ _⟩
  case round =>
    obtain ⟨k, hk, rfl, rfl, hbel⟩ := hrel
    have HB := hid hbel
    clear hbel
    by_cases hlt : k < xs.length
    · obtain ⟨g, o, cap', e, hc⟩ := (HR.out.below HB.out).cells k hlt
      cases e
      obtain ⟨p, hp⟩ : ∃ p, p = (xs.getD k (0, 0, 0)).1 := ⟨_, rfl⟩
      obtain ⟨q, hq⟩ : ∃ q, q = (xs.getD k (0, 0, 0)).2.1 := ⟨_, rfl⟩
      obtain ⟨r, hr⟩ : ∃ r, r = (xs.getD k (0, 0, 0)).2.2 := ⟨_, rfl⟩
      obtain ⟨c0, c1, c2⟩ := hc k hlt
      rw [← hp] at c0
      rw [← hq] at c1
      rw [← hr] at c2
      have hn := demU_bounds (f := f) (t := t) HG.out k hk
      have hj := (jobB_in (goodJ_at HG.out k hlt)).2.1
      rw [← hq] at hj
      have HS : Hid (demU f t xs (k + 1) = demU f t xs k + if f ≤ p ∧ r ≤ t then q else 0) := by
        show _ = _
        rw [demU_succ, hp, hq, hr]
        rfl
      obtain ⟨m, hm⟩ : ∃ m, m = demU f t xs k := ⟨_, rfl⟩
      rw [← hm] at hn HS ⊢
      have w2 : IntKind.i64.wrap (m + q) = m + q := by rw [IntKind.wrap_i64]; omega
      clear hc hp hq hr hm
      by_cases h1 : f ≤ p
      · by_cases h2 : r ≤ t
        · have HV : Hid (demU f t xs (k + 1) = m + q) := by show _ = _; rw [HS.out, if_pos ⟨h1, h2⟩]
          clear HS
          go_wp2
          go_roundw
          case rel => exact ⟨k + 1, by omega, by go_num, by rw [HV.out], HB.out.alloc HB.out.size _⟩
          case measure => simp [intOf]; omega
        · have HV : Hid (demU f t xs (k + 1) = m) := by show _ = _; rw [HS.out, if_neg (by omega)]; omega
          clear HS
          go_wp2
          go_roundw
          case rel => exact ⟨k + 1, by omega, by go_num, by rw [HV.out], HB.out.alloc HB.out.size _⟩
          case measure => simp [intOf]; omega
      · have HV : Hid (demU f t xs (k + 1) = m) := by show _ = _; rw [HS.out, if_neg (by omega)]; omega
        clear HS
        go_wp2
        go_roundw
        case rel => exact ⟨k + 1, by omega, by go_num, by rw [HV.out], HB.out.alloc HB.out.size _⟩
        case measure => simp [intOf]; omega
    · obtain rfl : k = xs.length := by omega
      have HV : Hid (demU f t xs xs.length = d) := HD.out
      go_wp2
      go_ret
      exact ⟨by rw [HV.out]; rfl, HB.out⟩
end Go.Proofs.Ytobkockikpgcoab
