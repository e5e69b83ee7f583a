/-
  laws.sameJobs: true at two lists that read alike. Nothing old is written.
-/
import Derived.Test.YtobkockikpgcoabKJobRows
import Derived.Deep.RegionHeld3
namespace Go.Proofs.Ytobkockikpgcoab
open Go.RowKit

set_option maxHeartbeats 1000000 in
theorem sameJobs_same (va vb : Value) (xs : List JbEl) (w : World) (ha : JbReads w va xs) (hb : JbReads w vb xs) :
    Calls Try.prog 14 #[va, vb] w fun e w' => e = .returned (.bool true) ∧ Below w.heap.size w w' := by
  have HA := hid ha
  have HB := hid hb
  obtain ⟨a, ca, rfl, _, _⟩ := ha
  obtain ⟨b, cb, rfl, _, _⟩ := hb
  have hd : ((xs.length : Int) != (xs.length : Int)) = false := by simp
  go_enter Try.func14, Try.ntmps14
  go_wp2
  go_loopw [13] (fun i wr => ∃ k : Nat, k ≤ xs.length ∧ i = .int .i64 k ∧ Below w.heap.size w wr) (fun i _ => xs.length - (intOf i).toNat)
  case atStart => exact ⟨0, Nat.zero_le _, rfl, Below.refl _ _⟩
  case round =>
    obtain ⟨k, hk, rfl, hal⟩ := hrel
    by_cases hlt : k < xs.length
    · obtain ⟨ga, oa, cap', e, hca⟩ := (HA.out.below hal).cells k hlt
      cases e
      obtain ⟨gb, ob, cap', e, hcb⟩ := (HB.out.below hal).cells k hlt
      cases e
      obtain ⟨h0, h1, h2⟩ := hca k hlt
      obtain ⟨k0, k1, k2⟩ := hcb k hlt
      have HL := hid hal
      clear hal hca hcb
      generalize (xs.getD k (0, 0, 0)).1 = p at h0 k0
      generalize (xs.getD k (0, 0, 0)).2.1 = q at h1 k1
      generalize (xs.getD k (0, 0, 0)).2.2 = r at h2 k2
      go_wp2_with fail
      go_region_held3 (fun w' => (w'.cell? ⟨ga, oa + k * 3, none⟩ = some (.int .i64 p) ∧ w'.cell? ⟨ga, oa + k * 3 + 1, none⟩ = some (.int .i64 q) ∧ w'.cell? ⟨ga, oa + k * 3 + 2, none⟩ = some (.int .i64 r)) ∧ w'.cell? ⟨gb, ob + k * 3, none⟩ = some (.int .i64 p) ∧ w'.cell? ⟨gb, ob + k * 3 + 1, none⟩ = some (.int .i64 q) ∧ w'.cell? ⟨gb, ob + k * 3 + 2, none⟩ = some (.int .i64 r)) (go_keep) (fail)
      go_wp2
      go_roundw
      case rel => exact ⟨k + 1, by omega, by go_num, HL.out.drew⟩
      case measure => simp [intOf]; omega
    · go_wp2
      go_ret
      exact ⟨rfl, hal⟩end Go.Proofs.Ytobkockikpgcoab
