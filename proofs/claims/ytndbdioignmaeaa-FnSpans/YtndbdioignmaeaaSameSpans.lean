/-
  laws.numberOf: some number below 1000003; laws.sameSpans: true at two lists that read alike. Nothing old is written.
-/
import Derived.Test.YtndbdioignmaeaaCur
import Derived.Test.YtndbdioignmaeaaSpans
import Derived.Test.YtndbdioignmaeaaRows2
import Derived.Deep.RegionHeld3
namespace Go.Proofs.Ytndbdioignmaeaa
open Go.RowKit
set_option maxRecDepth 100000

set_option maxHeartbeats 1000000 in
theorem numberOf_any (B : Nat) (v : Value) (w : World) (h : CodeOk B w v) :
    Calls Try.prog 15 #[v] w fun e w' => ∃ n : Nat, n < 1000003 ∧ e = .returned (.int .i64 n) ∧ w' = w := by
  obtain ⟨a, len, cap, rfl, hl, hx⟩ := h
  have HX := hid hx
  clear hx
  go_enter Try.func15, Try.ntmps15
  go_wp2
  go_loop [3, 8] (fun t i => ∃ k n : Nat, k ≤ len ∧ i = .int .i64 k ∧ n < 1000003 ∧ t = .int .i64 n) (fun _ i => len - (intOf i).toNat)
  case atStart => exact ⟨0, 0, Nat.zero_le _, rfl, by omega, rfl⟩
  case round =>
    obtain ⟨k, n, hk, rfl, hn, rfl⟩ := hrel
    by_cases hlt : k < len
    · obtain ⟨cb, off, rfl, _, hcs⟩ := HX.out.resolve_left (by omega)
      obtain ⟨x, hx, hc⟩ := hcs k hlt
      clear hcs
      go_wp2
      go_round
      case rel => exact ⟨k + 1, (31 * n + x) % 1000003, by omega, by go_num, Nat.mod_lt _ (by decide), by go_num⟩
      case measure => simp [intOf]; omega
    · go_wp2
      go_ret
      exact ⟨n, hn, rfl, rfl⟩

set_option maxHeartbeats 1000000 in
theorem sameSpans_same (va vb : Value) (xs : List Sp) (w : World) (ha : SReads w va xs) (hb : SReads w vb xs) :
    Calls Try.prog 11 #[va, vb] w fun e w' => e = .returned (.bool true) ∧ Below w.heap.size w w' := by
  have HA := hid ha
  have HB := hid hb
  obtain ⟨a, ca, rfl, _, _⟩ := ha
  obtain ⟨b, cb, rfl, _, _⟩ := hb
  have hd : ((xs.length : Int) != (xs.length : Int)) = false := by simp
  go_enter Try.func11, Try.ntmps11
  go_wp2
  go_loopw [13] (fun i wr => ∃ k : Nat, k ≤ xs.length ∧ i = .int .i64 k ∧ Below w.heap.size w wr) (fun i _ => xs.length - (intOf i).toNat)
  case atStart => exact ⟨0, Nat.zero_le _, rfl, Below.refl _ _⟩
  case round =>
    obtain ⟨k, hk, rfl, hal⟩ := hrel
    by_cases hlt : k < xs.length
    · obtain ⟨ga, oa, cap', e, hca⟩ := sreads_cells (HA.out.below hal) k hlt
      cases e
      obtain ⟨gb, ob, cap', e, hcb⟩ := sreads_cells (HB.out.below hal) k hlt
      cases e
      obtain ⟨h1, h2⟩ := hca k hlt
      obtain ⟨h3, h4⟩ := hcb k hlt
      have HL := hid hal
      clear hal hca hcb
      generalize (xs.getD k (0, 0)).1 = p at h1 h3
      generalize (xs.getD k (0, 0)).2 = q at h2 h4
      go_wp2_with fail
      go_region_held3 (fun w' => w'.cell? ⟨ga, oa + k * 2, none⟩ = some (.int .i64 p) ∧ w'.cell? ⟨ga, oa + k * 2 + 1, none⟩ = some (.int .i64 q) ∧ w'.cell? ⟨gb, ob + k * 2, none⟩ = some (.int .i64 p) ∧ w'.cell? ⟨gb, ob + k * 2 + 1, none⟩ = some (.int .i64 q)) (go_keep) (fail)
      go_wp2
      go_roundw
      case rel => exact ⟨k + 1, by omega, by go_num, HL.out.drew⟩
      case measure => simp [intOf]; omega
    · go_wp2
      go_ret
      exact ⟨rfl, hal⟩
end Go.Proofs.Ytndbdioignmaeaa
