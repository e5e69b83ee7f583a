/-
  laws.eqIntS answers true for two slices that read as one list; nothing is written.
-/
import Derived.Test.YtdlkilacnnjglaaInts
namespace Go.Proofs.Ytdlkilacnnjglaa
open Go.RowKit

set_option maxHeartbeats 1000000 in
theorem eqIntS_same (va vb : Value) (xs : List Int) (w : World) (ha : Reads w va xs) (hb : Reads w vb xs) :
    Calls Try.prog 13 #[va, vb] w fun e w' => e = .returned (.bool true) ∧ Below w.heap.size w w' := by
  obtain ⟨a, ca, rfl, hl, hxa⟩ := ha
  obtain ⟨b, cb, rfl, _, hxb⟩ := hb
  have hd : ((xs.length : Int) != (xs.length : Int)) = false := by simp
  rcases hxa with rfl | ⟨ga, oa, rfl, hca⟩
  · clear hxb
    go_enter Try.func13, Try.ntmps13
    go_wp2
    go_rounds 1
    all_goals (go_ret; exact ⟨rfl, Below.refl _ _⟩)
  rcases hxb with rfl | ⟨gb, ob, rfl, hcb⟩
  · clear hca
    go_enter Try.func13, Try.ntmps13
    go_wp2
    go_rounds 1
    all_goals (go_ret; exact ⟨rfl, Below.refl _ _⟩)
  have Hca : Hid (∀ i, i < xs.length → w.cell? ⟨ga, oa + i, none⟩ = some (.int .i64 (xs.getD i 0))) := hca
  have Hcb : Hid (∀ i, i < xs.length → w.cell? ⟨gb, ob + i, none⟩ = some (.int .i64 (xs.getD i 0))) := hcb
  clear hca hcb
  go_enter Try.func13, Try.ntmps13
  go_wp2
  go_loopw [5] (fun i wr => ∃ k : Nat, k ≤ xs.length ∧ i = .int .i64 k ∧ Below w.heap.size w wr) (fun i _ => xs.length - (intOf i).toNat)
  case atStart => exact ⟨0, Nat.zero_le _, rfl, Below.refl _ _⟩
  case round =>
    obtain ⟨k, hk, rfl, hal⟩ := hrel
    by_cases hlt : k < xs.length
    · have h1 := (hal.cell (p := ⟨ga, oa + k, none⟩) (lt_of_cell (Hca.out k hlt))).trans (Hca.out k hlt)
      have h2 := (hal.cell (p := ⟨gb, ob + k, none⟩) (lt_of_cell (Hcb.out k hlt))).trans (Hcb.out k hlt)
      have HA : Hid (Below w.heap.size w wr) := hal
      clear hal
      generalize xs.getD k 0 = x at h1 h2
      go_wp2_with fail
      go_region
      all_goals go_wp2
      all_goals go_roundw
      case rel => exact ⟨k + 1, by omega, by go_num, HA.out.drew⟩
      case measure => simp [intOf]; omega
    · go_wp2
      go_ret
      exact ⟨rfl, hal⟩
end Go.Proofs.Ytdlkilacnnjglaa
