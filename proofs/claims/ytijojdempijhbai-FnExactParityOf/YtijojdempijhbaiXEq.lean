/-
  laws.eqStringS answers true for two slices that read alike; nothing old is written.
-/
import Derived.Test.YtijojdempijhbaiXRows
namespace Go.Proofs.Ytijojdempijhbai
open Go.RowKit

set_option maxHeartbeats 1000000 in
theorem eqStringS_same (va vb : Value) (xs : List XEl) (w : World) (ha : XReads w va xs) (hb : XReads w vb xs) :
    Calls Try.prog 26 #[va, vb] w fun e w' => e = .returned (.bool true) ∧ Below w.heap.size w w' := by
  obtain ⟨a, ca, rfl, hl, hxa⟩ := ha
  obtain ⟨b, cb, rfl, _, hxb⟩ := hb
  have hd : ((xs.length : Int) != (xs.length : Int)) = false := by simp
  rcases hxa with rfl | ⟨ga, oa, rfl, hca⟩
  · clear hxb
    go_enter Try.func26, Try.ntmps26
    go_wp2
    go_rounds 1
    all_goals (go_ret; exact ⟨rfl, Below.refl _ _⟩)
  rcases hxb with rfl | ⟨gb, ob, rfl, hcb⟩
  · clear hca
    go_enter Try.func26, Try.ntmps26
    go_wp2
    go_rounds 1
    all_goals (go_ret; exact ⟨rfl, Below.refl _ _⟩)
  have Hca := hid hca
  have Hcb := hid hcb
  clear hca hcb
  go_enter Try.func26, Try.ntmps26
  go_wp2
  go_loopw [5] (fun i wr => ∃ k : Nat, k ≤ xs.length ∧ i = .int .i64 k ∧ Below w.heap.size w wr) (fun i _ => xs.length - (intOf i).toNat)
  case atStart => exact ⟨0, Nat.zero_le _, rfl, Below.refl _ _⟩
  case round =>
    obtain ⟨k, hk, rfl, hal⟩ := hrel
    by_cases hlt : k < xs.length
    · have h1 := (Hca.out k hlt).below hal (Hca.out k hlt).lt
      have h2 := (Hcb.out k hlt).below hal (Hcb.out k hlt).lt
      have HA : Hid (Below w.heap.size w wr) := hal
      clear hal
      generalize xs.getD k xz = x at h1 h2
      replace h1 : _ = _ := h1
      replace h2 : _ = _ := h2
      go_wp2_with fail
      go_region
      all_goals go_wp2
      all_goals go_roundw
      case rel => exact ⟨k + 1, by omega, by go_num, HA.out.drew⟩
      case measure => simp [intOf]; omega
    · go_wp2
      go_ret
      exact ⟨rfl, hal⟩
end Go.Proofs.Ytijojdempijhbai
