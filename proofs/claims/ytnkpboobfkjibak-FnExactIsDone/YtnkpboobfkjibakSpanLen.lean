/-
  spec.l2Length, impl.numbersIn: how many numbers are in spans; nothing old is written.
-/
import Derived.Test.YtnkpboobfkjibakSpanTake
import Derived.Test.YtnkpboobfkjibakSpans
namespace Go.Proofs.Ytnkpboobfkjibak
open Go.RowKit
set_option maxRecDepth 100000

set_option maxHeartbeats 1000000 in
theorem slen_any (v : Value) (xs : List Sp) (w : World) (hr : SReads w v xs) (hc : chainB (-1) xs = true) :
    Calls Try.prog 80 #[v] w fun e w' => e = .returned (.int .i64 (lenL xs)) ∧ Below w.heap.size w w' := by
  obtain ⟨a, cap, rfl, hl, hx⟩ := hr
  have HC := hid hx
  have HG := hid hc
  clear hx hc
  go_enter Try.func80, Try.ntmps80
  go_wp2
  go_loopw [3, 8] (fun m i wr => ∃ k : Nat, k ≤ xs.length ∧ i = .int .i64 k ∧ m = .int .i64 (lenL (xs.take k)) ∧ Below w.heap.size w wr) (fun _ i _ => xs.length - (intOf i).toNat)
  case atStart => exact ⟨0, Nat.zero_le _, rfl, rfl, Below.refl _ _⟩
  case round =>
    obtain ⟨k, hk, rfl, rfl, hal⟩ := hrel
    by_cases hlt : k < xs.length
    · obtain ⟨ga, oa, rfl, hca⟩ : ∃ b off, a = some ⟨b, off, none⟩ ∧ ∀ i, i < xs.length → w.cell? ⟨b, off + i * 2, none⟩ = some (.int .i64 (xs.getD i (0, 0)).1) ∧ w.cell? ⟨b, off + i * 2 + 1, none⟩ = some (.int .i64 (xs.getD i (0, 0)).2) := by
        rcases HC.out with h | h
        · subst h; simp at hlt
        · exact h
      have h1 := (hal.cell (p := ⟨ga, oa + k * 2, none⟩) (lt_of_cell (hca k hlt).1)).trans (hca k hlt).1
      have h2 := (hal.cell (p := ⟨ga, oa + k * 2 + 1, none⟩) (lt_of_cell (hca k hlt).2)).trans (hca k hlt).2
      have HL := hid hal
      have hs := hid (len_take_succ xs k hlt)
      have hb := chain_at HG.out k hlt
      have hn := len_bounds (chain_take HG.out k) (Int.le_refl _)
      have hn2 := len_bounds (chain_take HG.out (k + 1)) (Int.le_refl _)
      rw [len_take_succ xs k hlt] at hn2
      obtain ⟨p, hp⟩ : ∃ p, p = (xs.getD k (0, 0)).1 := ⟨_, rfl⟩
      obtain ⟨q, hq⟩ : ∃ q, q = (xs.getD k (0, 0)).2 := ⟨_, rfl⟩
      obtain ⟨n, hnn⟩ : ∃ n, n = lenL (xs.take k) := ⟨_, rfl⟩
      rw [← hp, ← hq] at hb
      rw [← hp] at h1
      rw [← hq] at h2
      rw [← hp, ← hq, ← hnn] at hn2
      rw [← hnn] at hn
      rw [← hnn]
      have hs2 : Hid (lenL (xs.take (k + 1)) = n + (q - p)) := by
        show _ = _
        rw [hs.out, hp, hq, hnn]
      have w1 : IntKind.i64.wrap (q - p) = q - p := by rw [IntKind.wrap_i64]; omega
      have w2 : IntKind.i64.wrap (n + (q - p)) = n + (q - p) := by rw [IntKind.wrap_i64]; omega
      clear hca hal hp hq hnn hn hn2 hs
      go_wp2
      go_roundw
      case rel => exact ⟨k + 1, by omega, by go_num, by rw [hs2.out], HL.out.alloc HL.out.size _⟩
      case measure => simp [intOf]; omega
    · obtain rfl : k = xs.length := by omega
      rw [List.take_length]
      go_wp2
      go_ret
      exact ⟨rfl, hal⟩
end Go.Proofs.Ytnkpboobfkjibak
