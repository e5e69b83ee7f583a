/-
  impl.sumOf: numbers added up, whatever they are. Nothing is written.
-/
import Derived.Test.YtflhlinkolbbiamFlowFns
namespace Go.Proofs.Ytflhlinkolbbiam
open Go.RowKit

def wsum (xs : List Int) : Nat → Int
  | 0 => 0
  | k + 1 => IntKind.i64.wrap (wsum xs k + fl xs k)
theorem wsum_is {xs : List Int} : ∀ k, (∀ j, j ≤ k → 0 ≤ psum (fl xs) j ∧ psum (fl xs) j ≤ 1000000000) → wsum xs k = psum (fl xs) k
  | 0, _ => rfl
  | k + 1, h => by
    have ih := wsum_is k fun j hj => h j (by omega)
    have h1 := h (k + 1) (Nat.le_refl _)
    simp only [wsum, psum] at h1 ⊢
    rw [ih, IntKind.wrap_i64]
    omega
set_option maxRecDepth 100000 in
set_option maxHeartbeats 4000000 in
theorem isumA_eq (v : Value) (xs : List Int) (w : World) (hr : KReads w v xs) (s : Int) (hs : wsum xs xs.length = s) :
    Calls Try.prog 37 #[v] w fun e w' => e = .returned (.int .i64 s) ∧ w' = w := by
  have HR := hid hr
  have HS0 := hid hs
  obtain ⟨a, cap, rfl, hl, _⟩ := hr
  clear hs
  go_enter Try.func37, Try.ntmps37
  go_wp2
  go_loopw [3, 8] (fun t i wr => ∃ k : Nat, k ≤ xs.length ∧ i = .int .i64 k ∧ t = .int .i64 (wsum xs k) ∧ w = wr) (fun _ i _ => xs.length - (intOf i).toNat)
  case atStart => exact ⟨0, by omega, rfl, rfl, rfl⟩
  case round =>
    obtain ⟨k, hk, rfl, rfl, rfl⟩ := hrel
    by_cases hlt : k < xs.length
    · obtain ⟨g, o, cap', e, hc⟩ := HR.out.cells k hlt
      cases e
      obtain ⟨x, hx⟩ : ∃ x, x = fl xs k := ⟨_, rfl⟩
      have cx : w.cell? ⟨g, o + k, none⟩ = some (.int .i64 x) := by rw [hx]; exact hc k hlt
      obtain ⟨s1, hs1⟩ : ∃ s1, s1 = wsum xs k := ⟨_, rfl⟩
      obtain ⟨s2, hs2⟩ : ∃ s2, s2 = wsum xs (k + 1) := ⟨_, rfl⟩
      have hw1 : IntKind.i64.wrap (s1 + x) = s2 := by rw [hs1, hs2, hx]; rfl
      rw [← hs1]
      have HN := hid hs2
      clear hc hx hs1 hs2
      go_wp2
      go_roundw
      case rel => exact ⟨k + 1, by omega, by go_num, by rw [HN.out], by first | rfl | trivial⟩
      case measure => simp [intOf]; omega
    · obtain rfl : k = xs.length := by omega
      go_wp2
      go_ret
      exact ⟨by rw [← HS0.out]; rfl, rfl⟩
end Go.Proofs.Ytflhlinkolbbiam
