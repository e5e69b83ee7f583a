/-
  spec.l1Sum: numbers added up. Nothing is written.
-/
import Derived.Test.YtflhlinkolbbiamFlowFns
import Derived.Test.YtflhlinkolbbiamKIntRows
namespace Go.Proofs.Ytflhlinkolbbiam
open Go.RowKit

set_option maxRecDepth 100000 in
set_option maxHeartbeats 4000000 in
theorem l1Sum_eq (v : Value) (xs : List Int) (w : World) (hr : KReads w v xs) (hb : ∀ k, k ≤ xs.length → 0 ≤ psum (fl xs) k ∧ psum (fl xs) k ≤ 1000000000) (s : Int) (hs : psum (fl xs) xs.length = s) :
    Calls Try.prog 33 #[v] w fun e w' => e = .returned (.int .i64 s) ∧ w' = w := by
  have HR := hid hr
  have HP := hid hb
  have HS0 := hid hs
  obtain ⟨a, cap, rfl, _, _⟩ := hr
  clear hb hs
  go_enter Try.func33, Try.ntmps33
  go_wp2
  go_loopw [3, 8] (fun t i wr => ∃ k : Nat, k ≤ xs.length ∧ i = .int .i64 k ∧ t = .int .i64 (psum (fl xs) k) ∧ w = wr) (fun _ i _ => xs.length - (intOf i).toNat)
  case atStart => exact ⟨0, by omega, rfl, rfl, rfl⟩
  case round =>
    obtain ⟨k, hk, rfl, rfl, rfl⟩ := hrel
    by_cases hlt : k < xs.length
    · obtain ⟨g, o, cap', e, hc⟩ := HR.out.cells k hlt
      cases e
      have HS : Hid (psum (fl xs) (k + 1) = psum (fl xs) k + fl xs k) := rfl
      have hp1 := HP.out (k + 1) (by omega)
      have hp0 := HP.out k (by omega)
      rw [HS.out] at hp1
      obtain ⟨x, hx⟩ : ∃ x, x = fl xs k := ⟨_, rfl⟩
      have cx : w.cell? ⟨g, o + k, none⟩ = some (.int .i64 x) := by rw [hx]; exact hc k hlt
      obtain ⟨s1, hs1⟩ : ∃ s1, s1 = psum (fl xs) k := ⟨_, rfl⟩
      rw [← hs1, ← hx] at HS hp1
      rw [← hs1] at hp0 ⊢
      have hw1 : IntKind.i64.wrap (s1 + x) = s1 + x := by rw [IntKind.wrap_i64]; omega
      clear hc hx hs1 hp0 hp1
      go_wp2
      go_roundw
      case rel => exact ⟨k + 1, by omega, by go_num, by rw [HS.out], by first | rfl | trivial⟩
      case measure => simp [intOf]; omega
    · obtain rfl : k = xs.length := by omega
      go_wp2
      go_ret
      exact ⟨by rw [← HS0.out]; rfl, rfl⟩
end Go.Proofs.Ytflhlinkolbbiam
