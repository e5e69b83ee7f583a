/-
  laws.eqCaseS with true for two slices that read alike; nothing old is written.
-/
import Derived.Test.YtdlkilacnnjglaaKCaseTo
namespace Go.Proofs.Ytdlkilacnnjglaa
open Go.RowKit

set_option maxHeartbeats 1000000 in
theorem eqCaseS_same (va vb : Value) (xs : List CaEl) (w : World) (ha : CaReads w va xs) (hb : CaReads w vb xs) :
    Calls Try.prog 42 #[va, vb] w fun e w' => e = .returned (.bool true) ∧ Below w.heap.size w w' := by
  obtain ⟨a, ca, rfl, hl, hxa⟩ := ha
  obtain ⟨b, cb, rfl, _, hxb⟩ := hb
  have hd : ((xs.length : Int) != (xs.length : Int)) = false := by simp
  have HA := hid hxa
  have HB := hid hxb
  clear hxa hxb
  go_enter Try.func42, Try.ntmps42
  go_wp2
  go_loopw [5] (fun i wr => ∃ k : Nat, k ≤ xs.length ∧ i = .int .i64 k ∧ Below w.heap.size w wr) (fun i _ => xs.length - (intOf i).toNat)
  case atStart => exact ⟨0, Nat.zero_le _, rfl, Below.refl _ _⟩
  case round =>
    obtain ⟨k, hk, rfl, hal⟩ := hrel
    by_cases hlt : k < xs.length
    · obtain ⟨ga, oa, rfl, hca⟩ : ∃ b off, a = some ⟨b, off, none⟩ ∧ ∀ i, i < xs.length → CaCells w b (off + i * 4) (xs.getD i (0, false, 0, 0)) := by
        rcases HA.out with h | h
        · subst h; simp at hlt
        · exact h
      obtain ⟨gb, ob, rfl, hcb⟩ : ∃ a off, b = some ⟨a, off, none⟩ ∧ ∀ i, i < xs.length → CaCells w a (off + i * 4) (xs.getD i (0, false, 0, 0)) := by
        rcases HB.out with h | h
        · subst h; simp at hlt
        · exact h
      obtain ⟨h0, h1, h2, h3⟩ := (hca k hlt).below hal (hca k hlt).lt
      obtain ⟨k0, k1, k2, k3⟩ := (hcb k hlt).below hal (hcb k hlt).lt
      have HL := hid hal
      clear hal hca hcb
      generalize (xs.getD k (0, false, 0, 0)).1 = p at h0 k0
      generalize (xs.getD k (0, false, 0, 0)).2.1 = q at h1 k1
      generalize (xs.getD k (0, false, 0, 0)).2.2.1 = r at h2 k2
      generalize (xs.getD k (0, false, 0, 0)).2.2.2 = s at h3 k3
      go_wp2_with fail
      go_region_with (go_at_call 77; refine (eqCase_same p q r s _).mono ?_; rintro e w' ⟨rfl, hb⟩)
      all_goals go_wp2
      all_goals go_roundw
      all_goals first
        | exact ⟨k + 1, by omega, by go_num, HL.out.drew.trans (hb.mono HL.out.size)⟩
        | (simp [intOf]; omega)
    · go_wp2
      go_ret
      exact ⟨rfl, hal⟩
end Go.Proofs.Ytdlkilacnnjglaa
