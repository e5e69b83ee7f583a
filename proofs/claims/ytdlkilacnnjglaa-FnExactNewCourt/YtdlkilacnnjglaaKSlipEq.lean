/-
  laws.eqSlipS with true for two slices that read alike; nothing old is written.
-/
import Derived.Test.YtdlkilacnnjglaaKSlipTo
namespace Go.Proofs.Ytdlkilacnnjglaa
open Go.RowKit

set_option maxHeartbeats 1000000 in
theorem eqSlipS_same (va vb : Value) (xs : List SlEl) (w : World) (ha : SlReads w va xs) (hb : SlReads w vb xs) :
    Calls Try.prog 43 #[va, vb] w fun e w' => e = .returned (.bool true) ∧ Below w.heap.size w w' := by
  obtain ⟨a, ca, rfl, hl, hxa⟩ := ha
  obtain ⟨b, cb, rfl, _, hxb⟩ := hb
  have hd : ((xs.length : Int) != (xs.length : Int)) = false := by simp
  have HA := hid hxa
  have HB := hid hxb
  clear hxa hxb
  go_enter Try.func43, Try.ntmps43
  go_wp2
  go_loopw [5] (fun i wr => ∃ k : Nat, k ≤ xs.length ∧ i = .int .i64 k ∧ Below w.heap.size w wr) (fun i _ => xs.length - (intOf i).toNat)
  case atStart => exact ⟨0, Nat.zero_le _, rfl, Below.refl _ _⟩
  case round =>
    obtain ⟨k, hk, rfl, hal⟩ := hrel
    by_cases hlt : k < xs.length
    · obtain ⟨ga, oa, rfl, hca⟩ : ∃ b off, a = some ⟨b, off, none⟩ ∧ ∀ i, i < xs.length → SlCells w b (off + i * 3) (xs.getD i (0, 0, 0)) := by
        rcases HA.out with h | h
        · subst h; simp at hlt
        · exact h
      obtain ⟨gb, ob, rfl, hcb⟩ : ∃ a off, b = some ⟨a, off, none⟩ ∧ ∀ i, i < xs.length → SlCells w a (off + i * 3) (xs.getD i (0, 0, 0)) := by
        rcases HB.out with h | h
        · subst h; simp at hlt
        · exact h
      obtain ⟨h0, h1, h2⟩ := (hca k hlt).below hal (hca k hlt).lt
      obtain ⟨k0, k1, k2⟩ := (hcb k hlt).below hal (hcb k hlt).lt
      have HL := hid hal
      clear hal hca hcb
      generalize (xs.getD k (0, 0, 0)).1 = p at h0 k0
      generalize (xs.getD k (0, 0, 0)).2.1 = q at h1 k1
      generalize (xs.getD k (0, 0, 0)).2.2 = r at h2 k2
      go_wp2_with fail
      go_region_with (go_at_call 78; refine (eqSlip_same p q r _).mono ?_; rintro e w' ⟨rfl, hb⟩)
      all_goals go_wp2
      all_goals go_roundw
      all_goals first
        | exact ⟨k + 1, by omega, by go_num, HL.out.drew.trans (hb.mono HL.out.size)⟩
        | (simp [intOf]; omega)
    · go_wp2
      go_ret
      exact ⟨rfl, hal⟩
end Go.Proofs.Ytdlkilacnnjglaa
