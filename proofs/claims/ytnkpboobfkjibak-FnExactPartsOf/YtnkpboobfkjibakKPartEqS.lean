/-
  laws.eqPart, laws.eqPartS: two that read alike are told to be the same. Nothing old is written.
-/
import Derived.Test.YtnkpboobfkjibakKPartRows
import Derived.Deep.RegionWith
namespace Go.Proofs.Ytnkpboobfkjibak
open Go.RowKit

set_option maxHeartbeats 1000000 in
theorem eqPart_same (p : Int) (q : Int) (r : Int) (s : ByteArray) (w : World) : Calls Try.prog 42 #[(.agg #[.int .i64 p, .int .i64 q, .int .i64 r, .string s]), (.agg #[.int .i64 p, .int .i64 q, .int .i64 r, .string s])] w fun e w' => e = .returned (.bool true) ∧ Below w.heap.size w w' := by
  go_enter Try.func42, Try.ntmps42
  go_wp2
  go_ret
  refine ⟨rfl, ?_⟩
  go_grown
set_option maxHeartbeats 2000000 in
theorem eqPartS_same (va vb : Value) (xs : List PtD) (w : World) (ha : RowR rpPt w va xs) (hb : RowR rpPt w vb xs) :
    Calls Try.prog 16 #[va, vb] w fun e w' => e = .returned (.bool true) ∧ Below w.heap.size w w' := by
  obtain ⟨a, ca, rfl, hl, hxa⟩ := ha
  obtain ⟨b, cb, rfl, _, hxb⟩ := hb
  have hd : ((xs.length : Int) != (xs.length : Int)) = false := by simp
  have HA := hid hxa
  have HB := hid hxb
  clear hxa hxb
  go_enter Try.func16, Try.ntmps16
  go_wp2
  go_loopw [5] (fun i wr => ∃ k : Nat, k ≤ xs.length ∧ i = .int .i64 k ∧ Below w.heap.size w wr) (fun i _ => xs.length - (intOf i).toNat)
  case atStart => exact ⟨0, Nat.zero_le _, rfl, Below.refl _ _⟩
  case round =>
    obtain ⟨k, hk, rfl, hal⟩ := hrel
    by_cases hlt : k < xs.length
    · obtain ⟨ga, oa, rfl, hca⟩ : ∃ b off, a = some ⟨b, off, none⟩ ∧ ∀ i, i < xs.length → ∃ vs, CellsL w b (off + i * 4) vs ∧ vs = ptEnc (xs.getD i ptZ) := by
        rcases HA.out with h | h
        · subst h; simp at hlt
        · exact h
      obtain ⟨gb, ob, rfl, hcb⟩ : ∃ a off, b = some ⟨a, off, none⟩ ∧ ∀ i, i < xs.length → ∃ vs, CellsL w a (off + i * 4) vs ∧ vs = ptEnc (xs.getD i ptZ) := by
        rcases HB.out with h | h
        · subst h; simp at hlt
        · exact h
      obtain ⟨_, h0, rfl⟩ := hca k hlt
      obtain ⟨_, k0, rfl⟩ := hcb k hlt
      have h1 := h0.below hal (h0.lt (by simp [ptEnc]))
      have k1 := k0.below hal (k0.lt (by simp [ptEnc]))
      have HL := hid hal
      clear hal hca hcb h0 k0
      generalize xs.getD k ptZ = d at h1 k1
      obtain ⟨p, q, r, s⟩ := d
      obtain ⟨a0, a1, a2, a3⟩ := h1.four
      obtain ⟨b0, b1, b2, b3⟩ := k1.four
      clear h1 k1
      go_wp2_with fail
      go_region_with (go_at_call 42; refine (eqPart_same p q r s _).mono ?_; rintro e w' ⟨rfl, hb⟩)
      all_goals go_wp2
      all_goals go_roundw
      all_goals first
        | exact ⟨k + 1, by omega, by go_num, HL.out.drew.trans (hb.mono HL.out.size)⟩
        | (simp [intOf]; omega)
    · go_wp2
      go_ret
      exact ⟨rfl, hal⟩
end Go.Proofs.Ytnkpboobfkjibak
