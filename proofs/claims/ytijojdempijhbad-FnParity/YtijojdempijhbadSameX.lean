/-
  laws.sameTexts: true for lists of texts that read alike. Nothing is written.
-/
import Derived.Test.YtijojdempijhbadXRows
import Derived.Deep.QuietTactic
import Derived.BigQuiet
namespace Go.Proofs.Ytijojdempijhbad
open Go.RowKit

set_option maxHeartbeats 2000000 in
theorem sameX_same (va vb : Value) (xs : List XEl) (w : World) (ha : XReads w va xs) (hb : XReads w vb xs) :
    Calls Try.prog 60 #[va, vb] w fun e w' => e = .returned (.bool true) ∧ ∃ m, w' = w.drewN m := by
  obtain ⟨a, ca, rfl, _, hxa⟩ := ha
  obtain ⟨b, cb, rfl, _, hxb⟩ := hb
  have hd : ((xs.length : Int) != (xs.length : Int)) = false := by simp
  have HC : Hid (∀ i, i < xs.length → ∃ g o, a = some ⟨g, o, none⟩ ∧ w.cell? ⟨g, o + i, none⟩ = some (.string (xs.getD i xz))) := fun i hi => by
    rcases hxa with h | ⟨g, o, h1, h2⟩
    · rw [h] at hi; simp at hi
    · exact ⟨g, o, h1, h2 i hi⟩
  have HD : Hid (∀ i, i < xs.length → ∃ g o, b = some ⟨g, o, none⟩ ∧ w.cell? ⟨g, o + i, none⟩ = some (.string (xs.getD i xz))) := fun i hi => by
    rcases hxb with h | ⟨g, o, h1, h2⟩
    · rw [h] at hi; simp at hi
    · exact ⟨g, o, h1, h2 i hi⟩
  clear hxa hxb
  go_enter Try.func60, Try.ntmps60
  go_wp2
  go_loopw [13] (fun i wr => ∃ k : Nat, k ≤ xs.length ∧ i = .int .i64 k ∧ ∃ m, wr = w.drewN m) (fun i _ => xs.length - (intOf i).toNat)
  case atStart => exact ⟨0, Nat.zero_le _, rfl, 0, rfl⟩
  case round =>
    obtain ⟨k, hk, rfl, m, hm⟩ := hrel
    have HM := hid hm
    by_cases hlt : k < xs.length
    · obtain ⟨g, o, rfl, hc⟩ := HC.out k hlt
      obtain ⟨h, p, rfl, hd'⟩ := HD.out k hlt
      have h1 : wr.cell? ⟨g, o + k, none⟩ = some (.string (xs.getD k xz)) := by rw [hm]; exact hc
      have h2 : wr.cell? ⟨h, p + k, none⟩ = some (.string (xs.getD k xz)) := by rw [hm]; exact hd'
      generalize xs.getD k xz = x at h1 h2
      have n0 : (0 : Int) ≤ (k : Int) := by omega
      have n1 : (k : Int) < (xs.length : Int) := by omega
      clear hc hd' hm
      go_wp2_with fail
      go_big_region
      go_wp2
      go_roundw
      case rel => exact ⟨k + 1, by omega, by go_num, m + 1, by rw [HM.out]; rfl⟩
      case measure => simp [intOf]; omega
    · clear hm
      go_wp2
      go_ret
      exact ⟨rfl, m, HM.out⟩
theorem sameX_below {w w' : World} (h : ∃ m, w' = w.drewN m) : Below w.heap.size w w' := by
  obtain ⟨m, rfl⟩ := h
  exact ⟨rfl, rfl, rfl, Nat.le_refl _, fun _ _ => rfl⟩
end Go.Proofs.Ytijojdempijhbad
