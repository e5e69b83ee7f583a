/-
  laws.sumOf: the sum of small numbers; laws.sameInts at two lists as long. Nothing old is written.
-/
import Derived.Test.YtflhlinkolbbiaeFlowFns
import Derived.Test.YtflhlinkolbbiaeKIntRows
import Derived.Deep.QuietTactic
import Derived.BigQuiet
namespace Go.Proofs.Ytflhlinkolbbiae
open Go.RowKit

set_option maxHeartbeats 2000000 in
theorem sumOf_any (v : Value) (xs : List Int) (w : World) (hr : KReads w v xs) (hl : xs.length ≤ 42) (hb : ∀ t, 0 ≤ fl xs t ∧ fl xs t ≤ 10000) :
    Calls Try.prog 38 #[v] w fun e w' => e = .returned (.int .i64 (psum (fl xs) xs.length)) ∧ w' = w := by
  have HP := hid (psum_in hb)
  have HB := hid hb
  obtain ⟨a, cap, rfl, _, hx⟩ := hr
  have HC : Hid (∀ i, i < xs.length → ∃ g o, a = some ⟨g, o, none⟩ ∧ w.cell? ⟨g, o + i, none⟩ = some (.int .i64 (fl xs i))) := fun i hi => by
    rcases hx with h | ⟨g, o, h1, h2⟩
    · rw [h] at hi; simp at hi
    · exact ⟨g, o, h1, h2 i hi⟩
  clear hx hb
  go_enter Try.func38, Try.ntmps38
  go_wp2
  go_loopw [3, 8] (fun nv iv wr => ∃ k : Nat, k ≤ xs.length ∧ iv = .int .i64 k ∧ nv = .int .i64 (psum (fl xs) k) ∧ w = wr) (fun _ iv _ => xs.length - (intOf iv).toNat)
  case atStart => exact ⟨0, Nat.zero_le _, rfl, rfl, rfl⟩
  case round =>
    obtain ⟨k, hk, rfl, rfl, rfl⟩ := hrel
    by_cases hlt : k < xs.length
    · obtain ⟨g, o, rfl, hc⟩ := HC.out k hlt
      have h1 := HP.out k
      have h2 := HB.out k
      have HS : Hid (psum (fl xs) (k + 1) = psum (fl xs) k + fl xs k) := rfl
      obtain ⟨s, hs⟩ : ∃ s, s = psum (fl xs) k := ⟨_, rfl⟩
      obtain ⟨x, hx⟩ : ∃ x, x = fl xs k := ⟨_, rfl⟩
      rw [← hs] at h1 HS ⊢
      rw [← hx] at h2 HS hc
      have hw : IntKind.i64.wrap (s + x) = s + x := by rw [IntKind.wrap_i64]; omega
      have n0 : (0 : Int) ≤ (k : Int) := by omega
      have n1 : (k : Int) < (xs.length : Int) := by omega
      clear hs hx
      go_wp2
      go_roundw
      case rel => exact ⟨k + 1, by omega, by go_num, by rw [HS.out], by first | rfl | trivial⟩
      case measure => simp [intOf]; omega
    · obtain rfl : k = xs.length := by omega
      go_wp2
      go_ret
      exact ⟨rfl, rfl⟩
theorem take_ne {xs ys : List Int} {k : Nat} (h : xs.getD k 0 ≠ ys.getD k 0) : decide (xs = ys) = false := by
  rw [decide_eq_false_iff_not]
  intro e
  rw [e] at h
  exact h rfl
theorem take_eq {xs ys : List Int} (hl : ys.length = xs.length) (h : ∀ i, i < xs.length → xs.getD i 0 = ys.getD i 0) : decide (xs = ys) = true := by
  rw [decide_eq_true_eq]
  refine List.ext_getElem hl.symm fun i h1 h2 => ?_
  have := h i h1
  simpa [List.getD_eq_getElem?_getD, h1, h2] using this
set_option maxHeartbeats 2000000 in
theorem sameInts_dec (va vb : Value) (xs ys : List Int) (t : Bool) (ht : decide (xs = ys) = t) (hl : ys.length = xs.length) (w : World) (ha : KReads w va xs) (hb : KReads w vb ys) :
    Calls Try.prog 33 #[va, vb] w fun e w' => e = .returned (.bool t) ∧ Below w.heap.size w w' := by
  have HT := hid ht
  have HL := hid hl
  obtain ⟨a, ca, rfl, _, hxa⟩ := ha
  obtain ⟨b, cb, rfl, _, hxb⟩ := hb
  rw [hl] at hxb ⊢
  have hd : ((xs.length : Int) != (xs.length : Int)) = false := by simp
  have HC : Hid (∀ i, i < xs.length → ∃ g o, a = some ⟨g, o, none⟩ ∧ w.cell? ⟨g, o + i, none⟩ = some (.int .i64 (xs.getD i 0))) := fun i hi => by
    rcases hxa with h | ⟨g, o, h1, h2⟩
    · rw [h] at hi; simp at hi
    · exact ⟨g, o, h1, h2 i hi⟩
  have HD : Hid (∀ i, i < xs.length → ∃ g o, b = some ⟨g, o, none⟩ ∧ w.cell? ⟨g, o + i, none⟩ = some (.int .i64 (ys.getD i 0))) := fun i hi => by
    rcases hxb with h | ⟨g, o, h1, h2⟩
    · rw [h] at hl; simp at hl; rw [← hl] at hi; simp at hi
    · exact ⟨g, o, h1, h2 i hi⟩
  clear hxa hxb ht hl
  go_enter Try.func33, Try.ntmps33
  go_wp2
  go_loopw [13] (fun i wr => ∃ k : Nat, k ≤ xs.length ∧ i = .int .i64 k ∧ (∀ i, i < k → xs.getD i 0 = ys.getD i 0) ∧ Below w.heap.size w wr) (fun i _ => xs.length - (intOf i).toNat)
  case atStart => exact ⟨0, Nat.zero_le _, rfl, fun i hi => by omega, Below.refl _ _⟩
  case round =>
    obtain ⟨k, hk, rfl, hal, hbel⟩ := hrel
    have HA := hid hal
    have HB := hid hbel
    clear hal hbel
    by_cases hlt : k < xs.length
    · obtain ⟨g, o, rfl, hc⟩ := HC.out k hlt
      obtain ⟨h, p, rfl, hd'⟩ := HD.out k hlt
      have h1 := (HB.out.cell (p := ⟨g, o + k, none⟩) (lt_of_cell hc)).trans hc
      have h2 := (HB.out.cell (p := ⟨h, p + k, none⟩) (lt_of_cell hd')).trans hd'
      obtain ⟨x, hx⟩ : ∃ x, x = xs.getD k 0 := ⟨_, rfl⟩
      obtain ⟨y, hy⟩ : ∃ y, y = ys.getD k 0 := ⟨_, rfl⟩
      rw [← hx] at h1
      rw [← hy] at h2
      have n0 : (0 : Int) ≤ (k : Int) := by omega
      have n1 : (k : Int) < (xs.length : Int) := by omega
      by_cases e : x = y
      · have HN : Hid (∀ i, i < k + 1 → xs.getD i 0 = ys.getD i 0) := fun i hi => by
          by_cases hik : i = k
          · rw [hik, ← hx, ← hy]; exact e
          · exact HA.out i (by omega)
        have de : (x != y) = false := by rw [e]; simp
        clear hc hd' hx hy e
        go_wp2_with fail
        go_big_region
        go_wp2
        go_roundw
        case rel => exact ⟨k + 1, by omega, by go_num, HN.out, HB.out.drew⟩
        case measure => simp [intOf]; omega
      · have HV : Hid (t = false) := by show _ = _; rw [← HT.out]; exact take_ne (k := k) (by rw [← hx, ← hy]; exact e)
        have de : (x != y) = true := by simpa using e
        clear hc hd' hx hy e
        go_wp2_with fail
        go_big_region
        go_wp2
        go_ret
        exact ⟨by rw [HV.out]; rfl, HB.out.drew⟩
    · obtain rfl : k = xs.length := by omega
      have HV : Hid (t = true) := by show _ = _; rw [← HT.out]; exact take_eq HL.out HA.out
      go_wp2
      go_ret
      exact ⟨by rw [HV.out]; rfl, HB.out⟩
end Go.Proofs.Ytflhlinkolbbiae
