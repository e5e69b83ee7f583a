/-
  laws.toStringS answers with new ones that read as its argument; nothing old is written.
-/
import Derived.Test.YtijojdempijhbaiXRows
namespace Go.Proofs.Ytijojdempijhbai
open Go.RowKit

/-- The first k of xs, then empty ones. -/
def xpart (xs : List XEl) (k : Nat) : List XEl := xs.take k ++ List.replicate (xs.length - k) xz
theorem length_xpart (xs : List XEl) (k : Nat) (h : k ≤ xs.length) : (xpart xs k).length = xs.length := by simp [xpart]; omega
theorem xpart_zero (xs : List XEl) : xpart xs 0 = List.replicate xs.length xz := by simp [xpart]
theorem xpart_all (xs : List XEl) : xpart xs xs.length = xs := by simp [xpart]
theorem xpart_step (xs : List XEl) (k : Nat) (h : k < xs.length) : (xpart xs k).set k (xs.getD k xz) = xpart xs (k + 1) := by
  have e : List.replicate (xs.length - k) (xz : XEl) = xz :: List.replicate (xs.length - (k + 1)) xz := by rw [show xs.length - k = (xs.length - (k + 1)) + 1 by omega, List.replicate_succ]
  unfold xpart
  rw [e, List.set_append_right _ _ (by simp; omega)]
  simp [List.getD_eq_getElem?_getD, h, Nat.min_eq_left (Nat.le_of_lt h)]
  rw [List.take_succ_eq_append_getElem h, List.append_assoc]
  rfl

set_option maxHeartbeats 1000000 in
theorem toStringS_any (va : Value) (xs : List XEl) (w : World) (ha : XReads w va xs) (hx : xs.length ≤ 1048576) :
    Calls Try.prog 24 #[va] w fun e w' => ∃ v, e = .returned v ∧ XOwn w.heap.size w'.heap.size w' v xs ∧ Below w.heap.size w w' := by
  obtain ⟨a, ca, rfl, hl, hxa⟩ := ha
  obtain ⟨i0, hi, hz0, hz1, hz2⟩ := info_parts info_str
  have HC := hid hxa
  clear hxa
  go_enter Try.func24, Try.ntmps24
  go_wp2_with (at_make; refine wpList_make_full _ rfl _ _ 37 rfl w.heap.size 9 i0 (.string xz) 1 Try.underlying37 hi hz0 hz1 .i64 .i64 _ _ xs.length rfl rfl rfl rfl (by rw [hz2]; omega) (by unfold maxLen; omega) (Nat.le_refl _) ?_; intro w1 hown1 hgrow1)
  have B1 : Hid (Below w.heap.size w w1) := (Below.refl _ _).grown hgrow1 (Nat.le_refl _) (by intro k hk; cases hk)
  have O1 : Hid (XOwn w.heap.size w1.heap.size w1 (.slice (some ⟨w.heap.size, 0, none⟩) xs.length xs.length) (xpart xs 0)) := by
    show XOwn _ _ _ _ _
    rw [xpart_zero]
    refine XOwn.of_owns (n := xs.length) ?_ (by simp; omega)
    rw [← xmade_zero]
    rw [Nat.mul_one] at hown1
    exact hown1
  clear hown1 hgrow1
  go_loopw [4] (fun i wr => ∃ k : Nat, k ≤ xs.length ∧ i = .int .i64 k ∧ XOwn w.heap.size wr.heap.size wr (.slice (some ⟨w.heap.size, 0, none⟩) xs.length xs.length) (xpart xs k) ∧ Below w.heap.size w wr) (fun i _ => xs.length - (intOf i).toNat)
  case atStart => exact ⟨0, Nat.zero_le _, rfl, O1.out, B1.out⟩
  case round =>
    obtain ⟨k, hk, rfl, hown, hbel⟩ := hrel
    by_cases hlt : k < xs.length
    · obtain ⟨b, off, rfl, hc⟩ : ∃ b off, a = some ⟨b, off, none⟩ ∧ ∀ i, i < xs.length → XCells w b (off + i) (xs.getD i xz) := by
        rcases HC.out with h | h
        · subst h; simp at hlt
        · exact h
      have hck := (hc k hlt).below hbel (hc k hlt).lt
      have hl2 := length_xpart xs k hk
      have hset := XOwn.set (xs := xpart xs k) (by rw [hl2]; exact hown) k (xs.getD k xz) (by omega)
      rw [xpart_step xs k hlt, hl2] at hset
      obtain ⟨hown2, hgb, f0, c0⟩ := hset
      have HO := hid hown2
      have HB := hid hbel
      clear hc hown hown2 hl2 hbel
      generalize (xpart xs k).getD k xz = y at c0
      generalize xs.getD k xz = x at hck HO
      replace hck : _ = _ := hck
      replace f0 : _ = _ := f0
      replace c0 : _ = _ := c0
      go_wp2
      go_roundw
      case rel => exact ⟨k + 1, by omega, by go_num, by simpa using HO.out, HB.out.setCell (Nat.le_refl _) _⟩
      case measure => simp [intOf]; omega
    · obtain rfl : k = xs.length := by omega
      rw [xpart_all] at hown
      go_wp2
      go_ret
      exact ⟨_, rfl, hown, hbel⟩
end Go.Proofs.Ytijojdempijhbai
