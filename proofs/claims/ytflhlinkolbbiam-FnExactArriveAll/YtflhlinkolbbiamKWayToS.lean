/-
  laws.toWayS answers with new ones that read as its argument; nothing old is written.
-/
import Derived.Test.YtflhlinkolbbiamKWayTo
namespace Go.Proofs.Ytflhlinkolbbiam
open Go.RowKit

/-- The first k of xs, then empty ones. -/
def wypart (xs : List WyEl) (k : Nat) : List WyEl := xs.take k ++ List.replicate (xs.length - k) (0, 0)
theorem length_wypart (xs : List WyEl) (k : Nat) (h : k ≤ xs.length) : (wypart xs k).length = xs.length := by simp [wypart]; omega
theorem wypart_zero (xs : List WyEl) : wypart xs 0 = List.replicate xs.length (0, 0) := by simp [wypart]
theorem wypart_all (xs : List WyEl) : wypart xs xs.length = xs := by simp [wypart]
theorem wypart_step (xs : List WyEl) (k : Nat) (h : k < xs.length) : (wypart xs k).set k (xs.getD k (0, 0)) = wypart xs (k + 1) := by
  have e : List.replicate (xs.length - k) ((0, 0) : WyEl) = (0, 0) :: List.replicate (xs.length - (k + 1)) (0, 0) := by rw [show xs.length - k = (xs.length - (k + 1)) + 1 by omega, List.replicate_succ]
  unfold wypart
  rw [e, List.set_append_right _ _ (by simp; omega)]
  simp [List.getD_eq_getElem?_getD, h, Nat.min_eq_left (Nat.le_of_lt h)]
  rw [List.take_succ_eq_append_getElem h, List.append_assoc]
  rfl

set_option maxHeartbeats 1000000 in
theorem toWayS_any (va : Value) (xs : List WyEl) (w : World) (ha : WyReads w va xs) (hx : xs.length ≤ 1048576) :
    Calls Try.prog 18 #[va] w fun e w' => ∃ v, e = .returned v ∧ WyOwn w.heap.size w'.heap.size w' v xs ∧ Below w.heap.size w w' := by
  obtain ⟨a, ca, rfl, hl, hxa⟩ := ha
  obtain ⟨i0, hi, hz0, hz1, hz2⟩ := info_parts info_way
  have HC := hid hxa
  clear hxa
  go_enter Try.func18, Try.ntmps18
  go_wp2_with (at_make; refine wpList_make_full _ rfl _ _ 34 rfl w.heap.size 53 i0 (.agg #[.int .i64 0, .int .i64 0]) 2 Try.underlying34 hi hz0 hz1 .i64 .i64 _ _ xs.length rfl rfl rfl rfl (by rw [hz2]; omega) (by unfold maxLen; omega) (Nat.le_refl _) ?_; intro w1 hown1 hgrow1)
  have B1 : Hid (Below w.heap.size w w1) := (Below.refl _ _).grown hgrow1 (Nat.le_refl _) (by intro k hk; cases hk)
  have O1 : Hid (WyOwn w.heap.size w1.heap.size w1 (.slice (some ⟨w.heap.size, 0, none⟩) xs.length xs.length) (wypart xs 0)) := by
    show WyOwn _ _ _ _ _
    rw [wypart_zero]
    refine WyOwn.of_owns (n := xs.length) ?_ (by simp; omega)
    rw [← wymade_zero]
    exact hown1
  clear hown1 hgrow1
  go_loopw [4] (fun i wr => ∃ k : Nat, k ≤ xs.length ∧ i = .int .i64 k ∧ WyOwn w.heap.size wr.heap.size wr (.slice (some ⟨w.heap.size, 0, none⟩) xs.length xs.length) (wypart xs k) ∧ Below w.heap.size w wr) (fun i _ => xs.length - (intOf i).toNat)
  case atStart => exact ⟨0, Nat.zero_le _, rfl, O1.out, B1.out⟩
  case round =>
    obtain ⟨k, hk, rfl, hown, hbel⟩ := hrel
    by_cases hlt : k < xs.length
    · obtain ⟨b, off, rfl, hc⟩ : ∃ b off, a = some ⟨b, off, none⟩ ∧ ∀ i, i < xs.length → WyCells w b (off + i * 2) (xs.getD i (0, 0)) := by
        rcases HC.out with h | h
        · subst h; simp at hlt
        · exact h
      obtain ⟨x, hx0⟩ : ∃ x, x = xs.getD k (0, 0) := ⟨_, rfl⟩
      have hck := (hc k hlt).below hbel (hc k hlt).lt
      rw [← hx0] at hck
      obtain ⟨h0, h1⟩ := hck
      have HO := hid hown
      have HB := hid hbel
      have HX := hid hx0
      clear hc hown hbel hx0
      go_wp2_with fail
      refine (toWay_any _ _ _).mono ?_
      rintro e w2 ⟨rfl, b2⟩
      have hl2 := length_wypart xs k hk
      have hset := WyOwn.set (xs := wypart xs k) (by rw [hl2]; exact (HO.out.below b2).mono (Nat.le_refl _) b2.size) k x (by omega)
      rw [show (wypart xs k).set k x = wypart xs (k + 1) by rw [HX.out]; exact wypart_step xs k hlt, hl2] at hset
      obtain ⟨hown2, _, ⟨f0, f1⟩, c0, c1⟩ := hset
      have HO2 := hid hown2
      have HB2 : Hid (Below w.heap.size w w2) := HB.out.trans (b2.mono HB.out.size)
      clear hown2 b2 hl2 HO HB
      generalize ((wypart xs k).getD k (0, 0)).1 = y0 at c0
      generalize ((wypart xs k).getD k (0, 0)).2 = y1 at c1
      go_wp2
      go_roundw
      case rel => exact ⟨k + 1, by omega, by go_num, by simpa using HO2.out, (HB2.out.setCell (Nat.le_refl _) _).setCell (Nat.le_refl _) _⟩
      case measure => simp [intOf]; omega
    · obtain rfl : k = xs.length := by omega
      rw [wypart_all] at hown
      go_wp2
      go_ret
      exact ⟨_, rfl, hown, hbel⟩
end Go.Proofs.Ytflhlinkolbbiam
