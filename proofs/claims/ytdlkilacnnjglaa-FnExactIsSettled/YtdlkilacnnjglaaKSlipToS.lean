/-
  laws.toSlipS answers with new ones that read as its argument; nothing old is written.
-/
import Derived.Test.YtdlkilacnnjglaaKSlipTo
namespace Go.Proofs.Ytdlkilacnnjglaa
open Go.RowKit

/-- The first k of xs, then empty ones. -/
def slpart (xs : List SlEl) (k : Nat) : List SlEl := xs.take k ++ List.replicate (xs.length - k) (0, 0, 0)
theorem length_slpart (xs : List SlEl) (k : Nat) (h : k ≤ xs.length) : (slpart xs k).length = xs.length := by simp [slpart]; omega
theorem slpart_zero (xs : List SlEl) : slpart xs 0 = List.replicate xs.length (0, 0, 0) := by simp [slpart]
theorem slpart_all (xs : List SlEl) : slpart xs xs.length = xs := by simp [slpart]
theorem slpart_step (xs : List SlEl) (k : Nat) (h : k < xs.length) : (slpart xs k).set k (xs.getD k (0, 0, 0)) = slpart xs (k + 1) := by
  have e : List.replicate (xs.length - k) ((0, 0, 0) : SlEl) = (0, 0, 0) :: List.replicate (xs.length - (k + 1)) (0, 0, 0) := by rw [show xs.length - k = (xs.length - (k + 1)) + 1 by omega, List.replicate_succ]
  unfold slpart
  rw [e, List.set_append_right _ _ (by simp; omega)]
  simp [List.getD_eq_getElem?_getD, h, Nat.min_eq_left (Nat.le_of_lt h)]
  rw [List.take_succ_eq_append_getElem h, List.append_assoc]
  rfl

set_option maxHeartbeats 1000000 in
theorem toSlipS_any (va : Value) (xs : List SlEl) (w : World) (ha : SlReads w va xs) (hx : xs.length ≤ 1048576) :
    Calls Try.prog 53 #[va] w fun e w' => ∃ v, e = .returned v ∧ SlOwn w.heap.size w'.heap.size w' v xs ∧ Below w.heap.size w w' := by
  obtain ⟨a, ca, rfl, hl, hxa⟩ := ha
  obtain ⟨i0, hi, hz0, hz1, hz2⟩ := info_parts info_slip
  have HC := hid hxa
  clear hxa
  go_enter Try.func53, Try.ntmps53
  go_wp2_with (at_make; refine wpList_make_full _ rfl _ _ 24 rfl w.heap.size 80 i0 (.agg #[.int .i64 0, .int .i64 0, .int .i64 0]) 3 Try.underlying24 hi hz0 hz1 .i64 .i64 _ _ xs.length rfl rfl rfl rfl (by rw [hz2]; omega) (by unfold maxLen; omega) (Nat.le_refl _) ?_; intro w1 hown1 hgrow1)
  have B1 : Hid (Below w.heap.size w w1) := (Below.refl _ _).grown hgrow1 (Nat.le_refl _) (by intro k hk; cases hk)
  have O1 : Hid (SlOwn w.heap.size w1.heap.size w1 (.slice (some ⟨w.heap.size, 0, none⟩) xs.length xs.length) (slpart xs 0)) := by
    show SlOwn _ _ _ _ _
    rw [slpart_zero]
    refine SlOwn.of_owns (n := xs.length) ?_ (by simp; omega)
    rw [← slmade_zero]
    exact hown1
  clear hown1 hgrow1
  go_loopw [4] (fun i wr => ∃ k : Nat, k ≤ xs.length ∧ i = .int .i64 k ∧ SlOwn w.heap.size wr.heap.size wr (.slice (some ⟨w.heap.size, 0, none⟩) xs.length xs.length) (slpart xs k) ∧ Below w.heap.size w wr) (fun i _ => xs.length - (intOf i).toNat)
  case atStart => exact ⟨0, Nat.zero_le _, rfl, O1.out, B1.out⟩
  case round =>
    obtain ⟨k, hk, rfl, hown, hbel⟩ := hrel
    by_cases hlt : k < xs.length
    · obtain ⟨b, off, rfl, hc⟩ : ∃ b off, a = some ⟨b, off, none⟩ ∧ ∀ i, i < xs.length → SlCells w b (off + i * 3) (xs.getD i (0, 0, 0)) := by
        rcases HC.out with h | h
        · subst h; simp at hlt
        · exact h
      obtain ⟨x, hx0⟩ : ∃ x, x = xs.getD k (0, 0, 0) := ⟨_, rfl⟩
      have hck := (hc k hlt).below hbel (hc k hlt).lt
      rw [← hx0] at hck
      obtain ⟨h0, h1, h2⟩ := hck
      have HO := hid hown
      have HB := hid hbel
      have HX := hid hx0
      clear hc hown hbel hx0
      go_wp2_with fail
      refine (toSlip_any _ _ _ _).mono ?_
      rintro e w2 ⟨rfl, b2⟩
      have hl2 := length_slpart xs k hk
      have hset := SlOwn.set (xs := slpart xs k) (by rw [hl2]; exact (HO.out.below b2).mono (Nat.le_refl _) b2.size) k x (by omega)
      rw [show (slpart xs k).set k x = slpart xs (k + 1) by rw [HX.out]; exact slpart_step xs k hlt, hl2] at hset
      obtain ⟨hown2, _, ⟨f0, f1, f2⟩, c0, c1, c2⟩ := hset
      have HO2 := hid hown2
      have HB2 : Hid (Below w.heap.size w w2) := HB.out.trans (b2.mono HB.out.size)
      clear hown2 b2 hl2 HO HB
      generalize ((slpart xs k).getD k (0, 0, 0)).1 = y0 at c0
      generalize ((slpart xs k).getD k (0, 0, 0)).2.1 = y1 at c1
      generalize ((slpart xs k).getD k (0, 0, 0)).2.2 = y2 at c2
      go_wp2
      go_roundw
      case rel => exact ⟨k + 1, by omega, by go_num, by simpa using HO2.out, ((HB2.out.setCell (Nat.le_refl _) _).setCell (Nat.le_refl _) _).setCell (Nat.le_refl _) _⟩
      case measure => simp [intOf]; omega
    · obtain rfl : k = xs.length := by omega
      rw [slpart_all] at hown
      go_wp2
      go_ret
      exact ⟨_, rfl, hown, hbel⟩
end Go.Proofs.Ytdlkilacnnjglaa
