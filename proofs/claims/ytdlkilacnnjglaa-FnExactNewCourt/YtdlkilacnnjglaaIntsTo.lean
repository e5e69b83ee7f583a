/-
  laws.toIntS answers with a new slice that reads as its argument; nothing old is written.
-/
import Derived.Test.YtdlkilacnnjglaaInts
namespace Go.Proofs.Ytdlkilacnnjglaa
open Go.RowKit

/-- The first k of xs, then zeros. -/
def part (xs : List Int) (k : Nat) : List Int := xs.take k ++ List.replicate (xs.length - k) 0
theorem length_part (xs : List Int) (k : Nat) (h : k ≤ xs.length) : (part xs k).length = xs.length := by simp [part]; omega
theorem part_zero (xs : List Int) : part xs 0 = List.replicate xs.length 0 := by simp [part]
theorem part_all (xs : List Int) : part xs xs.length = xs := by simp [part]
theorem part_step (xs : List Int) (k : Nat) (h : k < xs.length) : (part xs k).set k (xs.getD k 0) = part xs (k + 1) := by
  have e : List.replicate (xs.length - k) (0 : Int) = 0 :: List.replicate (xs.length - (k + 1)) 0 := by rw [show xs.length - k = (xs.length - (k + 1)) + 1 by omega, List.replicate_succ]
  unfold part
  rw [e, List.set_append_right _ _ (by simp; omega)]
  simp [List.getD_eq_getElem?_getD, h, Nat.min_eq_left (Nat.le_of_lt h)]
  rw [List.take_succ_eq_append_getElem h, List.append_assoc]
  rfl

set_option maxHeartbeats 1000000 in
theorem toIntS_any (va : Value) (xs : List Int) (w : World) (ha : Reads w va xs) (hx : xs.length ≤ 1048576) :
    Calls Try.prog 10 #[va] w fun e w' => ∃ v, e = .returned v ∧ Own w.heap.size w' v xs ∧ Below w.heap.size w w' := by
  obtain ⟨a, ca, rfl, hl, hxa⟩ := ha
  obtain ⟨i0, hi, hz0, hz1, hz2⟩ := info_parts info_int
  have HC : Hid (xs = [] ∨ ∃ b off, a = some ⟨b, off, none⟩ ∧ ∀ i, i < xs.length → w.cell? ⟨b, off + i, none⟩ = some (.int .i64 (xs.getD i 0))) := hxa
  clear hxa
  go_enter Try.func10, Try.ntmps10
  go_wp2_with (at_make; refine wpList_make_row _ rfl _ _ 22 rfl 3 i0 (.int .i64 0) Try.underlying22 hi hz0 hz1 rfl .i64 .i64 xs.length rfl rfl (by rw [hz2]; omega) (by omega) ?_)
  go_loopw [4] (fun i wr => ∃ k : Nat, k ≤ xs.length ∧ i = .int .i64 k ∧ Own w.heap.size wr (.slice (some ⟨w.heap.size, 0, none⟩) xs.length xs.length) (part xs k) ∧ Below w.heap.size w wr) (fun i _ => xs.length - (intOf i).toNat)
  case atStart => exact ⟨0, Nat.zero_le _, rfl, by rw [part_zero]; exact Own.made w xs.length hl, (Below.refl _ _).alloc (Nat.le_refl _) _⟩
  case round =>
    obtain ⟨k, hk, rfl, hown, hbel⟩ := hrel
    by_cases hlt : k < xs.length
    · obtain ⟨b, off, rfl, hc⟩ : ∃ b off, a = some ⟨b, off, none⟩ ∧ ∀ i, i < xs.length → w.cell? ⟨b, off + i, none⟩ = some (.int .i64 (xs.getD i 0)) := by
        rcases HC.out with h | h
        · subst h; simp at hlt
        · exact h
      have h1 := (hbel.cell (p := ⟨b, off + k, none⟩) (lt_of_cell (hc k hlt))).trans (hc k hlt)
      have hl2 := length_part xs k hk
      have hset := Own.set (xs := part xs k) (by rw [hl2]; exact hown) k (xs.getD k 0) (by omega)
      rw [part_step xs k hlt, hl2] at hset
      obtain ⟨hown2, _, hfz, hcl⟩ := hset
      have HO : Hid (Own w.heap.size (wr.setCell ⟨w.heap.size, k, none⟩ (.int .i64 (xs.getD k 0))) (.slice (some ⟨w.heap.size, 0, none⟩) xs.length xs.length) (part xs (k + 1))) := hown2
      have HB : Hid (Below w.heap.size w wr) := hbel
      clear hc hown hown2 hl2 hbel
      generalize (part xs k).getD k 0 = y at hcl
      generalize xs.getD k 0 = x at h1 HO
      go_wp2
      go_roundw
      case rel => exact ⟨k + 1, by omega, by go_num, HO.out, HB.out.setCell (Nat.le_refl _) _⟩
      case measure => simp [intOf]; omega
    · obtain rfl : k = xs.length := by omega
      rw [part_all] at hown
      go_wp2
      go_ret
      exact ⟨_, rfl, hown, hbel⟩
end Go.Proofs.Ytdlkilacnnjglaa
