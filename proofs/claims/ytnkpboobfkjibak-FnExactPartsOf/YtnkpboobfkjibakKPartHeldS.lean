/-
  laws.heldPartS: the numbers in a row's cells are told to be there. Nothing old is written.
-/
import Derived.Test.YtnkpboobfkjibakKPartMarkS
import Derived.Deep.RegionHeld3
namespace Go.Proofs.Ytnkpboobfkjibak
open Go.RowKit

set_option maxRecDepth 100000 in
set_option maxHeartbeats 4000000 in
theorem heldPartS_any (v : Value) (xs : List PtD) (k m : Int) (w : World) (hr : RowR rpPt w v (markL ptMk ptC k xs)) (hn : xs.length ≤ 1048576) (h0 : 0 < k) (h1 : k ≤ 100000000) (hm : m = k + (4 * xs.length : Nat)) :
    Calls Try.prog 18 #[v, .int .i64 k] w fun e w' => e = .returned (.int .i64 m) ∧ Below w.heap.size w w' := by
  subst hm
  obtain ⟨a, cap, rfl, hl, hx⟩ := hr
  rw [length_markL] at hl hx ⊢
  rcases hx with hx | ⟨b, off, rfl, hc⟩
  · have hn : xs.length = 0 := by have := length_markL ptMk ptC k xs; rw [hx] at this; simpa using this.symm
    obtain rfl := List.eq_nil_of_length_eq_zero hn
    clear hx
    go_enter Try.func18, Try.ntmps18
    go_wp2
    go_rounds 1
    all_goals (go_ret; exact ⟨by simp, Below.refl _ _⟩)
  have HC : Hid (∀ i, i < xs.length → CellsL w b (off + i * 4) (ptEnc (ptMk (k + (4 * i : Nat)) ptZ))) := fun i hi => by
    obtain ⟨vs, h2, h3⟩ := hc i hi
    have h4 : vs = ptEnc ((markL ptMk ptC k xs).getD i ptZ) := h3
    rw [markL_get ptMk ptC ptZ k xs i hi, ptpre xs i (by omega)] at h4
    rw [h4] at h2
    exact h2
  clear hc
  go_enter Try.func18, Try.ntmps18
  go_wp2
  go_loopw [1, 5] (fun m i wr => ∃ j : Nat, j ≤ xs.length ∧ i = .int .i64 j ∧ m = .int .i64 (k + (4 * j : Nat)) ∧ Below w.heap.size w wr) (fun _ i _ => xs.length - (intOf i).toNat)
  case atStart => exact ⟨0, Nat.zero_le _, rfl, by simp, Below.refl _ _⟩
  case round =>
    obtain ⟨j, hj, rfl, rfl, hbel⟩ := hrel
    by_cases hlt : j < xs.length
    · have hc := (HC.out j hlt).below hbel ((HC.out j hlt).lt (by simp [ptEnc]))
      have hblt := (HC.out j hlt).lt (by simp [ptEnc])
      obtain ⟨n0, hn0⟩ : ∃ n0 : Int, n0 = k + (4 * j : Nat) := ⟨_, rfl⟩
      rw [← hn0] at hc ⊢
      have hnb : 0 < n0 ∧ n0 ≤ 200000000 := by omega
      have HN0 := hid hn0
      have HB := hid hbel
      have hsz := hbel.size
      clear hn0 hbel
      obtain ⟨c0, c1, c2, c3⟩ := hc.four
      clear hc
      replace c3 : wr.cell? ⟨b, off + j * 4 + 3, none⟩ = some (.string (mkTxt (n0 + 1 + 1 + 1).toNat)) := c3
      replace c0 : wr.cell? ⟨b, off + j * 4, none⟩ = some (.int .i64 (n0)) := c0
      replace c1 : wr.cell? ⟨b, off + j * 4 + 1, none⟩ = some (.int .i64 (n0 + 1)) := c1
      replace c2 : wr.cell? ⟨b, off + j * 4 + 2, none⟩ = some (.int .i64 (n0 + 1 + 1)) := c2
      have HC1 := hid c3
      go_wp2_with fail
      go_region_held3 (fun w' => w'.cell? ⟨b, off + j * 4 + 3, none⟩ = some (.string (mkTxt (n0 + 1 + 1 + 1).toNat)) ∧ Below wr.heap.size wr w')
        (first | (refine ⟨?_, ?_⟩ <;> assumption) | exact ⟨HC1.out, (Below.refl _ _).drew⟩)
        (first | (go_at_call 43; refine (markText_int (n0 + 1 + 1 + 1) _ (by omega) (by omega)).mono ?_; rintro e wt ⟨rfl, bt⟩; have b9 : Below wr.heap.size wr wt := (by assumption : _ ∧ Below wr.heap.size wr _).2.trans (bt.mono (by assumption : _ ∧ Below wr.heap.size wr _).2.size); have c9 : wt.cell? ⟨b, off + j * 4 + 3, none⟩ = some (.string (mkTxt (n0 + 1 + 1 + 1).toNat)) := (bt.cell (p := ⟨b, off + j * 4 + 3, none⟩) (lt_of_cell (by assumption : World.cell? _ _ = _ ∧ Below wr.heap.size wr _).1)).trans (by assumption : World.cell? _ _ = _ ∧ Below wr.heap.size wr _).1; clear bt))
      all_goals go_wp2
      all_goals go_roundw
      case rel => exact ⟨j + 1, by omega, by go_num, by have := HN0.out; go_num, HB.out.trans (b9.mono hsz)⟩
      case measure => simp [intOf]; omega
    · obtain rfl : j = xs.length := by omega
      go_wp2
      go_ret
      exact ⟨by simp, hbel⟩
end Go.Proofs.Ytnkpboobfkjibak
