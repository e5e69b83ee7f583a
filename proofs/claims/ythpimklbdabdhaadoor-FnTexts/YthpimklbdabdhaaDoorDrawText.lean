/-
  What the draws of chapter 1 answer: some number, some number and size, some text and place; nothing old is written.
-/
import Derived.Test.YthpimklbdabdhaaDoorDrawSpoilt
import Derived.Test.YthpimklbdabdhaaDoorPutNumber
namespace Go.Proofs.YthpimklbdabdhaaDoor
open Go.RowKit

set_option maxHeartbeats 2000000 in
theorem numberText_any (B b N : Nat) (w : World) (h : Cur B w b N) (hN : N ≤ 1152921504606840000) :
    Calls Tryd.prog 37 #[.pointer (some ⟨b, 0, none⟩)] w fun e w' => ∃ t : ByteArray, t.size ≤ 600 ∧ e = .returned (.string t) ∧ Cur B w' b (N + 200) ∧ w.grownBy w' (some b) := by
  have hbw := h.lt
  have H := hid h
  clear h
  go_enter Tryd.func37, Tryd.ntmps37
  go_wp2_with fail
  refine (numbers_any B b N _ H.out (by omega)).mono ?_
  rintro e w1 ⟨v, xs, hx61, rfl, own, c1, g1⟩
  have hs1 := g1.size
  obtain ⟨a, cap, rfl, hl, hx⟩ := own.reads
  have HC := hid hx
  have C1 := hid c1; have G1 := hid g1; clear c1 g1 own hx
  go_wp2_with fail
  go_loopw [3, 9] (fun s i wr => ∃ (k : Nat) (t : ByteArray), k ≤ xs.length ∧ i = .int .i64 k ∧ s = .string t ∧ t.size ≤ 8 * k ∧ Below w1.heap.size w1 wr) (fun _ i _ => xs.length - (intOf i).toNat)
  case atStart => exact ⟨0, ⟨#[]⟩, Nat.zero_le _, rfl, rfl, Nat.le_refl 0, Below.refl _ _⟩
  case round =>
    obtain ⟨k, t, hk, rfl, rfl, htk, hbel⟩ := hrel
    by_cases hlt : k < xs.length
    · obtain ⟨cb, off, rfl, hc⟩ : ∃ b off, a = some ⟨b, off, none⟩ ∧ ∀ i, i < xs.length → w1.cell? ⟨b, off + i, none⟩ = some (.int .i64 (xs.getD i 0)) := by
        rcases HC.out with h | h
        · subst h; simp at hlt
        · exact h
      have h1 := (hbel.cell (p := ⟨cb, off + k, none⟩) (lt_of_cell (hc k hlt))).trans (hc k hlt)
      have HB := hid hbel
      clear hc hbel
      generalize xs.getD k 0 = x at h1
      by_cases hin : 0 ≤ x ∧ x ≤ 1152921504606846975
      · obtain ⟨h2, h3⟩ := hin
        have hz : (numB x).size ≤ 8 := by unfold numB; rw [size_wideB]; have := szI_le x; omega
        go_wp2_with (first
          | (go_at_call 30; refine (number_yes x _ h2 h3).mono ?_; rintro e w' ⟨rfl, hw⟩; obtain rfl := hw.symm)
          | (go_at_call 31; refine (l1Put_any x _ h2 h3).mono ?_; rintro e w2 ⟨rfl, hb⟩))
        go_roundw
        case rel => exact ⟨k + 1, _, by omega, by go_num, rfl, by rw [ByteArray.size_append]; omega, HB.out.trans (hb.mono HB.out.size)⟩
        case measure => simp [intOf]; omega
      · have hin' : Hid (x < 0 ∨ 1152921504606846975 < x) := by show _ ∨ _; omega
        clear hin
        go_wp2_with (go_at_call 30; refine (number_no x _ hin'.out).mono ?_; rintro e w' ⟨rfl, hw⟩; obtain rfl := hw.symm)
        go_roundw
        case rel => exact ⟨k + 1, t, by omega, by go_num, rfl, by omega, HB.out⟩
        case measure => simp [intOf]; omega
    · have HB := hid hbel
      clear hbel
      go_wp2_with fail
      refine (one_any B b _ 3 _ (C1.out.below HB.out) (by omega) (by omega)).mono ?_
      rintro e w3 ⟨q, rfl, c3, g3⟩
      have C3 := hid c3
      have G3 : Hid (w.grownBy w3 (some b)) := only_trans (only_trans G1.out (only_of_below HB.out)) g3
      clear c3 g3
      cases q
      · go_wp2
        go_ret
        exact ⟨t, by omega, rfl, C3.out.mono (by omega), G3.out⟩
      · go_wp2_with fail
        refine (spoilt_any B b _ t _ _ C3.out (by omega) (by omega) (by decide) (by decide)).mono ?_
        rintro e w4 ⟨t', ht', rfl, c4, g4⟩
        have C4 := hid c4; have G4 := hid g4; clear c4 g4
        go_wp2
        go_ret
        exact ⟨t', by omega, rfl, C4.out.mono (by omega), only_trans G3.out G4.out⟩

theorem drawSizeOf_any (v : Value) (w : World) (h : CodeOk w.heap.size w v) :
    Calls Tryd.prog 29 #[v] w fun e w' => ∃ z : Int, e = .returned (.int .i64 z) ∧ Below w.heap.size w w' := by
  have H := hid (cur_new w v h)
  obtain ⟨a, len, cap, rfl, hlen, hx⟩ := h
  clear hlen hx
  go_enter Tryd.func29, Tryd.ntmps29
  go_wp2_with fail
  refine (number_any w.heap.size w.heap.size 0 _ H.out (by omega)).mono ?_
  rintro e w1 ⟨z, rfl, c1, g1⟩
  have G1 := hid g1; clear c1 g1
  go_wp2
  go_ret
  exact ⟨z, rfl, ((Below.refl _ _).alloc (Nat.le_refl _) _).trans (only_below G1.out (Nat.le_refl _) (by simp))⟩

theorem drawPutNumber_any (v : Value) (w : World) (h : CodeOk w.heap.size w v) :
    Calls Tryd.prog 5 #[v] w fun e w' => ∃ z : Int, e = .returned (.int .i64 z) ∧ Below w.heap.size w w' := by
  have H := hid h
  clear h
  go_enter Tryd.func5, Tryd.ntmps5
  go_wp2_with fail
  refine (drawSizeOf_any v _ H.out).mono ?_
  rintro e w1 ⟨z, rfl, b1⟩
  go_wp2
  go_ret
  exact ⟨z, rfl, b1⟩

set_option maxHeartbeats 1000000 in
theorem drawPutWide_any (v : Value) (w : World) (h : CodeOk w.heap.size w v) :
    Calls Tryd.prog 11 #[v] w fun e w' => ∃ z k : Int, e = .returned (.tuple #[.int .i64 z, .int .i64 k]) ∧ Below w.heap.size w w' := by
  have H := hid (cur_new w v h)
  obtain ⟨a, len, cap, rfl, hlen, hx⟩ := h
  clear hlen hx
  go_enter Tryd.func11, Tryd.ntmps11
  go_wp2_with fail
  refine (number_any w.heap.size w.heap.size 0 _ H.out (by omega)).mono ?_
  rintro e w1 ⟨z, rfl, c1, g1⟩
  have hb1 := c1.lt
  have C1 := hid c1; have G1 := hid g1; clear c1 g1
  go_wp2_with fail
  refine (among_any w.heap.size w.heap.size _ w1.heap.size 7 7 _ (C1.out.below ((Below.refl _ _).alloc (Nat.le_refl _) _)) (by omega) (by omega) (lit_new w1 [0, 1, 2, 3, 4, 8, 16] _) (by omega) (by omega)).mono ?_
  rintro e w2 ⟨k, rfl, c2, g2⟩
  have G2 := hid g2; clear c2 g2
  go_wp2
  go_ret2
  refine ⟨z, k, rfl, ((Below.refl _ _).alloc (Nat.le_refl _) _).trans (only_below (only_trans (only_trans G1.out (World.grownBy_alloc _ _ _)) G2.out) (Nat.le_refl _) (by simp))⟩

set_option maxHeartbeats 1000000 in
theorem drawGetNumber_any (v : Value) (w : World) (h : CodeOk w.heap.size w v) :
    Calls Tryd.prog 14 #[v] w fun e w' => ∃ (t : ByteArray) (k : Int), t.size ≤ 600 ∧ -1 ≤ k ∧ k ≤ t.size + 1 ∧ e = .returned (.tuple #[.string t, .int .i64 k]) ∧ Below w.heap.size w w' := by
  have H := hid (cur_new w v h)
  obtain ⟨a, len, cap, rfl, hlen, hx⟩ := h
  clear hlen hx
  go_enter Tryd.func14, Tryd.ntmps14
  go_wp2_with fail
  refine (numberText_any w.heap.size w.heap.size 0 _ H.out (by omega)).mono ?_
  rintro e w1 ⟨t, ht, rfl, c1, g1⟩
  have C1 := hid c1; have G1 := hid g1; clear c1 g1
  go_wp2_with fail
  refine (pick_any w.heap.size w.heap.size _ (t.size + 3) _ C1.out (by omega) (by omega)).mono ?_
  rintro e w2 ⟨r, hr, rfl, c2, g2⟩
  have hr2 : (r : Int) ≤ t.size + 2 := by omega
  have G2 := hid g2; clear c2 g2 hr
  go_wp2
  go_ret2
  exact ⟨t, (r : Int) - 1, ht, by omega, by omega, rfl, ((Below.refl _ _).alloc (Nat.le_refl _) _).trans (only_below (only_trans G1.out G2.out) (Nat.le_refl _) (by simp))⟩
end Go.Proofs.YthpimklbdabdhaaDoor
