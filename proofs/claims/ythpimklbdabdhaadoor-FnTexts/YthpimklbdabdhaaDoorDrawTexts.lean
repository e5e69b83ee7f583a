/-
  What the draws of lists and texts answer: some new list, some text, some text and place; nothing old is written.
-/
import Derived.Test.YthpimklbdabdhaaDoorDrawOf
import Derived.Test.YthpimklbdabdhaaDoorDrawText
import Derived.Test.YthpimklbdabdhaaDoorPutText
namespace Go.Proofs.YthpimklbdabdhaaDoor
open Go.RowKit

theorem CodeOk.later {w w' : World} {v : Value} (h : CodeOk w.heap.size w v) (hb : Below w.heap.size w w') : CodeOk w'.heap.size w' v := by
  obtain ⟨a, len, cap, rfl, hl, hx⟩ := h.below hb
  refine ⟨a, len, cap, rfl, hl, ?_⟩
  rcases hx with hx | ⟨cb, off, rfl, hlt, hc⟩
  · exact .inl hx
  · exact .inr ⟨cb, off, rfl, Nat.lt_of_lt_of_le hlt hb.size, hc⟩

theorem drawPutList_any (v : Value) (w : World) (h : CodeOk w.heap.size w v) :
    Calls Tryd.prog 16 #[v] w fun e w' => ∃ u xs, xs.length ≤ 61 ∧ e = .returned u ∧ Own w.heap.size w' u xs ∧ Below w.heap.size w w' := by
  have H := hid (cur_new w v h)
  obtain ⟨a, len, cap, rfl, hlen, hx⟩ := h
  clear hlen hx
  go_enter Tryd.func16, Tryd.ntmps16
  go_wp2_with fail
  refine (numbers_any w.heap.size w.heap.size 0 _ H.out (by omega)).mono ?_
  rintro e w1 ⟨u, xs, hxl, rfl, o1, c1, g1⟩
  have G1 := hid g1; have O1 := hid o1; clear c1 g1 o1
  go_wp2
  go_ret
  exact ⟨u, xs, hxl, rfl, O1.out.mono (by simp), ((Below.refl _ _).alloc (Nat.le_refl _) _).trans (only_below G1.out (Nat.le_refl _) (by simp))⟩

theorem drawGetList_any (v : Value) (w : World) (h : CodeOk w.heap.size w v) :
    Calls Tryd.prog 21 #[v] w fun e w' => ∃ t : ByteArray, t.size ≤ 600 ∧ e = .returned (.string t) ∧ Below w.heap.size w w' := by
  have H := hid (cur_new w v h)
  obtain ⟨a, len, cap, rfl, hlen, hx⟩ := h
  clear hlen hx
  go_enter Tryd.func21, Tryd.ntmps21
  go_wp2_with fail
  refine (numberText_any w.heap.size w.heap.size 0 _ H.out (by omega)).mono ?_
  rintro e w1 ⟨t, ht, rfl, c1, g1⟩
  have G1 := hid g1; clear c1 g1
  go_wp2
  go_ret
  exact ⟨t, ht, rfl, ((Below.refl _ _).alloc (Nat.le_refl _) _).trans (only_below G1.out (Nat.le_refl _) (by simp))⟩

set_option maxHeartbeats 1000000 in
theorem drawPutText_any (v : Value) (w : World) (h : CodeOk w.heap.size w v) :
    Calls Tryd.prog 23 #[v] w fun e w' => ∃ t : ByteArray, t.size ≤ 201 ∧ e = .returned (.string t) ∧ Below w.heap.size w w' := by
  obtain ⟨i0, hi, hz0, hz1, hz2⟩ := info_parts info_u8
  have H := hid (cur_new w v h)
  obtain ⟨a, len, cap, rfl, hlen, hx⟩ := h
  clear hlen hx
  go_enter Tryd.func23, Tryd.ntmps23
  go_wp2_with fail
  refine (one_any w.heap.size w.heap.size 0 12 _ H.out (by omega) (by omega)).mono ?_
  rintro e w1 ⟨q, rfl, c1, g1⟩
  have hb1 := c1.lt
  have C1 := hid c1
  have G1 : Hid (Below w.heap.size w w1) := ((Below.refl _ _).alloc (Nat.le_refl _) _).trans (only_below g1 (Nat.le_refl _) (by simp))
  clear c1 g1
  cases q
  · go_wp2_with fail
    refine (of_in (fun t => t.size ≤ 201) w.heap.size w.heap.size _ w1.heap.size 4 4 _ (C1.out.below ((Below.refl _ _).alloc (Nat.le_refl _) _)) (by omega) (by omega) (lit_str _ w1 [⟨#[]⟩, ⟨#[97]⟩, ⟨#[115, 111, 109, 101, 32, 116, 101, 120, 116]⟩, ⟨#[0, 255]⟩] _ (by
      intro t ht
      simp only [List.mem_cons, List.not_mem_nil, or_false] at ht
      rcases ht with rfl | rfl | rfl | rfl <;> decide)) (by omega) (by omega)).mono ?_
    rintro e w2 ⟨t, ht, rfl, c2, g2⟩
    have HB : Hid (Below w.heap.size w w2) := (G1.out.alloc G1.out.size _).trans (only_below g2 (Nat.le_refl _) (by simp; omega))
    clear c2 g2
    go_wp2
    go_ret
    exact ⟨t, ht, rfl, HB.out⟩
  · go_wp2_with fail
    refine (among_in (fun z => 0 ≤ z ∧ z ≤ 201) w.heap.size w.heap.size _ w1.heap.size 5 5 _ (C1.out.below ((Below.refl _ _).alloc (Nat.le_refl _) _)) (by omega) (by omega) (lit_in _ w1 [63, 64, 199, 200, 201] _ (by
      intro z hz
      simp only [List.mem_cons, List.not_mem_nil, or_false] at hz
      omega)) (by omega) (by omega)).mono ?_
    rintro e w2 ⟨z, hz, rfl, c2, g2⟩
    have HB : Hid (Below w.heap.size w w2) := (G1.out.alloc G1.out.size _).trans (only_below g2 (Nat.le_refl _) (by simp; omega))
    obtain ⟨m, rfl⟩ := Int.eq_ofNat_of_zero_le hz.1
    have hm : m ≤ 201 := by omega
    have hcv := conv_zeros w2 m
    clear c2 g2 hz
    go_wp2_with (at_make; refine wpList_make_row _ rfl _ _ 22 rfl 5 i0 (.int .u8 0) Tryd.underlying22 hi hz0 hz1 rfl .i64 .i64 m rfl rfl (by rw [hz2]; omega) (by omega) ?_)
    go_ret
    refine ⟨_, ?_, rfl, HB.out.alloc HB.out.size _⟩
    show (List.replicate m (0 : UInt8)).toArray.size ≤ 201
    simpa using hm

theorem sputText_any (s : ByteArray) (w : World) (hs : s.size ≤ 1000) :
    Calls Tryd.prog 25 #[.string s] w fun e w' => ∃ (r : ByteArray) (ok : Bool), r.size ≤ 208 ∧ e = .returned (.tuple #[.string r, .bool ok]) ∧ Below w.heap.size w w' := by
  by_cases h : s.size ≤ 200
  · refine (sputText_yes s w h).mono ?_
    rintro e w' ⟨rfl, hb⟩
    have hsz : (numB s.size).size ≤ 8 := by unfold numB; rw [size_wideB]; have := szI_le s.size; omega
    exact ⟨_, _, by rw [ByteArray.size_append]; omega, rfl, hb⟩
  · refine (sputText_no s w (by unfold maxLen; omega) (by omega)).mono ?_
    rintro e w' ⟨rfl, hb⟩
    subst hb
    exact ⟨_, _, Nat.zero_le _, rfl, Below.refl _ _⟩

set_option maxHeartbeats 2000000 in
theorem drawGetText_any (v : Value) (w : World) (h : CodeOk w.heap.size w v) :
    Calls Tryd.prog 27 #[v] w fun e w' => ∃ (t : ByteArray) (k : Int), t.size ≤ 1000 ∧ e = .returned (.tuple #[.string t, .int .i64 k]) ∧ Below w.heap.size w w' := by
  have H := hid (cur_new w v h)
  have K := hid (h.later ((Below.refl _ w).alloc (Nat.le_refl _) (.cells #[v, .int .i64 0, .int .u64 0] 56)))
  obtain ⟨a, len, cap, rfl, hlen, hx⟩ := h
  clear hlen hx
  go_enter Tryd.func27, Tryd.ntmps27
  go_wp2_with fail
  refine (drawPutText_any _ _ K.out).mono ?_
  rintro e w1 ⟨t, ht, rfl, b1⟩
  have C1 := hid (H.out.below b1)
  have B1 : Hid (Below w.heap.size w w1) := ((Below.refl _ _).alloc (Nat.le_refl _) _).trans (b1.mono (by simp))
  clear b1
  go_wp2_with fail
  refine (sputText_any t _ (by omega)).mono ?_
  rintro e w2 ⟨r, ok, hr, rfl, b2⟩
  have C2 := hid (C1.out.below b2)
  have B2 : Hid (Below w.heap.size w w2) := B1.out.trans (b2.mono B1.out.size)
  clear b2
  go_wp2_with fail
  refine (sputText_any _ _ (by decide)).mono ?_
  rintro e w3 ⟨r2, ok2, hr2, rfl, b3⟩
  have C3 := hid (C2.out.below b3)
  have B3 : Hid (Below w.heap.size w w3) := B2.out.trans (b3.mono B2.out.size)
  have hsum : (r ++ r2).size ≤ 416 := by rw [ByteArray.size_append]; omega
  clear b3
  go_wp2_with fail
  refine (one_any w.heap.size w.heap.size 0 3 _ C3.out (by omega) (by omega)).mono ?_
  rintro e w4 ⟨q, rfl, c4, g4⟩
  have C4 := hid c4
  have B4 : Hid (Below w.heap.size w w4) := B3.out.trans (only_below g4 (Nat.le_refl _) (by have := B3.out.size; omega))
  clear c4 g4
  have fin : ∀ (s : ByteArray) (N : Nat) (W : World), s.size ≤ 1000 → Cur w.heap.size W w.heap.size N → N ≤ 1000 → Below w.heap.size w W → Calls Tryd.prog 34 #[.pointer (some ⟨w.heap.size, 0, none⟩), .slice (some ⟨W.heap.size, 0, none⟩) 6 6] (W.alloc (.cells #[.int .i64 0, .int .i64 0, .int .i64 0, .int .i64 r.size, .int .i64 (-1), .int .i64 1] 3)) fun e w' => ∃ k : Int, e = .returned (.int .i64 k) ∧ Below w.heap.size w w' := by
    intro s N W _ hc hN hb
    have hlt := hc.lt
    refine (among_any w.heap.size w.heap.size N W.heap.size 6 6 _ (hc.below ((Below.refl _ _).alloc (Nat.le_refl _) _)) (by omega) (by omega) (lit_new W [0, 0, 0, (r.size : Int), -1, 1] _) (by omega) (by omega)).mono ?_
    rintro e w' ⟨z, rfl, _, g⟩
    exact ⟨z, rfl, (hb.alloc hb.size _).trans (only_below g (Nat.le_refl _) (by have := hb.size; simp; omega))⟩
  have FIN := hid fin
  clear fin
  cases q
  · go_wp2_with fail
    refine (FIN.out (r ++ r2) _ _ (by omega) C4.out (by omega) B4.out).mono ?_
    rintro e w5 ⟨k, rfl, b5⟩
    go_wp2
    go_ret2
    exact ⟨_, k, by omega, rfl, b5⟩
  · go_wp2_with fail
    refine (spoilt_any w.heap.size w.heap.size _ (r ++ r2) _ _ C4.out (by omega) (by omega) (by decide) (by decide)).mono ?_
    rintro e w5 ⟨t', ht', rfl, c5, g5⟩
    have C5 := hid c5
    have B5 : Hid (Below w.heap.size w w5) := B4.out.trans (only_below g5 (Nat.le_refl _) (by have := B4.out.size; omega))
    clear c5 g5
    go_wp2_with fail
    refine (FIN.out t' _ _ (by omega) C5.out (by omega) B5.out).mono ?_
    rintro e w6 ⟨k, rfl, b6⟩
    go_wp2
    go_ret2
    exact ⟨_, k, by omega, rfl, b6⟩
end Go.Proofs.YthpimklbdabdhaaDoor
