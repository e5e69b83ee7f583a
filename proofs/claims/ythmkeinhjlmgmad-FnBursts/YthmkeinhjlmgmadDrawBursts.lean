/-
  What is drawn for bursts: texts of few bytes and numbers; nothing old is written.
-/
import Derived.Test.YthmkeinhjlmgmadDrawRowsT
namespace Go.Proofs.Ythmkeinhjlmgmad
open Go.RowKit

set_option maxHeartbeats 1000000 in
theorem drawInter_any (v : Value) (w : World) (h : CodeOk w.heap.size w v) :
    Calls Try.prog 54 #[v] w fun e w' => ∃ (s : ByteArray) (d : Int), e = .returned (.tuple #[.string s, .int .i64 d]) ∧ s.size ≤ 66 ∧ Below w.heap.size w w' := by
  have H := hid (cur_new w v h)
  obtain ⟨a, len, cap, rfl, hlen, hx⟩ := h
  clear hlen hx
  go_enter Try.func54, Try.ntmps54
  go_wp2_with fail
  refine (rowsText_any w.heap.size w.heap.size 0 _ H.out (by omega)).mono ?_
  rintro e w1 ⟨s, d, rfl, hs, hd, c1, g1⟩
  have G1 := hid g1; clear c1 g1
  go_wp2
  go_ret2
  exact ⟨s, d, rfl, hs, ((Below.refl _ _).alloc (Nat.le_refl _) _).trans (only_below G1.out (Nat.le_refl _) (by simp))⟩
set_option maxHeartbeats 1000000 in
theorem drawDeint_any (v : Value) (w : World) (h : CodeOk w.heap.size w v) :
    Calls Try.prog 61 #[v] w fun e w' => ∃ (s : ByteArray) (d : Int), e = .returned (.tuple #[.string s, .int .i64 d]) ∧ s.size ≤ 66 ∧ Below w.heap.size w w' := by
  have H := hid h
  clear h
  go_enter Try.func61, Try.ntmps61
  go_wp2_with fail
  refine (drawInter_any v _ H.out).mono ?_
  rintro e w1 ⟨s, d, rfl, hs, b1⟩
  go_wp2
  go_ret2
  exact ⟨s, d, rfl, hs, b1⟩
set_option maxHeartbeats 1000000 in
theorem drawBurst_any (v : Value) (w : World) (h : CodeOk w.heap.size w v) :
    Calls Try.prog 63 #[v] w fun e w' => ∃ (s : ByteArray) (f l : Int), e = .returned (.tuple #[.string s, .int .i64 f, .int .i64 l]) ∧ (s.size ≤ 66 ∧ -1 ≤ f ∧ f ≤ 100 ∧ 0 ≤ l ∧ l ≤ 10) ∧ Below w.heap.size w w' := by
  have H := hid (cur_new w v h)
  obtain ⟨a, len, cap, rfl, hlen, hx⟩ := h
  clear hlen hx
  go_enter Try.func63, Try.ntmps63
  go_wp2_with fail
  refine (rowsText_any w.heap.size w.heap.size 0 _ H.out (by omega)).mono ?_
  rintro e w1 ⟨s, d, rfl, hs, hd, c1, g1⟩
  have C1 := hid c1; have G1 := hid g1; clear c1 g1
  go_wp2_with fail
  refine (pick_any w.heap.size w.heap.size _ (s.size + 2) _ C1.out (by omega) (by omega)).mono ?_
  rintro e w2 ⟨r, hr, rfl, c2, g2⟩
  have C2 := hid c2; have G2 := hid (only_trans G1.out g2); clear c2 g2 C1 G1
  go_wp2_with fail
  refine (pick_any w.heap.size w.heap.size _ 6 _ C2.out (by omega) (by omega)).mono ?_
  rintro e w3 ⟨q, hq, rfl, c3, g3⟩
  have G3 := hid (only_trans G2.out g3); clear c3 g3 C2 G2
  have e1 : IntKind.i64.wrap ((r : Int) - 1) = r - 1 := by rw [IntKind.wrap_i64]; omega
  go_wp2
  refine bodyPost_ret (v := .tuple #[.string s, .int .i64 ((r : Int) - 1), .int .i64 (q : Nat)]) (by first | rfl | simp [results, Try.f63, go_sem]) rfl ⟨s, (r : Int) - 1, q, rfl, ⟨hs, by omega, by omega, by omega, by omega⟩, ((Below.refl _ _).alloc (Nat.le_refl _) _).trans (only_below G3.out (Nat.le_refl _) (by simp))⟩
set_option maxHeartbeats 1000000 in
theorem drawHit_any (v : Value) (w : World) (h : CodeOk w.heap.size w v) :
    Calls Try.prog 65 #[v] w fun e w' => ∃ (n : Nat) (d : Int) (f l : Nat), e = .returned (.tuple #[.int .i64 (n : Nat), .int .i64 d, .int .i64 (f : Nat), .int .i64 (l : Nat)]) ∧ (n ≤ 66 ∧ f ≤ 100 ∧ l ≤ 10) ∧ Below w.heap.size w w' := by
  have H := hid (cur_new w v h)
  obtain ⟨a, len, cap, rfl, hlen, hx⟩ := h
  clear hlen hx
  go_enter Try.func65, Try.ntmps65
  go_wp2_with fail
  refine (rowsText_any w.heap.size w.heap.size 0 _ H.out (by omega)).mono ?_
  rintro e w1 ⟨s, d, rfl, hs, hd, c1, g1⟩
  have C1 := hid c1; have G1 := hid g1; clear c1 g1
  go_wp2_with fail
  refine (pick_any w.heap.size w.heap.size _ (s.size + 2) _ C1.out (by omega) (by omega)).mono ?_
  rintro e w2 ⟨r, hr, rfl, c2, g2⟩
  have C2 := hid c2; have G2 := hid (only_trans G1.out g2); clear c2 g2 C1 G1
  go_wp2_with fail
  refine (pick_any w.heap.size w.heap.size _ 8 _ C2.out (by omega) (by omega)).mono ?_
  rintro e w3 ⟨q, hq, rfl, c3, g3⟩
  have G3 := hid (only_trans G2.out g3); clear c3 g3 C2 G2
  go_wp2
  refine bodyPost_ret (v := .tuple #[.int .i64 (s.size : Nat), .int .i64 d, .int .i64 (r : Nat), .int .i64 (q : Nat)]) (by first | rfl | simp [results, Try.f65, go_sem]) rfl ⟨s.size, d, r, q, rfl, ⟨hs, by omega, by omega⟩, ((Below.refl _ _).alloc (Nat.le_refl _) _).trans (only_below G3.out (Nat.le_refl _) (by simp))⟩
end Go.Proofs.Ythmkeinhjlmgmad
