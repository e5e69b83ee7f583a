/-
  What is drawn for pieces: some texts, and numbers beside them; nothing old is written.
-/
import Derived.Test.YtijojdempijhbadDrawPieces
import Derived.Test.YtijojdempijhbadSWithPar
namespace Go.Proofs.Ytijojdempijhbad
open Go.RowKit

set_option maxHeartbeats 1000000 in
theorem drawPar_any (v : Value) (w : World) (h : CodeOk w.heap.size w v) :
    Calls Try.prog 142 #[v] w fun e w' => ∃ u, e = .returned u ∧ ∃ xs : List XEl, (xs.length ≤ 9 ∧ ∀ s ∈ xs, s.size ≤ 18) ∧ XOwn w.heap.size w'.heap.size w' u xs ∧ Below w.heap.size w w' := by
  have H := hid (cur_new w v h)
  obtain ⟨a, len, cap, rfl, hlen, hx⟩ := h
  clear hlen hx
  go_enter Try.func142, Try.ntmps142
  go_wp2_with fail
  refine (pieces_any w.heap.size w.heap.size 0 _ H.out (by omega)).mono ?_
  rintro e w1 ⟨u, rfl, xs, hxs, o1, c1, g1⟩
  have O1 := hid o1; have G1 := hid g1; have HX := hid hxs; clear c1 g1 o1 hxs
  go_wp2
  go_ret
  exact ⟨_, rfl, xs, HX.out, O1.out.mono (by simp) (Nat.le_refl _), ((Below.refl _ _).alloc (Nat.le_refl _) _).trans (only_below G1.out (Nat.le_refl _) (by simp))⟩
set_option maxHeartbeats 1000000 in
theorem drawWp_any (v : Value) (w : World) (h : CodeOk w.heap.size w v) :
    Calls Try.prog 55 #[v] w fun e w' => ∃ u, e = .returned u ∧ ∃ xs : List XEl, (xs.length ≤ 9 ∧ ∀ s ∈ xs, s.size ≤ 18) ∧ XOwn w.heap.size w'.heap.size w' u xs ∧ Below w.heap.size w w' := by
  have H := hid h
  clear h
  go_enter Try.func55, Try.ntmps55
  go_wp2_with fail
  refine (drawPar_any v _ H.out).mono ?_
  rintro e w1 ⟨u, rfl, xs, hxs, o1, b1⟩
  have O1 := hid o1; have B1 := hid b1; have HX := hid hxs; clear b1 o1 hxs
  go_wp2
  go_ret
  exact ⟨_, rfl, xs, HX.out, O1.out, B1.out⟩
set_option maxHeartbeats 1000000 in
theorem drawMend_any (v : Value) (w : World) (h : CodeOk w.heap.size w v) :
    Calls Try.prog 64 #[v] w fun e w' => ∃ u k, e = .returned (.tuple #[u, .int .i64 k]) ∧ ∃ xs : List XEl, (xs.length ≤ 9 ∧ ∀ s ∈ xs, s.size ≤ 18) ∧ XOwn w.heap.size w'.heap.size w' u xs ∧ Below w.heap.size w w' := by
  have H := hid (cur_new w v h)
  obtain ⟨a, len, cap, rfl, hlen, hx⟩ := h
  clear hlen hx
  go_enter Try.func64, Try.ntmps64
  go_wp2_with fail
  refine (pieces_any w.heap.size w.heap.size 0 _ H.out (by omega)).mono ?_
  rintro e w1 ⟨u, rfl, xs, hxs, o1, c1, g1⟩
  have hs1 : w.heap.size + 1 ≤ w1.heap.size := by have := g1.size; simpa using this
  obtain ⟨ua, uc, rfl⟩ : ∃ a c, u = .slice a xs.length c := by obtain ⟨a, c, e, _⟩ := o1.reads; exact ⟨a, c, e⟩
  have O1 := hid o1; have C1 := hid c1; have G1 := hid g1; have HX := hid hxs; have hx9 := hxs.1; clear c1 g1 o1 hxs
  obtain ⟨n2, hn2⟩ : ∃ n2, xs.length + 2 = n2 := ⟨_, rfl⟩
  have e1 : (xs.length : Int) + 2 = (n2 : Nat) := by rw [← hn2]; simp
  have e2 : IntKind.i64.wrap (n2 : Int) = (n2 : Nat) := by rw [IntKind.wrap_i64]; omega
  go_wp2_with fail
  refine (pick_any w.heap.size w.heap.size _ n2 _ C1.out (by omega) (by omega)).mono ?_
  rintro e w2 ⟨r, hr, rfl, c2, g2⟩
  have O2 := hid (O1.out.at (w' := w2) fun g' h1 h2 h3 => g2.block g' h3 (by intro e; cases e; rw [World.size_alloc] at h1; omega))
  have hs2 := g2.size
  have G2 := hid (only_trans G1.out g2); clear c2 g2 C1 G1 O1
  obtain ⟨z, hz⟩ : ∃ z : Int, (r : Int) - 1 = z := ⟨_, rfl⟩
  have e3 : IntKind.i64.wrap ((r : Int) - 1) = z := by rw [IntKind.wrap_i64]; omega
  clear e1 e2 hz
  go_wp2
  go_ret2
  exact ⟨_, z, rfl, xs, HX.out, O2.out.mono (by simp) hs2, ((Below.refl _ _).alloc (Nat.le_refl _) _).trans (only_below G2.out (Nat.le_refl _) (by simp))⟩
set_option maxHeartbeats 1000000 in
theorem drawJoinP_any (v : Value) (w : World) (h : CodeOk w.heap.size w v) :
    Calls Try.prog 71 #[v] w fun e w' => ∃ u k, e = .returned (.tuple #[u, .int .i64 k]) ∧ ∃ xs : List XEl, (xs.length ≤ 9 ∧ ∀ s ∈ xs, s.size ≤ 18) ∧ XOwn w.heap.size w'.heap.size w' u xs ∧ Below w.heap.size w w' := by
  have H := hid (cur_new w v h)
  obtain ⟨a, len, cap, rfl, hlen, hx⟩ := h
  clear hlen hx
  go_enter Try.func71, Try.ntmps71
  go_wp2_with fail
  refine (pieces_any w.heap.size w.heap.size 0 _ H.out (by omega)).mono ?_
  rintro e w1 ⟨u, rfl, xs, hxs, o1, c1, g1⟩
  have hs1 : w.heap.size + 1 ≤ w1.heap.size := by have := g1.size; simpa using this
  obtain ⟨ua, uc, rfl⟩ : ∃ a c, u = .slice a xs.length c := by obtain ⟨a, c, e, _⟩ := o1.reads; exact ⟨a, c, e⟩
  have O1 := hid o1; have C1 := hid c1; have G1 := hid g1; have HX := hid hxs; clear c1 g1 o1 hxs
  go_wp2_with fail
  refine (pick_any w.heap.size w.heap.size _ 30 _ C1.out (by omega) (by omega)).mono ?_
  rintro e w2 ⟨r, hr, rfl, c2, g2⟩
  have O2 := hid (O1.out.at (w' := w2) fun g' h1 h2 h3 => g2.block g' h3 (by intro e; cases e; rw [World.size_alloc] at h1; omega))
  have hs2 := g2.size
  have G2 := hid (only_trans G1.out g2); clear c2 g2 C1 G1 O1
  go_wp2
  go_ret2
  exact ⟨_, (r : Int), rfl, xs, HX.out, O2.out.mono (by simp) hs2, ((Below.refl _ _).alloc (Nat.le_refl _) _).trans (only_below G2.out (Nat.le_refl _) (by simp))⟩
set_option maxHeartbeats 2000000 in
theorem drawWhole_any (v : Value) (w : World) (h : CodeOk w.heap.size w v) :
    Calls Try.prog 66 #[v] w fun e w' => ∃ u, e = .returned u ∧ ∃ xs : List XEl, XOwn w.heap.size w'.heap.size w' u xs ∧ Below w.heap.size w w' := by
  have H := hid (cur_new w v h)
  obtain ⟨a, len, cap, rfl, hlen, hx⟩ := h
  clear hlen hx
  go_enter Try.func66, Try.ntmps66
  go_wp2_with fail
  refine (pieces_any w.heap.size w.heap.size 0 _ H.out (by omega)).mono ?_
  rintro e w1 ⟨u, rfl, xs, hxs, o1, c1, g1⟩
  have hs1 : w.heap.size + 1 ≤ w1.heap.size := by have := g1.size; simpa using this
  have O1 := hid (o1.mono (show w.heap.size ≤ _ by simp) (Nat.le_refl _)); have C1 := hid c1; have L1 : Hid (∀ g, w.heap.size + 1 ≤ g ∨ True) := fun _ => .inr trivial
  have OX := hid o1
  have B1 : Hid (Below w.heap.size w w1) := ((Below.refl _ _).alloc (Nat.le_refl _) _).trans (only_below g1 (Nat.le_refl _) (by simp))
  clear c1 g1 o1 hxs
  obtain ⟨Y, hY⟩ : ∃ Y, wpL xs = Y := ⟨_, rfl⟩
  obtain ⟨t, ht⟩ : ∃ t, wpB xs = t := ⟨_, rfl⟩
  have HY := hid hY
  have Ht := hid ht
  clear hY ht
  go_wp2_with fail
  refine (swithpar_any _ xs Y t HY.out Ht.out _ O1.out.reads).mono ?_
  rintro e w2 ⟨u2, rfl, o2, b2⟩
  have hs2 := b2.size
  have C2 := hid (C1.out.below b2)
  have OX2 := hid (OX.out.below b2)
  have O2 := hid o2
  have B2 := hid (B1.out.trans (b2.mono B1.out.size))
  clear o2 b2 C1 OX B1 O1
  cases t
  · go_wp2
    go_ret
    exact ⟨_, rfl, xs, (OX2.out.mono (by simp) hs2), B2.out⟩
  · go_wp2_with fail
    refine (one_any w.heap.size w.heap.size _ 2 _ C2.out (by omega) (by omega)).mono ?_
    rintro e w3 ⟨t3, rfl, c3, g3⟩
    have hs3 := g3.size
    have B3 : Hid (Below w.heap.size w w3) := B2.out.trans (only_below g3 (Nat.le_refl _) B2.out.size)
    have OX3 := hid (OX2.out.at (w' := w3) fun g' h1 h2 h3 => g3.block g' h3 (by intro e; cases e; rw [World.size_alloc] at h1; omega))
    have O3 := hid (O2.out.at (w' := w3) fun g' h1 h2 h3 => g3.block g' h3 (by intro e; cases e; omega))
    clear c3 g3 C2 OX2 O2 B2
    cases t3
    · go_wp2
      go_ret
      exact ⟨_, rfl, xs, (OX3.out.mono (by simp) (by omega)), B3.out⟩
    · go_wp2
      go_ret
      exact ⟨_, rfl, Y, (O3.out.mono (by omega) (by omega)), B3.out⟩
end Go.Proofs.Ytijojdempijhbad
