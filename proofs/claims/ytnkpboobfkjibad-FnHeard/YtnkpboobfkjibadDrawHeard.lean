/-
  What is drawn for letters heard of: a sender and some spans, a sender, a number; nothing old is written.
-/
import Derived.Test.YtnkpboobfkjibadDrawSender
import Derived.Test.YtnkpboobfkjibadDraw
import Derived.Test.YtnkpboobfkjibadSHas1
namespace Go.Proofs.Ytnkpboobfkjibad
open Go.RowKit

set_option maxRecDepth 100000 in
set_option maxHeartbeats 1000000 in
theorem drawNewSd_any (v : Value) (w : World) (h : CodeOk w.heap.size w v) :
    Calls Try.prog 43 #[v] w fun e w' => ∃ z : Int, e = .returned (.int .i64 z) ∧ Below w.heap.size w w' := by
  have H := hid (cur_new w v h)
  obtain ⟨a, len, cap, rfl, hlen, hx⟩ := h
  clear hlen hx
  have hs : (w.alloc (.cells #[.slice a len cap, .int .i64 0, .int .u64 0] 109)).heap.size = w.heap.size + 1 := World.size_alloc _ _
  obtain ⟨W1, hW1⟩ : ∃ W, W = w.alloc (.cells #[.slice a len cap, .int .i64 0, .int .u64 0] 109) := ⟨_, rfl⟩
  have B1 : Hid (Below w.heap.size w W1) := by rw [hW1]; exact (Below.refl _ _).alloc (Nat.le_refl _) _
  rw [← hW1] at H hs
  have HW1 := hid hW1
  clear hW1
  go_enter Try.func43, Try.ntmps43
  go_wp2_with fail
  rw [← HW1.out]
  clear HW1
  obtain ⟨W2, hW2⟩ : ∃ W, W = W1.alloc (.cells #[.int .i64 (-1), .int .i64 0, .int .i64 7, .int .i64 60, .int .i64 61] 3) := ⟨_, rfl⟩
  have HL : ∀ i, i < 5 → ∃ z : Int, True ∧ W2.cell? ⟨w.heap.size + 1, i, none⟩ = some (.int .i64 z) := by rw [hW2, ← hs]; exact lit_in12 (fun _ => True) W1 [-1, 0, 7, 60, 61] _ (by simp)
  have C2 : Cur w.heap.size W2 w.heap.size 0 := by rw [hW2]; exact H.out.below ((Below.refl _ _).alloc (Nat.le_refl _) _)
  have B2' : Below w.heap.size w W2 := by rw [hW2]; exact B1.out.alloc B1.out.size _
  have hs2 : w.heap.size ≤ W2.heap.size := B2'.size
  rw [← hW2]
  clear hW2
  refine (among_in12 (fun _ => True) w.heap.size w.heap.size 0 (w.heap.size + 1) 5 5 _ C2 (by omega) (by omega) HL (by omega) (by omega)).mono ?_
  rintro e w2 ⟨z, _, rfl, c2, g2⟩
  have B2 : Hid (Below w.heap.size w w2) := B2'.trans (only_below g2 (Nat.le_refl _) hs2)
  clear c2 g2
  go_wp2
  go_ret
  exact ⟨z, rfl, B2.out⟩
/-- A sender whose rows lie in blocks from lo on, below hi. -/
def SdUp (lo hi : Nat) (w : World) (v1 v2 : Value) (D : SdD) : Prop := SpOwn lo hi w v1 D.f1 ∧ KOwn lo hi w v2 D.f2
theorem SdUp.at {lo hi : Nat} {w w' : World} {v1 v2 : Value} {D : SdD} (h : SdUp lo hi w v1 v2 D) (hk : ∀ g, lo ≤ g → g < hi → g < w.heap.size → w'.heap[g]? = w.heap[g]?) : SdUp lo hi w' v1 v2 D := ⟨h.1.at hk, h.2.at hk⟩
theorem SdUp.new {lo hi : Nat} {w : World} {v1 v2 : Value} {D : SdD} (h : SdUp lo hi w v1 v2 D) (z : Int) : SdNew lo w (.agg #[.int .i64 z, v1, v2]) ⟨z, D.f1, D.f2⟩ := ⟨v1, v2, (lo, hi), (lo, hi), rfl, h.1, h.2, Nat.le_refl _, Nat.le_refl _⟩
theorem SdNew.upto {lo : Nat} {w : World} {z : Int} {v1 v2 : Value} {D : SdD} (h : SdNew lo w (.agg #[.int .i64 z, v1, v2]) D) : SdUp lo w.heap.size w v1 v2 D := by
  obtain ⟨v1', v2', c1, c2, ev, h1, h2, l1, l2⟩ := h
  simp at ev
  obtain ⟨_, rfl, rfl⟩ := ev
  constructor
  · rcases h1.2 with h | ⟨g, cap, e, hg, hr⟩
    · exact ⟨h1.1, .inl h⟩
    · by_cases h0 : D.f1.length = 0
      · exact ⟨h1.1, .inl ⟨_, cap, by rw [e, h0], List.eq_nil_of_length_eq_zero h0⟩⟩
      · exact ⟨h1.1, .inr ⟨g, cap, e, ⟨by omega, lt_of_cell (hr 0 (by omega)).1.1, hg.2.2⟩, hr⟩⟩
  · rcases h2.2 with h | ⟨g, cap, e, hg, hr⟩
    · exact ⟨h2.1, .inl h⟩
    · by_cases h0 : D.f2.length = 0
      · exact ⟨h2.1, .inl ⟨_, cap, by rw [e, h0], List.eq_nil_of_length_eq_zero h0⟩⟩
      · exact ⟨h2.1, .inr ⟨g, cap, e, ⟨by omega, lt_of_cell (hr 0 (by omega)).1, hg.2.2⟩, hr⟩⟩
theorem code_up11 {w W : World} {v : Value} (h : CodeOk w.heap.size w v) (hb : Below w.heap.size w W) (hs : w.heap.size ≤ W.heap.size) : CodeOk W.heap.size W v := by
  obtain ⟨a, len, cap, rfl, hl, hx⟩ := h.below hb
  refine ⟨a, len, cap, rfl, hl, ?_⟩
  rcases hx with hx | ⟨cb, off, rfl, hlt, hc⟩
  · exact .inl hx
  · exact .inr ⟨cb, off, rfl, Nat.lt_of_lt_of_le hlt hs, hc⟩
set_option maxRecDepth 100000 in
set_option maxHeartbeats 4000000 in
theorem drawSend_any (v : Value) (w : World) (h : CodeOk w.heap.size w v) :
    Calls Try.prog 40 #[v] w fun e w' => ∃ u, e = .returned u ∧ ∃ D : SdD, SdNew w.heap.size w' u D ∧ Below w.heap.size w w' := by
  obtain ⟨PR, BR, hsR⟩ := box_three (w := w) (.int .i64 0) (.slice none 0 0) (.slice none 0 0) 49
  obtain ⟨W, hW⟩ : ∃ W, W = w.alloc (.cells #[.int .i64 0, .slice none 0 0, .slice none 0 0] 49) := ⟨_, rfl⟩
  rw [← hW] at PR BR hsR
  have HK := code_up11 h BR (show w.heap.size ≤ W.heap.size by omega)
  have HC := hid (cur_new W v HK)
  obtain ⟨a, len, cap, rfl, hlen, hx⟩ := h
  have hsC : (W.alloc (.cells #[.slice a len cap, .int .i64 0, .int .u64 0] 109)).heap.size = W.heap.size + 1 := World.size_alloc _ _
  have BC : Below W.heap.size W (W.alloc (.cells #[.slice a len cap, .int .i64 0, .int .u64 0] 109)) := (Below.refl _ _).alloc (Nat.le_refl _) _
  obtain ⟨W1, hW1⟩ : ∃ X, X = W.alloc (.cells #[.slice a len cap, .int .i64 0, .int .u64 0] 109) := ⟨_, rfl⟩
  rw [← hW1] at HC hsC BC
  have HR := hid (PR.below BC PR.lt)
  have B := hid (BR.trans (BC.mono BR.size))
  rw [hW] at hW1
  have HW1 := hid hW1
  have hcw : W.heap.size = w.heap.size + 1 := hsR
  rw [hcw] at HC hsC
  clear hlen hx PR BR BC hW hW1 HK hsR
  go_enter Try.func40, Try.ntmps40
  go_wp2_with fail
  rw [← HW1.out]
  clear HW1
  refine (sender_any (w.heap.size + 1) (w.heap.size + 1) 0 _ HC.out (by omega)).mono ?_
  rintro e w1 ⟨u, rfl, D, sd, hf, c1, g1⟩
  obtain ⟨a1, n1, k1, a2, n2, k2, rfl⟩ := sd.form
  have hs1 := g1.size
  obtain ⟨n, hn⟩ : ∃ n : Nat, D.f0 = (n : Int) := ⟨D.f0.toNat, by omega⟩
  have hn60 : n ≤ 60 := by omega
  rw [hn] at sd ⊢
  have R1 := hid (HR.out.of_block (g1.block w.heap.size (by omega) (by intro e; injection e with e; omega)))
  have B1 := hid (B.out.trans (only_below g1 (show w.heap.size ≤ w.heap.size + 1 by omega) (by omega)))
  obtain ⟨PX, BX, hsX⟩ := box_three (w := w1) (.int .i64 (n : Nat)) (.slice a1 n1 k1) (.slice a2 n2 k2) 49
  obtain ⟨W2, hW2⟩ : ∃ X, X = w1.alloc (.cells #[.int .i64 (n : Nat), .slice a1 n1 k1, .slice a2 n2 k2] 49) := ⟨_, rfl⟩
  rw [← hW2] at PX BX hsX
  have R2 := hid (R1.out.below BX R1.out.lt)
  have B2 := hid (B1.out.trans (BX.mono B1.out.size))
  have X2 := hid PX
  have S2 := hid (((sd.mono (lo' := w.heap.size + 2) (by omega)).upto).at (w' := W2) fun j _ _ h3 => BX.block j h3)
  have C2 := hid (c1.below BX)
  have HW2 := hid hW2
  have HN := hid hn
  obtain ⟨bx, hbx⟩ : ∃ bx, bx = w1.heap.size := ⟨_, rfl⟩
  rw [← hbx] at X2 hsX S2
  have hbw : w.heap.size + 2 ≤ bx := by omega
  clear sd hf c1 g1 R1 B1 PX BX hW2 hn HR B HC hs1 hsC hcw
  go_wp2_with fail
  rw [← HW2.out, ← hbx]
  clear HW2 hbx
  refine (one_any (w.heap.size + 1) (w.heap.size + 1) _ 20 _ C2.out (by omega) (by omega)).mono ?_
  rintro e w3 ⟨t3, rfl, c3, g3⟩
  have hs3 := g3.size
  have R3 := hid (R2.out.of_block (g3.block w.heap.size (by omega) (by intro e; injection e with e; omega)))
  have X3 := hid (X2.out.of_block (g3.block bx (by omega) (by intro e; cases e; omega)))
  have S3 := hid (S2.out.at (w' := w3) fun j h1 h2 h3 => g3.block j h3 (by intro e; cases e; omega))
  have B3 := hid (B2.out.trans (only_below g3 (show w.heap.size ≤ w.heap.size + 1 by omega) B2.out.size))
  clear c3 g3 R2 X2 S2 B2 C2
  have HE : Hid (∀ (V : World) (z : Int) (E : SdD), E.f0 = z → BoxL V w.heap.size [.int .i64 0, .slice none 0 0, .slice none 0 0] → SdNew (w.heap.size + 1) V (.agg #[.int .i64 z, .slice a1 n1 k1, .slice a2 n2 k2]) E → Below w.heap.size w V → ∀ (tmps : Array Value), tmps[2]?.getD undef = .pointer (some ⟨w.heap.size, 0, none⟩) →
      bodyPost Try.prog Try.f40 (fun e w' => ∃ u, e = .returned u ∧ ∃ D : SdD, SdNew w.heap.size w' u D ∧ Below w.heap.size w w') .ret { tmps := tmps, defers := [] } (((V.setCell ⟨w.heap.size, 0, none⟩ (.int .i64 z)).setCell ⟨w.heap.size, 1, none⟩ (.slice a1 n1 k1)).setCell ⟨w.heap.size, 2, none⟩ (.slice a2 n2 k2))) := by
    intro V z E hE hP hS hb tmps ht
    obtain ⟨x0, x1, x2⟩ := (three_put hP (.int .i64 z) (.slice a1 n1 k1) (.slice a2 n2 k2)).three
    have OO := three_only V w.heap.size (.int .i64 z) (.slice a1 n1 k1) (.slice a2 n2 k2)
    have BL := three_below (lo := w.heap.size) (b := w.heap.size) V (.int .i64 z) (.slice a1 n1 k1) (.slice a2 n2 k2) (Nat.le_refl _)
    refine bodyPost_ret (v := .agg #[.int .i64 z, .slice a1 n1 k1, .slice a2 n2 k2]) ?_ rfl ⟨_, rfl, E, ((hS.at fun j hj _ => OO.2.1 j (by omega)).mono (by omega)), hb.trans BL⟩
    simp [results, Try.results40, go_sem, ht, x0, x1, x2]
  obtain ⟨⟨y0, f0⟩, ⟨y1, f1⟩, y2, f2⟩ := X3.out.form3
  cases t3
  · obtain ⟨⟨z0, h0⟩, ⟨z1, h1⟩, z2, h2⟩ := R3.out.form3
    go_wp2
    refine HE.out _ (n : Int) ⟨(n : Int), D.f1, D.f2⟩ rfl R3.out ((S3.out.new (n : Int)).mono (by omega)) B3.out _ ?_
    rfl
  · have OO := onlyP_set w3 bx 0 (.int .i64 60)
    have X4 := X3.out.set 0 (by simp) (.int .i64 60)
    have R4 := R3.out.of_block (OO.2.1 w.heap.size (by omega))
    obtain ⟨q0, q1, q2⟩ := X4.three
    obtain ⟨⟨z0, h0⟩, ⟨z1, h1⟩, z2, h2⟩ := R4.form3
    have S4 := hid (((S3.out.at (w' := w3.setCell ⟨bx, 0, none⟩ (.int .i64 60)) fun j h1 h2 _ => OO.2.1 j (by omega)).new 60).mono (lo' := w.heap.size + 1) (by omega))
    have R5 := hid R4
    have B5 := hid (B3.out.setCell (p := ⟨bx, 0, none⟩) (by show w.heap.size ≤ bx; omega) (.int .i64 60))
    clear OO X4 R4
    go_wp2
    refine HE.out _ 60 ⟨60, D.f1, D.f2⟩ rfl R5.out S4.out B5.out _ ?_
    rfl
theorem spreads_take {w : World} {a : Option Addr} {n cap k : Nat} {xs : List Sp} (h : SpReads w (.slice a n cap) xs) (hk : k ≤ xs.length) : SpReads w (.slice a k cap) (xs.take k) := by
  obtain ⟨a', c', e, hl, hx⟩ := h
  cases e
  refine ⟨a, cap, by rw [List.length_take, Nat.min_eq_left hk], by rw [List.length_take, Nat.min_eq_left hk]; omega, ?_⟩
  rcases hx with hx | ⟨b, off, rfl, hc⟩
  · left; subst hx; simp
  · refine .inr ⟨b, off, rfl, fun i hi => ?_⟩
    rw [List.length_take, Nat.min_eq_left hk] at hi
    have := hc i (by omega)
    have e2 : (xs.take k).getD i (0, 0) = xs.getD i (0, 0) := by rw [List.getD_eq_getElem?_getD, List.getElem?_take, if_pos hi, ← List.getD_eq_getElem?_getD]
    rw [e2]
    exact this
/-- Spans in blocks from lo on: what is written below does not touch them. -/
def SpNew (lo : Nat) (w : World) (v : Value) (xs : List Sp) : Prop := SpReads w v xs ∧ ∀ b o k c, v = .slice (some ⟨b, o, none⟩) k c → xs ≠ [] → lo ≤ b
theorem SpNew.at {lo : Nat} {w w' : World} {v : Value} {xs : List Sp} (h : SpNew lo w v xs) (hk : ∀ g, lo ≤ g → g < w.heap.size → w'.heap[g]? = w.heap[g]?) : SpNew lo w' v xs := by
  obtain ⟨⟨a, cap, rfl, hl, hx⟩, hn⟩ := h
  refine ⟨⟨a, cap, rfl, hl, ?_⟩, hn⟩
  rcases hx with hx | ⟨b, off, rfl, hc⟩
  · exact .inl hx
  · by_cases h0 : xs = []
    · exact .inl h0
    · have hb := hn b off _ _ rfl h0
      exact .inr ⟨b, off, rfl, fun i hi => (hc i hi).of_block (hk b hb (hc i hi).lt)⟩
theorem SpNew.of_own {lo l h : Nat} {w : World} {v : Value} {xs : List Sp} (ho : SpOwn l h w v xs) (hl : lo ≤ l) : SpNew lo w v xs := by
  refine ⟨ho.reads, fun b o k c e hne => ?_⟩
  rcases ho.2 with ⟨a, cap, _, e0⟩ | ⟨g, cap, e', hg, _⟩
  · exact absurd e0 hne
  · rw [e] at e'
    cases e'
    omega
theorem SpNew.take {lo : Nat} {w : World} {a : Option Addr} {n cap k : Nat} {xs : List Sp} (h : SpNew lo w (.slice a n cap) xs) (hk : k ≤ xs.length) (h0 : 0 < k) : SpNew lo w (.slice a k cap) (xs.take k) := by
  refine ⟨spreads_take h.1 hk, fun b o k' c e hne => ?_⟩
  injection e with e1 e2 e3
  subst e1
  exact h.2 b o _ _ rfl (fun e => by subst e; simp at hk; omega)
end Go.Proofs.Ytnkpboobfkjibad
