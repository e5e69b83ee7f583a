/-
  What is drawn for letters heard of: a sender and some spans; nothing old is written.
-/
import Derived.Test.YtnkpboobfkjibadDrawHeard
namespace Go.Proofs.Ytnkpboobfkjibad
open Go.RowKit

set_option maxRecDepth 100000 in
set_option maxHeartbeats 8000000 in
theorem drawHear_any (v : Value) (w : World) (h : CodeOk w.heap.size w v) :
    Calls Try.prog 30 #[v] w fun e w' => ∃ u ul, e = .returned (.tuple #[u, ul]) ∧ ∃ (D : SdD) (l : List Sp), SdNew w.heap.size w' u D ∧ SpReads w' ul l ∧ Below w.heap.size w w' := by
  obtain ⟨PR, BR, hsR⟩ := box_three (w := w) (.int .i64 0) (.slice none 0 0) (.slice none 0 0) 49
  obtain ⟨W, hW⟩ : ∃ W, W = w.alloc (.cells #[.int .i64 0, .slice none 0 0, .slice none 0 0] 49) := ⟨_, rfl⟩
  rw [← hW] at PR BR hsR
  have HK := code_up11 h BR (show w.heap.size ≤ W.heap.size by omega)
  have HC := hid (cur_new W v HK)
  obtain ⟨a, len, cap, rfl, hlen, hx⟩ := h
  have hsC : (W.alloc (.cells #[.slice a len cap, .int .i64 0, .int .u64 0] 109)).heap.size = W.heap.size + 1 := World.size_alloc _ _
  have BC : Below W.heap.size W (W.alloc (.cells #[.slice a len cap, .int .i64 0, .int .u64 0] 109)) := (Below.refl _ _).alloc (Nat.le_refl _) _
  obtain ⟨W1, hW1⟩ : ∃ X, X = W.alloc (.cells #[.slice a len cap, .int .i64 0, .int .u64 0] 109) := ⟨_, rfl⟩
  rw [← hW1] at HC hsC BC
  have HR := hid (PR.below BC PR.lt)
  have B := hid (BR.trans (BC.mono BR.size))
  rw [hW] at hW1
  have HW1 := hid hW1
  have hcw : W.heap.size = w.heap.size + 1 := hsR
  rw [hcw] at HC hsC
  clear hlen hx PR BR BC hW hW1 HK hsR
  go_enter Try.func30, Try.ntmps30
  go_wp2_with fail
  rw [← HW1.out]
  clear HW1
  refine (sender_any (w.heap.size + 1) (w.heap.size + 1) 0 _ HC.out (by omega)).mono ?_
  rintro e w1 ⟨u, rfl, D, sd, hf, c1, g1⟩
  obtain ⟨a1, n1, k1, a2, n2, k2, rfl⟩ := sd.form
  have hs1 := g1.size
  obtain ⟨n, hn⟩ : ∃ n : Nat, D.f0 = (n : Int) := ⟨D.f0.toNat, by omega⟩
  have hn60 : n ≤ 60 := by omega
  rw [hn] at sd ⊢
  have R1 := hid (HR.out.of_block (g1.block w.heap.size (by omega) (by intro e; injection e with e; omega)))
  have B1 := hid (B.out.trans (only_below g1 (show w.heap.size ≤ w.heap.size + 1 by omega) (by omega)))
  obtain ⟨PX, BX, hsX⟩ := box_three (w := w1) (.int .i64 (n : Nat)) (.slice a1 n1 k1) (.slice a2 n2 k2) 49
  obtain ⟨W2, hW2⟩ : ∃ X, X = w1.alloc (.cells #[.int .i64 (n : Nat), .slice a1 n1 k1, .slice a2 n2 k2] 49) := ⟨_, rfl⟩
  rw [← hW2] at PX BX hsX
  have R2 := hid (R1.out.below BX R1.out.lt)
  have B2 := hid (B1.out.trans (BX.mono B1.out.size))
  have X2 := hid PX
  have S2 := hid (((sd.mono (lo' := w.heap.size + 2) (by omega)).upto).at (w' := W2) fun j _ _ h3 => BX.block j h3)
  have C2 := hid (c1.below BX)
  have HW2 := hid hW2
  have HN := hid hn
  obtain ⟨bx, hbx⟩ : ∃ bx, bx = w1.heap.size := ⟨_, rfl⟩
  rw [← hbx] at X2 hsX S2
  have hbw : w.heap.size + 2 ≤ bx := by omega
  clear sd hf c1 g1 R1 B1 PX BX hW2 hn HR B HC hs1 hsC hcw
  obtain ⟨q0, q1, q2⟩ := X2.out.three
  go_wp2_with fail
  rw [← HW2.out, ← hbx]
  clear HW2 hbx q0 q1 q2
  refine (order11_any (w.heap.size + 1) (w.heap.size + 1) _ n _ C2.out (by omega) hn60).mono ?_
  rintro e w3 ⟨uo, rfl, xs, hxs, o3, c3, g3⟩
  have hs3 := g3.size
  have R3 := hid (R2.out.of_block (g3.block w.heap.size (by omega) (by intro e; injection e with e; omega)))
  have X3 := hid (X2.out.of_block (g3.block bx (by omega) (by intro e; cases e; omega)))
  have S3 := hid (S2.out.at (w' := w3) fun j h1 h2 h3 => g3.block j h3 (by intro e; cases e; omega))
  have B3 := hid (B2.out.trans (only_below g3 (show w.heap.size ≤ w.heap.size + 1 by omega) B2.out.size))
  have C3 := hid c3
  have RO := hid o3.reads
  clear c3 g3 R2 X2 S2 B2 C2 o3 hxs
  obtain ⟨Y, hY⟩ : ∃ Y, acksY xs = Y := ⟨_, rfl⟩
  obtain ⟨ta, hta⟩ : ∃ t, acksB xs = t := ⟨_, rfl⟩
  have HY := hid hY
  have HTA := hid hta
  clear hY hta
  go_wp2_with fail
  refine (sacks_any _ xs _ RO.out Y ta HY.out HTA.out).mono ?_
  rintro e w4 ⟨ul, rfl, o4, b4⟩
  obtain ⟨la, lk, lc, rfl⟩ := o4.sform
  have hlk : lk = Y.length := by obtain ⟨a, c, e, _⟩ := o4.reads; injection e
  subst hlk
  have hs4 := b4.size
  have R4 := hid (R3.out.below b4 R3.out.lt)
  have X4 := hid (X3.out.below b4 X3.out.lt)
  have S4 := hid (S3.out.at (w' := w4) fun j h1 h2 h3 => b4.block j h3)
  have B4 := hid (B3.out.trans (b4.mono B3.out.size))
  have C4 := hid ((C3.out.below b4).mono (show _ ≤ 3000 by omega))
  have L4 := hid (SpNew.of_own (lo := w.heap.size + 2) o4 (by omega))
  clear o4 b4 R3 X3 S3 B3 C3 RO
  have HE : Hid (∀ (V : World) (vl : Value) (l : List Sp), BoxL V w.heap.size [.int .i64 0, .slice none 0 0, .slice none 0 0] → SdUp (w.heap.size + 2) bx V (.slice a1 n1 k1) (.slice a2 n2 k2) D → SpNew (w.heap.size + 2) V vl l → Below w.heap.size w V → ∀ (tmps : Array Value), tmps[2]?.getD undef = .pointer (some ⟨w.heap.size, 0, none⟩) → tmps[3]?.getD undef = vl →
      bodyPost Try.prog Try.f30 (fun e w' => ∃ u ul, e = .returned (.tuple #[u, ul]) ∧ ∃ (D : SdD) (l : List Sp), SdNew w.heap.size w' u D ∧ SpReads w' ul l ∧ Below w.heap.size w w') .ret { tmps := tmps, defers := [] } (((V.setCell ⟨w.heap.size, 0, none⟩ (.int .i64 (n : Nat))).setCell ⟨w.heap.size, 1, none⟩ (.slice a1 n1 k1)).setCell ⟨w.heap.size, 2, none⟩ (.slice a2 n2 k2))) := by
    intro V vl l hP hS hL hb tmps ht ht3
    obtain ⟨x0, x1, x2⟩ := (three_put hP (.int .i64 (n : Nat)) (.slice a1 n1 k1) (.slice a2 n2 k2)).three
    have OO := three_only V w.heap.size (.int .i64 (n : Nat)) (.slice a1 n1 k1) (.slice a2 n2 k2)
    have BL := three_below (lo := w.heap.size) (b := w.heap.size) V (.int .i64 (n : Nat)) (.slice a1 n1 k1) (.slice a2 n2 k2) (Nat.le_refl _)
    refine bodyPost_ret (v := .tuple #[.agg #[.int .i64 (n : Nat), .slice a1 n1 k1, .slice a2 n2 k2], vl]) ?_ rfl ⟨_, _, rfl, ⟨(n : Int), D.f1, D.f2⟩, l, (((hS.at fun j h1 h2 _ => OO.2.1 j (by omega)).new (n : Int)).mono (by omega)), (hL.at fun j hj _ => OO.2.1 j (by omega)).1, hb.trans BL⟩
    simp [results, Try.results30, go_sem, ht, ht3, x0, x1, x2]
  by_cases hy2 : 2 < Y.length
  case' neg =>
    have hy2i : ¬ (2 : Int) < (Y.length : Int) := by omega
    obtain ⟨lk, hlk⟩ : ∃ k, Y.length = k := ⟨_, rfl⟩
    rw [hlk] at L4 hy2i ⊢
    obtain ⟨L, hL⟩ : ∃ L, Y = L := ⟨_, rfl⟩
    rw [hL] at L4
    have C7 := hid (C4.out.mono (show 3000 ≤ 3010 by omega))
    obtain ⟨w7, hw7⟩ : ∃ W, W = w4 := ⟨_, rfl⟩
    rw [← hw7] at C7 R4 X4 S4 B4 L4 hs4 ⊢
    have R7 := R4; have X7 := X4; have S7 := S4; have B7 := B4; have L7 := L4
    have hs7 : w3.heap.size ≤ w7.heap.size := hs4
    clear hlk hL hw7 R4 X4 S4 B4 L4 C4 hy2 hs4 HY HTA
  case' pos =>
    have hy2i : (2 : Int) < (Y.length : Int) := by omega
    go_wp2_with fail
    refine (one_any (w.heap.size + 1) (w.heap.size + 1) _ 2 _ C4.out (by omega) (by omega)).mono ?_
    rintro e w5 ⟨t5, rfl, c5, g5⟩
    have hs5 := g5.size
    have R5 := hid (R4.out.of_block (g5.block w.heap.size (by omega) (by intro e; injection e with e; omega)))
    have X5 := hid (X4.out.of_block (g5.block bx (by omega) (by intro e; cases e; omega)))
    have S5 := hid (S4.out.at (w' := w5) fun j h1 h2 h3 => g5.block j h3 (by intro e; cases e; omega))
    have B5 := hid (B4.out.trans (only_below g5 (show w.heap.size ≤ w.heap.size + 1 by omega) B4.out.size))
    have L5 := hid (L4.out.at (w' := w5) fun j h1 h2 => g5.block j h2 (by intro e; cases e; omega))
    have C5 := hid c5
    clear c5 g5 R4 X4 S4 B4 L4 C4
    cases t5
    case' false =>
      obtain ⟨lk, hlk⟩ : ∃ k, Y.length = k := ⟨_, rfl⟩
      rw [hlk] at L5 hy2i ⊢
      obtain ⟨L, hL⟩ : ∃ L, Y = L := ⟨_, rfl⟩
      rw [hL] at L5
      have C7 := hid (C5.out.mono (show _ ≤ 3010 by omega))
      obtain ⟨w7, hw7⟩ : ∃ W, W = w5 := ⟨_, rfl⟩
      rw [← hw7] at C7 R5 X5 S5 B5 L5 hs5 ⊢
      have R7 := R5; have X7 := X5; have S7 := S5; have B7 := B5; have L7 := L5
      have hs7 : w3.heap.size ≤ w7.heap.size := by omega
      clear hlk hL hw7 R5 X5 S5 B5 L5 C5 hy2 hs4 hs5 HY HTA
    case' true =>
      go_wp2_with fail
      refine (pick_any (w.heap.size + 1) (w.heap.size + 1) _ 2 _ C5.out (by omega) (by omega)).mono ?_
      rintro e w7 ⟨r, hr, rfl, c7, g7⟩
      have hs7' := g7.size
      have R7 := hid (R5.out.of_block (g7.block w.heap.size (by omega) (by intro e; injection e with e; omega)))
      have X7 := hid (X5.out.of_block (g7.block bx (by omega) (by intro e; cases e; omega)))
      have S7 := hid (S5.out.at (w' := w7) fun j h1 h2 h3 => g7.block j h3 (by intro e; cases e; omega))
      have B7 := hid (B5.out.trans (only_below g7 (show w.heap.size ≤ w.heap.size + 1 by omega) B5.out.size))
      have L6 := hid (L5.out.at (w' := w7) fun j h1 h2 => g7.block j h2 (by intro e; cases e; omega))
      obtain ⟨lk, hlk⟩ : ∃ k, 1 + r = k := ⟨_, rfl⟩
      have e1 : (1 : Int) + (r : Int) = (lk : Nat) := by rw [← hlk]; simp
      have e2 : IntKind.i64.wrap (lk : Int) = (lk : Nat) := by rw [IntKind.wrap_i64]; omega
      have hlc : Y.length ≤ lc := by obtain ⟨a, c, e, hl, _⟩ := L6.out.1; injection e with _ _ e3; subst e3; exact hl.2
      have e3 : lk ≤ lc := by omega
      have L7 := hid (L6.out.take (k := lk) (by omega) (by omega))
      generalize Y.take lk = L at L7
      have C7 := hid (c7.mono (show _ ≤ 3010 by omega))
      have hs7 : w3.heap.size ≤ w7.heap.size := by omega
      clear hlk c7 g7 R5 X5 S5 B5 L5 C5 L6 hy2 hs4 hs5 hs7' HY HTA hr
  all_goals
    go_wp2_with fail
    refine (one_any (w.heap.size + 1) (w.heap.size + 1) _ 12 _ C7.out (by omega) (by omega)).mono ?_
    rintro e w8 ⟨t8, rfl, c8, g8⟩
    have hs8 := g8.size
    have R8 := hid (R7.out.of_block (g8.block w.heap.size (by omega) (by intro e; injection e with e; omega)))
    have X8 := hid (X7.out.of_block (g8.block bx (by omega) (by intro e; cases e; omega)))
    have S8 := hid (S7.out.at (w' := w8) fun j h1 h2 h3 => g8.block j h3 (by intro e; cases e; omega))
    have B8 := hid (B7.out.trans (only_below g8 (show w.heap.size ≤ w.heap.size + 1 by omega) B7.out.size))
    have L8 := hid (L7.out.at (w' := w8) fun j h1 h2 => g8.block j h2 (by intro e; cases e; omega))
    have C8 := hid c8
    clear c8 g8 R7 X7 S7 B7 L7 C7
    cases t8
    · obtain ⟨z0, z1, z2⟩ := X8.out.three
      obtain ⟨⟨y0, f0⟩, ⟨y1, f1⟩, y2, f2⟩ := R8.out.form3
      go_wp2
      refine HE.out _ (.slice la lk lc) L R8.out S8.out L8.out B8.out _ ?_ ?_
      · rfl
      · rfl
    · go_wp2_with fail
      refine (spans_any (w.heap.size + 1) (w.heap.size + 1) _ _ C8.out (by omega)).mono ?_
      rintro e w9 ⟨vs, rfl, ys, _, o9, c9, g9⟩
      have hs9 := g9.size
      have R9 := hid (R8.out.of_block (g9.block w.heap.size (by omega) (by intro e; injection e with e; omega)))
      have X9 := hid (X8.out.of_block (g9.block bx (by omega) (by intro e; cases e; omega)))
      have S9 := hid (S8.out.at (w' := w9) fun j h1 h2 h3 => g9.block j h3 (by intro e; cases e; omega))
      have B9 := hid (B8.out.trans (only_below g9 (show w.heap.size ≤ w.heap.size + 1 by omega) B8.out.size))
      obtain ⟨sa, sk, sc, rfl⟩ := o9.k.sform
      have L9 := hid (SpNew.of_own (lo := w.heap.size + 2) o9.k (by omega))
      clear c9 g9 R8 X8 S8 B8 C8 L8 o9
      obtain ⟨z0, z1, z2⟩ := X9.out.three
      obtain ⟨⟨y0, f0⟩, ⟨y1, f1⟩, y2, f2⟩ := R9.out.form3
      go_wp2
      refine HE.out _ (.slice sa sk sc) ys R9.out S9.out L9.out B9.out _ ?_ ?_
      · rfl
      · rfl
end Go.Proofs.Ytnkpboobfkjibad
