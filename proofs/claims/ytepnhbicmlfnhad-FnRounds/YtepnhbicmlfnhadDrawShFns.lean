/-
  spec.DrawGoodShares, spec.DrawGrowAll, spec.DrawRoundOf, spec.DrawRoundsOf: whatever shares they draw, in memory of their own. Nothing old is written.
-/
import Derived.Test.YtepnhbicmlfnhadDrawShares
namespace Go.Proofs.Ytepnhbicmlfnhad
open Go.RowKit

theorem CodeOk.up {B B' : Nat} {w : World} {v : Value} (h : CodeOk B w v) (hB : B ≤ B') : CodeOk B' w v := by
  obtain ⟨a, len, cap, rfl, hl, hx⟩ := h
  refine ⟨a, len, cap, rfl, hl, ?_⟩
  rcases hx with hx | ⟨cb, off, rfl, hlt, hc⟩
  · exact .inl hx
  · exact .inr ⟨cb, off, rfl, by omega, hc⟩
set_option maxRecDepth 100000 in
set_option maxHeartbeats 4000000 in
theorem drawGood_any (v : Value) (w : World) (h : CodeOk w.heap.size w v) :
    Calls Try.prog 26 #[v] w fun e w' => ∃ u, e = .returned u ∧ ∃ D : ShD, ShOwn (Iv w.heap.size w'.heap.size) w' u D ∧ Below w.heap.size w w' := by
  obtain ⟨PR, BR, hsR⟩ := box_next (w := w) (.slice none 0 0) (.int .i64 0) 25
  obtain ⟨W, hW⟩ : ∃ W, W = w.alloc (.cells #[.slice none 0 0, .int .i64 0] 25) := ⟨_, rfl⟩
  rw [← hW] at PR BR hsR
  have hk := (h.below BR).up (show w.heap.size ≤ W.heap.size by omega)
  have H := cur_new W v hk
  obtain ⟨a, len, cap, rfl, hlen, hx⟩ := h
  obtain ⟨V, hV⟩ : ∃ V, V = W.alloc (.cells #[.slice a len cap, .int .i64 0, .int .u64 0] 61) := ⟨_, rfl⟩
  rw [← hV] at H
  have B2 : Below W.heap.size W V := by rw [hV]; exact (Below.refl _ _).alloc (Nat.le_refl _) _
  have hsV : V.heap.size = W.heap.size + 1 := by rw [hV]; exact World.size_alloc _ _
  have HC := hid H
  have HR := hid (PR.below B2 PR.lt)
  have B : Hid (Below w.heap.size w V) := BR.trans (B2.mono (by omega))
  rw [hW] at hV
  have HV := hid hV
  rw [hsR] at HC
  clear hlen hx hk H PR BR B2 hV hW
  go_enter Try.func26, Try.ntmps26
  go_wp2_with fail
  rw [← HV.out]
  clear HV
  refine (shares_any (w.heap.size + 1) (w.heap.size + 1) 0 _ HC.out (by omega)).mono ?_
  rintro e w1 ⟨u, rfl, D, o1, c1, g1⟩
  obtain ⟨a1, n1, k1, rfl⟩ := o1.form
  obtain ⟨z1, hz1⟩ : ∃ z1, z1 = D.f1 := ⟨_, rfl⟩
  rw [← hz1] at o1 ⊢
  replace HR := hid (HR.out.of_block (g1.block _ HR.out.lt (by intro e; injection e with e; omega)))
  replace B := hid (B.out.trans (only_below g1 (show w.heap.size ≤ w.heap.size + 1 by omega) (by omega)))
  have hs1 := g1.size
  have LF := sh_leaf HR.out B.out (Nat.le_refl _) o1 (by omega) (Nat.le_refl _) (by omega)
  have HO := hid LF.1
  have HB := hid LF.2.1
  obtain ⟨t0, t1⟩ := LF.2.2
  obtain ⟨⟨y0, f0⟩, y1, f1⟩ := HR.out.form2
  clear LF o1 c1 g1 HC hz1 HR B
  go_wp2
  exact bodyPost_ret (v := .agg #[.slice a1 n1 k1, .int .i64 z1]) (by simp [results, Try.results26, go_sem, t0, t1]) rfl ⟨_, rfl, _, HO.out, HB.out⟩
set_option maxRecDepth 100000 in
set_option maxHeartbeats 4000000 in
theorem drawGrow_any (v : Value) (w : World) (h : CodeOk w.heap.size w v) :
    Calls Try.prog 5 #[v] w fun e w' => ∃ u, e = .returned u ∧ ∃ D : ShD, ShOwn (Iv w.heap.size w'.heap.size) w' u D ∧ Below w.heap.size w w' := by
  obtain ⟨PR, BR, hsR⟩ := box_next (w := w) (.slice none 0 0) (.int .i64 0) 25
  obtain ⟨W, hW⟩ : ∃ W, W = w.alloc (.cells #[.slice none 0 0, .int .i64 0] 25) := ⟨_, rfl⟩
  rw [← hW] at PR BR hsR
  have HK := hid ((h.below BR).up (show w.heap.size ≤ W.heap.size by omega))
  obtain ⟨a, len, cap, rfl, hlen, hx⟩ := h
  have HR := hid PR
  have B := hid BR
  have HW := hid hW
  clear hlen hx PR BR hW
  go_enter Try.func5, Try.ntmps5
  go_wp2_with fail
  rw [← HW.out]
  clear HW
  refine (drawGood_any _ _ HK.out).mono ?_
  rintro e w1 ⟨u, rfl, D, o1, b1⟩
  obtain ⟨a1, n1, k1, rfl⟩ := o1.form
  obtain ⟨z1, hz1⟩ : ∃ z1, z1 = D.f1 := ⟨_, rfl⟩
  rw [← hz1] at o1 ⊢
  have hs1 := b1.size
  replace HR := hid (HR.out.below b1 HR.out.lt)
  replace B := hid (B.out.trans (b1.mono (by omega)))
  have LF := sh_leaf HR.out B.out (Nat.le_refl _) o1 (by omega) (Nat.le_refl _) (by omega)
  have HO := hid LF.1
  have HB := hid LF.2.1
  obtain ⟨t0, t1⟩ := LF.2.2
  obtain ⟨⟨y0, f0⟩, y1, f1⟩ := HR.out.form2
  clear LF o1 b1 hz1 HR B
  go_wp2
  exact bodyPost_ret (v := .agg #[.slice a1 n1 k1, .int .i64 z1]) (by simp [results, Try.results5, go_sem, t0, t1]) rfl ⟨_, rfl, _, HO.out, HB.out⟩
set_option maxRecDepth 100000 in
set_option maxHeartbeats 4000000 in
theorem drawRound_any (v : Value) (w : World) (h : CodeOk w.heap.size w v) :
    Calls Try.prog 22 #[v] w fun e w' => ∃ u, e = .returned u ∧ ∃ D : ShD, ShOwn (Iv w.heap.size w'.heap.size) w' u D ∧ Below w.heap.size w w' := by
  obtain ⟨PR, BR, hsR⟩ := box_next (w := w) (.slice none 0 0) (.int .i64 0) 25
  obtain ⟨W, hW⟩ : ∃ W, W = w.alloc (.cells #[.slice none 0 0, .int .i64 0] 25) := ⟨_, rfl⟩
  rw [← hW] at PR BR hsR
  have HK := hid ((h.below BR).up (show w.heap.size ≤ W.heap.size by omega))
  obtain ⟨a, len, cap, rfl, hlen, hx⟩ := h
  have HR := hid PR
  have B := hid BR
  have HW := hid hW
  clear hlen hx PR BR hW
  go_enter Try.func22, Try.ntmps22
  go_wp2_with fail
  rw [← HW.out]
  clear HW
  refine (drawGood_any _ _ HK.out).mono ?_
  rintro e w1 ⟨u, rfl, D, o1, b1⟩
  obtain ⟨a1, n1, k1, rfl⟩ := o1.form
  obtain ⟨z1, hz1⟩ : ∃ z1, z1 = D.f1 := ⟨_, rfl⟩
  rw [← hz1] at o1 ⊢
  have hs1 := b1.size
  replace HR := hid (HR.out.below b1 HR.out.lt)
  replace B := hid (B.out.trans (b1.mono (by omega)))
  have LF := sh_leaf HR.out B.out (Nat.le_refl _) o1 (by omega) (Nat.le_refl _) (by omega)
  have HO := hid LF.1
  have HB := hid LF.2.1
  obtain ⟨t0, t1⟩ := LF.2.2
  obtain ⟨⟨y0, f0⟩, y1, f1⟩ := HR.out.form2
  clear LF o1 b1 hz1 HR B
  go_wp2
  exact bodyPost_ret (v := .agg #[.slice a1 n1 k1, .int .i64 z1]) (by simp [results, Try.results22, go_sem, t0, t1]) rfl ⟨_, rfl, _, HO.out, HB.out⟩
set_option maxRecDepth 100000 in
set_option maxHeartbeats 4000000 in
theorem drawRounds_any (v : Value) (w : World) (h : CodeOk w.heap.size w v) :
    Calls Try.prog 19 #[v] w fun e w' => ∃ u n, e = .returned (.tuple #[u, .int .i64 n]) ∧ ∃ D : ShD, ShOwn (Iv w.heap.size w'.heap.size) w' u D ∧ Below w.heap.size w w' := by
  obtain ⟨PR, BR, hsR⟩ := box_next (w := w) (.slice none 0 0) (.int .i64 0) 25
  obtain ⟨W, hW⟩ : ∃ W, W = w.alloc (.cells #[.slice none 0 0, .int .i64 0] 25) := ⟨_, rfl⟩
  rw [← hW] at PR BR hsR
  have hk := (h.below BR).up (show w.heap.size ≤ W.heap.size by omega)
  have H := cur_new W v hk
  obtain ⟨a, len, cap, rfl, hlen, hx⟩ := h
  obtain ⟨V, hV⟩ : ∃ V, V = W.alloc (.cells #[.slice a len cap, .int .i64 0, .int .u64 0] 61) := ⟨_, rfl⟩
  rw [← hV] at H
  have B2 : Below W.heap.size W V := by rw [hV]; exact (Below.refl _ _).alloc (Nat.le_refl _) _
  have hsV : V.heap.size = W.heap.size + 1 := by rw [hV]; exact World.size_alloc _ _
  have HC := hid H
  have HR := hid (PR.below B2 PR.lt)
  have B : Hid (Below w.heap.size w V) := BR.trans (B2.mono (by omega))
  rw [hW] at hV
  have HV := hid hV
  rw [hsR] at HC
  clear hlen hx hk H PR BR B2 hV hW
  go_enter Try.func19, Try.ntmps19
  go_wp2_with fail
  rw [← HV.out]
  clear HV
  refine (shares_any (w.heap.size + 1) (w.heap.size + 1) 0 _ HC.out (by omega)).mono ?_
  rintro e w1 ⟨u, rfl, D, o1, c1, g1⟩
  obtain ⟨a1, n1, k1, rfl⟩ := o1.form
  obtain ⟨z1, hz1⟩ : ∃ z1, z1 = D.f1 := ⟨_, rfl⟩
  rw [← hz1] at o1 ⊢
  replace HR := hid (HR.out.of_block (g1.block _ HR.out.lt (by intro e; injection e with e; omega)))
  replace B := hid (B.out.trans (only_below g1 (show w.heap.size ≤ w.heap.size + 1 by omega) (by omega)))
  have hs1 := g1.size
  have LT := hid (lit_new w1 [-1, 0, 1, 5, 20, 40, 41] 3)
  have B5 : Below w1.heap.size w1 (w1.alloc (.cells #[.int .i64 (-1), .int .i64 0, .int .i64 1, .int .i64 5, .int .i64 20, .int .i64 40, .int .i64 41] 3)) := (Below.refl _ _).alloc (Nat.le_refl _) _
  have HC1 := hid (c1.below B5)
  replace HR := hid (HR.out.below B5 HR.out.lt)
  replace B := hid (B.out.trans (B5.mono B.out.size))
  have O := hid (o1.below B5)
  have hs5 : (w1.alloc (.cells #[.int .i64 (-1), .int .i64 0, .int .i64 1, .int .i64 5, .int .i64 20, .int .i64 40, .int .i64 41] 3)).heap.size = w1.heap.size + 1 := World.size_alloc _ _
  have HDEF : Hid (∀ i, i < 7 → True) := fun _ _ => trivial
  clear o1 c1 g1 HC B5 HDEF hz1
  go_wp2_with fail
  refine (among_any (w.heap.size + 1) (w.heap.size + 1) 100 w1.heap.size 7 7 _ HC1.out (by omega) (by omega) LT.out (by omega) (by omega)).mono ?_
  rintro e w2 ⟨n2, rfl, c2, g2⟩
  replace HR := hid (HR.out.of_block (g2.block _ HR.out.lt (by intro e; injection e with e; omega)))
  replace B := hid (B.out.trans (only_below g2 (show w.heap.size ≤ w.heap.size + 1 by omega) (by omega)))
  replace O := hid (O.out.grow g2 (by omega))
  have hs2 := g2.size
  have LF := sh_leaf HR.out B.out (Nat.le_refl _) O.out (by omega) (by omega) (by omega)
  have HO := hid LF.1
  have HB := hid LF.2.1
  obtain ⟨t0, t1⟩ := LF.2.2
  obtain ⟨⟨y0, f0⟩, y1, f1⟩ := HR.out.form2
  clear LF O c2 g2 HC1 HR B LT
  go_wp2
  exact bodyPost_ret (v := .tuple #[.agg #[.slice a1 n1 k1, .int .i64 z1], .int .i64 n2]) (by simp [results, Try.results19, go_sem, t0, t1]) rfl ⟨_, _, rfl, _, HO.out, HB.out⟩
end Go.Proofs.Ytepnhbicmlfnhad
