/-
  spec.DrawGoodTurns, DrawNextTurn, DrawRunTurns: whatever they are. Nothing old is written.
  The law FnTurns answers true at every two lists of bytes.
-/
import Derived.Test.YtepnhbicmlfnhacDrawTurns
import Derived.Test.YtepnhbicmlfnhacDrtEnd
import Derived.Test.YtepnhbicmlfnhacFnTurnsLaw
import Derived.Test.YtepnhbicmlfnhacDrawPut
import Derived.Test.YtepnhbicmlfnhacDraw
namespace Go.Proofs.Ytepnhbicmlfnhac
open Go.RowKit

set_option maxRecDepth 100000 in
set_option maxHeartbeats 4000000 in
theorem drawGoodT_any (v : Value) (w : World) (h : CodeOk w.heap.size w v) :
    Calls Try.prog 83 #[v] w fun e w' => ∃ u, e = .returned u ∧ ∃ (D : TuD) (S : Nat → Prop), (TuOwn S w' u D ∧ ∀ g, S g → w.heap.size < g ∧ g < w'.heap.size) ∧ Below w.heap.size w w' := by
  have R0 := hid (drR w v h)
  obtain ⟨a, len, cap, rfl, _, _⟩ := h
  have hs := R0.out.sz
  go_enter Try.func83, Try.ntmps83
  go_wp2_with fail
  refine (turns_any (w.heap.size + 1) (w.heap.size + 1) 0 _ R0.out.cur (by omega)).mono ?_
  rintro e w1 ⟨u, rfl, ⟨D, S, ho, hS⟩, _, g1⟩
  obtain ⟨a0, n0, k0, a1, n1, k1, a2, n2, k2, a3, n3, k3, rfl⟩ := ho.form
  obtain ⟨rb, bel, _⟩ := told_own R0.out g1 ho hS
  obtain ⟨x0, x1, x2, x3, x4⟩ := rb.five
  have f0 := (rb.cell 0 (by simp)).2
  have f1 := (rb.cell 1 (by simp)).2
  have f2 := (rb.cell 2 (by simp)).2
  have f3 := (rb.cell 3 (by simp)).2
  have f4 := (rb.cell 4 (by simp)).2
  have RB := hid rb; have BL := hid bel; have HO := hid ho; have HS := hid hS; have HS0 := hid hs
  clear rb bel ho hS g1 R0 hs
  have hle : w.heap.size ≤ w.heap.size := Nat.le_refl _
  go_wp2
  obtain ⟨e0, e1, e2, e3, e4⟩ := (tput5_box RB.out (.slice a0 n0 k0) (.slice a1 n1 k1) (.slice a2 n2 k2) (.slice a3 n3 k3) (.int .i64 D.f4)).five
  refine bodyPost_ret (v := .agg #[.slice a0 n0 k0, .slice a1 n1 k1, .slice a2 n2 k2, .slice a3 n3 k3, .int .i64 D.f4]) (by simp [results, Try.results83, go_sem, e0, e1, e2, e3, e4]) rfl ⟨_, rfl, D, S, ⟨HO.out.at fun g hg _ => ?_, fun g hg => ?_⟩, ((((BL.out.setCell hle _).setCell hle _).setCell hle _).setCell hle _).setCell hle _⟩
  · exact tput5_far w1 w.heap.size g (.slice a0 n0 k0) (.slice a1 n1 k1) (.slice a2 n2 k2) (.slice a3 n3 k3) (.int .i64 D.f4) (by have := HS.out g hg; have := HS0.out; omega)
  · have h1 := HS.out g hg
    have h2 := HS0.out
    have h3 := tput5_size w1 w.heap.size (.slice a0 n0 k0) (.slice a1 n1 k1) (.slice a2 n2 k2) (.slice a3 n3 k3) (.int .i64 D.f4)
    exact ⟨by omega, by show _ < (tput5 w1 w.heap.size (.slice a0 n0 k0) (.slice a1 n1 k1) (.slice a2 n2 k2) (.slice a3 n3 k3) (.int .i64 D.f4)).heap.size; omega⟩
set_option maxRecDepth 100000 in
set_option maxHeartbeats 4000000 in
theorem drawNextT_any (v : Value) (w : World) (h : CodeOk w.heap.size w v) :
    Calls Try.prog 33 #[v] w fun e w' => ∃ u, e = .returned u ∧ ∃ D : TuD, TuReads w' u D ∧ Below w.heap.size w w' := by
  have b0 : Below w.heap.size w (w.alloc (.cells #[.slice none 0 0, .slice none 0 0, .slice none 0 0, .slice none 0 0, .int .i64 0] 55)) := (Below.refl _ _).alloc (Nat.le_refl _) _
  have s0 : (w.alloc (.cells #[.slice none 0 0, .slice none 0 0, .slice none 0 0, .slice none 0 0, .int .i64 0] 55)).heap.size = w.heap.size + 1 := World.size_alloc ..
  have R0 := hid (boxL_new w [.slice none 0 0, .slice none 0 0, .slice none 0 0, .slice none 0 0, .int .i64 0] 55)
  have K := hid (h.later8 b0)
  have HB0 := hid b0; have HS0 := hid s0
  obtain ⟨a, len, cap, rfl, _, _⟩ := h
  clear b0 s0
  go_enter Try.func33, Try.ntmps33
  go_wp2_with fail
  refine (drawGoodT_any _ _ K.out).mono ?_
  rintro e w1 ⟨u, rfl, D, S, ⟨ho, hS⟩, b1⟩
  obtain ⟨a0, n0, k0, a1, n1, k1, a2, n2, k2, a3, n3, k3, rfl⟩ := ho.form
  have rb := R0.out.below b1 R0.out.lt
  have RB := hid rb; have BL := hid (HB0.out.trans (b1.mono HB0.out.size)); have HO := hid ho
  have HS : Hid (∀ g, S g → g ≠ w.heap.size) := fun g hg => by have := (hS g hg).1; rw [HS0.out] at this; omega
  obtain ⟨x0, x1, x2, x3, x4⟩ := rb.five
  have f0 := (rb.cell 0 (by simp)).2
  have f1 := (rb.cell 1 (by simp)).2
  have f2 := (rb.cell 2 (by simp)).2
  have f3 := (rb.cell 3 (by simp)).2
  have f4 := (rb.cell 4 (by simp)).2
  clear rb b1 ho hS R0 K HB0 HS0
  have hle : w.heap.size ≤ w.heap.size := Nat.le_refl _
  go_wp2
  obtain ⟨e0, e1, e2, e3, e4⟩ := (tput5_box RB.out (.slice a0 n0 k0) (.slice a1 n1 k1) (.slice a2 n2 k2) (.slice a3 n3 k3) (.int .i64 D.f4)).five
  exact bodyPost_ret (v := .agg #[.slice a0 n0 k0, .slice a1 n1 k1, .slice a2 n2 k2, .slice a3 n3 k3, .int .i64 D.f4]) (by simp [results, Try.results33, go_sem, e0, e1, e2, e3, e4]) rfl ⟨_, rfl, D, (HO.out.at (w' := tput5 w1 w.heap.size (.slice a0 n0 k0) (.slice a1 n1 k1) (.slice a2 n2 k2) (.slice a3 n3 k3) (.int .i64 D.f4)) fun g hg _ => tput5_far _ _ _ _ _ _ _ _ (HS.out g hg)).reads, ((((BL.out.setCell hle _).setCell hle _).setCell hle _).setCell hle _).setCell hle _⟩
set_option maxRecDepth 100000 in
set_option maxHeartbeats 4000000 in
theorem drawRunT_any (v : Value) (w : World) (h : CodeOk w.heap.size w v) :
    Calls Try.prog 48 #[v] w fun e w' => ∃ (u : Value) (n : Int), e = .returned (.tuple #[u, .int .i64 n]) ∧ ∃ D : TuD, TuReads w' u D ∧ Below w.heap.size w w' := by
  have R0 := hid (drR w v h)
  obtain ⟨a, len, cap, rfl, _, _⟩ := h
  have hs := R0.out.sz
  go_enter Try.func48, Try.ntmps48
  go_wp2_with fail
  refine (turns_any (w.heap.size + 1) (w.heap.size + 1) 0 _ R0.out.cur (by omega)).mono ?_
  rintro e w1 ⟨u, rfl, ⟨D, S, ho, hS⟩, c1, g1⟩
  obtain ⟨a0, n0, k0, a1, n1, k1, a2, n2, k2, a3, n3, k3, rfl⟩ := ho.form
  obtain ⟨rb, bel, _⟩ := told_own R0.out g1 ho hS
  have hs1 := g1.size
  rw [hs] at hs1
  have C1 := hid c1; have RB := hid rb; have BL := hid bel; have HO := hid ho
  have HS : Hid (∀ g, S g → w.heap.size + 2 ≤ g ∧ g < w1.heap.size) := fun g hg => by have := hS g hg; omega
  clear rb bel ho hS g1 R0 hs c1
  go_wp2_with fail
  refine (among_any (w.heap.size + 1) (w.heap.size + 1) _ w1.heap.size 7 7 _ (C1.out.below ((Below.refl _ _).alloc (Nat.le_refl _) _)) (by omega) (by omega) (lit_new w1 [-1, 0, 1, 3, 8, 60, 61] _) (by omega) (by omega)).mono ?_
  rintro e w2 ⟨n, rfl, _, g2⟩
  have far : ∀ g, g ≠ w.heap.size + 1 → g < w1.heap.size → w2.heap[g]? = w1.heap[g]? := fun g hg hl => (g2.block g (by rw [World.size_alloc]; omega) (by intro e; injection e with e; omega)).trans (Below.heap_alloc _ _ _ hl)
  have rb2 := RB.out.of_block (far w.heap.size (by omega) (by omega))
  have RB2 := hid rb2
  have O2 := hid (HO.out.at (w' := w2) fun g hg hl => far g (by have := HS.out g hg; omega) hl)
  have B2 := hid (BL.out.trans (((Below.refl w.heap.size w1).alloc (by omega) _).trans (only_below g2 (by omega) (by rw [World.size_alloc]; omega))))
  obtain ⟨x0, x1, x2, x3, x4⟩ := rb2.five
  have f0 := (rb2.cell 0 (by simp)).2
  have f1 := (rb2.cell 1 (by simp)).2
  have f2 := (rb2.cell 2 (by simp)).2
  have f3 := (rb2.cell 3 (by simp)).2
  have f4 := (rb2.cell 4 (by simp)).2
  clear rb2 far g2 C1 RB BL HO
  have hle : w.heap.size ≤ w.heap.size := Nat.le_refl _
  go_wp2
  obtain ⟨e0, e1, e2, e3, e4⟩ := (tput5_box RB2.out (.slice a0 n0 k0) (.slice a1 n1 k1) (.slice a2 n2 k2) (.slice a3 n3 k3) (.int .i64 D.f4)).five
  exact bodyPost_ret (v := .tuple #[.agg #[.slice a0 n0 k0, .slice a1 n1 k1, .slice a2 n2 k2, .slice a3 n3 k3, .int .i64 D.f4], .int .i64 n]) (by simp [results, Try.results48, go_sem, e0, e1, e2, e3, e4]) rfl ⟨_, n, rfl, D, (O2.out.at (w' := tput5 w2 w.heap.size (.slice a0 n0 k0) (.slice a1 n1 k1) (.slice a2 n2 k2) (.slice a3 n3 k3) (.int .i64 D.f4)) fun g hg _ => tput5_far _ _ _ _ _ _ _ _ (by have := HS.out g hg; omega)).reads, ((((B2.out.setCell hle _).setCell hle _).setCell hle _).setCell hle _).setCell hle _⟩
end Go.Proofs.Ytepnhbicmlfnhac
namespace Go.Proofs.Ytepnhbicmlfnhac
open Go.RowKit

theorem FnTurns_walk (a0 : Option Addr) (len0 cap0 : Nat) (z0 : List Int) (a1 : Option Addr) (len1 cap1 : Nat) (z1 : List Int) (w : World) (h0 : IsRow .u8 w a0 len0 cap0 z0) (h1 : IsRow .u8 w a1 len1 cap1 z1) (b0 : cap0 * 1 ≤ 140737488351232) (b1 : cap1 * 1 ≤ 140737488351232) :
    Calls Try.prog 5 #[.slice a0 len0 cap0, .slice a1 len1 cap1] w fun e w' => e = .returned (.bool true) ∧ Below w.heap.size w w' :=
  FnTurns_law drawNextT_any (drawPutT_of turns_any) drawNewT_any a0 len0 cap0 z0 a1 len1 cap1 z1 w h0 h1 b0 b1
end Go.Proofs.Ytepnhbicmlfnhac
