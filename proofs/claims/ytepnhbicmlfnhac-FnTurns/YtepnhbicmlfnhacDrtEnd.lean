/-
  Turns in a box beside a cursor: how they stand, what a store leaves, how they are told. Plain facts on the memory; NextTurn in one contract.
  The box of the answer and the cursor behind it, where turns are drawn. Plain facts on the memory.
-/
import Derived.Test.YtepnhbicmlfnhacDrtForm
import Derived.Test.YtepnhbicmlfnhacSNext
import Derived.Test.YtepnhbicmlfnhacSNextNo
import Derived.Test.YtepnhbicmlfnhacDraw
namespace Go.Proofs.Ytepnhbicmlfnhac
open Go.RowKit

theorem DrT.form {w wr : World} {B b N X hi : Nat} {D : TuD} {s0 s1 s2 s3 : Value} (h : DrT w B b N wr X hi D s0 s1 s2 s3) : ∃ a0 n0 k0 a1 k1 g2 k2 g3 k3, s0 = .slice a0 n0 k0 ∧ s1 = .slice a1 D.f1.length k1 ∧ s2 = .slice (some ⟨g2, 0, none⟩) D.f2.length k2 ∧ s3 = .slice (some ⟨g3, 0, none⟩) D.f3.length k3 ∧ D.f1.length ≤ 1152921504606846975 := by
  obtain ⟨S, c0, c1, c2, c3, iv, ht, hS⟩ := h.tu
  obtain ⟨a0, n0, k0, e0⟩ := ht.k0.sform
  obtain ⟨a1, k1, e1, h1, _⟩ := ht.k1.reads
  obtain ⟨g2, k2, e2⟩ : ∃ g k, s2 = .slice (some ⟨g, 0, none⟩) D.f2.length k := by
    rcases ht.k2.2 with ⟨a, c, _, e⟩ | ⟨g, c, e, _⟩
    · have := h.len.1; rw [e] at this; simp at this
    · exact ⟨g, c, e⟩
  obtain ⟨g3, k3, e3⟩ : ∃ g k, s3 = .slice (some ⟨g, 0, none⟩) D.f3.length k := by
    rcases ht.k3.2 with ⟨a, c, _, e⟩ | ⟨g, c, e, _⟩
    · have := h.len.2; rw [e] at this; simp at this
    · exact ⟨g, c, e⟩
  exact ⟨a0, n0, k0, a1, k1, g2, k2, g3, k3, e0, e1, e2, e3, h1.1⟩
/-- A store into the box or into a row of one's own leaves what lies below. -/
theorem DrT.setTo {w wr : World} {B b N X hi : Nat} {D D' : TuD} {s0 s1 s2 s3 : Value} {c0 c1 c2 c3 : Nat × Nat} {iv : Nat → Nat × Nat} {S : Nat → Prop} {g i : Nat} {u : Value} (h : DrT w B b N wr X hi D s0 s1 s2 s3) (ht : TuC S (wr.setCell ⟨g, i, none⟩ u) X D' s0 s1 s2 s3 c0 c1 c2 c3 iv) (hS : ∀ g, S g → w.heap.size < g ∧ g < hi) (hg : w.heap.size < g) (hl : 0 < D'.f2.length ∧ 0 < D'.f3.length) : DrT w B b N (wr.setCell ⟨g, i, none⟩ u) X hi D' s0 s1 s2 s3 := by
  have hb := h.bw
  have bl : Below w.heap.size wr (wr.setCell ⟨g, i, none⟩ u) := (Below.refl _ _).setCell (show w.heap.size ≤ g by omega) _
  exact ⟨hl, ⟨S, c0, c1, c2, c3, iv, ht, hS⟩, Nat.le_trans h.hh bl.size, h.rb.of_block (Below.heap_setCell _ _ _ _ (by show w.heap.size ≠ g; omega)), h.cur.under hb.2 (by omega) bl, only_then h.gr bl, h.xr, h.bw⟩
theorem DrT.set4 {w wr : World} {B b N X hi : Nat} {D : TuD} {s0 s1 s2 s3 : Value} (h : DrT w B b N wr X hi D s0 s1 s2 s3) (z : Int) : DrT w B b N (wr.setCell ⟨X, 4, none⟩ (.int .i64 z)) X hi ⟨D.f0, D.f1, D.f2, D.f3, z⟩ s0 s1 s2 s3 := by
  obtain ⟨S, c0, c1, c2, c3, iv, ht, hS⟩ := h.tu
  exact h.setTo (ht.set4 z) hS h.xr h.len
theorem DrT.set2 {w wr : World} {B b N X hi g2 n2 k2 : Nat} {D : TuD} {s0 s1 s3 : Value} (h : DrT w B b N wr X hi D s0 s1 (.slice (some ⟨g2, 0, none⟩) n2 k2) s3) (z : Int) : DrT w B b N (wr.setCell ⟨g2, 0, none⟩ (.int .i64 z)) X hi ⟨D.f0, D.f1, D.f2.set 0 z, D.f3, D.f4⟩ s0 s1 (.slice (some ⟨g2, 0, none⟩) n2 k2) s3 ∧ (∃ y, wr.cell? ⟨g2, 0, none⟩ = some (.int .i64 y)) ∧ wr.frozen? ⟨g2, 0, none⟩ = false := by
  obtain ⟨S, c0, c1, c2, c3, iv, ht, hS⟩ := h.tu
  obtain ⟨_, hg, hc, hf⟩ := ht.k2.setN 0 z h.len.1
  have hSg := hS g2 ((ht.ap.inn 2 (by omega)).2 g2 hg.1 hg.2)
  exact ⟨h.setTo (ht.set2 0 h.len.1 z) hS hSg.1 ⟨by simpa using h.len.1, h.len.2⟩, ⟨_, hc⟩, hf⟩
theorem DrT.set3 {w wr : World} {B b N X hi g3 n3 k3 : Nat} {D : TuD} {s0 s1 s2 : Value} (h : DrT w B b N wr X hi D s0 s1 s2 (.slice (some ⟨g3, 0, none⟩) n3 k3)) (z : Int) : DrT w B b N (wr.setCell ⟨g3, 0, none⟩ (.int .i64 z)) X hi ⟨D.f0, D.f1, D.f2, D.f3.set 0 z, D.f4⟩ s0 s1 s2 (.slice (some ⟨g3, 0, none⟩) n3 k3) ∧ (∃ y, wr.cell? ⟨g3, 0, none⟩ = some (.int .i64 y)) ∧ wr.frozen? ⟨g3, 0, none⟩ = false := by
  obtain ⟨S, c0, c1, c2, c3, iv, ht, hS⟩ := h.tu
  obtain ⟨_, hg, hc, hf⟩ := ht.k3.setN 0 z h.len.2
  have hSg := hS g3 ((ht.ap.inn 3 (by omega)).2 g3 hg.1 hg.2)
  exact ⟨h.setTo (ht.set3 0 h.len.2 z) hS hSg.1 ⟨h.len.1, by simpa using h.len.2⟩, ⟨_, hc⟩, hf⟩
/-- They are told: laid into the box of the answer. -/
theorem DrT.told {w wr : World} {B b N X hi : Nat} {D : TuD} {s0 s1 s2 s3 : Value} (h : DrT w B b N wr X hi D s0 s1 s2 s3) : (∃ S : Nat → Prop, TuOwn S (tput5 wr w.heap.size s0 s1 s2 s3 (.int .i64 D.f4)) (.agg #[s0, s1, s2, s3, .int .i64 D.f4]) D ∧ ∀ g, S g → w.heap.size ≤ g ∧ g < (tput5 wr w.heap.size s0 s1 s2 s3 (.int .i64 D.f4)).heap.size) ∧ Cur B (tput5 wr w.heap.size s0 s1 s2 s3 (.int .i64 D.f4)) b N ∧ w.grownBy (tput5 wr w.heap.size s0 s1 s2 s3 (.int .i64 D.f4)) (some b) ∧ BoxL (tput5 wr w.heap.size s0 s1 s2 s3 (.int .i64 D.f4)) w.heap.size [s0, s1, s2, s3, .int .i64 D.f4] := by
  obtain ⟨S, c0, c1, c2, c3, iv, ht, hS⟩ := h.tu
  have hb := h.bw
  have hx := h.xr
  have hle : w.heap.size ≤ w.heap.size := Nat.le_refl _
  refine ⟨⟨S, (ht.at (w' := tput5 wr w.heap.size s0 s1 s2 s3 (.int .i64 D.f4)) fun k hk _ => tput5_far _ _ _ _ _ _ _ _ (fun e => by rcases hk with hk | hk; exact absurd (hS k hk).1 (by omega); omega)).own, fun g hg => by rw [tput5_size]; have := hS g hg; have := h.hh; omega⟩, ?_, tput5_grown h.gr hle _ _ _ _ _, tput5_box h.rb _ _ _ _ _⟩
  exact h.cur.under hb.2 (by omega) (((((Below.refl w.heap.size wr).setCell hle _).setCell hle _).setCell hle _).setCell hle _ |>.setCell hle _)
theorem step_lens (D : TuD) : (stepD D).f2.length = D.f2.length ∧ (stepD D).f3.length = D.f3.length := by
  unfold stepD nextD
  simp
theorem snext_case (v : Value) (D : TuD) (w : World) (hr : TuReads w v D) : Calls Try.prog 35 #[v] w fun e w' => ∃ (u p : Value) (is : Bool) (D' : TuD) (S : Nat → Prop), e = .returned (.tuple #[u, p, .bool is]) ∧ TuOwn S w' u D' ∧ (is = true → D'.f2.length = D.f2.length ∧ D'.f3.length = D.f3.length) ∧ (∀ g, S g → w.heap.size ≤ g ∧ g < w'.heap.size) ∧ Below w.heap.size w w' := by
  cases h : nextOk D with
  | true =>
    refine (snext_yes v D w hr h).mono ?_
    rintro e w' ⟨u, p, S0, S1, rfl, ho, _, _, hS, hb⟩
    exact ⟨u, p, true, _, S0, rfl, ho, fun _ => step_lens D, fun g hg => hS g (.inl hg), hb⟩
  | false =>
    refine (snext_no v D w hr h).mono ?_
    rintro e w' ⟨u, p, S0, S1, rfl, ho, _, _, hS, hb⟩
    exact ⟨u, p, false, _, S0, rfl, ho, (fun h => by cases h), fun g hg => hS g (.inl hg), hb⟩
/-- Turns of one's own are laid into a box that was there. -/
theorem DrT.lay {w wr : World} {B b N X lo : Nat} {D : TuD} {s0 s1 s2 s3 y0 y1 y2 y3 y4 : Value} (ho : TuOwn (Iv lo wr.heap.size) wr (.agg #[s0, s1, s2, s3, .int .i64 D.f4]) D) (hbx : BoxL wr X [y0, y1, y2, y3, y4]) (hx : w.heap.size < X) (hX : X < lo) (hl : 0 < D.f2.length ∧ 0 < D.f3.length) (rb : BoxL wr w.heap.size [.slice none 0 0, .slice none 0 0, .slice none 0 0, .slice none 0 0, .int .i64 0]) (c : Cur B wr b N) (g : w.grownBy wr (some b)) (bw : B ≤ b ∧ b < w.heap.size) :
    DrT w B b N (tput5 wr X s0 s1 s2 s3 (.int .i64 D.f4)) X wr.heap.size D s0 s1 s2 s3 := by
  obtain ⟨v0, v1, v2, v3, c0, c1, c2, c3, iv, e, ha, k0, k1, k2, k3⟩ := ho
  simp only [Value.agg.injEq, Array.mk.injEq, List.cons.injEq, and_true] at e
  obtain ⟨rfl, rfl, rfl, rfl⟩ := e
  have hle : w.heap.size ≤ X := by omega
  have far : ∀ g, Iv lo wr.heap.size g → (tput5 wr X s0 s1 s2 s3 (.int .i64 D.f4)).heap[g]? = wr.heap[g]? := fun g hg => tput5_far _ _ _ _ _ _ _ _ (by unfold Iv at hg; omega)
  have nin := fun j hj => (ha.inn j hj).2
  refine ⟨hl, ⟨Iv lo wr.heap.size, c0, c1, c2, c3, iv, ⟨tput5_box hbx _ _ _ _ _, fun hh => by unfold Iv at hh; omega, ha, k0.at fun g g1 g2 _ => far g (nin 0 (by omega) g g1 g2), k1.at (fun g g1 g2 _ => far g (nin 1 (by omega) g g1 g2)) (fun j hj g g1 g2 _ => far g (nin (j + 4) (by omega) g g1 g2)), k2.at fun g g1 g2 _ => far g (nin 2 (by omega) g g1 g2), k3.at fun g g1 g2 _ => far g (nin 3 (by omega) g g1 g2)⟩, fun g hg => by unfold Iv at hg; omega⟩, by rw [tput5_size]; exact Nat.le_refl _, rb.of_block (tput5_far _ _ _ _ _ _ _ _ (by omega)), ?_, tput5_grown g hle _ _ _ _ _, hx, bw⟩
  exact c.under bw.2 (by omega) (((((Below.refl w.heap.size wr).setCell hle _).setCell hle _).setCell hle _).setCell hle _ |>.setCell hle _)
end Go.Proofs.Ytepnhbicmlfnhac
namespace Go.Proofs.Ytepnhbicmlfnhac
open Go.RowKit

theorem CodeOk.later8 {w w' : World} {v : Value} (h : CodeOk w.heap.size w v) (hb : Below w.heap.size w w') : CodeOk w'.heap.size w' v := by
  obtain ⟨a, len, cap, rfl, hl, hx⟩ := h.below hb
  refine ⟨a, len, cap, rfl, hl, ?_⟩
  rcases hx with hx | ⟨cb, off, rfl, hlt, hc⟩
  · exact .inl hx
  · exact .inr ⟨cb, off, rfl, Nat.lt_of_lt_of_le hlt hb.size, hc⟩
/-- The box of the answer and the cursor behind it. -/
structure DrR (w W : World) (v : Value) : Prop where
  rb : BoxL W w.heap.size [.slice none 0 0, .slice none 0 0, .slice none 0 0, .slice none 0 0, .int .i64 0]
  cur : Cur (w.heap.size + 1) W (w.heap.size + 1) 0
  bel : Below w.heap.size w W
  sz : W.heap.size = w.heap.size + 2
theorem drR (w : World) (v : Value) (h : CodeOk w.heap.size w v) : DrR w ((w.alloc (.cells #[.slice none 0 0, .slice none 0 0, .slice none 0 0, .slice none 0 0, .int .i64 0] 55)).alloc (.cells #[v, .int .i64 0, .int .u64 0] 85)) v := by
  have b0 : Below w.heap.size w (w.alloc (.cells #[.slice none 0 0, .slice none 0 0, .slice none 0 0, .slice none 0 0, .int .i64 0] 55)) := (Below.refl _ _).alloc (Nat.le_refl _) _
  have s0 : (w.alloc (.cells #[.slice none 0 0, .slice none 0 0, .slice none 0 0, .slice none 0 0, .int .i64 0] 55)).heap.size = w.heap.size + 1 := World.size_alloc ..
  have hc := cur_new _ _ (h.later8 b0)
  rw [s0] at hc
  have b1 : Below (w.heap.size + 1) (w.alloc (.cells #[.slice none 0 0, .slice none 0 0, .slice none 0 0, .slice none 0 0, .int .i64 0] 55)) ((w.alloc (.cells #[.slice none 0 0, .slice none 0 0, .slice none 0 0, .slice none 0 0, .int .i64 0] 55)).alloc (.cells #[v, .int .i64 0, .int .u64 0] 85)) := (Below.refl _ _).alloc (by omega) _
  exact ⟨(boxL_new w [.slice none 0 0, .slice none 0 0, .slice none 0 0, .slice none 0 0, .int .i64 0] 55).below b1 (by omega), hc, b0.trans (b1.mono (by omega)), by rw [World.size_alloc, s0]⟩
/-- Turns that lie in new memory, laid into the box of the answer. -/
theorem told_own {w W W1 : World} {v : Value} {S : Nat → Prop} {D : TuD} {s0 s1 s2 s3 : Value} (h : DrR w W v) (g : W.grownBy W1 (some (w.heap.size + 1))) (ho : TuOwn S W1 (.agg #[s0, s1, s2, s3, .int .i64 D.f4]) D) (hS : ∀ g, S g → W.heap.size ≤ g ∧ g < W1.heap.size) : BoxL W1 w.heap.size [.slice none 0 0, .slice none 0 0, .slice none 0 0, .slice none 0 0, .int .i64 0] ∧ Below w.heap.size w W1 ∧ ∀ W2, (∀ g, w.heap.size < g → g < W1.heap.size → W2.heap[g]? = W1.heap[g]?) → TuReads W2 (.agg #[s0, s1, s2, s3, .int .i64 D.f4]) D := by
  have hs := h.sz
  refine ⟨h.rb.of_block (g.block _ (by omega) (by intro e; injection e with e; omega)), h.bel.trans (only_below g (by omega) (by omega)), fun W2 hk => ?_⟩
  exact (ho.at fun g hg hl => hk g (by have := hS g hg; omega) hl).reads
end Go.Proofs.Ytepnhbicmlfnhac
