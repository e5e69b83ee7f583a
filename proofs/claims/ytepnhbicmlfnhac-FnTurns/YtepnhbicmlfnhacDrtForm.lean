/-
  Turns in a box beside a cursor: what stays of them. Plain facts on the memory, and PutPacket in one contract.
-/
import Derived.Test.YtepnhbicmlfnhacDraw
import Derived.Test.YtepnhbicmlfnhacKOwnS
import Derived.Test.YtepnhbicmlfnhacSPut
import Derived.Test.YtepnhbicmlfnhacSPutNo
namespace Go.Proofs.Ytepnhbicmlfnhac
open Go.RowKit

abbrev Z5 : List Value := [.slice none 0 0, .slice none 0 0, .slice none 0 0, .slice none 0 0, .int .i64 0]
abbrev tuB (s0 s1 s2 s3 : Value) (z : Int) : Obj := .cells #[s0, s1, s2, s3, .int .i64 z] 55
/-- Turns in the box X and the box R of the answer; block b is the cursor. -/
structure DrT (w : World) (B b N : Nat) (wr : World) (X hi : Nat) (D : TuD) (s0 s1 s2 s3 : Value) : Prop where
  len : 0 < D.f2.length ∧ 0 < D.f3.length
  tu : ∃ S c0 c1 c2 c3 iv, TuC S wr X D s0 s1 s2 s3 c0 c1 c2 c3 iv ∧ ∀ g, S g → w.heap.size < g ∧ g < hi
  hh : hi ≤ wr.heap.size
  rb : BoxL wr w.heap.size [.slice none 0 0, .slice none 0 0, .slice none 0 0, .slice none 0 0, .int .i64 0]
  cur : Cur B wr b N
  gr : w.grownBy wr (some b)
  xr : w.heap.size < X
  bw : B ≤ b ∧ b < w.heap.size
theorem DrT.step {w wr w' : World} {B b N N' X hi : Nat} {D : TuD} {s0 s1 s2 s3 : Value} (h : DrT w B b N wr X hi D s0 s1 s2 s3) (c : Cur B w' b N') (g : wr.grownBy w' (some b)) : DrT w B b N' w' X hi D s0 s1 s2 s3 := by
  obtain ⟨S, c0, c1, c2, c3, iv, ht, hS⟩ := h.tu
  have hx := h.xr
  have hb := h.bw
  refine ⟨h.len, ⟨S, c0, c1, c2, c3, iv, ht.at fun k hk hl => g.block k hl (by intro e; cases e; rcases hk with hk | hk <;> first | omega | (have := hS _ hk; omega)), hS⟩, Nat.le_trans h.hh g.size, h.rb.of_block (g.block _ h.rb.lt (by intro e; cases e; omega)), c, only_trans h.gr g, h.xr, h.bw⟩
theorem DrT.later {w wr w' : World} {B b N X hi : Nat} {D : TuD} {s0 s1 s2 s3 : Value} (h : DrT w B b N wr X hi D s0 s1 s2 s3) (hb : Below wr.heap.size wr w') : DrT w B b N w' X hi D s0 s1 s2 s3 := h.step (h.cur.below hb) (only_of_below hb)
theorem DrT.mono {w wr : World} {B b N N' X hi : Nat} {D : TuD} {s0 s1 s2 s3 : Value} (h : DrT w B b N wr X hi D s0 s1 s2 s3) (hn : N ≤ N') : DrT w B b N' wr X hi D s0 s1 s2 s3 := ⟨h.len, h.tu, h.hh, h.rb, h.cur.mono hn, h.gr, h.xr, h.bw⟩
theorem DrT.reads {w wr : World} {B b N X hi : Nat} {D : TuD} {s0 s1 s2 s3 : Value} (h : DrT w B b N wr X hi D s0 s1 s2 s3) : TuReads wr (.agg #[s0, s1, s2, s3, .int .i64 D.f4]) D := by
  obtain ⟨S, c0, c1, c2, c3, iv, ht, _⟩ := h.tu
  exact ht.own.reads
theorem DrT.box {w wr : World} {B b N X hi : Nat} {D : TuD} {s0 s1 s2 s3 : Value} (h : DrT w B b N wr X hi D s0 s1 s2 s3) : BoxL wr X [s0, s1, s2, s3, .int .i64 D.f4] := by
  obtain ⟨S, c0, c1, c2, c3, iv, ht, _⟩ := h.tu
  exact ht.box
abbrev tput5 (w : World) (X : Nat) (s0 s1 s2 s3 s4 : Value) : World := ((((w.setCell ⟨X, 0, none⟩ s0).setCell ⟨X, 1, none⟩ s1).setCell ⟨X, 2, none⟩ s2).setCell ⟨X, 3, none⟩ s3).setCell ⟨X, 4, none⟩ s4
theorem tput5_far (w : World) (X g : Nat) (s0 s1 s2 s3 s4 : Value) (h : g ≠ X) : (tput5 w X s0 s1 s2 s3 s4).heap[g]? = w.heap[g]? := by
  rw [Below.heap_setCell _ _ _ _ (by show g ≠ X; exact h), Below.heap_setCell _ _ _ _ (by show g ≠ X; exact h), Below.heap_setCell _ _ _ _ (by show g ≠ X; exact h), Below.heap_setCell _ _ _ _ (by show g ≠ X; exact h), Below.heap_setCell _ _ _ _ (by show g ≠ X; exact h)]
theorem tput5_size (w : World) (X : Nat) (s0 s1 s2 s3 s4 : Value) : (tput5 w X s0 s1 s2 s3 s4).heap.size = w.heap.size := by simp [tput5, World.setCell]
theorem tput5_box {w : World} {X : Nat} {a0 a1 a2 a3 a4 : Value} (h : BoxL w X [a0, a1, a2, a3, a4]) (s0 s1 s2 s3 s4 : Value) : BoxL (tput5 w X s0 s1 s2 s3 s4) X [s0, s1, s2, s3, s4] :=
  ((((h.set 0 (by simp) s0).set 1 (by simp) s1).set 2 (by simp) s2).set 3 (by simp) s3).set 4 (by simp) s4
theorem tput5_grown {w wr : World} {b X : Nat} (h : w.grownBy wr (some b)) (hx : w.heap.size ≤ X) (s0 s1 s2 s3 s4 : Value) : w.grownBy (tput5 wr X s0 s1 s2 s3 s4) (some b) :=
  only_then h (((((Below.refl w.heap.size wr).setCell hx _).setCell hx _).setCell hx _).setCell hx _ |>.setCell hx _)
/-- Other turns of one's own are laid into the box. -/
theorem DrT.put {w wr : World} {B b N X hi : Nat} {D D' : TuD} {s0 s1 s2 s3 t0 t1 t2 t3 : Value} {S : Nat → Prop} (h : DrT w B b N wr X hi D s0 s1 s2 s3) (ho : TuOwn S wr (.agg #[t0, t1, t2, t3, .int .i64 D'.f4]) D') (hS : ∀ g, S g → w.heap.size < g ∧ g < wr.heap.size ∧ g ≠ X) (hl : 0 < D'.f2.length ∧ 0 < D'.f3.length) : DrT w B b N (tput5 wr X t0 t1 t2 t3 (.int .i64 D'.f4)) X wr.heap.size D' t0 t1 t2 t3 := by
  have hx := h.xr
  have hb := h.bw
  obtain ⟨v0, v1, v2, v3, c0, c1, c2, c3, iv, e, ha, k0, k1, k2, k3⟩ := ho
  simp only [Value.agg.injEq, Array.mk.injEq, List.cons.injEq, and_true] at e
  obtain ⟨rfl, rfl, rfl, rfl⟩ := e
  have far : ∀ g, S g → (tput5 wr X t0 t1 t2 t3 (.int .i64 D'.f4)).heap[g]? = wr.heap[g]? := fun g hg => tput5_far _ _ _ _ _ _ _ _ (hS g hg).2.2
  have nin := fun j hj => (ha.inn j hj).2
  refine ⟨hl, ⟨S, c0, c1, c2, c3, iv, ⟨tput5_box h.box _ _ _ _ _, fun hX => (hS X hX).2.2 rfl, ha, k0.at fun g g1 g2 _ => far g (nin 0 (by omega) g g1 g2), k1.at (fun g g1 g2 _ => far g (nin 1 (by omega) g g1 g2)) (fun j hj g g1 g2 _ => far g (nin (j + 4) (by omega) g g1 g2)), k2.at fun g g1 g2 _ => far g (nin 2 (by omega) g g1 g2), k3.at fun g g1 g2 _ => far g (nin 3 (by omega) g g1 g2)⟩, fun g hg => ⟨(hS g hg).1, (hS g hg).2.1⟩⟩, by rw [tput5_size]; exact Nat.le_refl _, h.rb.of_block (tput5_far _ _ _ _ _ _ _ _ (by omega)), ?_, tput5_grown h.gr (by omega) _ _ _ _ _, h.xr, h.bw⟩
  exact h.cur.under hb.2 (by omega) (((((Below.refl w.heap.size wr).setCell (show w.heap.size ≤ X by omega) _).setCell (show w.heap.size ≤ X by omega) _).setCell (show w.heap.size ≤ X by omega) _).setCell (show w.heap.size ≤ X by omega) _ |>.setCell (show w.heap.size ≤ X by omega) _)
/-- The first turns, laid into a new box. -/
theorem DrT.new {w wr : World} {B b N lo : Nat} {D : TuD} {s0 s1 s2 s3 : Value} (ho : TuOwn (Iv lo wr.heap.size) wr (.agg #[s0, s1, s2, s3, .int .i64 D.f4]) D) (hlo : w.heap.size < lo) (hl : 0 < D.f2.length ∧ 0 < D.f3.length) (rb : BoxL wr w.heap.size [.slice none 0 0, .slice none 0 0, .slice none 0 0, .slice none 0 0, .int .i64 0]) (c : Cur B wr b N) (g : w.grownBy wr (some b)) (hs : lo ≤ wr.heap.size) (bw : B ≤ b ∧ b < w.heap.size) :
    DrT w B b N (wr.alloc (.cells #[s0, s1, s2, s3, .int .i64 D.f4] 55)) wr.heap.size wr.heap.size D s0 s1 s2 s3 := by
  have bb : Below wr.heap.size wr (wr.alloc (.cells #[s0, s1, s2, s3, .int .i64 D.f4] 55)) := (Below.refl _ _).alloc (Nat.le_refl _) _
  obtain ⟨v0, v1, v2, v3, c0, c1, c2, c3, iv, e, ha, k0, k1, k2, k3⟩ := ho
  simp only [Value.agg.injEq, Array.mk.injEq, List.cons.injEq, and_true] at e
  obtain ⟨rfl, rfl, rfl, rfl⟩ := e
  refine ⟨hl, ⟨Iv lo wr.heap.size, c0, c1, c2, c3, iv, ⟨boxL_new wr [s0, s1, s2, s3, .int .i64 D.f4] 55, fun hX => by unfold Iv at hX; omega, ha, k0.below bb, k1.below bb, k2.below bb, k3.below bb⟩, fun g hg => ?_⟩, bb.size, rb.below bb rb.lt, c.below bb, only_trans g (only_of_below bb), by omega, bw⟩
  unfold Iv at hg
  omega
/-- A contract for a packet put or refused. -/
theorem sput_case (v : Value) (D : TuD) (q x : Int) (w : World) (hr : TuReads w v D) : Calls Try.prog 44 #[v, .int .i64 q, .int .i64 x] w fun e w' => ∃ (u : Value) (is : Bool) (D' : TuD), e = .returned (.tuple #[u, .bool is]) ∧ TuOwn (Iv w.heap.size w'.heap.size) w' u D' ∧ (is = true → D'.f2 = D.f2 ∧ D'.f3 = D.f3) ∧ Below w.heap.size w w' := by
  cases h : putOk D q x with
  | true =>
    refine (sput_yes v D q x w hr h).mono ?_
    rintro e w' ⟨u, rfl, ho, hb⟩
    exact ⟨u, true, _, rfl, ho, fun _ => ⟨rfl, rfl⟩, hb⟩
  | false =>
    refine (sput_no v D q x w hr h).mono ?_
    rintro e w' ⟨u, rfl, ho, hb⟩
    exact ⟨u, false, _, rfl, ho, (fun h => by cases h), hb⟩
end Go.Proofs.Ytepnhbicmlfnhac
