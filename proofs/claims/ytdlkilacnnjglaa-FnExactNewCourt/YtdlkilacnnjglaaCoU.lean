/-
  A court whose two rows are the call's own: what stands in a box, what may turn. Plain facts on the memory.
-/
import Derived.Test.YtdlkilacnnjglaaCoFns
import Derived.Test.YtdlkilacnnjglaaCaApp2
import Derived.Test.YtdlkilacnnjglaaSlApp2
import Derived.Test.YtdlkilacnnjglaaBut5
import Derived.Laws.OwnMore
namespace Go.Proofs.Ytdlkilacnnjglaa
open Go.RowKit

theorem rows_apart {w : World} {L L' : Nat} {t1 t2 : TypeId} {s1 s2 n1 n2 : Nat} {v1 v2 : Value} {c1 c2 : List Value} (h1 : w.ownsRow L t1 s1 v1 n1 c1) (h2 : w.ownsRow L' t2 s2 v2 n2 c2) (hne : t1 ≠ t2) (g : Nat) (e1 : v1.ownBlock = some g) (e2 : v2.ownBlock = some g) : False := by
  rcases h1.2 with ⟨rfl, _⟩ | ⟨g1, k1, u1, rfl, _, hh1, _⟩
  · cases e1
  rcases h2.2 with ⟨rfl, _⟩ | ⟨g2, k2, u2, rfl, _, hh2, _⟩
  · cases e2
  simp only [Value.ownBlock, Option.some.injEq] at e1 e2
  subst e1 e2
  rw [hh1] at hh2
  cases hh2
  exact hne rfl
/-- Two rows of one's own, from L on. -/
structure RowsC (L : Nat) (w : World) (v1 v2 : Value) (l1 : List CaEl) (l2 : List SlEl) : Prop where
  r1 : w.ownsRow L 70 4 v1 l1.length (caflat l1)
  r2 : w.ownsRow L 80 3 v2 l2.length (slflat l2)
  n1 : l1.length ≤ 1000
  n2 : l2.length ≤ 1000
/-- The blocks of two rows. -/
def Bk2 (v1 v2 : Value) (k : Nat) : Prop := v1.ownBlock = some k ∨ v2.ownBlock = some k
theorem RowsC.apart {L : Nat} {w : World} {v1 v2 : Value} {l1 : List CaEl} {l2 : List SlEl} (h : RowsC L w v1 v2 l1 l2) (g : Nat) (e1 : v1.ownBlock = some g) (e2 : v2.ownBlock = some g) : False := rows_apart h.r1 h.r2 (by decide) g e1 e2
theorem RowsC.blk {L : Nat} {w : World} {v1 v2 : Value} {l1 : List CaEl} {l2 : List SlEl} (h : RowsC L w v1 v2 l1 l2) {k : Nat} (hk : Bk2 v1 v2 k) : L ≤ k ∧ k < w.heap.size := by
  rcases hk with hk | hk
  · exact caowns_lt h.r1 k hk
  · exact caowns_lt h.r2 k hk
theorem RowsC.at {L : Nat} {w w' : World} {v1 v2 : Value} {l1 : List CaEl} {l2 : List SlEl} (h : RowsC L w v1 v2 l1 l2) (e : ∀ g, L ≤ g → g < w.heap.size → Bk2 v1 v2 g → w'.heap[g]? = w.heap[g]?) : RowsC L w' v1 v2 l1 l2 :=
  ⟨caowns_at h.r1 fun g h1 h2 => e g (caowns_lt h.r1 g h1).1 h2 (.inl h1), caowns_at h.r2 fun g h1 h2 => e g (caowns_lt h.r2 g h1).1 h2 (.inr h1), h.n1, h.n2⟩
theorem RowsC.below {L B : Nat} {w w' : World} {v1 v2 : Value} {l1 : List CaEl} {l2 : List SlEl} (h : RowsC L w v1 v2 l1 l2) (hb : Below B w w') (hB : B = w.heap.size) : RowsC L w' v1 v2 l1 l2 := h.at fun g _ h2 _ => hb.block g (by omega)
theorem RowsC.but {L : Nat} {P : Nat → Prop} {w w' : World} {v1 v2 : Value} {l1 : List CaEl} {l2 : List SlEl} (h : RowsC L w v1 v2 l1 l2) (hb : But P w w') (hp : ∀ k, Bk2 v1 v2 k → ¬ P k) : RowsC L w' v1 v2 l1 l2 := h.at fun g _ h2 hk => hb.2 g h2 (hp g hk)
theorem RowsC.mono {L L' : Nat} {w : World} {v1 v2 : Value} {l1 : List CaEl} {l2 : List SlEl} (h : RowsC L w v1 v2 l1 l2) (hL : L' ≤ L) : RowsC L' w v1 v2 l1 l2 := ⟨caowns_mono h.r1 hL, slowns_mono h.r2 hL, h.n1, h.n2⟩
theorem RowsC.rows {L : Nat} {w : World} {v1 v2 : Value} {l1 : List CaEl} {l2 : List SlEl} (h : RowsC L w v1 v2 l1 l2) : CaReads w v1 l1 ∧ SlReads w v2 l2 :=
  ⟨CaReads.of_owns h.r1 (by have := h.n1; omega), SlReads.of_owns h.r2 (by have := h.n2; omega)⟩
theorem RowsC.form {L : Nat} {w : World} {v1 v2 : Value} {l1 : List CaEl} {l2 : List SlEl} (h : RowsC L w v1 v2 l1 l2) : ∃ a1 c1 a2 c2, v1 = .slice a1 l1.length c1 ∧ v2 = .slice a2 l2.length c2 := by
  obtain ⟨a1, c1, e1, _⟩ := caowns_form h.r1
  obtain ⟨a2, c2, e2, _⟩ := caowns_form h.r2
  exact ⟨a1, c1, a2, c2, e1, e2⟩
theorem rowsC_bare (L : Nat) (w : World) : RowsC L w (.slice none 0 0) (.slice none 0 0) [] [] := ⟨caowns_nil _ _, slowns_nil _ _, by decide, by decide⟩
/-- A court written out. -/
abbrev coV (D : CoD) (v1 v2 : Value) : Value := .agg #[.int .i64 D.f0, v1, v2]
abbrev coC (D : CoD) (v1 v2 : Value) : List Value := [.int .i64 D.f0, v1, v2]
def CoU (L : Nat) (w : World) (v : Value) (D : CoD) : Prop := ∃ v1 v2, v = coV D v1 v2 ∧ RowsC L w v1 v2 D.f1 D.f2
theorem CoU.reads {L : Nat} {w : World} {v : Value} {D : CoD} (h : CoU L w v D) : CoReads w v D := by
  obtain ⟨v1, v2, rfl, h⟩ := h
  exact ⟨v1, v2, rfl, h.rows.1, h.rows.2⟩
theorem CoU.below {L B : Nat} {w w' : World} {v : Value} {D : CoD} (h : CoU L w v D) (hb : Below B w w') (hB : B = w.heap.size) : CoU L w' v D := by
  obtain ⟨v1, v2, rfl, h⟩ := h
  exact ⟨v1, v2, rfl, h.below hb hB⟩
theorem CoU.mono {L L' : Nat} {w : World} {v : Value} {D : CoD} (h : CoU L w v D) (hL : L' ≤ L) : CoU L' w v D := by
  obtain ⟨v1, v2, rfl, h⟩ := h
  exact ⟨v1, v2, rfl, h.mono hL⟩
def pieceC (v : Value) : Nat × Nat := match v.ownBlock with
  | some g => (g, g + 1)
  | none => (0, 0)
theorem caown_piece {L : Nat} {w : World} {v : Value} {xs : List CaEl} (h : w.ownsRow L 70 4 v xs.length (caflat xs)) (hl : xs.length ≤ 1000) : CaOwn (pieceC v).1 (pieceC v).2 w v xs ∧ (pieceC v).1 ≤ (pieceC v).2 ∧ ∀ g, (pieceC v).1 ≤ g → g < (pieceC v).2 → v.ownBlock = some g := by
  have hm := hl
  rcases h.2 with ⟨rfl, h0⟩ | ⟨g, cap, cur, rfl, hg, hh, hc, hcm, hs, ht⟩
  · have : xs = [] := List.eq_nil_of_length_eq_zero h0
    subst this
    exact ⟨caown_nil _ _ _ _ _, Nat.le_refl _, fun g h1 h2 => absurd h2 (Nat.not_lt_zero _)⟩
  · refine ⟨⟨by omega, .inr ⟨g, cap, rfl, ⟨Nat.le_refl _, Nat.lt_succ_self _, hc⟩, caown_cells hh ht (Nat.le_refl _)⟩⟩, Nat.le_succ _, fun k h1 h2 => ?_⟩
    have h1' : g ≤ k := h1
    have h2' : k < g + 1 := h2
    show some g = some k
    congr 1
    omega
theorem slown_piece {L : Nat} {w : World} {v : Value} {xs : List SlEl} (h : w.ownsRow L 80 3 v xs.length (slflat xs)) (hl : xs.length ≤ 1000) : SlOwn (pieceC v).1 (pieceC v).2 w v xs ∧ (pieceC v).1 ≤ (pieceC v).2 ∧ ∀ g, (pieceC v).1 ≤ g → g < (pieceC v).2 → v.ownBlock = some g := by
  have hm := hl
  rcases h.2 with ⟨rfl, h0⟩ | ⟨g, cap, cur, rfl, hg, hh, hc, hcm, hs, ht⟩
  · have : xs = [] := List.eq_nil_of_length_eq_zero h0
    subst this
    exact ⟨slown_nil _ _ _ _ _, Nat.le_refl _, fun g h1 h2 => absurd h2 (Nat.not_lt_zero _)⟩
  · refine ⟨⟨by omega, .inr ⟨g, cap, rfl, ⟨Nat.le_refl _, Nat.lt_succ_self _, hc⟩, slown_cells hh ht (Nat.le_refl _)⟩⟩, Nat.le_succ _, fun k h1 h2 => ?_⟩
    have h1' : g ≤ k := h1
    have h2' : k < g + 1 := h2
    show some g = some k
    congr 1
    omega
theorem CoU.own {L : Nat} {w : World} {v : Value} {D : CoD} (h : CoU L w v D) : CoOwn (Iv L w.heap.size) w v D := by
  obtain ⟨v1, v2, rfl, h⟩ := h
  obtain ⟨o1, l1, s1⟩ := caown_piece h.r1 h.n1
  obtain ⟨o2, l2, s2⟩ := slown_piece h.r2 h.n2
  have dj : ∀ a b : Value, (∀ g, a.ownBlock = some g → b.ownBlock = some g → False) → (∀ g, (pieceC a).1 ≤ g → g < (pieceC a).2 → a.ownBlock = some g) → (∀ g, (pieceC b).1 ≤ g → g < (pieceC b).2 → b.ownBlock = some g) → Dj (pieceC a) (pieceC b) := by
    intro a b hab ha hb
    unfold pieceC Dj at *
    rcases ea : a.ownBlock with _ | ga <;> rcases eb : b.ownBlock with _ | gb <;> simp only
    · omega
    · omega
    · omega
    · have hne : ga ≠ gb := fun e => hab ga ea (by rw [eb, e])
      omega
  have d12 := dj v1 v2 h.apart s1 s2
  refine ⟨v1, v2, pieceC v1, pieceC v2, rfl, ⟨fun i hi => ?_, fun i j hi hj hne => ?_⟩, o1, o2⟩
  · rcases i with _ | _ | i
    · exact ⟨l1, fun g h1 h2 => caowns_lt h.r1 g (s1 g h1 h2)⟩
    · exact ⟨l2, fun g h1 h2 => caowns_lt h.r2 g (s2 g h1 h2)⟩
    · omega
  · rcases i with _ | _ | i <;> rcases j with _ | _ | j
    · exact absurd rfl hne
    · exact d12
    · omega
    · have := d12; unfold Dj at this ⊢; exact this.symm
    · exact absurd rfl hne
    all_goals omega
end Go.Proofs.Ytdlkilacnnjglaa
