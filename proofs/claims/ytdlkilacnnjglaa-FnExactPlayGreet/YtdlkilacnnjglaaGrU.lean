/-
  A greeting whose three rows are the call's own, apart, and may be appended to. Plain facts on the memory.
-/
import Derived.Test.YtdlkilacnnjglaaQSet
import Derived.Test.YtdlkilacnnjglaaKHelloApp
import Derived.Test.YtdlkilacnnjglaaKIntRows
namespace Go.Proofs.Ytdlkilacnnjglaa
open Go.RowKit

def ApartV (a b : Value) : Prop := ∀ g, a.ownBlock = some g → b.ownBlock = some g → False
theorem ApartV.symm {a b : Value} (h : ApartV a b) : ApartV b a := fun g h1 h2 => h g h2 h1
/-- Three rows of one's own, from L on. -/
structure RowsU (L : Nat) (w : World) (v8 v9 v10 : Value) (l8 l9 l10 : List HeEl) : Prop where
  r8 : w.ownsRow L 116 3 v8 l8.length (heflat l8)
  r9 : w.ownsRow L 116 3 v9 l9.length (heflat l9)
  r10 : w.ownsRow L 116 3 v10 l10.length (heflat l10)
  a89 : ApartV v8 v9
  a80 : ApartV v8 v10
  a90 : ApartV v9 v10
  n8 : l8.length ≤ 1000
  n9 : l9.length ≤ 1000
  n10 : l10.length ≤ 1000
theorem RowsU.at {L : Nat} {w w' : World} {v8 v9 v10 : Value} {l8 l9 l10 : List HeEl} (h : RowsU L w v8 v9 v10 l8 l9 l10) (e : ∀ g, L ≤ g → g < w.heap.size → (v8.ownBlock = some g ∨ v9.ownBlock = some g ∨ v10.ownBlock = some g) → w'.heap[g]? = w.heap[g]?) : RowsU L w' v8 v9 v10 l8 l9 l10 :=
  ⟨heowns_at h.r8 fun g h1 h2 => e g (heowns_lt h.r8 g h1).1 h2 (.inl h1), heowns_at h.r9 fun g h1 h2 => e g (heowns_lt h.r9 g h1).1 h2 (.inr (.inl h1)), heowns_at h.r10 fun g h1 h2 => e g (heowns_lt h.r10 g h1).1 h2 (.inr (.inr h1)), h.a89, h.a80, h.a90, h.n8, h.n9, h.n10⟩
theorem RowsU.below {L B : Nat} {w w' : World} {v8 v9 v10 : Value} {l8 l9 l10 : List HeEl} (h : RowsU L w v8 v9 v10 l8 l9 l10) (hb : Below B w w') (hB : B = w.heap.size) : RowsU L w' v8 v9 v10 l8 l9 l10 := h.at fun g _ h2 _ => hb.block g (by omega)
/-- A block that is none of the rows is written. -/
theorem RowsU.set {L b j : Nat} {w : World} {v8 v9 v10 : Value} {l8 l9 l10 : List HeEl} (h : RowsU L w v8 v9 v10 l8 l9 l10) (u : Value) (h8 : v8.ownBlock ≠ some b) (h9 : v9.ownBlock ≠ some b) (h10 : v10.ownBlock ≠ some b) : RowsU L (w.setCell ⟨b, j, none⟩ u) v8 v9 v10 l8 l9 l10 := h.at fun g _ hlt hg => by
  have hne : g ≠ b := by
    rintro rfl
    rcases hg with hg | hg | hg
    · exact h8 hg
    · exact h9 hg
    · exact h10 hg
  exact ((But.refl (fun k => k = b) w).setCell (P := fun k => k = b) (p := ⟨b, j, none⟩) rfl u).2 g hlt hne
theorem RowsU.rows {L : Nat} {w : World} {v8 v9 v10 : Value} {l8 l9 l10 : List HeEl} (h : RowsU L w v8 v9 v10 l8 l9 l10) : HeReads w v8 l8 ∧ HeReads w v9 l9 ∧ HeReads w v10 l10 :=
  ⟨HeReads.of_owns h.r8 (by have := h.n8; omega), HeReads.of_owns h.r9 (by have := h.n9; omega), HeReads.of_owns h.r10 (by have := h.n10; omega)⟩
theorem RowsU.form {L : Nat} {w : World} {v8 v9 v10 : Value} {l8 l9 l10 : List HeEl} (h : RowsU L w v8 v9 v10 l8 l9 l10) : ∃ a8 c8 a9 c9 a10 c10, v8 = .slice a8 l8.length c8 ∧ v9 = .slice a9 l9.length c9 ∧ v10 = .slice a10 l10.length c10 := by
  obtain ⟨a8, c8, e8, _⟩ := heowns_form h.r8
  obtain ⟨a9, c9, e9, _⟩ := heowns_form h.r9
  obtain ⟨a10, c10, e10, _⟩ := heowns_form h.r10
  exact ⟨a8, c8, a9, c9, a10, c10, e8, e9, e10⟩
/-- The first row grows. -/
theorem RowsU.app8 {L m : Nat} {w w' : World} {v8 v9 v10 v' : Value} {l8 l9 l10 ys : List HeEl} (h : RowsU L w v8 v9 v10 l8 l9 l10) (hl : l8.length + ys.length ≤ 1000) (ho : w'.ownsRow L 116 3 v' (l8.length + ys.length) (heflat (l8 ++ ys))) (hg : w.grownBy w' v8.ownBlock) (hat : v'.ownBlock = v8.ownBlock ∨ v'.ownBlock = some m) (hm : w.heap.size ≤ m) : RowsU L w' v' v9 v10 (l8 ++ ys) l9 l10 := by
  refine ⟨by rw [List.length_append]; exact ho, heowns_at h.r9 fun g h1 h2 => hg.block g h2 fun e => h.a89 g e.symm h1, heowns_at h.r10 fun g h1 h2 => hg.block g h2 fun e => h.a80 g e.symm h1, fun g h1 h2 => ?_, fun g h1 h2 => ?_, h.a90, by rw [List.length_append]; exact hl, h.n9, h.n10⟩
  · rcases hat with e | e
    · exact h.a89 g (e ▸ h1) h2
    · rw [e] at h1; cases h1; have := (heowns_lt h.r9 _ h2).2; omega
  · rcases hat with e | e
    · exact h.a80 g (e ▸ h1) h2
    · rw [e] at h1; cases h1; have := (heowns_lt h.r10 _ h2).2; omega
theorem RowsU.app9 {L m : Nat} {w w' : World} {v8 v9 v10 v' : Value} {l8 l9 l10 ys : List HeEl} (h : RowsU L w v8 v9 v10 l8 l9 l10) (hl : l9.length + ys.length ≤ 1000) (ho : w'.ownsRow L 116 3 v' (l9.length + ys.length) (heflat (l9 ++ ys))) (hg : w.grownBy w' v9.ownBlock) (hat : v'.ownBlock = v9.ownBlock ∨ v'.ownBlock = some m) (hm : w.heap.size ≤ m) : RowsU L w' v8 v' v10 l8 (l9 ++ ys) l10 := by
  refine ⟨heowns_at h.r8 fun g h1 h2 => hg.block g h2 fun e => h.a89 g h1 e.symm, by rw [List.length_append]; exact ho, heowns_at h.r10 fun g h1 h2 => hg.block g h2 fun e => h.a90 g e.symm h1, fun g h2 h1 => ?_, h.a80, fun g h1 h2 => ?_, h.n8, by rw [List.length_append]; exact hl, h.n10⟩
  · rcases hat with e | e
    · exact h.a89 g h2 (e ▸ h1)
    · rw [e] at h1; cases h1; have := (heowns_lt h.r8 _ h2).2; omega
  · rcases hat with e | e
    · exact h.a90 g (e ▸ h1) h2
    · rw [e] at h1; cases h1; have := (heowns_lt h.r10 _ h2).2; omega
theorem RowsU.app10 {L m : Nat} {w w' : World} {v8 v9 v10 v' : Value} {l8 l9 l10 ys : List HeEl} (h : RowsU L w v8 v9 v10 l8 l9 l10) (hl : l10.length + ys.length ≤ 1000) (ho : w'.ownsRow L 116 3 v' (l10.length + ys.length) (heflat (l10 ++ ys))) (hg : w.grownBy w' v10.ownBlock) (hat : v'.ownBlock = v10.ownBlock ∨ v'.ownBlock = some m) (hm : w.heap.size ≤ m) : RowsU L w' v8 v9 v' l8 l9 (l10 ++ ys) := by
  refine ⟨heowns_at h.r8 fun g h1 h2 => hg.block g h2 fun e => h.a80 g h1 e.symm, heowns_at h.r9 fun g h1 h2 => hg.block g h2 fun e => h.a90 g h1 e.symm, by rw [List.length_append]; exact ho, h.a89, fun g h2 h1 => ?_, fun g h2 h1 => ?_, h.n8, h.n9, by rw [List.length_append]; exact hl⟩
  · rcases hat with e | e
    · exact h.a80 g h2 (e ▸ h1)
    · rw [e] at h1; cases h1; have := (heowns_lt h.r8 _ h2).2; omega
  · rcases hat with e | e
    · exact h.a90 g h2 (e ▸ h1)
    · rw [e] at h1; cases h1; have := (heowns_lt h.r9 _ h2).2; omega
/-- The first row is new. -/
theorem RowsU.new8 {L : Nat} {w w' : World} {v8 v9 v10 v' : Value} {l8 l9 l10 ys : List HeEl} (h : RowsU L w v8 v9 v10 l8 l9 l10) (hl : ys.length ≤ 1000) (ho : w'.ownsRow w.heap.size 116 3 v' ys.length (heflat ys)) (hb : Below w.heap.size w w') (hL : L ≤ w.heap.size) : RowsU L w' v' v9 v10 ys l9 l10 :=
  have h' := h.below hb rfl
  ⟨heowns_mono ho hL, h'.r9, h'.r10, fun g h1 h2 => by have := (heowns_lt ho g h1).1; have := (heowns_lt h.r9 g h2).2; omega, fun g h1 h2 => by have := (heowns_lt ho g h1).1; have := (heowns_lt h.r10 g h2).2; omega, h.a90, hl, h.n9, h.n10⟩
theorem RowsU.new9 {L : Nat} {w w' : World} {v8 v9 v10 v' : Value} {l8 l9 l10 ys : List HeEl} (h : RowsU L w v8 v9 v10 l8 l9 l10) (hl : ys.length ≤ 1000) (ho : w'.ownsRow w.heap.size 116 3 v' ys.length (heflat ys)) (hb : Below w.heap.size w w') (hL : L ≤ w.heap.size) : RowsU L w' v8 v' v10 l8 ys l10 :=
  have h' := h.below hb rfl
  ⟨h'.r8, heowns_mono ho hL, h'.r10, fun g h2 h1 => by have := (heowns_lt ho g h1).1; have := (heowns_lt h.r8 g h2).2; omega, h.a80, fun g h1 h2 => by have := (heowns_lt ho g h1).1; have := (heowns_lt h.r10 g h2).2; omega, h.n8, hl, h.n10⟩
theorem RowsU.new10 {L : Nat} {w w' : World} {v8 v9 v10 v' : Value} {l8 l9 l10 ys : List HeEl} (h : RowsU L w v8 v9 v10 l8 l9 l10) (hl : ys.length ≤ 1000) (ho : w'.ownsRow w.heap.size 116 3 v' ys.length (heflat ys)) (hb : Below w.heap.size w w') (hL : L ≤ w.heap.size) : RowsU L w' v8 v9 v' l8 l9 ys :=
  have h' := h.below hb rfl
  ⟨h'.r8, h'.r9, heowns_mono ho hL, h.a89, fun g h2 h1 => by have := (heowns_lt ho g h1).1; have := (heowns_lt h.r8 g h2).2; omega, fun g h2 h1 => by have := (heowns_lt ho g h1).1; have := (heowns_lt h.r9 g h2).2; omega, h.n8, h.n9, hl⟩
theorem apartV_nil (b : Value) : ApartV (.slice none 0 0) b := fun g h _ => by cases h
theorem rowsU_bare (L : Nat) (w : World) : RowsU L w (.slice none 0 0) (.slice none 0 0) (.slice none 0 0) [] [] [] :=
  ⟨heowns_nil _ _, heowns_nil _ _, heowns_nil _ _, apartV_nil _, apartV_nil _, apartV_nil _, by decide, by decide, by decide⟩
/-- A greeting written out. -/
abbrev grV (D : GrD) (v8 v9 v10 : Value) : Value := .agg #[.int .i64 D.f0, .int .i64 D.f1, .int .i64 D.f2, .int .i64 D.f3, .int .i64 D.f4, .int .i64 D.f5, .int .i64 D.f6, .int .i64 D.f7, v8, v9, v10]
abbrev grC (D : GrD) (v8 v9 v10 : Value) : List Value := [.int .i64 D.f0, .int .i64 D.f1, .int .i64 D.f2, .int .i64 D.f3, .int .i64 D.f4, .int .i64 D.f5, .int .i64 D.f6, .int .i64 D.f7, v8, v9, v10]
def GrU (L : Nat) (w : World) (v : Value) (D : GrD) : Prop := ∃ v8 v9 v10, v = grV D v8 v9 v10 ∧ RowsU L w v8 v9 v10 D.f8 D.f9 D.f10
theorem GrU.reads {L : Nat} {w : World} {v : Value} {D : GrD} (h : GrU L w v D) : GrReads w v D := by
  obtain ⟨v8, v9, v10, rfl, h⟩ := h
  exact ⟨v8, v9, v10, rfl, h.rows.1, h.rows.2.1, h.rows.2.2⟩
theorem GrU.below {L B : Nat} {w w' : World} {v : Value} {D : GrD} (h : GrU L w v D) (hb : Below B w w') (hB : B = w.heap.size) : GrU L w' v D := by
  obtain ⟨v8, v9, v10, rfl, h⟩ := h
  exact ⟨v8, v9, v10, rfl, h.below hb hB⟩
theorem RowsU.mono {L L' : Nat} {w : World} {v8 v9 v10 : Value} {l8 l9 l10 : List HeEl} (h : RowsU L w v8 v9 v10 l8 l9 l10) (hL : L' ≤ L) : RowsU L' w v8 v9 v10 l8 l9 l10 :=
  ⟨heowns_mono h.r8 hL, heowns_mono h.r9 hL, heowns_mono h.r10 hL, h.a89, h.a80, h.a90, h.n8, h.n9, h.n10⟩
theorem GrU.mono {L L' : Nat} {w : World} {v : Value} {D : GrD} (h : GrU L w v D) (hL : L' ≤ L) : GrU L' w v D := by
  obtain ⟨v8, v9, v10, rfl, h⟩ := h
  exact ⟨v8, v9, v10, rfl, h.mono hL⟩
def pieceU (v : Value) : Nat × Nat := match v.ownBlock with
  | some g => (g, g + 1)
  | none => (0, 0)
theorem heown_piece {L : Nat} {w : World} {v : Value} {xs : List HeEl} (h : w.ownsRow L 116 3 v xs.length (heflat xs)) (hl : xs.length ≤ 1000) : HeOwn (pieceU v).1 (pieceU v).2 w v xs ∧ (pieceU v).1 ≤ (pieceU v).2 ∧ ∀ g, (pieceU v).1 ≤ g → g < (pieceU v).2 → v.ownBlock = some g := by
  have hm := hl
  rcases h.2 with ⟨rfl, h0⟩ | ⟨g, cap, cur, rfl, hg, hh, hc, hcm, hs, ht⟩
  · have : xs = [] := List.eq_nil_of_length_eq_zero h0
    subst this
    exact ⟨heown_nil _ _ _ _ _, Nat.le_refl _, fun g h1 h2 => absurd h2 (Nat.not_lt_zero _)⟩
  · refine ⟨⟨by omega, .inr ⟨g, cap, rfl, ⟨Nat.le_refl _, Nat.lt_succ_self _, hc⟩, heown_cells hh ht (Nat.le_refl _)⟩⟩, Nat.le_succ _, fun k h1 h2 => ?_⟩
    have h1' : g ≤ k := h1
    have h2' : k < g + 1 := h2
    show some g = some k
    congr 1
    omega
theorem GrU.own {L : Nat} {w : World} {v : Value} {D : GrD} (h : GrU L w v D) : GrOwn (Iv L w.heap.size) w v D := by
  obtain ⟨v8, v9, v10, rfl, h⟩ := h
  obtain ⟨o8, l8, s8⟩ := heown_piece h.r8 h.n8
  obtain ⟨o9, l9, s9⟩ := heown_piece h.r9 h.n9
  obtain ⟨o0, l0, s0⟩ := heown_piece h.r10 h.n10
  have dj : ∀ a b : Value, ApartV a b → (∀ g, (pieceU a).1 ≤ g → g < (pieceU a).2 → a.ownBlock = some g) → (∀ g, (pieceU b).1 ≤ g → g < (pieceU b).2 → b.ownBlock = some g) → Dj (pieceU a) (pieceU b) := by
    intro a b hab ha hb
    unfold pieceU Dj at *
    rcases ea : a.ownBlock with _ | ga <;> rcases eb : b.ownBlock with _ | gb <;> simp only
    · omega
    · omega
    · omega
    · have hne : ga ≠ gb := fun e => hab ga ea (by rw [eb, e])
      omega
  refine ⟨v8, v9, v10, pieceU v8, pieceU v9, pieceU v10, rfl, ⟨fun i hi => ?_, fun i j hi hj hne => ?_⟩, o8, o9, o0⟩
  · rcases i with _ | _ | _ | i
    · exact ⟨l8, fun g h1 h2 => heowns_lt h.r8 g (s8 g h1 h2)⟩
    · exact ⟨l9, fun g h1 h2 => heowns_lt h.r9 g (s9 g h1 h2)⟩
    · exact ⟨l0, fun g h1 h2 => heowns_lt h.r10 g (s0 g h1 h2)⟩
    · omega
  · rcases i with _ | _ | _ | i <;> rcases j with _ | _ | _ | j <;> first | omega | exact dj _ _ h.a89 s8 s9 | exact dj _ _ h.a80 s8 s0 | exact dj _ _ h.a90 s9 s0 | exact dj _ _ h.a89.symm s9 s8 | exact dj _ _ h.a80.symm s0 s8 | exact dj _ _ h.a90.symm s0 s9
theorem grU_bare (L : Nat) (w : World) (D : GrD) (h8 : D.f8 = []) (h9 : D.f9 = []) (h10 : D.f10 = []) : GrU L w (grV D (.slice none 0 0) (.slice none 0 0) (.slice none 0 0)) D :=
  ⟨_, _, _, rfl, by rw [h8, h9, h10]; exact rowsU_bare L w⟩
def newG : GrD := ⟨0, 0, 0, 0, 0, 0, 100, 0, [], [], []⟩
def zeroG : GrD := ⟨0, 0, 0, 0, 0, 0, 0, 0, [], [], []⟩
end Go.Proofs.Ytdlkilacnnjglaa
