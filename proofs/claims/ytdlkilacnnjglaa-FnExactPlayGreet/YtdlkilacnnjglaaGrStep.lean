/-
  A step of a greeting, in plain words; a step leaves a greeting good.
-/
import Derived.Test.YtdlkilacnnjglaaQSet
namespace Go.Proofs.Ytdlkilacnnjglaa

def wrG (D : GrD) (x : HeEl) : GrD := if D.f8.length < 30 then { D with f8 := D.f8 ++ [x] } else D
def clA (D : GrD) : GrD := { D with f0 := 0, f2 := 0, f5 := 0 }
def clB (D : GrD) : GrD := { D with f1 := 0, f4 := 0, f3 := 0 }
def beG (D : GrD) : GrD := wrG { D with f6 := D.f6 + 1, f0 := 1, f2 := D.f6 + 1, f5 := 0 } (1, D.f6 + 1, 0)
def tkAsk (D : GrD) (a : Int) : GrD := if D.f1 = 2 ∨ D.f7 = 1000 then D else wrG { D with f7 := D.f7 + 1, f1 := 1, f4 := a, f3 := D.f7 + 1 } (2, a, D.f7 + 1)
def opA (D : GrD) (a b : Int) : GrD := if D.f0 = 1 ∧ D.f2 = a then { D with f0 := 2, f5 := b, f9 := D.f9 ++ [(3, a, b)] } else D
def tkBoth (D : GrD) (a b : Int) : GrD := if (opA D a b).f0 = 2 ∧ (opA D a b).f2 = a ∧ (opA D a b).f5 = b then wrG (opA D a b) (3, a, b) else opA D a b
def tkAck (D : GrD) (a b : Int) : GrD := if D.f1 = 1 ∧ D.f4 = a ∧ D.f3 = b then { D with f1 := 2, f10 := D.f10 ++ [(3, a, b)] } else D
def takG (D : GrD) (x : HeEl) : GrD := if x.1 = 1 then tkAsk D x.2.1 else if x.1 = 2 then tkBoth D x.2.1 x.2.2 else tkAck D x.2.1 x.2.2
def hz : HeEl := (0, 0, 0)
/-- A letter's step: is it there, and what is done with it. -/
def letG (D : GrD) (k : Int) (j : Nat) : GrD × Bool :=
  if k = 4 then (if D.f8.length = 30 then (D, false) else (wrG D (D.f8.getD j hz), true))
  else if k = 2 then (takG { D with f8 := D.f8.eraseIdx j } (D.f8.getD j hz), true)
  else ({ D with f8 := D.f8.eraseIdx j }, true)
def stepG (D : GrD) (k i : Int) : GrD × Bool :=
  if k = 1 then (if i ≠ 0 ∨ D.f6 = 1000 then (D, false) else (beG D, true))
  else if k = 5 then (if i ≠ 0 ∨ D.f1 ≠ 1 then (D, false) else (clB D, true))
  else if k = 6 then (if i = 0 then (clA D, true) else if i = 1 then (clB D, true) else (D, false))
  else if (i < 0 ∨ (D.f8.length : Int) ≤ i) ∨ ¬ (2 ≤ k ∧ k ≤ 4) then (D, false)
  else letG D k i.toNat

def gvP (n l : Int) (z : Prop) : Prop := (z → n = 0) ∧ (¬ z → 1 ≤ n ∧ n ≤ l)
def letP (X Y : Int) (h : HeEl) : Prop := (1 ≤ h.1 ∧ h.1 ≤ 3) ∧ (1 ≤ h.2.1 ∧ h.2.1 ≤ X) ∧ gvP h.2.2 Y (h.1 = 1)
def ackP (X Y : Int) (h : HeEl) : Prop := h.1 = 3 ∧ (1 ≤ h.2.1 ∧ h.2.1 ≤ X) ∧ (1 ≤ h.2.2 ∧ h.2.2 ≤ Y)
structure GoodP (D : GrD) : Prop where
  s0 : 0 ≤ D.f0 ∧ D.f0 ≤ 2
  s1 : 0 ≤ D.f1 ∧ D.f1 ≤ 2
  x : 0 ≤ D.f6 ∧ D.f6 ≤ 1000
  y : 0 ≤ D.f7 ∧ D.f7 ≤ 1000
  n8 : D.f8.length ≤ 30
  n9 : D.f9.length ≤ 300
  n10 : D.f10.length ≤ 300
  a : gvP D.f2 D.f6 (D.f0 = 0)
  oa : gvP D.f5 D.f7 (D.f0 < 2)
  ob : gvP D.f4 D.f6 (D.f1 = 0)
  b : gvP D.f3 D.f7 (D.f1 = 0)
  l8 : ∀ h ∈ D.f8, letP D.f6 D.f7 h
  l9 : ∀ h ∈ D.f9, ackP D.f6 D.f7 h
  l10 : ∀ h ∈ D.f10, ackP D.f6 D.f7 h
theorem gv0_iff (n l : Int) (z : Prop) [Decidable z] : gv0 n l (decide z) = true ↔ gvP n l z := by
  unfold gv0 gvn gvP
  by_cases hz : z <;> simp [hz]
theorem letB_iff (X Y : Int) (h : HeEl) : letB X Y h = true ↔ letP X Y h := by
  unfold letB letP
  rw [Bool.and_eq_true, Bool.and_eq_true, gv0_iff, decide_eq_true_eq]
  unfold gv0 gvn
  simp
theorem ackB_iff (X Y : Int) (h : HeEl) : ackB X Y h = true ↔ ackP X Y h := by
  unfold ackB ackP
  rw [Bool.and_eq_true, letB_iff, decide_eq_true_eq]
  unfold letP gvP
  constructor
  · rintro ⟨h1, _, h2, h3⟩
    exact ⟨h1, h2, h3.2 (by omega)⟩
  · rintro ⟨h1, h2, h3⟩
    exact ⟨h1, by omega, h2, fun h => by omega, fun _ => h3⟩
theorem goodG_iff (D : GrD) : goodG D = true ↔ GoodP D := by
  unfold goodG numsB
  simp only [Bool.and_eq_true, gv0_iff, decide_eq_true_eq, List.all_eq_true, letB_iff, ackB_iff, List.mem_append]
  constructor
  · rintro ⟨h1, h2, h3, h4, h5, h6, h7, h8, h9, h10, h11, h12, h13⟩
    exact ⟨h1, h2, h3, h4, h5, h6, h7, h8, h9, h10, h11, h12, fun h hm => h13 h (.inl hm), fun h hm => h13 h (.inr hm)⟩
  · rintro ⟨h1, h2, h3, h4, h5, h6, h7, h8, h9, h10, h11, h12, h13, h14⟩
    exact ⟨h1, h2, h3, h4, h5, h6, h7, h8, h9, h10, h11, h12, fun h hm => hm.elim (h13 h) (h14 h)⟩
theorem letP_up {X X' Y Y' : Int} {h : HeEl} (hl : letP X Y h) (hx : X ≤ X') (hy : Y ≤ Y') : letP X' Y' h := by
  unfold letP gvP at *
  exact ⟨hl.1, by omega, hl.2.2.1, fun hz => by have := hl.2.2.2 hz; omega⟩
theorem ackP_up {X X' Y Y' : Int} {h : HeEl} (hl : ackP X Y h) (hx : X ≤ X') (hy : Y ≤ Y') : ackP X' Y' h := by
  unfold ackP at *
  omega
theorem gvP_up {n l l' : Int} {z : Prop} (h : gvP n l z) (hl : l ≤ l') : gvP n l' z := ⟨h.1, fun hz => by have := h.2 hz; omega⟩
theorem wrG_good {D : GrD} {x : HeEl} (h : GoodP D) (hx : letP D.f6 D.f7 x) : GoodP (wrG D x) := by
  unfold wrG
  split
  · rename_i hl
    obtain ⟨h1, h2, h3, h4, h5, h6, h7, h8, h9, h10, h11, h12, h13, h14⟩ := h
    refine ⟨h1, h2, h3, h4, ?_, h6, h7, h8, h9, h10, h11, ?_, h13, h14⟩
    · simp only [List.length_append, List.length_cons, List.length_nil]; omega
    · intro y hy
      rcases List.mem_append.1 hy with hy | hy
      · exact h12 y hy
      · rw [List.mem_singleton] at hy; subst hy; exact hx
  · exact h
theorem clA_good {D : GrD} (h : GoodP D) : GoodP (clA D) :=
  ⟨⟨Int.le_refl _, by show (0 : Int) ≤ 2; decide⟩, h.s1, h.x, h.y, h.n8, h.n9, h.n10, ⟨fun _ => rfl, fun hz => absurd rfl hz⟩, ⟨fun _ => rfl, fun hz => absurd (by show (0 : Int) < 2; decide) hz⟩, h.ob, h.b, h.l8, h.l9, h.l10⟩
theorem clB_good {D : GrD} (h : GoodP D) : GoodP (clB D) :=
  ⟨h.s0, ⟨Int.le_refl _, by show (0 : Int) ≤ 2; decide⟩, h.x, h.y, h.n8, h.n9, h.n10, h.a, h.oa, ⟨fun _ => rfl, fun hz => absurd rfl hz⟩, ⟨fun _ => rfl, fun hz => absurd rfl hz⟩, h.l8, h.l9, h.l10⟩
theorem beG_good {D : GrD} (h : GoodP D) (hx : D.f6 ≠ 1000) : GoodP (beG D) := by
  have hxx := h.x
  refine wrG_good ⟨⟨by show (0 : Int) ≤ 1; decide, by show (1 : Int) ≤ 2; decide⟩, h.s1, ⟨by show 0 ≤ D.f6 + 1; omega, by show D.f6 + 1 ≤ 1000; omega⟩, h.y, h.n8, h.n9, h.n10, ⟨fun hz => absurd hz (by show ¬ (1 : Int) = 0; decide), fun _ => ⟨by show 1 ≤ D.f6 + 1; omega, Int.le_refl _⟩⟩, ⟨fun _ => rfl, fun hz => absurd (by show (1 : Int) < 2; decide) hz⟩, gvP_up h.ob (by show D.f6 ≤ D.f6 + 1; omega), h.b, fun y hy => letP_up (h.l8 y hy) (by show D.f6 ≤ D.f6 + 1; omega) (Int.le_refl _), fun y hy => ackP_up (h.l9 y hy) (by show D.f6 ≤ D.f6 + 1; omega) (Int.le_refl _), fun y hy => ackP_up (h.l10 y hy) (by show D.f6 ≤ D.f6 + 1; omega) (Int.le_refl _)⟩ ?_
  exact ⟨⟨by show (1 : Int) ≤ 1; decide, by show (1 : Int) ≤ 3; decide⟩, ⟨by show 1 ≤ D.f6 + 1; omega, Int.le_refl _⟩, fun _ => rfl, fun hz => absurd rfl hz⟩
theorem tkAsk_good {D : GrD} {a : Int} (h : GoodP D) (ha : 1 ≤ a ∧ a ≤ D.f6) : GoodP (tkAsk D a) := by
  unfold tkAsk
  split
  · exact h
  · rename_i hn
    have hy := h.y
    have h7 : D.f7 ≠ 1000 := fun e => hn (.inr e)
    refine wrG_good ⟨h.s0, ⟨by show (0 : Int) ≤ 1; decide, by show (1 : Int) ≤ 2; decide⟩, h.x, ⟨by show 0 ≤ D.f7 + 1; omega, by show D.f7 + 1 ≤ 1000; omega⟩, h.n8, h.n9, h.n10, h.a, gvP_up h.oa (by show D.f7 ≤ D.f7 + 1; omega), ⟨fun hz => absurd hz (by show ¬ (1 : Int) = 0; decide), fun _ => ha⟩, ⟨fun hz => absurd hz (by show ¬ (1 : Int) = 0; decide), fun _ => ⟨by show 1 ≤ D.f7 + 1; omega, Int.le_refl _⟩⟩, fun y hy => letP_up (h.l8 y hy) (Int.le_refl _) (by show D.f7 ≤ D.f7 + 1; omega), fun y hy => ackP_up (h.l9 y hy) (Int.le_refl _) (by show D.f7 ≤ D.f7 + 1; omega), fun y hy => ackP_up (h.l10 y hy) (Int.le_refl _) (by show D.f7 ≤ D.f7 + 1; omega)⟩ ?_
    exact ⟨⟨by show (1 : Int) ≤ 2; decide, by show (2 : Int) ≤ 3; decide⟩, ha, fun hz => absurd hz (by show ¬ (2 : Int) = 1; decide), fun _ => ⟨by show 1 ≤ D.f7 + 1; omega, Int.le_refl _⟩⟩
theorem opA_good {D : GrD} {a b : Int} (h : GoodP D) (ha : 1 ≤ a ∧ a ≤ D.f6) (hb : 1 ≤ b ∧ b ≤ D.f7) (hl : D.f9.length < 300) : GoodP (opA D a b) := by
  unfold opA
  split
  · rename_i hc
    refine ⟨⟨by show (0 : Int) ≤ 2; decide, by show (2 : Int) ≤ 2; decide⟩, h.s1, h.x, h.y, h.n8, ?_, h.n10, ⟨fun hz => absurd hz (by show ¬ (2 : Int) = 0; decide), fun _ => by show 1 ≤ D.f2 ∧ D.f2 ≤ D.f6; rw [hc.2]; exact ha⟩, ⟨fun hz => absurd hz (by show ¬ (2 : Int) < 2; decide), fun _ => hb⟩, h.ob, h.b, h.l8, ?_, h.l10⟩
    · show (D.f9 ++ [_]).length ≤ 300
      rw [List.length_append]; simp only [List.length_cons, List.length_nil]; omega
    · intro y hy
      rcases List.mem_append.1 hy with hy | hy
      · exact h.l9 y hy
      · rw [List.mem_singleton] at hy; subst hy; exact ⟨rfl, ha, hb⟩
  · exact h
theorem opA_last (D : GrD) (a b : Int) : (opA D a b).f6 = D.f6 ∧ (opA D a b).f7 = D.f7 ∧ (opA D a b).f8 = D.f8 ∧ (opA D a b).f10 = D.f10 ∧ (opA D a b).f9.length ≤ D.f9.length + 1 ∧ (opA D a b).f1 = D.f1 ∧ (opA D a b).f3 = D.f3 ∧ (opA D a b).f4 = D.f4 ∧ (opA D a b).f2 = D.f2 := by
  unfold opA
  split
  · exact ⟨rfl, rfl, rfl, rfl, by simp, rfl, rfl, rfl, rfl⟩
  · exact ⟨rfl, rfl, rfl, rfl, Nat.le_succ _, rfl, rfl, rfl, rfl⟩
theorem tkBoth_good {D : GrD} {a b : Int} (h : GoodP D) (ha : 1 ≤ a ∧ a ≤ D.f6) (hb : 1 ≤ b ∧ b ≤ D.f7) (hl : D.f9.length < 300) : GoodP (tkBoth D a b) := by
  have ho := opA_good h ha hb hl
  have e := opA_last D a b
  unfold tkBoth
  split
  · exact wrG_good ho ⟨⟨by show (1 : Int) ≤ 3; decide, by show (3 : Int) ≤ 3; decide⟩, by rw [e.1]; exact ha, fun hz => absurd hz (by show ¬ (3 : Int) = 1; decide), fun _ => by rw [e.2.1]; exact hb⟩
  · exact ho
theorem tkAck_good {D : GrD} {a b : Int} (h : GoodP D) (ha : 1 ≤ a ∧ a ≤ D.f6) (hb : 1 ≤ b ∧ b ≤ D.f7) (hl : D.f10.length < 300) : GoodP (tkAck D a b) := by
  unfold tkAck
  split
  · rename_i hc
    refine ⟨h.s0, ⟨by show (0 : Int) ≤ 2; decide, by show (2 : Int) ≤ 2; decide⟩, h.x, h.y, h.n8, h.n9, ?_, h.a, h.oa, ⟨fun hz => absurd hz (by show ¬ (2 : Int) = 0; decide), fun _ => by show 1 ≤ D.f4 ∧ D.f4 ≤ D.f6; rw [hc.2.1]; exact ha⟩, ⟨fun hz => absurd hz (by show ¬ (2 : Int) = 0; decide), fun _ => by show 1 ≤ D.f3 ∧ D.f3 ≤ D.f7; rw [hc.2.2]; exact hb⟩, h.l8, h.l9, ?_⟩
    · show (D.f10 ++ [_]).length ≤ 300
      rw [List.length_append]; simp only [List.length_cons, List.length_nil]; omega
    · intro y hy
      rcases List.mem_append.1 hy with hy | hy
      · exact h.l10 y hy
      · rw [List.mem_singleton] at hy; subst hy; exact ⟨rfl, ha, hb⟩
  · exact h
theorem takG_good {D : GrD} {x : HeEl} (h : GoodP D) (hx : letP D.f6 D.f7 x) (hl : D.f9.length < 300) (hl' : D.f10.length < 300) : GoodP (takG D x) := by
  unfold takG
  split
  · exact tkAsk_good h hx.2.1
  · rename_i h1
    have hb := hx.2.2.2 h1
    split
    · exact tkBoth_good h hx.2.1 hb hl
    · exact tkAck_good h hx.2.1 hb hl'
theorem erase_good {D : GrD} (h : GoodP D) (j : Nat) : GoodP { D with f8 := D.f8.eraseIdx j } :=
  ⟨h.s0, h.s1, h.x, h.y, Nat.le_trans (List.length_eraseIdx_le _ _) h.n8, h.n9, h.n10, h.a, h.oa, h.ob, h.b, fun y hy => h.l8 y (List.eraseIdx_subset hy), h.l9, h.l10⟩
theorem getD_mem {xs : List HeEl} {j : Nat} (hj : j < xs.length) : xs.getD j hz ∈ xs := by
  rw [List.getD_eq_getElem?_getD, List.getElem?_eq_getElem hj]
  exact List.getElem_mem hj
theorem letG_good {D : GrD} {k : Int} {j : Nat} (h : GoodP D) (hj : j < D.f8.length) (hl : D.f9.length < 300) (hl' : D.f10.length < 300) : GoodP (letG D k j).1 := by
  have hx := h.l8 _ (getD_mem hj)
  unfold letG
  split
  · split
    · exact h
    · exact wrG_good h hx
  · split
    · exact takG_good (erase_good h j) hx hl hl'
    · exact erase_good h j
theorem stepG_good {D : GrD} {k i : Int} (h : GoodP D) (hl : D.f9.length < 300) (hl' : D.f10.length < 300) : GoodP (stepG D k i).1 := by
  unfold stepG
  split
  · split
    · exact h
    · rename_i hn; exact beG_good h fun e => hn (.inr e)
  · split
    · split
      · exact h
      · exact clB_good h
    · split
      · split
        · exact clA_good h
        · split
          · exact clB_good h
          · exact h
      · split
        · exact h
        · rename_i hn
          exact letG_good h (by omega) hl hl'
theorem wrG_len (D : GrD) (x : HeEl) : (wrG D x).f9 = D.f9 ∧ (wrG D x).f10 = D.f10 := by
  unfold wrG
  split <;> exact ⟨rfl, rfl⟩
/-- How long the rows of what came to be open become by one step. -/
theorem takG_len (D : GrD) (x : HeEl) : (takG D x).f9.length ≤ D.f9.length + 1 ∧ (takG D x).f10.length ≤ D.f10.length + 1 := by
  unfold takG
  split
  · unfold tkAsk
    split
    · exact ⟨Nat.le_succ _, Nat.le_succ _⟩
    · rw [(wrG_len _ _).1, (wrG_len _ _).2]; exact ⟨Nat.le_succ _, Nat.le_succ _⟩
  · split
    · have e := opA_last D x.2.1 x.2.2
      unfold tkBoth
      split
      · rw [(wrG_len _ _).1, (wrG_len _ _).2, e.2.2.2.1]; exact ⟨e.2.2.2.2.1, Nat.le_succ _⟩
      · rw [e.2.2.2.1]; exact ⟨e.2.2.2.2.1, Nat.le_succ _⟩
    · unfold tkAck
      split
      · exact ⟨Nat.le_succ _, by simp⟩
      · exact ⟨Nat.le_succ _, Nat.le_succ _⟩
theorem stepG_len (D : GrD) (k i : Int) : (stepG D k i).1.f9.length ≤ D.f9.length + 1 ∧ (stepG D k i).1.f10.length ≤ D.f10.length + 1 := by
  have h0 : D.f9.length ≤ D.f9.length + 1 ∧ D.f10.length ≤ D.f10.length + 1 := ⟨Nat.le_succ _, Nat.le_succ _⟩
  unfold stepG
  split
  · split
    · exact h0
    · unfold beG
      rw [(wrG_len _ _).1, (wrG_len _ _).2]
      exact h0
  · split
    · split <;> exact h0
    · split
      · split
        · exact h0
        · split <;> exact h0
      · split
        · exact h0
        · unfold letG
          split
          · split
            · exact h0
            · rw [(wrG_len _ _).1, (wrG_len _ _).2]; exact h0
          · split
            · exact takG_len { D with f8 := D.f8.eraseIdx i.toNat } _
            · exact h0
/-- The play, i steps of it. -/
def playG (l : List (Int × Int)) : Nat → GrD × List Bool
  | 0 => (⟨0, 0, 0, 0, 0, 0, 100, 0, [], [], []⟩, [])
  | i + 1 => ((stepG (playG l i).1 (l.getD i (0, 0)).1 (l.getD i (0, 0)).2).1, (playG l i).2 ++ [(stepG (playG l i).1 (l.getD i (0, 0)).1 (l.getD i (0, 0)).2).2])
theorem newG_good : GoodP ⟨0, 0, 0, 0, 0, 0, 100, 0, [], [], []⟩ := by
  rw [← goodG_iff]
  decide
theorem playG_good (l : List (Int × Int)) : ∀ i, i ≤ 299 → GoodP (playG l i).1 ∧ (playG l i).1.f9.length ≤ i ∧ (playG l i).1.f10.length ≤ i
  | 0, _ => ⟨newG_good, Nat.le_refl _, Nat.le_refl _⟩
  | i + 1, hi => by
    obtain ⟨h1, h2, h3⟩ := playG_good l i (by omega)
    have h4 := stepG_len (playG l i).1 (l.getD i (0, 0)).1 (l.getD i (0, 0)).2
    exact ⟨stepG_good h1 (by omega) (by omega), by show (stepG _ _ _).1.f9.length ≤ _; omega, by show (stepG _ _ _).1.f10.length ≤ _; omega⟩
theorem playG_did (l : List (Int × Int)) : ∀ i, (playG l i).2.length = i
  | 0 => rfl
  | i + 1 => by show (_ ++ [_]).length = _; rw [List.length_append, playG_did l i]; rfl
theorem letG_no {D : GrD} {k : Int} {j : Nat} (h : (letG D k j).2 = false) : (letG D k j).1 = D := by
  unfold letG at h ⊢
  by_cases h4 : k = 4
  · rw [if_pos h4] at h ⊢
    by_cases h3 : D.f8.length = 30
    · rw [if_pos h3]
    · rw [if_neg h3] at h; cases h
  · rw [if_neg h4] at h
    by_cases h2 : k = 2
    · rw [if_pos h2] at h; cases h
    · rw [if_neg h2] at h; cases h
/-- Where nothing is done nothing turns. -/
theorem stepG_no {D : GrD} {k i : Int} (h : (stepG D k i).2 = false) : (stepG D k i).1 = D := by
  unfold stepG at h ⊢
  by_cases h1 : k = 1
  · rw [if_pos h1] at h ⊢
    by_cases h2 : i ≠ 0 ∨ D.f6 = 1000
    · rw [if_pos h2]
    · rw [if_neg h2] at h; cases h
  rw [if_neg h1] at h ⊢
  by_cases h5 : k = 5
  · rw [if_pos h5] at h ⊢
    by_cases h2 : i ≠ 0 ∨ D.f1 ≠ 1
    · rw [if_pos h2]
    · rw [if_neg h2] at h; cases h
  rw [if_neg h5] at h ⊢
  by_cases h6 : k = 6
  · rw [if_pos h6] at h ⊢
    by_cases h2 : i = 0
    · rw [if_pos h2] at h; cases h
    · rw [if_neg h2] at h ⊢
      by_cases h3 : i = 1
      · rw [if_pos h3] at h; cases h
      · rw [if_neg h3]
  rw [if_neg h6] at h ⊢
  by_cases h7 : (i < 0 ∨ (D.f8.length : Int) ≤ i) ∨ ¬ (2 ≤ k ∧ k ≤ 4)
  · rw [if_pos h7]
  · rw [if_neg h7] at h ⊢
    exact letG_no h
end Go.Proofs.Ytdlkilacnnjglaa
