/-
  A row of bool in blocks of a set. Plain facts on the memory.
  What a play tells, by sets of blocks. Plain facts on the memory.
-/
import Derived.Test.YtdlkilacnnjglaaQForm
import Derived.Test.YtdlkilacnnjglaaKBoolRows
import Derived.Test.YtdlkilacnnjglaaIPlayG
namespace Go.Proofs.Ytdlkilacnnjglaa
open Go.RowKit

def BoOwnS (S : Nat → Prop) (w : World) (v : Value) (xs : List BoEl) : Prop := ∃ l e, BoOwn l e w v xs ∧ ∀ g, l ≤ g → g < e → S g
theorem BoOwnS.reads {S : Nat → Prop} {w : World} {v : Value} {xs : List BoEl} (h : BoOwnS S w v xs) : BoReads w v xs := by
  obtain ⟨l, e, h, _⟩ := h
  exact h.reads
theorem BoOwnS.below {S : Nat → Prop} {w w' : World} {v : Value} {xs : List BoEl} (h : BoOwnS S w v xs) (hb : Below w.heap.size w w') : BoOwnS S w' v xs := by
  obtain ⟨l, e, h, hs⟩ := h
  exact ⟨l, e, h.below hb, hs⟩
theorem BoOwnS.onlyS {S S' : Nat → Prop} {w w' : World} {v : Value} {xs : List BoEl} (h : BoOwnS S w v xs) (ho : OnlyS S' w w') (hd : ∀ g, S g → S' g → False) : BoOwnS S w' v xs := by
  obtain ⟨l, e, h, hs⟩ := h
  exact ⟨l, e, h.at fun g g1 g2 g3 => ho g g3 (hd g (hs g g1 g2)), hs⟩
theorem BoOwn.inS {lo hi : Nat} {w : World} {v : Value} {xs : List BoEl} (h : BoOwn lo hi w v xs) : BoOwnS (Iv lo hi) w v xs := ⟨lo, hi, h, fun _ h1 h2 => ⟨h1, h2⟩⟩
theorem BoOwnS.on {l e : Nat} {S : Nat → Prop} {w w' : World} (hS : ∀ g, l ≤ g → g < e → S g) (on : Only l e w w') : OnlyS S w w' := fun j _ hj => on.2 j (by
  by_cases h1 : j < l
  · exact .inl h1
  · by_cases h2 : e ≤ j
    · exact .inr h2
    · exact absurd (hS j (by omega) (by omega)) hj)
/-- Behind the numbering of a row in blocks of S, all from lo on: nothing ahead of lo is touched. -/
theorem BoOwnS.frame {l e lo : Nat} {S : Nat → Prop} {w w' : World} {v : Value} {xs : List BoEl} (_h : BoOwn l e w v xs) (hS : ∀ g, l ≤ g → g < e → S g) (hlo : ∀ g, S g → lo ≤ g) (_hw : lo ≤ w.heap.size) (b : Below l w w') (on : Only l e w w') : Below lo w w' :=
  ⟨b.os, b.tape, b.output, b.size, fun k hk => on.2 k (by
    by_cases h1 : k < l
    · exact .inl h1
    · by_cases h2 : e ≤ k
      · exact .inr h2
      · have := hlo k (hS k (by omega) (by omega))
        omega)⟩
end Go.Proofs.Ytdlkilacnnjglaa
namespace Go.Proofs.Ytdlkilacnnjglaa
open Go.RowKit

theorem RowsU.ownB {L : Nat} {w : World} {v8 v9 v10 : Value} {D : GrD} (h : RowsU L w v8 v9 v10 D.f8 D.f9 D.f10) : GrOwn (Bk v8 v9 v10) w (grV D v8 v9 v10) D := by
  obtain ⟨o8, l8, s8⟩ := heown_piece h.r8 h.n8
  obtain ⟨o9, l9, s9⟩ := heown_piece h.r9 h.n9
  obtain ⟨o0, l0, s0⟩ := heown_piece h.r10 h.n10
  have dj : ∀ a b : Value, ApartV a b → (∀ g, (pieceU a).1 ≤ g → g < (pieceU a).2 → a.ownBlock = some g) → (∀ g, (pieceU b).1 ≤ g → g < (pieceU b).2 → b.ownBlock = some g) → Dj (pieceU a) (pieceU b) := by
    intro a b hab ha hb
    unfold pieceU Dj at *
    rcases ea : a.ownBlock with _ | ga <;> rcases eb : b.ownBlock with _ | gb <;> simp only
    · omega
    · omega
    · omega
    · have hne : ga ≠ gb := fun e => hab ga ea (by rw [eb, e])
      omega
  refine ⟨v8, v9, v10, pieceU v8, pieceU v9, pieceU v10, rfl, ⟨fun i hi => ?_, fun i j hi hj hne => ?_⟩, o8, o9, o0⟩
  · rcases i with _ | _ | _ | i
    · exact ⟨l8, fun g h1 h2 => .inl (s8 g h1 h2)⟩
    · exact ⟨l9, fun g h1 h2 => .inr (.inl (s9 g h1 h2))⟩
    · exact ⟨l0, fun g h1 h2 => .inr (.inr (s0 g h1 h2))⟩
    · omega
  · rcases i with _ | _ | _ | i <;> rcases j with _ | _ | _ | j <;> first | omega | exact dj _ _ h.a89 s8 s9 | exact dj _ _ h.a80 s8 s0 | exact dj _ _ h.a90 s9 s0 | exact dj _ _ h.a89.symm s9 s8 | exact dj _ _ h.a80.symm s0 s8 | exact dj _ _ h.a90.symm s0 s9
theorem boown_piece {L : Nat} {w : World} {v : Value} {xs : List BoEl} (h : w.ownsRow L 4 1 v xs.length (boflat xs)) (hl : xs.length ≤ 1000) : BoOwn (pieceU v).1 (pieceU v).2 w v xs ∧ (pieceU v).1 ≤ (pieceU v).2 ∧ ∀ g, (pieceU v).1 ≤ g → g < (pieceU v).2 → v.ownBlock = some g := by
  have hm := hl
  rcases h.2 with ⟨rfl, h0⟩ | ⟨g, cap, cur, rfl, hg, hh, hc, hcm, hs, ht⟩
  · have : xs = [] := List.eq_nil_of_length_eq_zero h0
    subst this
    exact ⟨boown_nil _ _ _ _ _, Nat.le_refl _, fun g h1 h2 => absurd h2 (Nat.not_lt_zero _)⟩
  · refine ⟨⟨by omega, .inr ⟨g, cap, rfl, ⟨Nat.le_refl _, Nat.lt_succ_self _, hc⟩, boown_cells hh (by simpa using ht) (by simp)⟩⟩, Nat.le_succ _, fun k h1 h2 => ?_⟩
    have h1' : g ≤ k := h1
    have h2' : k < g + 1 := h2
    show some g = some k
    congr 1
    omega
theorem plTells_own {w w' : World} {u s : Value} {D : GrD} {bs : List Bool} (h : PlTells w w' u s D bs) (hl : bs.length ≤ 1000) : ∃ S0 S1 : Nat → Prop, GrOwn S0 w' u D ∧ BoOwnS S1 w' s bs ∧ (∀ g, S0 g → S1 g → False) ∧ (∀ g, S0 g ∨ S1 g → w.heap.size ≤ g ∧ g < w'.heap.size) ∧ Below w.heap.size w w' := by
  obtain ⟨v8, v9, v10, rfl, hU, hs, hf, hb⟩ := h
  obtain ⟨o, l, e⟩ := boown_piece hs hl
  refine ⟨Bk v8 v9 v10, fun g => s.ownBlock = some g, hU.ownB, ⟨_, _, o, e⟩, fun g h1 h2 => hf g h2 h1, fun g hg => ?_, hb⟩
  rcases hg with hg | hg
  · exact hU.blk hg
  · exact heowns_lt hs g hg
end Go.Proofs.Ytdlkilacnnjglaa
