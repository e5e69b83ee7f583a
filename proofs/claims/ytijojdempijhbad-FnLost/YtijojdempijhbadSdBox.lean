/-
  Senders in a box: put there, told from there. Plain facts on the memory.
  A sender in blocks from some place on: plain facts on the memory.
-/
import Derived.Test.YtijojdempijhbadFlowFns
namespace Go.Proofs.Ytijojdempijhbad
open Go.RowKit

theorem three_put {V : World} {b : Nat} {a0 a1 a2 : Value} (h : BoxL V b [a0, a1, a2]) (u0 u1 u2 : Value) : BoxL (((V.setCell ⟨b, 0, none⟩ u0).setCell ⟨b, 1, none⟩ u1).setCell ⟨b, 2, none⟩ u2) b [u0, u1, u2] := ((h.set 0 (by simp) u0).set 1 (by simp) u1).set 2 (by simp) u2
theorem three_only (V : World) (b : Nat) (u0 u1 u2 : Value) : OnlyP (fun j => j = b) V (((V.setCell ⟨b, 0, none⟩ u0).setCell ⟨b, 1, none⟩ u1).setCell ⟨b, 2, none⟩ u2) := (((OnlyP.refl _ _).trans (onlyP_set _ _ _ _)).trans (onlyP_set _ _ _ _)).trans (onlyP_set _ _ _ _)
theorem three_below {lo b : Nat} (V : World) (u0 u1 u2 : Value) (h : lo ≤ b) : Below lo V (((V.setCell ⟨b, 0, none⟩ u0).setCell ⟨b, 1, none⟩ u1).setCell ⟨b, 2, none⟩ u2) := (three_only V b u0 u1 u2).below fun j e => by omega
theorem BoxL.form3 {w : World} {b : Nat} {a0 a1 a2 : Value} (h : BoxL w b [a0, a1, a2]) : (w.cell? ⟨b, 0, none⟩ = some a0 ∧ w.frozen? ⟨b, 0, none⟩ = false) ∧ (w.cell? ⟨b, 1, none⟩ = some a1 ∧ w.frozen? ⟨b, 1, none⟩ = false) ∧ (w.cell? ⟨b, 2, none⟩ = some a2 ∧ w.frozen? ⟨b, 2, none⟩ = false) := ⟨h.2 0 (by simp), h.2 1 (by simp), h.2 2 (by simp)⟩
theorem SdOwn.mk2 {S : Nat → Prop} {w : World} {v1 v2 : Value} {D : SdD} {c1 c2 : Nat × Nat} (h1 : SpOwn c1.1 c1.2 w v1 D.f1) (h2 : KOwn c2.1 c2.2 w v2 D.f2) (l1 : c1.1 ≤ c1.2) (l2 : c2.1 ≤ c2.2) (s1 : ∀ g, c1.1 ≤ g → g < c1.2 → S g) (s2 : ∀ g, c2.1 ≤ g → g < c2.2 → S g) (hd : Dj c1 c2) : SdOwn S w (.agg #[.int .i64 D.f0, v1, v2]) D := by
  refine ⟨_, _, c1, c2, rfl, ⟨fun i hi => ?_, fun i j hi hj hne => ?_⟩, h1, h2⟩
  · rcases i with _ | _ | i
    · exact ⟨l1, s1⟩
    · exact ⟨l2, s2⟩
    · omega
  · rcases i with _ | _ | i <;> rcases j with _ | _ | j
    · omega
    · exact hd
    · omega
    · exact hd.symm
    · omega
    · omega
    · omega
    · omega
    · omega
theorem sdOwn_bare (S : Nat → Prop) (w : World) (n : Int) : SdOwn S w (.agg #[.int .i64 n, .slice none 0 0, .slice none 0 0]) ⟨n, [], []⟩ :=
  SdOwn.mk2 (D := ⟨n, [], []⟩) (c1 := (0, 0)) (c2 := (0, 0)) (spown_nil _ _ _ _ _) (kown_nil _ _ _ _ _) (Nat.le_refl _) (Nat.le_refl _) (fun g _ h => absurd h (by simp)) (fun g _ h => absurd h (by simp)) (.inl (Nat.le_refl _))
theorem sd_leaf {w V : World} {b lo hi n1 k1 n2 k2 : Nat} {a1 a2 : Option Addr} {z : Int} {X : SdD} {x0 x1 x2 : Value} (PR : BoxL V b [x0, x1, x2]) (B : Below w.heap.size w V) (hb : w.heap.size ≤ b) (O : SdOwn (Iv lo hi) V (.agg #[.int .i64 z, .slice a1 n1 k1, .slice a2 n2 k2]) X) (hlo : w.heap.size ≤ lo) (hhi : hi ≤ V.heap.size) (hbS : b < lo ∨ hi ≤ b) :
    SdOwn (Iv w.heap.size (((V.setCell ⟨b, 0, none⟩ (.int .i64 z)).setCell ⟨b, 1, none⟩ (.slice a1 n1 k1)).setCell ⟨b, 2, none⟩ (.slice a2 n2 k2)).heap.size) (((V.setCell ⟨b, 0, none⟩ (.int .i64 z)).setCell ⟨b, 1, none⟩ (.slice a1 n1 k1)).setCell ⟨b, 2, none⟩ (.slice a2 n2 k2)) (.agg #[.int .i64 z, .slice a1 n1 k1, .slice a2 n2 k2]) X ∧ Below w.heap.size w (((V.setCell ⟨b, 0, none⟩ (.int .i64 z)).setCell ⟨b, 1, none⟩ (.slice a1 n1 k1)).setCell ⟨b, 2, none⟩ (.slice a2 n2 k2)) ∧
    ((((V.setCell ⟨b, 0, none⟩ (.int .i64 z)).setCell ⟨b, 1, none⟩ (.slice a1 n1 k1)).setCell ⟨b, 2, none⟩ (.slice a2 n2 k2)).cell? ⟨b, 0, none⟩ = some (.int .i64 z) ∧ (((V.setCell ⟨b, 0, none⟩ (.int .i64 z)).setCell ⟨b, 1, none⟩ (.slice a1 n1 k1)).setCell ⟨b, 2, none⟩ (.slice a2 n2 k2)).cell? ⟨b, 1, none⟩ = some (.slice a1 n1 k1) ∧ (((V.setCell ⟨b, 0, none⟩ (.int .i64 z)).setCell ⟨b, 1, none⟩ (.slice a1 n1 k1)).setCell ⟨b, 2, none⟩ (.slice a2 n2 k2)).cell? ⟨b, 2, none⟩ = some (.slice a2 n2 k2)) := by
  have o := three_only V b (.int .i64 z) (.slice a1 n1 k1) (.slice a2 n2 k2)
  refine ⟨?_, B.trans (three_below V _ _ _ hb), (three_put PR _ _ _).three⟩
  refine (O.at fun g hg _ => o.2.1 g (by rintro rfl; unfold Iv at hg; omega)).mono fun g hg => ?_
  rw [o.1]
  unfold Iv at hg ⊢
  omega
theorem box_three {w : World} (x0 x1 x2 : Value) (t : TypeId) : BoxL (w.alloc (.cells #[x0, x1, x2] t)) w.heap.size [x0, x1, x2] ∧ Below w.heap.size w (w.alloc (.cells #[x0, x1, x2] t)) ∧ (w.alloc (.cells #[x0, x1, x2] t)).heap.size = w.heap.size + 1 := ⟨boxL_new w [x0, x1, x2] t, (Below.refl _ _).alloc (Nat.le_refl _) _, World.size_alloc _ _⟩
end Go.Proofs.Ytijojdempijhbad
namespace Go.Proofs.Ytijojdempijhbad
open Go.RowKit

def SdNew (lo : Nat) (w : World) (v : Value) (D : SdD) : Prop := ∃ (v1 v2 : Value) (c1 c2 : Nat × Nat), v = .agg #[.int .i64 D.f0, v1, v2] ∧ SpOwn c1.1 c1.2 w v1 D.f1 ∧ KOwn c2.1 c2.2 w v2 D.f2 ∧ lo ≤ c1.1 ∧ lo ≤ c2.1
theorem SdNew.reads {lo : Nat} {w : World} {v : Value} {D : SdD} (h : SdNew lo w v D) : SdReads w v D := by
  obtain ⟨v1, v2, c1, c2, rfl, h1, h2, _⟩ := h
  exact ⟨v1, v2, rfl, h1.reads, h2.reads⟩
theorem SdNew.at {lo : Nat} {w w' : World} {v : Value} {D : SdD} (h : SdNew lo w v D) (hk : ∀ g, lo ≤ g → g < w.heap.size → w'.heap[g]? = w.heap[g]?) : SdNew lo w' v D := by
  obtain ⟨v1, v2, c1, c2, rfl, h1, h2, l1, l2⟩ := h
  exact ⟨v1, v2, c1, c2, rfl, h1.at fun g g1 _ g3 => hk g (Nat.le_trans l1 g1) g3, h2.at fun g g1 _ g3 => hk g (Nat.le_trans l2 g1) g3, l1, l2⟩
theorem SdNew.below {lo : Nat} {w w' : World} {v : Value} {D : SdD} (h : SdNew lo w v D) (hb : Below w.heap.size w w') : SdNew lo w' v D := h.at fun g _ hg => hb.block g hg
theorem SdNew.mono {lo lo' : Nat} {w : World} {v : Value} {D : SdD} (h : SdNew lo w v D) (hl : lo' ≤ lo) : SdNew lo' w v D := by
  obtain ⟨v1, v2, c1, c2, rfl, h1, h2, l1, l2⟩ := h
  exact ⟨v1, v2, c1, c2, rfl, h1, h2, Nat.le_trans hl l1, Nat.le_trans hl l2⟩
theorem SdNew.form {lo : Nat} {w : World} {v : Value} {D : SdD} (h : SdNew lo w v D) : ∃ a1 n1 k1 a2 n2 k2, v = .agg #[.int .i64 D.f0, .slice a1 n1 k1, .slice a2 n2 k2] := by
  obtain ⟨v1, v2, c1, c2, rfl, h1, h2, _⟩ := h
  obtain ⟨a1, n1, k1, rfl⟩ := h1.sform
  obtain ⟨a2, n2, k2, rfl⟩ := h2.sform
  exact ⟨a1, n1, k1, a2, n2, k2, rfl⟩
theorem SdNew.of_own {S : Nat → Prop} {lo : Nat} {w : World} {v : Value} {D : SdD} (h : SdOwn S w v D) (hs : ∀ g, S g → lo ≤ g) : SdNew lo w v D := by
  obtain ⟨v1, v2, c1, c2, rfl, ha, h1, h2⟩ := h
  have n1 := ha.inn 0 (by omega)
  have n2 := ha.inn 1 (by omega)
  have f1 : SpOwn (max lo c1.1) c1.2 w v1 D.f1 := by
    rcases h1.2 with h | ⟨g, cap, e, hg, hr⟩
    · exact ⟨h1.1, .inl h⟩
    · exact ⟨h1.1, .inr ⟨g, cap, e, ⟨by have := hs g (n1.2 g hg.1 hg.2.1); omega, hg.2⟩, hr⟩⟩
  have f2 : KOwn (max lo c2.1) c2.2 w v2 D.f2 := by
    rcases h2.2 with h | ⟨g, cap, e, hg, hr⟩
    · exact ⟨h2.1, .inl h⟩
    · exact ⟨h2.1, .inr ⟨g, cap, e, ⟨by have := hs g (n2.2 g hg.1 hg.2.1); omega, hg.2⟩, hr⟩⟩
  exact ⟨v1, v2, (max lo c1.1, c1.2), (max lo c2.1, c2.2), rfl, f1, f2, by show lo ≤ max lo c1.1; omega, by show lo ≤ max lo c2.1; omega⟩
end Go.Proofs.Ytijojdempijhbad
