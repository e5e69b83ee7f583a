/-
  Senders in a box: put there, told from there. Plain facts on the memory.
-/
import Derived.Test.YthmkeinhjlmgmahFlowFns
namespace Go.Proofs.Ythmkeinhjlmgmah
open Go.RowKit

theorem three_put {V : World} {b : Nat} {a0 a1 a2 : Value} (h : BoxL V b [a0, a1, a2]) (u0 u1 u2 : Value) : BoxL (((V.setCell ⟨b, 0, none⟩ u0).setCell ⟨b, 1, none⟩ u1).setCell ⟨b, 2, none⟩ u2) b [u0, u1, u2] := ((h.set 0 (by simp) u0).set 1 (by simp) u1).set 2 (by simp) u2
theorem three_only (V : World) (b : Nat) (u0 u1 u2 : Value) : OnlyP (fun j => j = b) V (((V.setCell ⟨b, 0, none⟩ u0).setCell ⟨b, 1, none⟩ u1).setCell ⟨b, 2, none⟩ u2) := (((OnlyP.refl _ _).trans (onlyP_set _ _ _ _)).trans (onlyP_set _ _ _ _)).trans (onlyP_set _ _ _ _)
theorem three_below {lo b : Nat} (V : World) (u0 u1 u2 : Value) (h : lo ≤ b) : Below lo V (((V.setCell ⟨b, 0, none⟩ u0).setCell ⟨b, 1, none⟩ u1).setCell ⟨b, 2, none⟩ u2) := (three_only V b u0 u1 u2).below fun j e => by omega
theorem BoxL.form3 {w : World} {b : Nat} {a0 a1 a2 : Value} (h : BoxL w b [a0, a1, a2]) : (w.cell? ⟨b, 0, none⟩ = some a0 ∧ w.frozen? ⟨b, 0, none⟩ = false) ∧ (w.cell? ⟨b, 1, none⟩ = some a1 ∧ w.frozen? ⟨b, 1, none⟩ = false) ∧ (w.cell? ⟨b, 2, none⟩ = some a2 ∧ w.frozen? ⟨b, 2, none⟩ = false) := ⟨h.2 0 (by simp), h.2 1 (by simp), h.2 2 (by simp)⟩
theorem SdOwn.mk2 {S : Nat → Prop} {w : World} {v1 v2 : Value} {D : SdD} {c1 c2 : Nat × Nat} (h1 : SpOwn c1.1 c1.2 w v1 D.f1) (h2 : KOwn c2.1 c2.2 w v2 D.f2) (l1 : c1.1 ≤ c1.2) (l2 : c2.1 ≤ c2.2) (s1 : ∀ g, c1.1 ≤ g → g < c1.2 → S g) (s2 : ∀ g, c2.1 ≤ g → g < c2.2 → S g) (hd : Dj c1 c2) : SdOwn S w (.agg #[.int .i64 D.f0, v1, v2]) D := by
  refine ⟨_, _, c1, c2, rfl, ⟨fun i hi => ?_, fun i j hi hj hne => ?_⟩, h1, h2⟩
  · rcases i with _ | _ | i
    · exact ⟨l1, s1⟩
    · exact ⟨l2, s2⟩
    · omega
  · rcases i with _ | _ | i <;> rcases j with _ | _ | j
    · omega
    · exact hd
    · omega
    · exact hd.symm
    · omega
    · omega
    · omega
    · omega
    · omega
theorem sdOwn_bare (S : Nat → Prop) (w : World) (n : Int) : SdOwn S w (.agg #[.int .i64 n, .slice none 0 0, .slice none 0 0]) ⟨n, [], []⟩ :=
  SdOwn.mk2 (D := ⟨n, [], []⟩) (c1 := (0, 0)) (c2 := (0, 0)) (spown_nil _ _ _ _ _) (kown_nil _ _ _ _ _) (Nat.le_refl _) (Nat.le_refl _) (fun g _ h => absurd h (by simp)) (fun g _ h => absurd h (by simp)) (.inl (Nat.le_refl _))
theorem sd_leaf {w V : World} {b lo hi n1 k1 n2 k2 : Nat} {a1 a2 : Option Addr} {z : Int} {X : SdD} {x0 x1 x2 : Value} (PR : BoxL V b [x0, x1, x2]) (B : Below w.heap.size w V) (hb : w.heap.size ≤ b) (O : SdOwn (Iv lo hi) V (.agg #[.int .i64 z, .slice a1 n1 k1, .slice a2 n2 k2]) X) (hlo : w.heap.size ≤ lo) (hhi : hi ≤ V.heap.size) (hbS : b < lo ∨ hi ≤ b) :
    SdOwn (Iv w.heap.size (((V.setCell ⟨b, 0, none⟩ (.int .i64 z)).setCell ⟨b, 1, none⟩ (.slice a1 n1 k1)).setCell ⟨b, 2, none⟩ (.slice a2 n2 k2)).heap.size) (((V.setCell ⟨b, 0, none⟩ (.int .i64 z)).setCell ⟨b, 1, none⟩ (.slice a1 n1 k1)).setCell ⟨b, 2, none⟩ (.slice a2 n2 k2)) (.agg #[.int .i64 z, .slice a1 n1 k1, .slice a2 n2 k2]) X ∧ Below w.heap.size w (((V.setCell ⟨b, 0, none⟩ (.int .i64 z)).setCell ⟨b, 1, none⟩ (.slice a1 n1 k1)).setCell ⟨b, 2, none⟩ (.slice a2 n2 k2)) ∧
    ((((V.setCell ⟨b, 0, none⟩ (.int .i64 z)).setCell ⟨b, 1, none⟩ (.slice a1 n1 k1)).setCell ⟨b, 2, none⟩ (.slice a2 n2 k2)).cell? ⟨b, 0, none⟩ = some (.int .i64 z) ∧ (((V.setCell ⟨b, 0, none⟩ (.int .i64 z)).setCell ⟨b, 1, none⟩ (.slice a1 n1 k1)).setCell ⟨b, 2, none⟩ (.slice a2 n2 k2)).cell? ⟨b, 1, none⟩ = some (.slice a1 n1 k1) ∧ (((V.setCell ⟨b, 0, none⟩ (.int .i64 z)).setCell ⟨b, 1, none⟩ (.slice a1 n1 k1)).setCell ⟨b, 2, none⟩ (.slice a2 n2 k2)).cell? ⟨b, 2, none⟩ = some (.slice a2 n2 k2)) := by
  have o := three_only V b (.int .i64 z) (.slice a1 n1 k1) (.slice a2 n2 k2)
  refine ⟨?_, B.trans (three_below V _ _ _ hb), (three_put PR _ _ _).three⟩
  refine (O.at fun g hg _ => o.2.1 g (by rintro rfl; unfold Iv at hg; omega)).mono fun g hg => ?_
  rw [o.1]
  unfold Iv at hg ⊢
  omega
theorem box_three {w : World} (x0 x1 x2 : Value) (t : TypeId) : BoxL (w.alloc (.cells #[x0, x1, x2] t)) w.heap.size [x0, x1, x2] ∧ Below w.heap.size w (w.alloc (.cells #[x0, x1, x2] t)) ∧ (w.alloc (.cells #[x0, x1, x2] t)).heap.size = w.heap.size + 1 := ⟨boxL_new w [x0, x1, x2] t, (Below.refl _ _).alloc (Nat.le_refl _) _, World.size_alloc _ _⟩
end Go.Proofs.Ythmkeinhjlmgmah
