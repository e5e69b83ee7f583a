/-
  Shares in a box: put there, told from there. Plain facts on the memory.
-/
import Derived.Test.YtepnhbicmlfnhadShMath
import Derived.Deep.QuietTactic
namespace Go.Proofs.Ytepnhbicmlfnhad
open Go.RowKit

theorem two_put {V : World} {b : Nat} {a0 a1 : Value} (h : BoxL V b [a0, a1]) (u0 u1 : Value) : BoxL ((V.setCell ⟨b, 0, none⟩ u0).setCell ⟨b, 1, none⟩ u1) b [u0, u1] := (h.set 0 (by simp) u0).set 1 (by simp) u1
theorem two_only (V : World) (b : Nat) (u0 u1 : Value) : OnlyP (fun j => j = b) V ((V.setCell ⟨b, 0, none⟩ u0).setCell ⟨b, 1, none⟩ u1) := ((OnlyP.refl _ _).trans (onlyP_set _ _ _ _)).trans (onlyP_set _ _ _ _)
theorem two_below {lo b : Nat} (V : World) (u0 u1 : Value) (h : lo ≤ b) : Below lo V ((V.setCell ⟨b, 0, none⟩ u0).setCell ⟨b, 1, none⟩ u1) := (two_only V b u0 u1).below fun j e => by omega
theorem BoxL.form2 {w : World} {b : Nat} {a0 a1 : Value} (h : BoxL w b [a0, a1]) : (w.cell? ⟨b, 0, none⟩ = some a0 ∧ w.frozen? ⟨b, 0, none⟩ = false) ∧ (w.cell? ⟨b, 1, none⟩ = some a1 ∧ w.frozen? ⟨b, 1, none⟩ = false) := ⟨h.2 0 (by simp), h.2 1 (by simp)⟩
theorem shOwn_zero (S : Nat → Prop) (w : World) : ShOwn S w (.agg #[.slice none 0 0, .int .i64 0]) zeroS := by
  refine ⟨_, (0, 0), rfl, ⟨fun i hi => ?_, fun i j hi hj hne => ?_⟩, kown_nil _ _ _ _ _⟩
  · obtain rfl : i = 0 := by omega
    exact ⟨Nat.le_refl _, fun g h1 h2 => absurd h2 (by simp [shIv])⟩
  · omega
theorem ShOwn.mk1 {S : Nat → Prop} {w : World} {v0 : Value} {D : ShD} {l e : Nat} (h : KOwn l e w v0 D.f0) (hle : l ≤ e) (hS : ∀ g, l ≤ g → g < e → S g) : ShOwn S w (.agg #[v0, .int .i64 D.f1]) D := by
  refine ⟨_, (l, e), rfl, ⟨fun i hi => ?_, fun i j hi hj hne => ?_⟩, h⟩
  · obtain rfl : i = 0 := by omega
    exact ⟨hle, hS⟩
  · omega
/-- What is told is put into the answer's box. -/
theorem sh_leaf {w V : World} {b lo hi n k : Nat} {a : Option Addr} {z : Int} {X : ShD} {x0 x1 : Value} (PR : BoxL V b [x0, x1]) (B : Below w.heap.size w V) (hb : w.heap.size ≤ b) (O : ShOwn (Iv lo hi) V (.agg #[.slice a n k, .int .i64 z]) X) (hlo : w.heap.size ≤ lo) (hhi : hi ≤ V.heap.size) (hbS : b < lo ∨ hi ≤ b) :
    ShOwn (Iv w.heap.size ((V.setCell ⟨b, 0, none⟩ (.slice a n k)).setCell ⟨b, 1, none⟩ (.int .i64 z)).heap.size) ((V.setCell ⟨b, 0, none⟩ (.slice a n k)).setCell ⟨b, 1, none⟩ (.int .i64 z)) (.agg #[.slice a n k, .int .i64 z]) X ∧ Below w.heap.size w ((V.setCell ⟨b, 0, none⟩ (.slice a n k)).setCell ⟨b, 1, none⟩ (.int .i64 z)) ∧
    (((V.setCell ⟨b, 0, none⟩ (.slice a n k)).setCell ⟨b, 1, none⟩ (.int .i64 z)).cell? ⟨b, 0, none⟩ = some (.slice a n k) ∧ ((V.setCell ⟨b, 0, none⟩ (.slice a n k)).setCell ⟨b, 1, none⟩ (.int .i64 z)).cell? ⟨b, 1, none⟩ = some (.int .i64 z)) := by
  have o := two_only V b (.slice a n k) (.int .i64 z)
  refine ⟨?_, B.trans (two_below V _ _ hb), (two_put PR _ _).two⟩
  refine (O.at fun g hg _ => o.2.1 g (by rintro rfl; unfold Iv at hg; omega)).mono fun g hg => ?_
  rw [o.1]
  unfold Iv at hg ⊢
  omega
/-- The first three boxes of a walk: what is handed in, the answer's, and one more. -/
theorem box_two (w : World) (c0 c1 x0 x1 : Value) (t : TypeId) : BoxL ((w.alloc (.cells #[c0, c1] t)).alloc (.cells #[x0, x1] t)) w.heap.size [c0, c1] ∧ BoxL ((w.alloc (.cells #[c0, c1] t)).alloc (.cells #[x0, x1] t)) (w.heap.size + 1) [x0, x1] ∧ Below w.heap.size w ((w.alloc (.cells #[c0, c1] t)).alloc (.cells #[x0, x1] t)) ∧ ((w.alloc (.cells #[c0, c1] t)).alloc (.cells #[x0, x1] t)).heap.size = w.heap.size + 2 := by
  have P := boxL_new (w.alloc (.cells #[c0, c1] t)) [x0, x1] t
  rw [World.size_alloc] at P
  have A := boxL_new w [c0, c1] t
  exact ⟨A.below ((Below.refl _ _).alloc (Nat.le_refl _) _) A.lt, P, ((Below.refl _ _).alloc (Nat.le_refl _) _).alloc (by simp) _, by rw [World.size_alloc, World.size_alloc]⟩
theorem box_next {w : World} (x0 x1 : Value) (t : TypeId) : BoxL (w.alloc (.cells #[x0, x1] t)) w.heap.size [x0, x1] ∧ Below w.heap.size w (w.alloc (.cells #[x0, x1] t)) ∧ (w.alloc (.cells #[x0, x1] t)).heap.size = w.heap.size + 1 := ⟨boxL_new w [x0, x1] t, (Below.refl _ _).alloc (Nat.le_refl _) _, World.size_alloc _ _⟩
theorem below_dN {B : Nat} {a b : World} (h : Below B a b) (n : Nat) : Below B a (b.drewN n) := h.trans ⟨rfl, rfl, rfl, Nat.le_refl _, fun _ _ => rfl⟩
end Go.Proofs.Ytepnhbicmlfnhad
