/-
  A greeting laid into a box: eleven cells written, one behind the other. Plain facts on the memory.
-/
import Derived.Test.YtbpbhbflfhfcfaaGrU
import Derived.Test.YtbpbhbflfhfcfaaBoxL11
namespace Go.Proofs.Ytbpbhbflfhfcfaa
open Go.RowKit

abbrev put11 (w : World) (b : Nat) (u0 u1 u2 u3 u4 u5 u6 u7 u8 u9 u10 : Value) : World := ((((((((((w.setCell ⟨b, 0, none⟩ u0).setCell ⟨b, 1, none⟩ u1).setCell ⟨b, 2, none⟩ u2).setCell ⟨b, 3, none⟩ u3).setCell ⟨b, 4, none⟩ u4).setCell ⟨b, 5, none⟩ u5).setCell ⟨b, 6, none⟩ u6).setCell ⟨b, 7, none⟩ u7).setCell ⟨b, 8, none⟩ u8).setCell ⟨b, 9, none⟩ u9).setCell ⟨b, 10, none⟩ u10
theorem put11_box {w : World} {b : Nat} {a0 a1 a2 a3 a4 a5 a6 a7 a8 a9 a10 : Value} (h : BoxL w b [a0, a1, a2, a3, a4, a5, a6, a7, a8, a9, a10]) (u0 u1 u2 u3 u4 u5 u6 u7 u8 u9 u10 : Value) : BoxL (put11 w b u0 u1 u2 u3 u4 u5 u6 u7 u8 u9 u10) b [u0, u1, u2, u3, u4, u5, u6, u7, u8, u9, u10] :=
  ((((((((((h.set 0 (by simp) u0).set 1 (by simp) u1).set 2 (by simp) u2).set 3 (by simp) u3).set 4 (by simp) u4).set 5 (by simp) u5).set 6 (by simp) u6).set 7 (by simp) u7).set 8 (by simp) u8).set 9 (by simp) u9).set 10 (by simp) u10
theorem put11_but (w : World) (b : Nat) (u0 u1 u2 u3 u4 u5 u6 u7 u8 u9 u10 : Value) : But (fun k => k = b) w (put11 w b u0 u1 u2 u3 u4 u5 u6 u7 u8 u9 u10) :=
  have s : ∀ {w' : World} (j : Nat) (u : Value), But (fun k => k = b) w w' → But (fun k => k = b) w (w'.setCell ⟨b, j, none⟩ u) := fun j u h => h.setCell (P := fun k => k = b) (p := ⟨b, j, none⟩) rfl u
  s 10 _ (s 9 _ (s 8 _ (s 7 _ (s 6 _ (s 5 _ (s 4 _ (s 3 _ (s 2 _ (s 1 _ (s 0 _ (But.refl _ _)))))))))))
/-- The blocks of three rows. -/
def Bk (v8 v9 v10 : Value) (k : Nat) : Prop := v8.ownBlock = some k ∨ v9.ownBlock = some k ∨ v10.ownBlock = some k
theorem RowsU.blk {L : Nat} {w : World} {v8 v9 v10 : Value} {l8 l9 l10 : List HeEl} (h : RowsU L w v8 v9 v10 l8 l9 l10) {k : Nat} (hk : Bk v8 v9 v10 k) : L ≤ k ∧ k < w.heap.size := by
  rcases hk with hk | hk | hk
  · exact heowns_lt h.r8 k hk
  · exact heowns_lt h.r9 k hk
  · exact heowns_lt h.r10 k hk
theorem RowsU.but {L : Nat} {P : Nat → Prop} {w w' : World} {v8 v9 v10 : Value} {l8 l9 l10 : List HeEl} (h : RowsU L w v8 v9 v10 l8 l9 l10) (hb : But P w w') (hp : ∀ k, Bk v8 v9 v10 k → ¬ P k) : RowsU L w' v8 v9 v10 l8 l9 l10 := h.at fun g _ h2 hk => hb.2 g h2 (hp g hk)
theorem BoxL.but {P : Nat → Prop} {w w' : World} {b : Nat} {vs : List Value} (h : BoxL w b vs) (hb : But P w w') (hp : ¬ P b) : BoxL w' b vs := h.of_block (hb.2 b h.lt hp)
/-- Of what was there nothing has turned but the rows' own blocks, and the rows lie there or in new ones. -/
structure Mv (w w' : World) (v8 v9 v10 u8 u9 u10 : Value) : Prop where
  but : But (Bk v8 v9 v10) w w'
  blk : ∀ k, Bk u8 u9 u10 k → Bk v8 v9 v10 k ∨ w.heap.size ≤ k
theorem Mv.refl (w : World) (v8 v9 v10 : Value) : Mv w w v8 v9 v10 v8 v9 v10 := ⟨But.refl _ _, fun _ h => .inl h⟩
theorem Mv.trans {a b c : World} {v8 v9 v10 u8 u9 u10 x8 x9 x10 : Value} (h : Mv a b v8 v9 v10 u8 u9 u10) (k : Mv b c u8 u9 u10 x8 x9 x10) : Mv a c v8 v9 v10 x8 x9 x10 :=
  ⟨h.but.and k.but fun j hj hq => (h.blk j hq).resolve_right (by omega), fun j hj => (k.blk j hj).elim (fun h1 => h.blk j h1) fun h1 => .inr (Nat.le_trans h.but.size h1)⟩
theorem Mv.below {L : Nat} {w w' : World} {v8 v9 v10 u8 u9 u10 : Value} {l8 l9 l10 : List HeEl} (h : Mv w w' v8 v9 v10 u8 u9 u10) (hu : RowsU L w v8 v9 v10 l8 l9 l10) (hL : L ≤ w.heap.size) : Below L w w' := h.but.to hL fun k hk hb => by have := (hu.blk hb).1; omega
/-- What is laid in new blocks, or written there. -/
theorem Mv.old {w w' w2 : World} {P : Nat → Prop} {v8 v9 v10 u8 u9 u10 : Value} (h : Mv w w' v8 v9 v10 u8 u9 u10) (hb : But P w' w2) (hp : ∀ k, P k → w.heap.size ≤ k) : Mv w w2 v8 v9 v10 u8 u9 u10 :=
  ⟨h.but.and hb fun j hj hq => by have := hp j hq; omega, h.blk⟩
theorem Mv.start {w w' w2 : World} {P : Nat → Prop} {v8 v9 v10 u8 u9 u10 : Value} (hb : But P w w') (hp : ∀ k, P k → w.heap.size ≤ k) (h : Mv w' w2 v8 v9 v10 u8 u9 u10) : Mv w w2 v8 v9 v10 u8 u9 u10 :=
  ⟨⟨hb.1.trans h.but.1, fun j hj hq => (h.but.2 j (Nat.lt_of_lt_of_le hj hb.size) hq).trans (hb.2 j hj fun hP => by have := hp j hP; omega)⟩, fun k hk => (h.blk k hk).elim .inl fun h1 => .inr (Nat.le_trans hb.size h1)⟩
/-- A greeting is laid into the box of the answer. -/
theorem gr_leaf {L b : Nat} {w V : World} {D : GrD} {v8 v9 v10 u8 u9 u10 a0 a1 a2 a3 a4 a5 a6 a7 a8 a9 a10 : Value} (RB : BoxL V b [a0, a1, a2, a3, a4, a5, a6, a7, a8, a9, a10]) (U : RowsU L V u8 u9 u10 D.f8 D.f9 D.f10) (M : Mv w V v8 v9 v10 u8 u9 u10) (hb : w.heap.size ≤ b) (hn : ¬ Bk u8 u9 u10 b) :
    (RowsU L (put11 V b (.int .i64 D.f0) (.int .i64 D.f1) (.int .i64 D.f2) (.int .i64 D.f3) (.int .i64 D.f4) (.int .i64 D.f5) (.int .i64 D.f6) (.int .i64 D.f7) u8 u9 u10) u8 u9 u10 D.f8 D.f9 D.f10 ∧ Mv w (put11 V b (.int .i64 D.f0) (.int .i64 D.f1) (.int .i64 D.f2) (.int .i64 D.f3) (.int .i64 D.f4) (.int .i64 D.f5) (.int .i64 D.f6) (.int .i64 D.f7) u8 u9 u10) v8 v9 v10 u8 u9 u10) ∧
    BoxL (put11 V b (.int .i64 D.f0) (.int .i64 D.f1) (.int .i64 D.f2) (.int .i64 D.f3) (.int .i64 D.f4) (.int .i64 D.f5) (.int .i64 D.f6) (.int .i64 D.f7) u8 u9 u10) b (grC D u8 u9 u10) :=
  have o := put11_but V b (.int .i64 D.f0) (.int .i64 D.f1) (.int .i64 D.f2) (.int .i64 D.f3) (.int .i64 D.f4) (.int .i64 D.f5) (.int .i64 D.f6) (.int .i64 D.f7) u8 u9 u10
  ⟨⟨U.but o fun k hk e => hn (e ▸ hk), M.old o fun k e => by omega⟩, put11_box RB _ _ _ _ _ _ _ _ _ _ _⟩
end Go.Proofs.Ytbpbhbflfhfcfaa
