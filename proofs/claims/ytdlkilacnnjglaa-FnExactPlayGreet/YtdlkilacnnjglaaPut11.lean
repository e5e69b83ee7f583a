/-
  A greeting laid into a box: eleven cells written, one behind the other. Plain facts on the memory.
  Greetings handed on from box to box: what a step leaves. Plain facts on the memory.
  impl's greetLike: a greeting's rows are copied (slices.Clone).
-/
import Derived.Test.YtdlkilacnnjglaaGrU
import Derived.Test.YtdlkilacnnjglaaInts
import Derived.Test.YtdlkilacnnjglaaGrStep
import Derived.Lib.SliceRun
import Derived.Deep.RegionWith
import Derived.Deep.DeepCutAuto
namespace Go.Proofs.Ytdlkilacnnjglaa
open Go.RowKit

abbrev put11 (w : World) (b : Nat) (u0 u1 u2 u3 u4 u5 u6 u7 u8 u9 u10 : Value) : World := ((((((((((w.setCell ⟨b, 0, none⟩ u0).setCell ⟨b, 1, none⟩ u1).setCell ⟨b, 2, none⟩ u2).setCell ⟨b, 3, none⟩ u3).setCell ⟨b, 4, none⟩ u4).setCell ⟨b, 5, none⟩ u5).setCell ⟨b, 6, none⟩ u6).setCell ⟨b, 7, none⟩ u7).setCell ⟨b, 8, none⟩ u8).setCell ⟨b, 9, none⟩ u9).setCell ⟨b, 10, none⟩ u10
theorem put11_box {w : World} {b : Nat} {a0 a1 a2 a3 a4 a5 a6 a7 a8 a9 a10 : Value} (h : BoxL w b [a0, a1, a2, a3, a4, a5, a6, a7, a8, a9, a10]) (u0 u1 u2 u3 u4 u5 u6 u7 u8 u9 u10 : Value) : BoxL (put11 w b u0 u1 u2 u3 u4 u5 u6 u7 u8 u9 u10) b [u0, u1, u2, u3, u4, u5, u6, u7, u8, u9, u10] :=
  ((((((((((h.set 0 (by simp) u0).set 1 (by simp) u1).set 2 (by simp) u2).set 3 (by simp) u3).set 4 (by simp) u4).set 5 (by simp) u5).set 6 (by simp) u6).set 7 (by simp) u7).set 8 (by simp) u8).set 9 (by simp) u9).set 10 (by simp) u10
theorem put11_but (w : World) (b : Nat) (u0 u1 u2 u3 u4 u5 u6 u7 u8 u9 u10 : Value) : But (fun k => k = b) w (put11 w b u0 u1 u2 u3 u4 u5 u6 u7 u8 u9 u10) :=
  have s : ∀ {w' : World} (j : Nat) (u : Value), But (fun k => k = b) w w' → But (fun k => k = b) w (w'.setCell ⟨b, j, none⟩ u) := fun j u h => h.setCell (P := fun k => k = b) (p := ⟨b, j, none⟩) rfl u
  s 10 _ (s 9 _ (s 8 _ (s 7 _ (s 6 _ (s 5 _ (s 4 _ (s 3 _ (s 2 _ (s 1 _ (s 0 _ (But.refl _ _)))))))))))
/-- The blocks of three rows. -/
def Bk (v8 v9 v10 : Value) (k : Nat) : Prop := v8.ownBlock = some k ∨ v9.ownBlock = some k ∨ v10.ownBlock = some k
theorem RowsU.blk {L : Nat} {w : World} {v8 v9 v10 : Value} {l8 l9 l10 : List HeEl} (h : RowsU L w v8 v9 v10 l8 l9 l10) {k : Nat} (hk : Bk v8 v9 v10 k) : L ≤ k ∧ k < w.heap.size := by
  rcases hk with hk | hk | hk
  · exact heowns_lt h.r8 k hk
  · exact heowns_lt h.r9 k hk
  · exact heowns_lt h.r10 k hk
theorem RowsU.but {L : Nat} {P : Nat → Prop} {w w' : World} {v8 v9 v10 : Value} {l8 l9 l10 : List HeEl} (h : RowsU L w v8 v9 v10 l8 l9 l10) (hb : But P w w') (hp : ∀ k, Bk v8 v9 v10 k → ¬ P k) : RowsU L w' v8 v9 v10 l8 l9 l10 := h.at fun g _ h2 hk => hb.2 g h2 (hp g hk)
theorem BoxL.but {P : Nat → Prop} {w w' : World} {b : Nat} {vs : List Value} (h : BoxL w b vs) (hb : But P w w') (hp : ¬ P b) : BoxL w' b vs := h.of_block (hb.2 b h.lt hp)
/-- Of what was there nothing has turned but the rows' own blocks, and the rows lie there or in new ones. -/
structure Mv (w w' : World) (v8 v9 v10 u8 u9 u10 : Value) : Prop where
  but : But (Bk v8 v9 v10) w w'
  blk : ∀ k, Bk u8 u9 u10 k → Bk v8 v9 v10 k ∨ w.heap.size ≤ k
theorem Mv.refl (w : World) (v8 v9 v10 : Value) : Mv w w v8 v9 v10 v8 v9 v10 := ⟨But.refl _ _, fun _ h => .inl h⟩
theorem Mv.trans {a b c : World} {v8 v9 v10 u8 u9 u10 x8 x9 x10 : Value} (h : Mv a b v8 v9 v10 u8 u9 u10) (k : Mv b c u8 u9 u10 x8 x9 x10) : Mv a c v8 v9 v10 x8 x9 x10 :=
  ⟨h.but.and k.but fun j hj hq => (h.blk j hq).resolve_right (by omega), fun j hj => (k.blk j hj).elim (fun h1 => h.blk j h1) fun h1 => .inr (Nat.le_trans h.but.size h1)⟩
theorem Mv.below {L : Nat} {w w' : World} {v8 v9 v10 u8 u9 u10 : Value} {l8 l9 l10 : List HeEl} (h : Mv w w' v8 v9 v10 u8 u9 u10) (hu : RowsU L w v8 v9 v10 l8 l9 l10) (hL : L ≤ w.heap.size) : Below L w w' := h.but.to hL fun k hk hb => by have := (hu.blk hb).1; omega
/-- What is laid in new blocks, or written there. -/
theorem Mv.old {w w' w2 : World} {P : Nat → Prop} {v8 v9 v10 u8 u9 u10 : Value} (h : Mv w w' v8 v9 v10 u8 u9 u10) (hb : But P w' w2) (hp : ∀ k, P k → w.heap.size ≤ k) : Mv w w2 v8 v9 v10 u8 u9 u10 :=
  ⟨h.but.and hb fun j hj hq => by have := hp j hq; omega, h.blk⟩
theorem Mv.start {w w' w2 : World} {P : Nat → Prop} {v8 v9 v10 u8 u9 u10 : Value} (hb : But P w w') (hp : ∀ k, P k → w.heap.size ≤ k) (h : Mv w' w2 v8 v9 v10 u8 u9 u10) : Mv w w2 v8 v9 v10 u8 u9 u10 :=
  ⟨⟨hb.1.trans h.but.1, fun j hj hq => (h.but.2 j (Nat.lt_of_lt_of_le hj hb.size) hq).trans (hb.2 j hj fun hP => by have := hp j hP; omega)⟩, fun k hk => (h.blk k hk).elim .inl fun h1 => .inr (Nat.le_trans hb.size h1)⟩
/-- A greeting is laid into the box of the answer. -/
theorem gr_leaf {L b : Nat} {w V : World} {D : GrD} {v8 v9 v10 u8 u9 u10 a0 a1 a2 a3 a4 a5 a6 a7 a8 a9 a10 : Value} (RB : BoxL V b [a0, a1, a2, a3, a4, a5, a6, a7, a8, a9, a10]) (U : RowsU L V u8 u9 u10 D.f8 D.f9 D.f10) (M : Mv w V v8 v9 v10 u8 u9 u10) (hb : w.heap.size ≤ b) (hn : ¬ Bk u8 u9 u10 b) :
    (RowsU L (put11 V b (.int .i64 D.f0) (.int .i64 D.f1) (.int .i64 D.f2) (.int .i64 D.f3) (.int .i64 D.f4) (.int .i64 D.f5) (.int .i64 D.f6) (.int .i64 D.f7) u8 u9 u10) u8 u9 u10 D.f8 D.f9 D.f10 ∧ Mv w (put11 V b (.int .i64 D.f0) (.int .i64 D.f1) (.int .i64 D.f2) (.int .i64 D.f3) (.int .i64 D.f4) (.int .i64 D.f5) (.int .i64 D.f6) (.int .i64 D.f7) u8 u9 u10) v8 v9 v10 u8 u9 u10) ∧
    BoxL (put11 V b (.int .i64 D.f0) (.int .i64 D.f1) (.int .i64 D.f2) (.int .i64 D.f3) (.int .i64 D.f4) (.int .i64 D.f5) (.int .i64 D.f6) (.int .i64 D.f7) u8 u9 u10) b (grC D u8 u9 u10) :=
  have o := put11_but V b (.int .i64 D.f0) (.int .i64 D.f1) (.int .i64 D.f2) (.int .i64 D.f3) (.int .i64 D.f4) (.int .i64 D.f5) (.int .i64 D.f6) (.int .i64 D.f7) u8 u9 u10
  ⟨⟨U.but o fun k hk e => hn (e ▸ hk), M.old o fun k e => by omega⟩, put11_box RB _ _ _ _ _ _ _ _ _ _ _⟩
end Go.Proofs.Ytdlkilacnnjglaa
namespace Go.Proofs.Ytdlkilacnnjglaa
open Go.RowKit

theorem BoxL.frozen11 {w : World} {b : Nat} {a0 a1 a2 a3 a4 a5 a6 a7 a8 a9 a10 : Value} (h : BoxL w b [a0, a1, a2, a3, a4, a5, a6, a7, a8, a9, a10]) : w.frozen? ⟨b, 0, none⟩ = false ∧ w.frozen? ⟨b, 1, none⟩ = false ∧ w.frozen? ⟨b, 2, none⟩ = false ∧ w.frozen? ⟨b, 3, none⟩ = false ∧ w.frozen? ⟨b, 4, none⟩ = false ∧ w.frozen? ⟨b, 5, none⟩ = false ∧ w.frozen? ⟨b, 6, none⟩ = false ∧ w.frozen? ⟨b, 7, none⟩ = false ∧ w.frozen? ⟨b, 8, none⟩ = false ∧ w.frozen? ⟨b, 9, none⟩ = false ∧ w.frozen? ⟨b, 10, none⟩ = false :=
  ⟨(h.2 0 (by simp)).2, (h.2 1 (by simp)).2, (h.2 2 (by simp)).2, (h.2 3 (by simp)).2, (h.2 4 (by simp)).2, (h.2 5 (by simp)).2, (h.2 6 (by simp)).2, (h.2 7 (by simp)).2, (h.2 8 (by simp)).2, (h.2 9 (by simp)).2, (h.2 10 (by simp)).2⟩
/-- What a function that is handed a greeting hands back. -/
def Moved (L : Nat) (w : World) (v8 v9 v10 : Value) (D' : GrD) (u : Value) (w' : World) : Prop := ∃ u8 u9 u10, u = grV D' u8 u9 u10 ∧ RowsU L w' u8 u9 u10 D'.f8 D'.f9 D'.f10 ∧ Mv w w' v8 v9 v10 u8 u9 u10
abbrev zeroC : List Value := [.int .i64 0, .int .i64 0, .int .i64 0, .int .i64 0, .int .i64 0, .int .i64 0, .int .i64 0, .int .i64 0, .slice none 0 0, .slice none 0 0, .slice none 0 0]
/-- Three boxes laid at a call's start: the greeting, a letter (or a step), the answer. -/
structure Boxes3 (w W : World) (D : GrD) (v8 v9 v10 : Value) (xs : List Value) : Prop where
  g : BoxL W w.heap.size (grC D v8 v9 v10)
  x : BoxL W (w.heap.size + 1) xs
  r : BoxL W (w.heap.size + 2) zeroC
  b : Below w.heap.size w W
  s : W.heap.size = w.heap.size + 3
theorem boxes3 (w : World) (D : GrD) (v8 v9 v10 : Value) (xs : List Value) (t : TypeId) (hx : 0 < xs.length) : Boxes3 w (((w.alloc (.cells (grC D v8 v9 v10).toArray 49)).alloc (.cells xs.toArray t)).alloc (.cells zeroC.toArray 49)) D v8 v9 v10 xs := by
  have s1 : (w.alloc (.cells (grC D v8 v9 v10).toArray 49)).heap.size = w.heap.size + 1 := by simp
  have s2 : ((w.alloc (.cells (grC D v8 v9 v10).toArray 49)).alloc (.cells xs.toArray t)).heap.size = w.heap.size + 2 := by simp
  have b2 : Below (w.heap.size + 1) (w.alloc (.cells (grC D v8 v9 v10).toArray 49)) (((w.alloc (.cells (grC D v8 v9 v10).toArray 49)).alloc (.cells xs.toArray t)).alloc (.cells zeroC.toArray 49)) := ((Below.refl _ _).alloc (by omega) _).alloc (by omega) _
  have b3 : Below (w.heap.size + 2) ((w.alloc (.cells (grC D v8 v9 v10).toArray 49)).alloc (.cells xs.toArray t)) (((w.alloc (.cells (grC D v8 v9 v10).toArray 49)).alloc (.cells xs.toArray t)).alloc (.cells zeroC.toArray 49)) := (Below.refl _ _).alloc (by omega) _
  refine ⟨(boxL_new w (grC D v8 v9 v10) 49).below b2 (by omega), ?_, ?_, (((Below.refl _ _).alloc (Nat.le_refl _) _).alloc (by omega) _).alloc (by omega) _, by simp⟩
  · have h := boxL_new (w.alloc (.cells (grC D v8 v9 v10).toArray 49)) xs t hx
    rw [s1] at h
    exact h.below b3 (by omega)
  · have h := boxL_new ((w.alloc (.cells (grC D v8 v9 v10).toArray 49)).alloc (.cells xs.toArray t)) zeroC 49
    rw [s2] at h
    exact h
/-- Two boxes: the greeting, the answer. -/
structure Boxes2 (w W : World) (D : GrD) (v8 v9 v10 : Value) : Prop where
  g : BoxL W w.heap.size (grC D v8 v9 v10)
  r : BoxL W (w.heap.size + 1) zeroC
  b : Below w.heap.size w W
  s : W.heap.size = w.heap.size + 2
theorem boxes2 (w : World) (D : GrD) (v8 v9 v10 : Value) : Boxes2 w ((w.alloc (.cells (grC D v8 v9 v10).toArray 49)).alloc (.cells zeroC.toArray 49)) D v8 v9 v10 := by
  have s1 : (w.alloc (.cells (grC D v8 v9 v10).toArray 49)).heap.size = w.heap.size + 1 := by simp
  have b2 : Below (w.heap.size + 1) (w.alloc (.cells (grC D v8 v9 v10).toArray 49)) ((w.alloc (.cells (grC D v8 v9 v10).toArray 49)).alloc (.cells zeroC.toArray 49)) := (Below.refl _ _).alloc (by omega) _
  refine ⟨(boxL_new w (grC D v8 v9 v10) 49).below b2 (by omega), ?_, ((Below.refl _ _).alloc (Nat.le_refl _) _).alloc (by omega) _, by simp⟩
  have h := boxL_new (w.alloc (.cells (grC D v8 v9 v10).toArray 49)) zeroC 49
  rw [s1] at h
  exact h
theorem RowsU.notBk {L b : Nat} {w : World} {v8 v9 v10 : Value} {l8 l9 l10 : List HeEl} (h : RowsU L w v8 v9 v10 l8 l9 l10) (hb : w.heap.size ≤ b) : ¬ Bk v8 v9 v10 b := fun hk => by have := (h.blk hk).2; omega
theorem Mv.notBk {b : Nat} {w w' : World} {v8 v9 v10 u8 u9 u10 : Value} (h : Mv w w' v8 v9 v10 u8 u9 u10) (hn : ¬ Bk v8 v9 v10 b) (hb : b < w.heap.size) : ¬ Bk u8 u9 u10 b := fun hk => (h.blk b hk).elim hn fun h1 => by omega
/-- What a call behind a box leaves of the box. -/
theorem BoxL.mv {b : Nat} {w w' : World} {v8 v9 v10 u8 u9 u10 : Value} {vs : List Value} (h : BoxL w b vs) (m : Mv w w' v8 v9 v10 u8 u9 u10) (hn : ¬ Bk v8 v9 v10 b) : BoxL w' b vs := h.but m.but hn
/-- One row grown behind new blocks alone. -/
theorem Mv.app8 {m : Nat} {w W w1 : World} {v8 v9 v10 u8 : Value} (hb : Below w.heap.size w W) (hg : W.grownBy w1 v8.ownBlock) (hat : u8.ownBlock = v8.ownBlock ∨ u8.ownBlock = some m) (hm : W.heap.size ≤ m) : Mv w w1 v8 v9 v10 u8 v9 v10 :=
  ⟨(But.of hb).grown hg fun k hk => .inl hk, fun k hk => by
    rcases hk with hk | hk | hk
    · rcases hat with e | e
      · exact .inl (.inl (e ▸ hk))
      · rw [e] at hk; cases hk; exact .inr (Nat.le_trans hb.size hm)
    · exact .inl (.inr (.inl hk))
    · exact .inl (.inr (.inr hk))⟩
theorem Mv.app9 {m : Nat} {w W w1 : World} {v8 v9 v10 u9 : Value} (hb : Below w.heap.size w W) (hg : W.grownBy w1 v9.ownBlock) (hat : u9.ownBlock = v9.ownBlock ∨ u9.ownBlock = some m) (hm : W.heap.size ≤ m) : Mv w w1 v8 v9 v10 v8 u9 v10 :=
  ⟨(But.of hb).grown hg fun k hk => .inr (.inl hk), fun k hk => by
    rcases hk with hk | hk | hk
    · exact .inl (.inl hk)
    · rcases hat with e | e
      · exact .inl (.inr (.inl (e ▸ hk)))
      · rw [e] at hk; cases hk; exact .inr (Nat.le_trans hb.size hm)
    · exact .inl (.inr (.inr hk))⟩
theorem Mv.app10 {m : Nat} {w W w1 : World} {v8 v9 v10 u10 : Value} (hb : Below w.heap.size w W) (hg : W.grownBy w1 v10.ownBlock) (hat : u10.ownBlock = v10.ownBlock ∨ u10.ownBlock = some m) (hm : W.heap.size ≤ m) : Mv w w1 v8 v9 v10 v8 v9 u10 :=
  ⟨(But.of hb).grown hg fun k hk => .inr (.inr hk), fun k hk => by
    rcases hk with hk | hk | hk
    · exact .inl (.inl hk)
    · exact .inl (.inr (.inl hk))
    · rcases hat with e | e
      · exact .inl (.inr (.inr (e ▸ hk)))
      · rw [e] at hk; cases hk; exact .inr (Nat.le_trans hb.size hm)⟩
theorem Mv.set {w w' : World} {v8 v9 v10 u8 u9 u10 : Value} (h : Mv w w' v8 v9 v10 u8 u9 u10) {b j : Nat} (hb : w.heap.size ≤ b) (u : Value) : Mv w (w'.setCell ⟨b, j, none⟩ u) v8 v9 v10 u8 u9 u10 :=
  h.old (P := fun k => k = b) ((But.refl _ _).setCell (P := fun k => k = b) (p := ⟨b, j, none⟩) rfl u) fun k e => by omega
theorem BoxL.grownB {b : Nat} {w w' : World} {row : Option Nat} {vs : List Value} (h : BoxL w b vs) (hg : w.grownBy w' row) (hn : row ≠ some b) : BoxL w' b vs := h.of_block (hg.block b h.lt fun e => hn e.symm)
theorem RowsU.row8 {L b : Nat} {w : World} {v8 v9 v10 : Value} {l8 l9 l10 : List HeEl} (h : RowsU L w v8 v9 v10 l8 l9 l10) (hb : w.heap.size ≤ b) : v8.ownBlock ≠ some b := fun e => by have := (heowns_lt h.r8 b e).2; omega
end Go.Proofs.Ytdlkilacnnjglaa
namespace Go.Proofs.Ytdlkilacnnjglaa
open Go.RowKit

set_option maxRecDepth 100000 in
set_option maxHeartbeats 4000000 in
theorem iclone_he (v : Value) (xs : List HeEl) (w : World) (hr : HeReads w v xs) (hl : xs.length ≤ 1000) :
    Calls Try.prog 109 #[v] w fun e w' => ∃ au cu, e = .returned (.slice au xs.length cu) ∧ w'.ownsRow w.heap.size 116 3 (.slice au xs.length cu) xs.length (heflat xs) ∧ Below w.heap.size w w' := by
  have HR := hid hr
  obtain ⟨a, c, rfl, hc, hx⟩ := hr
  have qT : ∀ (w : World) (a : Option Addr) (n c n' c' : Nat), (binOp .eql 47 (.slice a n c) (.slice none n' c')).run Try.prog w = .ok (.bool a.isNone) w := fun w a n c n' c' => Lib.run_eql_slice_nil w _ _ a n c n' c' Try.underlying47
  have HLL := hid hl
  cases a with
  | none =>
    have h0 : xs = [] := by
      rcases hx with h | ⟨b, off, e, _⟩
      · exact h
      · cases e
    subst h0
    clear hc hx hl
    go_enter Try.func109, Try.ntmps109
    go_wp2
    go_ret
    exact ⟨none, 0, rfl, heowns_nil _ _, Below.refl _ _⟩
  | some ad =>
    clear hc hx hl
    have bA : Below w.heap.size w (w.alloc (.cells #[] 116)) := (Below.refl _ _).alloc (Nat.le_refl _) _
    have BA := hid bA
    clear bA
    go_enter Try.func109, Try.ntmps109
    go_wp2_with (at_builtin; refine wpList_append_he _ rfl _ _ rfl w.heap.size _ 0 [] rfl (heowns_lit w _ (Nat.le_refl _)) _ xs rfl (HR.out.below BA.out) (by have := HLL.out; omega) (by simp) ?_)
    intro u w1 ho hg hat
    obtain ⟨au, cu, rfl, _⟩ := heowns_form (n := xs.length) ho
    have HO : Hid (w1.ownsRow w.heap.size 116 3 (.slice au xs.length cu) xs.length (heflat xs)) := ho
    have HB := hid (BA.out.grown hg (by simp) (by intro k hk; simp [Value.ownBlock] at hk; omega))
    clear ho hg hat
    go_wp2
    go_ret
    exact ⟨au, cu, rfl, HO.out, HB.out⟩
end Go.Proofs.Ytdlkilacnnjglaa
