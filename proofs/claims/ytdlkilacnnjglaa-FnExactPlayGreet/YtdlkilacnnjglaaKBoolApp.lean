/-
  Rows of bool that are appended to. Plain facts on the memory.
  What stands between two rounds of PlayGreet: the greeting in its box, what was done in a row of its own. Plain facts on the memory.
-/
import Derived.Test.YtdlkilacnnjglaaKBoolRows
import Derived.Test.YtdlkilacnnjglaaKHelloApp
import Derived.Test.YtdlkilacnnjglaaPut11
namespace Go.Proofs.Ytdlkilacnnjglaa
open Go.RowKit

theorem info_boolB : (Try.prog.info? 4).map (fun i => (i.zero, i.size, i.bytes)) = some (some (.bool false), 1, 1) := by kernel_rfl
theorem bonothing_run {w : World} {i0 : TypeInfo} (hi : Try.prog.info? 4 = some i0) (hsz : i0.size = 1) (ty : TypeId) (ao : Option Addr) (n c : Nat) (hle : n ≤ c) (a : Option Addr) (cy : Nat) :
    (Builtin.append_ #[50, 50] ty #[.slice ao n c, .slice a 0 cy]).run Try.prog w = .ok (.slice ao n c) w := by
  refine run_append_nothing _ _ _ _ _ i0 Try.underlying50 hi _ _ _ hle _ ?_
  rw [hsz]
  cases a with
  | none => exact Src.ofNil _ Try.underlying50 cy
  | some ad => exact Src.ofSlice _ Try.underlying50 ad 0 cy [] rfl (by intro j u h; simp at h) (by intro u h; simp at h)
theorem append_bo (w : World) (base : Nat) (v : Value) (n : Nat) (xs : List BoEl) (hown : w.ownsRow base 4 1 v n (boflat xs)) (vx : Value) (ys : List BoEl) (hr : BoReads w vx ys) (hl : n + ys.length ≤ 1000000) (hbase : base ≤ w.heap.size) (ty : TypeId) :
    ∃ v' w', (Builtin.append_ #[50, 50] ty #[v, vx]).run Try.prog w = .ok v' w' ∧ w'.ownsRow base 4 1 v' (n + ys.length) (boflat (xs ++ ys)) ∧ w.grownBy w' v.ownBlock ∧ (v'.ownBlock = v.ownBlock ∨ v'.ownBlock = some w.heap.size) := by
  obtain ⟨i0, hi, hz0, hz1, hz2⟩ := info_parts info_boolB
  obtain ⟨a, cap, rfl, hlen, hc⟩ := hr
  rcases hc with rfl | ⟨b, off, rfl, hc⟩
  · refine ⟨v, w, ?_, by rw [List.append_nil]; exact hown, he_grown_refl _ _, .inl rfl⟩
    rcases hown.2 with ⟨rfl, h0⟩ | ⟨g, cap', cur, rfl, _, _, hle, _⟩
    · exact bonothing_run hi hz1 _ _ _ _ (Nat.le_refl _) _ _
    · exact bonothing_run hi hz1 _ _ _ _ hle _ _
  · obtain ⟨v', w', h1, h2, h3, _, h5⟩ := run_append_own_at (P := Try.prog) w base 50 ty 4 i0 (.bool false) 1 1 Try.underlying50 hi hz0 hz1 hz2 rfl (by decide) v n (boflat xs) hown ⟨b, off, none⟩ ys.length cap (boflat ys) (by rw [length_boflat, Nat.mul_one]) (boflat_cells hc) (boflat_one _) (by unfold maxLen; omega) (by omega) hbase
    exact ⟨v', w', h1, by rw [boflat_append]; exact h2, h3, h5⟩
/-- The walk's law of an append: what comes of it is left open, so that the walk stops there. -/
theorem wpList_append_bo (w : World) {ops : Array Oper} {rest : List Oper} {o : Oper} {a : Act} {Q : Exit → Act → World → Prop} (hgd : o.guard = none) (s x : Operand)
    (ho : o.op = .call { callee := .builtin .append, args := #[s, x], argTypes := #[50, 50] }) (base : Nat) (v : Value) (n : Nat) (xs : List BoEl) (hs : a.eval s = v) (hown : w.ownsRow base 4 1 v n (boflat xs)) (vx : Value) (ys : List BoEl) (hx : a.eval x = vx)
    (hr : BoReads w vx ys) (hl : n + ys.length ≤ 1000000) (hbase : base ≤ w.heap.size)
    (h : ∀ v' w', w'.ownsRow base 4 1 v' (n + ys.length) (boflat (xs ++ ys)) → w.grownBy w' v.ownBlock → (v'.ownBlock = v.ownBlock ∨ v'.ownBlock = some w.heap.size) → wpList Try.prog ops Q rest (a.put o.dst v') w') : wpList Try.prog ops Q (o :: rest) a w := by
  obtain ⟨v', w', hrun, h1, h2, h3⟩ := append_bo w base v n xs hown vx ys hr hl hbase o.type
  exact Lib.wpList_append_run_sl w hgd s x _ ho v vx hs hx hrun (h v' w' h1 h2 h3)
theorem boowns_nil (w : World) (base : Nat) : w.ownsRow base 4 1 (.slice none 0 0) 0 (boflat []) := World.ownsRow_nil _ _ _ _
/-- One truth value in a new row of one, written out. -/
theorem boreads_one (w : World) (x : Bool) (t : TypeId) : BoReads (w.alloc (.cells #[.bool x] t)) (.slice (some ⟨w.heap.size, 0, none⟩) 1 1) [x] := by
  refine ⟨_, 1, rfl, by simp, .inr ⟨w.heap.size, 0, rfl, fun i hi => ?_⟩⟩
  obtain rfl : i = 0 := by simpa using hi
  show _ = _
  simp
end Go.Proofs.Ytdlkilacnnjglaa
namespace Go.Proofs.Ytdlkilacnnjglaa
open Go.RowKit

structure PlG (bx : Nat) (w wr : World) (D : GrD) (v8 v9 v10 s : Value) (n : Nat) (bs : List Bool) : Prop where
  box : BoxL wr bx (grC D v8 v9 v10)
  rows : RowsU (bx + 1) wr v8 v9 v10 D.f8 D.f9 D.f10
  did : wr.ownsRow (bx + 1) 4 1 s n (boflat bs)
  far : ∀ g, s.ownBlock = some g → ¬ Bk v8 v9 v10 g
  res : BoxL wr w.heap.size zeroC
  bel : Below w.heap.size w wr
  lo : w.heap.size < bx
theorem PlG.below {bx : Nat} {w wr w' : World} {D : GrD} {v8 v9 v10 s : Value} {n : Nat} {bs : List Bool} (h : PlG bx w wr D v8 v9 v10 s n bs) (hb : Below wr.heap.size wr w') : PlG bx w w' D v8 v9 v10 s n bs :=
  ⟨h.box.below hb h.box.lt, h.rows.below hb rfl, heowns_at h.did fun g _ hlt => hb.block g hlt, h.far, h.res.below hb h.res.lt, h.bel.trans (hb.mono h.bel.size), h.lo⟩
theorem PlG.put {bx : Nat} {w wr : World} {D D' : GrD} {v8 v9 v10 u8 u9 u10 s : Value} {n : Nat} {bs : List Bool} (h : PlG bx w wr D v8 v9 v10 s n bs) (U : RowsU (bx + 1) wr u8 u9 u10 D'.f8 D'.f9 D'.f10) (hf : ∀ g, s.ownBlock = some g → ¬ Bk u8 u9 u10 g) :
    PlG bx w (put11 wr bx (.int .i64 D'.f0) (.int .i64 D'.f1) (.int .i64 D'.f2) (.int .i64 D'.f3) (.int .i64 D'.f4) (.int .i64 D'.f5) (.int .i64 D'.f6) (.int .i64 D'.f7) u8 u9 u10) D' u8 u9 u10 s n bs := by
  have o := put11_but wr bx (.int .i64 D'.f0) (.int .i64 D'.f1) (.int .i64 D'.f2) (.int .i64 D'.f3) (.int .i64 D'.f4) (.int .i64 D'.f5) (.int .i64 D'.f6) (.int .i64 D'.f7) u8 u9 u10
  have hlo := h.lo
  refine ⟨put11_box h.box _ _ _ _ _ _ _ _ _ _ _, U.but o fun k hk e => ?_, heowns_at h.did fun g hg hlt => o.2 g hlt fun e => ?_, hf, h.res.but o (by have := h.lo; omega), ?_, h.lo⟩
  · have := (U.blk hk).1; omega
  · have := (heowns_lt h.did g hg).1; omega
  · have s : ∀ {w' : World} (j : Nat) (u : Value), Below w.heap.size w w' → Below w.heap.size w (w'.setCell ⟨bx, j, none⟩ u) := fun j u h => h.setCell (by show _ ≤ bx; omega) u
    exact s 10 _ (s 9 _ (s 8 _ (s 7 _ (s 6 _ (s 5 _ (s 4 _ (s 3 _ (s 2 _ (s 1 _ (s 0 _ h.bel))))))))))
theorem PlG.app {bx : Nat} {w wr w' : World} {D : GrD} {v8 v9 v10 s s' : Value} {n m : Nat} {bs : List Bool} {x : Bool} (h : PlG bx w wr D v8 v9 v10 s n bs) (ho : w'.ownsRow (bx + 1) 4 1 s' (n + 1) (boflat (bs ++ [x]))) (hg : wr.grownBy w' s.ownBlock) (hat : s'.ownBlock = s.ownBlock ∨ s'.ownBlock = some m) (hm : wr.heap.size ≤ m) : PlG bx w w' D v8 v9 v10 s' (n + 1) (bs ++ [x]) := by
  have hlo := h.lo
  refine ⟨h.box.grownB hg fun e => ?_, h.rows.at fun g _ h2 hk => hg.block g h2 fun e => h.far g e.symm hk, ho, fun g hs hk => ?_, h.res.grownB hg fun e => ?_, ?_, h.lo⟩
  · have := (heowns_lt h.did _ e).1; omega
  · rcases hat with e | e
    · exact h.far g (e ▸ hs) hk
    · rw [e] at hs; cases hs; have := (h.rows.blk hk).2; omega
  · have := (heowns_lt h.did _ e).1; omega
  · exact ((But.of (P := fun k => s.ownBlock = some k) h.bel).grown hg fun k hk => hk).to (Nat.le_refl _) fun k hk hb => by have := (heowns_lt h.did _ hb).1; omega
theorem PlG.start {bx : Nat} {w wr : World} {D : GrD} (hb : BoxL wr bx (grC D (.slice none 0 0) (.slice none 0 0) (.slice none 0 0))) (h8 : D.f8 = []) (h9 : D.f9 = []) (h10 : D.f10 = []) (hr : BoxL wr w.heap.size zeroC) (hl : Below w.heap.size w wr) (hlo : w.heap.size < bx) : PlG bx w wr D (.slice none 0 0) (.slice none 0 0) (.slice none 0 0) (.slice none 0 0) 0 [] :=
  ⟨hb, by rw [h8, h9, h10]; exact rowsU_bare _ _, boowns_nil _ _, (fun g h => by cases h), hr, hl, hlo⟩
end Go.Proofs.Ytdlkilacnnjglaa
