/-
  Greetings' letters in rows of their own, to which one may append. Plain facts on the memory.
-/
import Derived.Test.YtdlkilacnnjglaaKCaseApp
namespace Go.Proofs.Ytdlkilacnnjglaa
open Go.RowKit

theorem ca_grown_refl (w : World) (row : Option Nat) : w.grownBy w row := ⟨rfl, rfl, rfl, Nat.le_refl _, fun _ _ _ => rfl⟩
/-- Something read is put behind a row of one's own. -/
theorem append_ca (w : World) (base : Nat) (v : Value) (n : Nat) (xs : List CaEl) (hown : w.ownsRow base 70 4 v n (caflat xs)) (vx : Value) (ys : List CaEl) (hr : CaReads w vx ys) (hl : n + ys.length ≤ 1000000) (hbase : base ≤ w.heap.size) (ty : TypeId) :
    ∃ v' w', (Builtin.append_ #[23, 23] ty #[v, vx]).run Try.prog w = .ok v' w' ∧ w'.ownsRow base 70 4 v' (n + ys.length) (caflat (xs ++ ys)) ∧ w.grownBy w' v.ownBlock ∧ (v'.ownBlock = v.ownBlock ∨ v'.ownBlock = some w.heap.size) := by
  obtain ⟨i0, hi, hz0, hz1, hz2⟩ := info_parts info_case
  obtain ⟨a, cap, rfl, hlen, hc⟩ := hr
  rcases hc with rfl | ⟨b, off, rfl, hc⟩
  · refine ⟨v, w, ?_, by rw [List.append_nil]; exact hown, ca_grown_refl _ _, .inl rfl⟩
    rcases hown.2 with ⟨rfl, h0⟩ | ⟨g, cap', cur, rfl, _, _, hle, _⟩
    · exact canothing_run hi hz1 _ _ _ _ (Nat.le_refl _) _ _
    · exact canothing_run hi hz1 _ _ _ _ hle _ _
  · obtain ⟨v', w', h1, h2, h3, _, h5⟩ := run_append_own_at (P := Try.prog) w base 23 ty 70 i0 (.agg #[.int .i64 0, .bool false, .int .i64 0, .int .i64 0]) 4 32 Try.underlying23 hi hz0 hz1 hz2 rfl (by decide) v n (caflat xs) hown ⟨b, off, none⟩ ys.length cap (caflat ys) (length_caflat ys) (caflat_cells hc) (caflat_one _) (by unfold maxLen; omega) (by omega) hbase
    exact ⟨v', w', h1, by rw [caflat_append]; exact h2, h3, h5⟩
/-- The walk's law of an append: what comes of it is left open, so that the walk stops there. -/
theorem wpList_append_ca (w : World) {ops : Array Oper} {rest : List Oper} {o : Oper} {a : Act} {Q : Exit → Act → World → Prop} (hgd : o.guard = none) (s x : Operand)
    (ho : o.op = .call { callee := .builtin .append, args := #[s, x], argTypes := #[23, 23] }) (base : Nat) (v : Value) (n : Nat) (xs : List CaEl) (hs : a.eval s = v) (hown : w.ownsRow base 70 4 v n (caflat xs)) (vx : Value) (ys : List CaEl) (hx : a.eval x = vx)
    (hr : CaReads w vx ys) (hl : n + ys.length ≤ 1000000) (hbase : base ≤ w.heap.size)
    (h : ∀ v' w', w'.ownsRow base 70 4 v' (n + ys.length) (caflat (xs ++ ys)) → w.grownBy w' v.ownBlock → (v'.ownBlock = v.ownBlock ∨ v'.ownBlock = some w.heap.size) → wpList Try.prog ops Q rest (a.put o.dst v') w') : wpList Try.prog ops Q (o :: rest) a w := by
  obtain ⟨v', w', hrun, h1, h2, h3⟩ := append_ca w base v n xs hown vx ys hr hl hbase o.type
  exact Lib.wpList_append_run_sl w hgd s x _ ho v vx hs hx hrun (h v' w' h1 h2 h3)
theorem step_append_ca {ops : Array Oper} {o : Oper} {a : Act} {w : World} {K : Act → World → Prop} {Q : Exit → Act → World → Prop} {E : Prop} (hg : o.guard = none) (s x : Operand)
    (hop : o.op = Op.call { callee := Callee.builtin Builtin.append, args := #[s, x], argTypes := #[23, 23] }) (base : Nat) (v : Value) (n : Nat) (xs : List CaEl) (hs : a.eval s = v) (hown : w.ownsRow base 70 4 v n (caflat xs)) (vx : Value) (ys : List CaEl) (hx : a.eval x = vx)
    (hr : CaReads w vx ys) (hl : n + ys.length ≤ 1000000) (hbase : base ≤ w.heap.size)
    (hK : ∀ v' w', w'.ownsRow base 70 4 v' (n + ys.length) (caflat (xs ++ ys)) → w.grownBy w' v.ownBlock → (v'.ownBlock = v.ownBlock ∨ v'.ownBlock = some w.heap.size) → K (a.put o.dst v') w') :
    if Region.wanted o (yielded ops a.tmps) = true then Oper.wp Try.prog o a w K Q else E := by
  have hw : Region.wanted o (yielded ops a.tmps) = true := by simp [Region.wanted, hg]
  rw [if_pos hw]
  obtain ⟨v', w', hrun, h1, h2, h3⟩ := append_ca w base v n xs hown vx ys hr hl hbase o.type
  unfold Oper.wp execOp
  simp only [hop, resolve, invoke, builtin, Sem.run_bind, Sem.run_pure, Result.andThen_ok, List.map_toArray, List.map_cons, List.map_nil, hs, hx, hrun]
  exact hK v' w' h1 h2 h3
/-- A new empty row, written out. -/
theorem caowns_lit (w : World) (base : Nat) (hb : base ≤ w.heap.size) : (w.alloc (.cells #[] 70)).ownsRow base 70 4 (.slice (some ⟨w.heap.size, 0, none⟩) 0 0) 0 (caflat []) :=
  ⟨rfl, .inr ⟨w.heap.size, 0, #[], rfl, hb, heap_alloc_new w _, Nat.le_refl _, by decide, rfl, rfl⟩⟩
theorem caowns_nil (w : World) (base : Nat) : w.ownsRow base 70 4 (.slice none 0 0) 0 (caflat []) := World.ownsRow_nil _ _ _ _
/-- One letter in a new row of one, written out. -/
theorem careads_one (w : World) (x : CaEl) (t : TypeId) : CaReads (w.alloc (.cells #[.int .i64 x.1, .bool x.2.1, .int .i64 x.2.2.1, .int .i64 x.2.2.2] t)) (.slice (some ⟨w.heap.size, 0, none⟩) 1 1) [x] := by
  refine ⟨_, 1, rfl, by simp, .inr ⟨w.heap.size, 0, rfl, fun i hi => ?_⟩⟩
  obtain rfl : i = 0 := by simpa using hi
  refine ⟨?_, ?_, ?_, ?_⟩ <;> simp
theorem CaReads.of_owns {w : World} {base n : Nat} {v : Value} {xs : List CaEl} (h : w.ownsRow base 70 4 v n (caflat xs)) (hl : xs.length ≤ 1000000) : CaReads w v xs := (CaOwn.of_owns h (by omega)).reads
theorem caowns_at {w w' : World} {base : Nat} {t : TypeId} {size n : Nat} {v : Value} {cs : List Value} (h : w.ownsRow base t size v n cs) (e : ∀ g, v.ownBlock = some g → g < w.heap.size → w'.heap[g]? = w.heap[g]?) : w'.ownsRow base t size v n cs := by
  refine ⟨h.1, ?_⟩
  rcases h.2 with h2 | ⟨g, cap, cur, rfl, hb, hh, hr⟩
  · exact .inl h2
  · have hlt : g < w.heap.size := by
      by_cases hg : g < w.heap.size
      · exact hg
      · rw [Array.getElem?_eq_none (by omega)] at hh; cases hh
    exact .inr ⟨g, cap, cur, rfl, hb, (e g rfl hlt).trans hh, hr⟩
theorem caowns_lt {w : World} {base : Nat} {t : TypeId} {size n : Nat} {v : Value} {cs : List Value} (h : w.ownsRow base t size v n cs) (g : Nat) (e : v.ownBlock = some g) : base ≤ g ∧ g < w.heap.size := by
  rcases h.2 with ⟨rfl, _⟩ | ⟨g', cap, cur, rfl, hb, hh, hr⟩
  · cases e
  · have hlt : g' < w.heap.size := by
      by_cases hg : g' < w.heap.size
      · exact hg
      · rw [Array.getElem?_eq_none (by omega)] at hh; cases hh
    simp only [Value.ownBlock, Option.some.injEq] at e
    subst e
    exact ⟨hb, hlt⟩
theorem caowns_form {w : World} {base n : Nat} {t : TypeId} {size : Nat} {v : Value} {cs : List Value} (h : w.ownsRow base t size v n cs) : ∃ a c, v = .slice a n c ∧ n ≤ c := by
  rcases h.2 with ⟨rfl, rfl⟩ | ⟨g, cap, cur, rfl, _, _, hle, _⟩
  · exact ⟨none, 0, rfl, Nat.le_refl _⟩
  · exact ⟨_, cap, rfl, hle⟩
end Go.Proofs.Ytdlkilacnnjglaa
