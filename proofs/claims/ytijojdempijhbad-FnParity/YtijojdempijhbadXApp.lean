/-
  Texts appended to a row of one's own: plain facts on the memory, and the laws of one operation.
-/
import Derived.Test.YtijojdempijhbadXRows
import Derived.Test.YtijojdempijhbadBut5
import Derived.ArgAppend
import Derived.Deep.Upon
import Derived.Lib.SlFresh
import Derived.Lib.SliceRun
import Derived.Maps.AppendAt
import Derived.Deep.RegionLawGrows
namespace Go.Proofs.Ytijojdempijhbad
open Go.RowKit

theorem xnothing {w : World} {i0 : TypeInfo} (hi : Try.prog.info? 9 = some i0) (hsz : i0.size = 1) (ty : TypeId) (ao : Option Addr) (n c : Nat) (hle : n ≤ c) (a : Option Addr) (cy : Nat) :
    (Builtin.append_ #[75, 75] ty #[.slice ao n c, .slice a 0 cy]).run Try.prog w = .ok (.slice ao n c) w := by
  refine run_append_nothing _ _ _ _ _ i0 Try.underlying75 hi _ _ _ hle _ ?_
  rw [hsz]
  cases a with
  | none => exact Src.ofNil _ Try.underlying75 cy
  | some ad => exact Src.ofSlice _ Try.underlying75 ad 0 cy [] rfl (by intro j u h; simp at h) (by intro u h; simp at h)
theorem append_xreads (w : World) (base : Nat) (v : Value) (n : Nat) (xs : List XEl) (hown : w.ownsRow base 9 1 v n (xflat xs)) (vx : Value) (ys : List XEl) (hr : XReads w vx ys) (hl : n + ys.length ≤ 1000) (hbase : base ≤ w.heap.size) (ty : TypeId) :
    ∃ v' w', (Builtin.append_ #[75, 75] ty #[v, vx]).run Try.prog w = .ok v' w' ∧ w'.ownsRow base 9 1 v' (n + ys.length) (xflat (xs ++ ys)) ∧ w.grownBy w' v.ownBlock ∧ (v'.ownBlock = v.ownBlock ∨ v'.ownBlock = some w.heap.size) := by
  obtain ⟨i0, hi, hz0, hz1, hz2⟩ := info_parts info_str
  obtain ⟨a, cap, rfl, hlen, hc⟩ := hr
  rcases hc with rfl | ⟨b, off, rfl, hc⟩
  · refine ⟨v, w, ?_, by rw [List.append_nil]; exact hown, ⟨rfl, rfl, rfl, Nat.le_refl _, fun _ _ _ => rfl⟩, .inl rfl⟩
    rcases hown.2 with ⟨rfl, _⟩ | ⟨g, cap', cur, rfl, _, _, hle, _⟩
    · exact xnothing hi hz1 _ _ _ _ (Nat.le_refl _) _ _
    · exact xnothing hi hz1 _ _ _ _ hle _ _
  · obtain ⟨v', w', h1, h2, h3, _, h5⟩ := run_append_own_at (P := Try.prog) w base 75 ty 9 i0 (.string xz) 1 16 Try.underlying75 hi hz0 hz1 hz2 rfl (by decide) v n (xflat xs) hown ⟨b, off, none⟩ ys.length cap (xflat ys) (by rw [length_xflat, Nat.mul_one]) (xflat_cells hc) (xflat_one _) (by unfold maxLen; omega) (by omega) hbase
    exact ⟨v', w', h1, by rw [xflat_append]; exact h2, h3, h5⟩
theorem xreads_one (w : World) (x : XEl) : XReads (w.alloc (.cells #[.string x] 9)) (.slice (some ⟨w.heap.size, 0, none⟩) 1 1) [x] := by
  refine ⟨_, 1, rfl, by simp, .inr ⟨w.heap.size, 0, rfl, fun i hi => ?_⟩⟩
  obtain rfl : i = 0 := by simpa using hi
  exact cell_of_row _ _ _ _ _ (0, 0) (heap_alloc_new w _)
theorem xowns_stay {w w' : World} {base n : Nat} {t : TypeId} {v : Value} {cs : List Value} (h : w.ownsRow base t 1 v n cs) (e : ∀ g, v.ownBlock = some g → w'.heap[g]? = w.heap[g]?) : w'.ownsRow base t 1 v n cs := by
  obtain ⟨h1, h2⟩ := h
  refine ⟨h1, ?_⟩
  rcases h2 with h | ⟨g, cap, cur, rfl, hg, hh, hr⟩
  · exact .inl h
  · exact .inr ⟨g, cap, cur, rfl, hg, by rw [e g rfl]; exact hh, hr⟩
theorem xowns_below {w w' : World} {base n : Nat} {t : TypeId} {v : Value} {cs : List Value} (h : w.ownsRow base t 1 v n cs) (hb : Below w.heap.size w w') : w'.ownsRow base t 1 v n cs := xowns_stay h fun g hg => hb.block g (h.lt g hg).2
/-- The walk's law of an append to texts of one's own, whatever is appended. -/
theorem wpList_append_xreads (w : World) {ops : Array Oper} {rest : List Oper} {o : Oper} {a : Act} {Q : Exit → Act → World → Prop} (hgd : o.guard = none) (s x : Operand)
    (ho : o.op = .call { callee := .builtin .append, args := #[s, x], argTypes := #[75, 75] }) (base : Nat) (v : Value) (n : Nat) (xs : List XEl) (hs : a.eval s = v) (hown : w.ownsRow base 9 1 v n (xflat xs)) (vx : Value) (ys : List XEl) (hx : a.eval x = vx)
    (hr : XReads w vx ys) (hl : n + ys.length ≤ 1000) (hbase : base ≤ w.heap.size)
    (h : ∀ v' w', w'.ownsRow base 9 1 v' (n + ys.length) (xflat (xs ++ ys)) → w.grownBy w' v.ownBlock → (v'.ownBlock = v.ownBlock ∨ v'.ownBlock = some w.heap.size) → wpList Try.prog ops Q rest (a.put o.dst v') w') : wpList Try.prog ops Q (o :: rest) a w := by
  obtain ⟨v', w', hrun, h1, h2, h3⟩ := append_xreads w base v n xs hown vx ys hr hl hbase o.type
  exact Lib.wpList_append_run_sl w hgd s x _ ho v vx hs hx hrun (h v' w' h1 h2 h3)
theorem step_append_x {ops : Array Oper} {o : Oper} {a : Act} {w : World} {K : Act → World → Prop} {Q : Exit → Act → World → Prop} {E : Prop} (hg : o.guard = none) (s x : Operand)
    (hop : o.op = Op.call { callee := Callee.builtin Builtin.append, args := #[s, x], argTypes := #[75, 75] }) (base : Nat) (v : Value) (n : Nat) (xs : List XEl) (hs : a.eval s = v) (hown : w.ownsRow base 9 1 v n (xflat xs)) (vx : Value) (ys : List XEl) (hx : a.eval x = vx) (hr : XReads w vx ys) (hl : n + ys.length ≤ 1000) (hbase : base ≤ w.heap.size)
    (hK : ∀ v' w', w'.ownsRow base 9 1 v' (n + ys.length) (xflat (xs ++ ys)) → w.grownBy w' v.ownBlock → (v'.ownBlock = v.ownBlock ∨ v'.ownBlock = some w.heap.size) → K (a.put o.dst v') w') :
    if Region.wanted o (yielded ops a.tmps) = true then Oper.wp Try.prog o a w K Q else E := by
  have hw : Region.wanted o (yielded ops a.tmps) = true := by simp [Region.wanted, hg]
  rw [if_pos hw]
  obtain ⟨v', w', hrun, h1, h2, h3⟩ := append_xreads w base v n xs hown vx ys hr hl hbase o.type
  unfold Oper.wp execOp
  simp only [hop, resolve, invoke, builtin, Sem.run_bind, Sem.run_pure, Result.andThen_ok, List.map_toArray, List.map_cons, List.map_nil, hs, hx, hrun]
  exact hK v' w' h1 h2 h3
/-- Texts, one at least, appended to an empty row that is written out: a row of one's own. -/
theorem step_clone_x {ops : Array Oper} {o : Oper} {a : Act} {w : World} {K : Act → World → Prop} {Q : Exit → Act → World → Prop} {E : Prop} (hg : o.guard = none) (s x : Operand)
    (hop : o.op = Op.call { callee := Callee.builtin Builtin.append, args := #[s, x], argTypes := #[75, 75] }) (b : Nat) (hs : a.eval s = .slice (some ⟨b, 0, none⟩) 0 0) (vx : Value) (ys : List XEl) (hx : a.eval x = vx) (hr : XReads w vx ys) (hl : ys.length ≤ 1000) (hpos : 0 < ys.length)
    (hK : ∀ v' w', w'.ownsRow w.heap.size 9 1 v' ys.length (xflat ys) → Below w.heap.size w w' → K (a.put o.dst v') w') :
    if Region.wanted o (yielded ops a.tmps) = true then Oper.wp Try.prog o a w K Q else E := by
  obtain ⟨i0, hi, hz0, hz1, hz2⟩ := info_parts info_str
  obtain ⟨a0, cap, rfl, hlen, hc⟩ := hr
  rcases hc with rfl | ⟨g, off, rfl, hc⟩
  · simp at hpos
  refine step_append_grows hg s x _ hop 9 i0 (.string xz) 1 16 Try.underlying75 hi hz0 hz1 hz2 (by rfl) (by decide) (some ⟨b, 0, none⟩) 0 0 [] hs (by intro h; cases h) (by rfl) (by intro b0 _ j u h; simp at h) ⟨g, off, none⟩ ys.length cap (xflat ys) hx (by rw [length_xflat, Nat.mul_one]) (xflat_cells hc) (xflat_one _) (by omega) (by unfold maxLen; omega) (by omega) ?_
  intro u2 w2 hown hgrow
  rw [Nat.zero_add, List.nil_append] at hown
  exact hK _ _ hown ((Below.refl _ _).grown hgrow (Nat.le_refl _) (by intro k h; cases h))
end Go.Proofs.Ytijojdempijhbad
