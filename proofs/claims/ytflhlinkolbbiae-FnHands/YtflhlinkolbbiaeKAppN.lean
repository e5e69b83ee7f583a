/-
  Nothing is appended to numbers: they lie as they lay. A plain fact on the memory.
  Numbers appended to a row of one's own, whatever they are, none too: plain facts on the memory.
  One number in memory of its own, and rows of numbers that the call owns, in two forms: plain facts on the memory.
-/
import Derived.Test.YtflhlinkolbbiaeKIntRows
import Derived.ArgAppend
import Derived.Deep.Upon
import Derived.Lib.SlFresh
import Derived.Lib.SliceRun
import Derived.Test.YtflhlinkolbbiaeBut5
import Derived.Maps.AppendAt
import Derived.Test.YtflhlinkolbbiaeIRows
namespace Go.Proofs.Ytflhlinkolbbiae
open Go.RowKit

theorem knothing {w : World} {i0 : TypeInfo} (hi : Try.prog.info? 3 = some i0) (hsz : i0.size = 1) (ty : TypeId) (ao : Option Addr) (n c : Nat) (hle : n ≤ c) (a : Option Addr) (cy : Nat) :
    (Builtin.append_ #[48, 48] ty #[.slice ao n c, .slice a 0 cy]).run Try.prog w = .ok (.slice ao n c) w := by
  refine run_append_nothing _ _ _ _ _ i0 Try.underlying48 hi _ _ _ hle _ ?_
  rw [hsz]
  cases a with
  | none => exact Src.ofNil _ Try.underlying48 cy
  | some ad => exact Src.ofSlice _ Try.underlying48 ad 0 cy [] rfl (by intro j u h; simp at h) (by intro u h; simp at h)
end Go.Proofs.Ytflhlinkolbbiae
namespace Go.Proofs.Ytflhlinkolbbiae
open Go.RowKit

theorem grown_refl (w : World) (row : Option Nat) : w.grownBy w row := ⟨rfl, rfl, rfl, Nat.le_refl _, fun _ _ _ => rfl⟩
theorem append_reads (w : World) (base : Nat) (v : Value) (n : Nat) (xs : List Int) (hown : w.ownsRow base 3 1 v n (kflat xs)) (vx : Value) (ys : List Int) (hr : KReads w vx ys) (hl : n + ys.length ≤ 1000) (hbase : base ≤ w.heap.size) (ty : TypeId) :
    ∃ v' w', (Builtin.append_ #[48, 48] ty #[v, vx]).run Try.prog w = .ok v' w' ∧ w'.ownsRow base 3 1 v' (n + ys.length) (kflat (xs ++ ys)) ∧ w.grownBy w' v.ownBlock ∧ (v'.ownBlock = v.ownBlock ∨ v'.ownBlock = some w.heap.size) := by
  obtain ⟨i0, hi, hz0, hz1, hz2⟩ := info_parts info_int
  obtain ⟨a, cap, rfl, hlen, hc⟩ := hr
  rcases hc with rfl | ⟨b, off, rfl, hc⟩
  · refine ⟨v, w, ?_, by rw [List.append_nil]; exact hown, grown_refl _ _, .inl rfl⟩
    rcases hown.2 with ⟨rfl, _⟩ | ⟨g, cap', cur, rfl, _, _, hle, _⟩
    · exact knothing hi hz1 _ _ _ _ (Nat.le_refl _) _ _
    · exact knothing hi hz1 _ _ _ _ hle _ _
  · obtain ⟨v', w', h1, h2, h3, _, h5⟩ := run_append_own_at (P := Try.prog) w base 48 ty 3 i0 (.int .i64 0) 1 8 Try.underlying48 hi hz0 hz1 hz2 rfl (by decide) v n (kflat xs) hown ⟨b, off, none⟩ ys.length cap (kflat ys) (by rw [length_kflat, Nat.mul_one]) (kflat_cells hc) (kflat_one _) (by unfold maxLen; omega) (by omega) hbase
    exact ⟨v', w', h1, by rw [kflat_append]; exact h2, h3, h5⟩
end Go.Proofs.Ytflhlinkolbbiae
namespace Go.Proofs.Ytflhlinkolbbiae
open Go.RowKit

theorem kreads_int (w : World) (x : Int) : KReads (w.alloc (.cells #[.int .i64 x] 3)) (.slice (some ⟨w.heap.size, 0, none⟩) 1 1) [x] := by
  refine ⟨_, 1, rfl, by simp, .inr ⟨w.heap.size, 0, rfl, fun i hi => ?_⟩⟩
  obtain rfl : i = 0 := by simpa using hi
  exact cell_of_row _ _ _ _ _ (0, 0) (heap_alloc_new w _)
theorem owns_stay {w w' : World} {base n : Nat} {t : TypeId} {v : Value} {cs : List Value} (h : w.ownsRow base t 1 v n cs) (e : ∀ g, v.ownBlock = some g → w'.heap[g]? = w.heap[g]?) : w'.ownsRow base t 1 v n cs := by
  obtain ⟨h1, h2⟩ := h
  refine ⟨h1, ?_⟩
  rcases h2 with h | ⟨g, cap, cur, rfl, hg, hh, hr⟩
  · exact .inl h
  · exact .inr ⟨g, cap, cur, rfl, hg, by rw [e g rfl]; exact hh, hr⟩
theorem owns_only {w w' : World} {base n b : Nat} {t : TypeId} {v : Value} {cs : List Value} (h : w.ownsRow base t 1 v n cs) (hb : But (fun k => k = b) w w') (hlt : b < base) : w'.ownsRow base t 1 v n cs :=
  owns_stay h fun g hg => hb.2 g (h.lt g hg).2 (by have := (h.lt g hg).1; omega)
/-- The walk's law of an append to a row of one's own, whatever is appended: what comes of it is left open, so that the walk stops there. -/
theorem wpList_append_reads (w : World) {ops : Array Oper} {rest : List Oper} {o : Oper} {a : Act} {Q : Exit → Act → World → Prop} (hgd : o.guard = none) (s x : Operand)
    (ho : o.op = .call { callee := .builtin .append, args := #[s, x], argTypes := #[48, 48] }) (base : Nat) (v : Value) (n : Nat) (xs : List Int) (hs : a.eval s = v) (hown : w.ownsRow base 3 1 v n (kflat xs)) (vx : Value) (ys : List Int) (hx : a.eval x = vx)
    (hr : KReads w vx ys) (hl : n + ys.length ≤ 1000) (hbase : base ≤ w.heap.size)
    (h : ∀ v' w', w'.ownsRow base 3 1 v' (n + ys.length) (kflat (xs ++ ys)) → w.grownBy w' v.ownBlock → (v'.ownBlock = v.ownBlock ∨ v'.ownBlock = some w.heap.size) → wpList Try.prog ops Q rest (a.put o.dst v') w') : wpList Try.prog ops Q (o :: rest) a w := by
  obtain ⟨v', w', hrun, h1, h2, h3⟩ := append_reads w base v n xs hown vx ys hr hl hbase o.type
  exact Lib.wpList_append_run_sl w hgd s x _ ho v vx hs hx hrun (h v' w' h1 h2 h3)
end Go.Proofs.Ytflhlinkolbbiae
