/-
  One number in memory of its own, and rows of numbers that the call owns, in two forms: plain facts on the memory.
-/
import Derived.Test.YtflhlinkolbbiaeIRows
import Derived.Test.YtflhlinkolbbiaeKApp5
import Derived.Lib.SlFresh
namespace Go.Proofs.Ytflhlinkolbbiae
open Go.RowKit

theorem kreads_int (w : World) (x : Int) : KReads (w.alloc (.cells #[.int .i64 x] 3)) (.slice (some ⟨w.heap.size, 0, none⟩) 1 1) [x] := by
  refine ⟨_, 1, rfl, by simp, .inr ⟨w.heap.size, 0, rfl, fun i hi => ?_⟩⟩
  obtain rfl : i = 0 := by simpa using hi
  exact cell_of_row _ _ _ _ _ (0, 0) (heap_alloc_new w _)
theorem owns_stay {w w' : World} {base n : Nat} {t : TypeId} {v : Value} {cs : List Value} (h : w.ownsRow base t 1 v n cs) (e : ∀ g, v.ownBlock = some g → w'.heap[g]? = w.heap[g]?) : w'.ownsRow base t 1 v n cs := by
  obtain ⟨h1, h2⟩ := h
  refine ⟨h1, ?_⟩
  rcases h2 with h | ⟨g, cap, cur, rfl, hg, hh, hr⟩
  · exact .inl h
  · exact .inr ⟨g, cap, cur, rfl, hg, by rw [e g rfl]; exact hh, hr⟩
theorem owns_only {w w' : World} {base n b : Nat} {t : TypeId} {v : Value} {cs : List Value} (h : w.ownsRow base t 1 v n cs) (hb : But (fun k => k = b) w w') (hlt : b < base) : w'.ownsRow base t 1 v n cs :=
  owns_stay h fun g hg => hb.2 g (h.lt g hg).2 (by have := (h.lt g hg).1; omega)
/-- The walk's law of an append to a row of one's own, whatever is appended: what comes of it is left open, so that the walk stops there. -/
theorem wpList_append_reads (w : World) {ops : Array Oper} {rest : List Oper} {o : Oper} {a : Act} {Q : Exit → Act → World → Prop} (hgd : o.guard = none) (s x : Operand)
    (ho : o.op = .call { callee := .builtin .append, args := #[s, x], argTypes := #[48, 48] }) (base : Nat) (v : Value) (n : Nat) (xs : List Int) (hs : a.eval s = v) (hown : w.ownsRow base 3 1 v n (kflat xs)) (vx : Value) (ys : List Int) (hx : a.eval x = vx)
    (hr : KReads w vx ys) (hl : n + ys.length ≤ 1000) (hbase : base ≤ w.heap.size)
    (h : ∀ v' w', w'.ownsRow base 3 1 v' (n + ys.length) (kflat (xs ++ ys)) → w.grownBy w' v.ownBlock → (v'.ownBlock = v.ownBlock ∨ v'.ownBlock = some w.heap.size) → wpList Try.prog ops Q rest (a.put o.dst v') w') : wpList Try.prog ops Q (o :: rest) a w := by
  obtain ⟨v', w', hrun, h1, h2, h3⟩ := append_reads w base v n xs hown vx ys hr hl hbase o.type
  exact Lib.wpList_append_run_sl w hgd s x _ ho v vx hs hx hrun (h v' w' h1 h2 h3)
end Go.Proofs.Ytflhlinkolbbiae
