/-
  Rows appended: the laws of one operation in a region that draws its order; a row of rows out of what an append leaves. Plain facts.
-/
import Derived.Test.YteeaebelknpdjacQSet
import Derived.Test.YteeaebelknpdjacKAppN
import Derived.Test.YteeaebelknpdjacInfoII
import Derived.Deep.RegionLawGrows
namespace Go.Proofs.Yteeaebelknpdjac
open Go.RowKit

theorem step_append_reads {ops : Array Oper} {o : Oper} {a : Act} {w : World} {K : Act → World → Prop} {Q : Exit → Act → World → Prop} {E : Prop} (hg : o.guard = none) (s x : Operand)
    (hop : o.op = Op.call { callee := Callee.builtin Builtin.append, args := #[s, x], argTypes := #[23, 23] }) (base : Nat) (v : Value) (n : Nat) (xs : List Int) (hs : a.eval s = v) (hown : w.ownsRow base 3 1 v n (kflat xs)) (vx : Value) (ys : List Int) (hx : a.eval x = vx) (hr : KReads w vx ys) (hl : n + ys.length ≤ 1000) (hbase : base ≤ w.heap.size)
    (hK : ∀ v' w', w'.ownsRow base 3 1 v' (n + ys.length) (kflat (xs ++ ys)) → w.grownBy w' v.ownBlock → (v'.ownBlock = v.ownBlock ∨ v'.ownBlock = some w.heap.size) → K (a.put o.dst v') w') :
    if Region.wanted o (yielded ops a.tmps) = true then Oper.wp Try.prog o a w K Q else E := by
  have hw : Region.wanted o (yielded ops a.tmps) = true := by simp [Region.wanted, hg]
  rw [if_pos hw]
  obtain ⟨v', w', hrun, h1, h2, h3⟩ := append_reads w base v n xs hown vx ys hr hl hbase o.type
  unfold Oper.wp execOp
  simp only [hop, resolve, invoke, builtin, Sem.run_bind, Sem.run_pure, Result.andThen_ok, List.map_toArray, List.map_cons, List.map_nil, hs, hx, hrun]
  exact hK v' w' h1 h2 h3
/-- A row of numbers appended to an empty one that is written out: a row of one's own. -/
theorem step_clone_lit {ops : Array Oper} {o : Oper} {a : Act} {w : World} {K : Act → World → Prop} {Q : Exit → Act → World → Prop} {E : Prop} (hg : o.guard = none) (s x : Operand)
    (hop : o.op = Op.call { callee := Callee.builtin Builtin.append, args := #[s, x], argTypes := #[23, 23] }) (b : Nat) (hs : a.eval s = .slice (some ⟨b, 0, none⟩) 0 0) (vx : Value) (ys : List Int) (hx : a.eval x = vx) (hr : KReads w vx ys) (hl : ys.length ≤ 1000)
    (hK : ∀ v' w', KOwn w.heap.size w'.heap.size w' v' ys → KApp w.heap.size w'.heap.size w' v' ys → Below w.heap.size w w' → K (a.put o.dst v') w') :
    if Region.wanted o (yielded ops a.tmps) = true then Oper.wp Try.prog o a w K Q else E := by
  obtain ⟨i0, hi, hz0, hz1, hz2⟩ := info_parts info_int
  obtain ⟨a0, cap, rfl, hlen, hc⟩ := hr
  rcases hc with rfl | ⟨g, off, rfl, hc⟩
  · have hw : Region.wanted o (yielded ops a.tmps) = true := by simp [Region.wanted, hg]
    rw [if_pos hw]
    have hrun := knothing (w := w) hi hz1 o.type (some ⟨b, 0, none⟩) 0 0 (Nat.le_refl _) a0 cap
    unfold Oper.wp execOp
    simp only [hop, resolve, invoke, builtin, Sem.run_bind, Sem.run_pure, Result.andThen_ok, List.map_toArray, List.map_cons, List.map_nil, hs, hx, List.length_nil, hrun]
    exact hK _ _ (kown_nil _ _ _ _ _) (.inl ⟨rfl, _, rfl⟩) (Below.refl _ _)
  · by_cases h0 : ys.length = 0
    · obtain rfl := List.length_eq_zero_iff.1 h0
      have hw : Region.wanted o (yielded ops a.tmps) = true := by simp [Region.wanted, hg]
      rw [if_pos hw]
      have hrun := knothing (w := w) hi hz1 o.type (some ⟨b, 0, none⟩) 0 0 (Nat.le_refl _) (some ⟨g, off, none⟩) cap
      unfold Oper.wp execOp
      simp only [hop, resolve, invoke, builtin, Sem.run_bind, Sem.run_pure, Result.andThen_ok, List.map_toArray, List.map_cons, List.map_nil, hs, hx, List.length_nil, hrun]
      exact hK _ _ (kown_nil _ _ _ _ _) (.inl ⟨rfl, _, rfl⟩) (Below.refl _ _)
    · refine step_append_grows hg s x _ hop 3 i0 (.int .i64 0) 1 8 Try.underlying23 hi hz0 hz1 hz2 (by rfl) (by decide) (some ⟨b, 0, none⟩) 0 0 [] hs (by intro h; cases h) (by rfl) (by intro b0 _ j u h; simp at h) ⟨g, off, none⟩ ys.length cap (kflat ys) hx (by rw [length_kflat, Nat.mul_one]) (kflat_cells hc) (kflat_one _) (by omega) (by unfold maxLen; omega) (by omega) ?_
      intro u2 w2 hown hgrow
      rw [Nat.zero_add, List.nil_append] at hown
      exact hK _ _ (KOwn.of_owns hown (by omega)) (KApp.of_owns hown rfl) ((Below.refl _ _).grown hgrow (Nat.le_refl _) (by intro k h; cases h))
/-- A row of slices of numbers, one appended. -/
theorem step_append_row {ops : Array Oper} {o : Oper} {a : Act} {w : World} {K : Act → World → Prop} {Q : Exit → Act → World → Prop} {E : Prop} (hg : o.guard = none) (s x : Operand)
    (hop : o.op = Op.call { callee := Callee.builtin Builtin.append, args := #[s, x], argTypes := #[53, 53] }) (base : Nat) (v : Value) (n : Nat) (us : List Value) (hs : a.eval s = v) (hown : w.ownsRow base 23 1 v n us) (b cap : Nat) (a1 : Option Addr) (n1 k1 : Nat) (hx : a.eval x = .slice (some ⟨b, 0, none⟩) 1 cap) (hc : w.cell? ⟨b, 0, none⟩ = some (.slice a1 n1 k1)) (hl : n + 1 ≤ 1000) (hbase : base ≤ w.heap.size)
    (hK : ∀ v' w', w'.ownsRow base 23 1 v' (n + 1) (us ++ [.slice a1 n1 k1]) → w.grownBy w' v.ownBlock → (v'.ownBlock = v.ownBlock ∨ v'.ownBlock = some w.heap.size) → K (a.put o.dst v') w') :
    if Region.wanted o (yielded ops a.tmps) = true then Oper.wp Try.prog o a w K Q else E := by
  have hw : Region.wanted o (yielded ops a.tmps) = true := by simp [Region.wanted, hg]
  rw [if_pos hw]
  obtain ⟨i0, hi, hz0, hz1, hz2⟩ := info_parts info_ints
  obtain ⟨v', w', hrun, h1, h2, _, h3⟩ := run_append_own_at (P := Try.prog) w base 53 o.type 23 i0 (.slice none 0 0) 1 24 Try.underlying53 hi hz0 hz1 hz2 rfl (by decide) v n us hown ⟨b, 0, none⟩ 1 cap [.slice a1 n1 k1] rfl (fun j u h => by
    rcases j with _ | j
    · simp at h; subst h; exact hc
    · simp at h) (by simp [Value.oneCell']) (by unfold maxLen; omega) (by omega) hbase
  unfold Oper.wp execOp
  simp only [hop, resolve, invoke, builtin, Sem.run_bind, Sem.run_pure, Result.andThen_ok, List.map_toArray, List.map_cons, List.map_nil, hs, hx, hrun]
  exact hK v' w' h1 h2 h3
theorem sform_of_owns {w : World} {base : Nat} {t : TypeId} {size n : Nat} {v : Value} {us : List Value} (h : w.ownsRow base t size v n us) : ∃ a k, v = .slice a n k := by
  rcases h.2 with ⟨rfl, rfl⟩ | ⟨g, cap, _, rfl, _⟩
  · exact ⟨_, _, rfl⟩
  · exact ⟨_, _, rfl⟩
theorem QRow.of_owns {base : Nat} {w : World} {v : Value} {n : Nat} {us : List Value} {xss : List (List KEl)} {c : Nat × Nat} {iv : Nat → Nat × Nat} (h : w.ownsRow base 23 1 v n us) (hn : xss.length = n) (hl : n ≤ 1152921504606846975) (hc : ∀ g, v.ownBlock = some g → c.1 ≤ g ∧ g < c.2) (hr : ∀ i, i < n → KOwn (iv i).1 (iv i).2 w (us.getD i undef) (xss.getD i [])) : QRow w c v xss iv := by
  subst hn
  refine ⟨hl, ?_⟩
  rcases h.2 with ⟨rfl, h0⟩ | ⟨g, cap, cur, rfl, _, hh, hle, _, hcs, ht⟩
  · exact .inl ⟨none, 0, rfl, List.length_eq_zero_iff.1 h0⟩
  · refine .inr ⟨g, cap, fun i => us.getD i undef, rfl, ⟨(hc g rfl).1, (hc g rfl).2, hle⟩, fun i hi => ⟨?_, ?_, hr i hi⟩⟩
    · have hlen : us.length = xss.length := by have := h.1; omega
      rw [cell_of_row w g i cur _ (0, 0) hh]
      have e : us[i]? = cur[i]? := by rw [← ht, List.getElem?_take, if_pos (by omega)]; simp
      rw [← e]
      show us[i]? = some (us.getD i undef)
      rw [List.getD_eq_getElem?_getD, List.getElem?_eq_getElem (by omega)]
      rfl
    · unfold KFree
      simp [World.frozen?, hh]
theorem owns_at {w w' : World} {base : Nat} {t : TypeId} {size n : Nat} {v : Value} {cs : List Value} (h : w.ownsRow base t size v n cs) (e : ∀ g, v.ownBlock = some g → g < w.heap.size → w'.heap[g]? = w.heap[g]?) : w'.ownsRow base t size v n cs := by
  refine ⟨h.1, ?_⟩
  rcases h.2 with h2 | ⟨g, cap, cur, rfl, hb, hh, hr⟩
  · exact .inl h2
  · have hlt : g < w.heap.size := by
      by_cases hg : g < w.heap.size
      · exact hg
      · rw [Array.getElem?_eq_none (by omega)] at hh; cases hh
    exact .inr ⟨g, cap, cur, rfl, hb, (e g rfl hlt).trans hh, hr⟩
theorem owns_lt {w : World} {base : Nat} {t : TypeId} {size n : Nat} {v : Value} {cs : List Value} (h : w.ownsRow base t size v n cs) (g : Nat) (e : v.ownBlock = some g) : base ≤ g ∧ g < w.heap.size := by
  rcases h.2 with ⟨rfl, _⟩ | ⟨g', cap, cur, rfl, hb, hh, hr⟩
  · cases e
  · have hlt : g' < w.heap.size := by
      by_cases hg : g' < w.heap.size
      · exact hg
      · rw [Array.getElem?_eq_none (by omega)] at hh; cases hh
    simp only [Value.ownBlock, Option.some.injEq] at e
    subst e
    exact ⟨hb, hlt⟩
end Go.Proofs.Yteeaebelknpdjac
