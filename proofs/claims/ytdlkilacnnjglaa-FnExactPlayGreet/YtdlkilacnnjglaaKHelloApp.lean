/-
  Rows of Hello that are appended to. Plain facts on the memory.
  Greetings' letters in rows of their own, to which one may append. Plain facts on the memory.
-/
import Derived.Test.YtdlkilacnnjglaaKHelloRows
import Derived.ArgAppend
import Derived.Deep.Upon
import Derived.Lib.SlFresh
import Derived.Lib.SliceRun
import Derived.Maps.AppendAt
namespace Go.Proofs.Ytdlkilacnnjglaa
open Go.RowKit

theorem heowns_mono {w : World} {base base' : Nat} {t : TypeId} {size n : Nat} {v : Value} {cs : List Value} (h : w.ownsRow base t size v n cs) (hb : base' ≤ base) : w.ownsRow base' t size v n cs := by
  obtain ⟨h1, h2⟩ := h
  refine ⟨h1, ?_⟩
  rcases h2 with h | ⟨g, cap, cur, hv, hg, h⟩
  · exact .inl h
  · exact .inr ⟨g, cap, cur, hv, by omega, h⟩
theorem heowns_block {w : World} {base : Nat} {t : TypeId} {size n : Nat} {v : Value} {cs : List Value} (h : w.ownsRow base t size v n cs) : ∀ k, v.ownBlock = some k → base ≤ k := by
  intro k hk
  rcases h.2 with ⟨rfl, _⟩ | ⟨g, cap, cur, rfl, hg, _⟩
  · simp [Value.ownBlock] at hk
  · simp [Value.ownBlock] at hk; omega
theorem henothing_run {w : World} {i0 : TypeInfo} (hi : Try.prog.info? 116 = some i0) (hsz : i0.size = 3) (ty : TypeId) (ao : Option Addr) (n c : Nat) (hle : n ≤ c) (a : Option Addr) (cy : Nat) :
    (Builtin.append_ #[47, 47] ty #[.slice ao n c, .slice a 0 cy]).run Try.prog w = .ok (.slice ao n c) w := by
  refine run_append_nothing _ _ _ _ _ i0 Try.underlying47 hi _ _ _ hle _ ?_
  rw [hsz]
  cases a with
  | none => exact Src.ofNil _ Try.underlying47 cy
  | some ad => exact Src.ofSlice _ Try.underlying47 ad 0 cy [] rfl (by intro j u h; simp at h) (by intro u h; simp at h)
theorem heone_at {W : World} {b : Nat} {y : HeEl} (hc : W.cell? ⟨b, 0, none⟩ = some (.int .i64 y.1) ∧ W.cell? ⟨b, 1, none⟩ = some (.int .i64 y.2.1) ∧ W.cell? ⟨b, 2, none⟩ = some (.int .i64 y.2.2)) : ∀ j u, (heflat [y])[j]? = some u → W.cell? ((⟨b, 0, none⟩ : Addr).add j) = some u := by
  intro j u hj
  rcases j with _ | _ | _ | j
  · simp [heflat] at hj; subst hj; simpa [Addr.add] using hc.1
  · simp [heflat] at hj; subst hj; simpa [Addr.add] using hc.2.1
  · simp [heflat] at hj; subst hj; simpa [Addr.add] using hc.2.2
  · simp [heflat] at hj
end Go.Proofs.Ytdlkilacnnjglaa
namespace Go.Proofs.Ytdlkilacnnjglaa
open Go.RowKit

theorem he_grown_refl (w : World) (row : Option Nat) : w.grownBy w row := ⟨rfl, rfl, rfl, Nat.le_refl _, fun _ _ _ => rfl⟩
/-- Something read is put behind a row of one's own. -/
theorem append_he (w : World) (base : Nat) (v : Value) (n : Nat) (xs : List HeEl) (hown : w.ownsRow base 116 3 v n (heflat xs)) (vx : Value) (ys : List HeEl) (hr : HeReads w vx ys) (hl : n + ys.length ≤ 1000000) (hbase : base ≤ w.heap.size) (ty : TypeId) :
    ∃ v' w', (Builtin.append_ #[47, 47] ty #[v, vx]).run Try.prog w = .ok v' w' ∧ w'.ownsRow base 116 3 v' (n + ys.length) (heflat (xs ++ ys)) ∧ w.grownBy w' v.ownBlock ∧ (v'.ownBlock = v.ownBlock ∨ v'.ownBlock = some w.heap.size) := by
  obtain ⟨i0, hi, hz0, hz1, hz2⟩ := info_parts info_hello
  obtain ⟨a, cap, rfl, hlen, hc⟩ := hr
  rcases hc with rfl | ⟨b, off, rfl, hc⟩
  · refine ⟨v, w, ?_, by rw [List.append_nil]; exact hown, he_grown_refl _ _, .inl rfl⟩
    rcases hown.2 with ⟨rfl, h0⟩ | ⟨g, cap', cur, rfl, _, _, hle, _⟩
    · exact henothing_run hi hz1 _ _ _ _ (Nat.le_refl _) _ _
    · exact henothing_run hi hz1 _ _ _ _ hle _ _
  · obtain ⟨v', w', h1, h2, h3, _, h5⟩ := run_append_own_at (P := Try.prog) w base 47 ty 116 i0 (.agg #[.int .i64 0, .int .i64 0, .int .i64 0]) 3 24 Try.underlying47 hi hz0 hz1 hz2 rfl (by decide) v n (heflat xs) hown ⟨b, off, none⟩ ys.length cap (heflat ys) (length_heflat ys) (heflat_cells hc) (heflat_one _) (by unfold maxLen; omega) (by omega) hbase
    exact ⟨v', w', h1, by rw [heflat_append]; exact h2, h3, h5⟩
/-- The walk's law of an append: what comes of it is left open, so that the walk stops there. -/
theorem wpList_append_he (w : World) {ops : Array Oper} {rest : List Oper} {o : Oper} {a : Act} {Q : Exit → Act → World → Prop} (hgd : o.guard = none) (s x : Operand)
    (ho : o.op = .call { callee := .builtin .append, args := #[s, x], argTypes := #[47, 47] }) (base : Nat) (v : Value) (n : Nat) (xs : List HeEl) (hs : a.eval s = v) (hown : w.ownsRow base 116 3 v n (heflat xs)) (vx : Value) (ys : List HeEl) (hx : a.eval x = vx)
    (hr : HeReads w vx ys) (hl : n + ys.length ≤ 1000000) (hbase : base ≤ w.heap.size)
    (h : ∀ v' w', w'.ownsRow base 116 3 v' (n + ys.length) (heflat (xs ++ ys)) → w.grownBy w' v.ownBlock → (v'.ownBlock = v.ownBlock ∨ v'.ownBlock = some w.heap.size) → wpList Try.prog ops Q rest (a.put o.dst v') w') : wpList Try.prog ops Q (o :: rest) a w := by
  obtain ⟨v', w', hrun, h1, h2, h3⟩ := append_he w base v n xs hown vx ys hr hl hbase o.type
  exact Lib.wpList_append_run_sl w hgd s x _ ho v vx hs hx hrun (h v' w' h1 h2 h3)
theorem step_append_he {ops : Array Oper} {o : Oper} {a : Act} {w : World} {K : Act → World → Prop} {Q : Exit → Act → World → Prop} {E : Prop} (hg : o.guard = none) (s x : Operand)
    (hop : o.op = Op.call { callee := Callee.builtin Builtin.append, args := #[s, x], argTypes := #[47, 47] }) (base : Nat) (v : Value) (n : Nat) (xs : List HeEl) (hs : a.eval s = v) (hown : w.ownsRow base 116 3 v n (heflat xs)) (vx : Value) (ys : List HeEl) (hx : a.eval x = vx)
    (hr : HeReads w vx ys) (hl : n + ys.length ≤ 1000000) (hbase : base ≤ w.heap.size)
    (hK : ∀ v' w', w'.ownsRow base 116 3 v' (n + ys.length) (heflat (xs ++ ys)) → w.grownBy w' v.ownBlock → (v'.ownBlock = v.ownBlock ∨ v'.ownBlock = some w.heap.size) → K (a.put o.dst v') w') :
    if Region.wanted o (yielded ops a.tmps) = true then Oper.wp Try.prog o a w K Q else E := by
  have hw : Region.wanted o (yielded ops a.tmps) = true := by simp [Region.wanted, hg]
  rw [if_pos hw]
  obtain ⟨v', w', hrun, h1, h2, h3⟩ := append_he w base v n xs hown vx ys hr hl hbase o.type
  unfold Oper.wp execOp
  simp only [hop, resolve, invoke, builtin, Sem.run_bind, Sem.run_pure, Result.andThen_ok, List.map_toArray, List.map_cons, List.map_nil, hs, hx, hrun]
  exact hK v' w' h1 h2 h3
/-- A new empty row, written out. -/
theorem heowns_lit (w : World) (base : Nat) (hb : base ≤ w.heap.size) : (w.alloc (.cells #[] 116)).ownsRow base 116 3 (.slice (some ⟨w.heap.size, 0, none⟩) 0 0) 0 (heflat []) :=
  ⟨rfl, .inr ⟨w.heap.size, 0, #[], rfl, hb, heap_alloc_new w _, Nat.le_refl _, by decide, rfl, rfl⟩⟩
theorem heowns_nil (w : World) (base : Nat) : w.ownsRow base 116 3 (.slice none 0 0) 0 (heflat []) := World.ownsRow_nil _ _ _ _
/-- One letter in a new row of one, written out. -/
theorem hereads_one (w : World) (x : HeEl) (t : TypeId) : HeReads (w.alloc (.cells #[.int .i64 x.1, .int .i64 x.2.1, .int .i64 x.2.2] t)) (.slice (some ⟨w.heap.size, 0, none⟩) 1 1) [x] := by
  refine ⟨_, 1, rfl, by simp, .inr ⟨w.heap.size, 0, rfl, fun i hi => ?_⟩⟩
  obtain rfl : i = 0 := by simpa using hi
  refine ⟨?_, ?_, ?_⟩ <;> simp
theorem HeReads.of_owns {w : World} {base n : Nat} {v : Value} {xs : List HeEl} (h : w.ownsRow base 116 3 v n (heflat xs)) (hl : xs.length ≤ 1000000) : HeReads w v xs := (HeOwn.of_owns h (by omega)).reads
theorem heowns_at {w w' : World} {base : Nat} {t : TypeId} {size n : Nat} {v : Value} {cs : List Value} (h : w.ownsRow base t size v n cs) (e : ∀ g, v.ownBlock = some g → g < w.heap.size → w'.heap[g]? = w.heap[g]?) : w'.ownsRow base t size v n cs := by
  refine ⟨h.1, ?_⟩
  rcases h.2 with h2 | ⟨g, cap, cur, rfl, hb, hh, hr⟩
  · exact .inl h2
  · have hlt : g < w.heap.size := by
      by_cases hg : g < w.heap.size
      · exact hg
      · rw [Array.getElem?_eq_none (by omega)] at hh; cases hh
    exact .inr ⟨g, cap, cur, rfl, hb, (e g rfl hlt).trans hh, hr⟩
theorem heowns_lt {w : World} {base : Nat} {t : TypeId} {size n : Nat} {v : Value} {cs : List Value} (h : w.ownsRow base t size v n cs) (g : Nat) (e : v.ownBlock = some g) : base ≤ g ∧ g < w.heap.size := by
  rcases h.2 with ⟨rfl, _⟩ | ⟨g', cap, cur, rfl, hb, hh, hr⟩
  · cases e
  · have hlt : g' < w.heap.size := by
      by_cases hg : g' < w.heap.size
      · exact hg
      · rw [Array.getElem?_eq_none (by omega)] at hh; cases hh
    simp only [Value.ownBlock, Option.some.injEq] at e
    subst e
    exact ⟨hb, hlt⟩
theorem heowns_form {w : World} {base n : Nat} {t : TypeId} {size : Nat} {v : Value} {cs : List Value} (h : w.ownsRow base t size v n cs) : ∃ a c, v = .slice a n c ∧ n ≤ c := by
  rcases h.2 with ⟨rfl, rfl⟩ | ⟨g, cap, cur, rfl, _, _, hle, _⟩
  · exact ⟨none, 0, rfl, Nat.le_refl _⟩
  · exact ⟨_, cap, rfl, hle⟩
end Go.Proofs.Ytdlkilacnnjglaa
