/-
  Numbers appended: the laws of one operation in a region that draws its order. Plain facts.
  Numbers appended to a row to which one may append: the law of one operation. Plain facts.
-/
import Derived.Test.YtnkpboobfkjibadQForm
import Derived.Test.YtnkpboobfkjibadBut5
import Derived.Test.YtnkpboobfkjibadSdBox
import Derived.Deep.RegionLawGrows
namespace Go.Proofs.Ytnkpboobfkjibad
open Go.RowKit

theorem step_append_reads {ops : Array Oper} {o : Oper} {a : Act} {w : World} {K : Act → World → Prop} {Q : Exit → Act → World → Prop} {E : Prop} (hg : o.guard = none) (s x : Operand)
    (hop : o.op = Op.call { callee := Callee.builtin Builtin.append, args := #[s, x], argTypes := #[23, 23] }) (base : Nat) (v : Value) (n : Nat) (xs : List Int) (hs : a.eval s = v) (hown : w.ownsRow base 3 1 v n (kflat xs)) (vx : Value) (ys : List Int) (hx : a.eval x = vx) (hr : KReads w vx ys) (hl : n + ys.length ≤ 1000) (hbase : base ≤ w.heap.size)
    (hK : ∀ v' w', w'.ownsRow base 3 1 v' (n + ys.length) (kflat (xs ++ ys)) → w.grownBy w' v.ownBlock → (v'.ownBlock = v.ownBlock ∨ v'.ownBlock = some w.heap.size) → K (a.put o.dst v') w') :
    if Region.wanted o (yielded ops a.tmps) = true then Oper.wp Try.prog o a w K Q else E := by
  have hw : Region.wanted o (yielded ops a.tmps) = true := by simp [Region.wanted, hg]
  rw [if_pos hw]
  obtain ⟨v', w', hrun, h1, h2, h3⟩ := append_reads w base v n xs hown vx ys hr hl hbase o.type
  unfold Oper.wp execOp
  simp only [hop, resolve, invoke, builtin, Sem.run_bind, Sem.run_pure, Result.andThen_ok, List.map_toArray, List.map_cons, List.map_nil, hs, hx, hrun]
  exact hK v' w' h1 h2 h3
/-- A row of numbers appended to an empty one that is written out: a row of one's own. -/
theorem step_clone_lit {ops : Array Oper} {o : Oper} {a : Act} {w : World} {K : Act → World → Prop} {Q : Exit → Act → World → Prop} {E : Prop} (hg : o.guard = none) (s x : Operand)
    (hop : o.op = Op.call { callee := Callee.builtin Builtin.append, args := #[s, x], argTypes := #[23, 23] }) (b : Nat) (hs : a.eval s = .slice (some ⟨b, 0, none⟩) 0 0) (vx : Value) (ys : List Int) (hx : a.eval x = vx) (hr : KReads w vx ys) (hl : ys.length ≤ 1000)
    (hK : ∀ v' w', KOwn w.heap.size w'.heap.size w' v' ys → KApp w.heap.size w'.heap.size w' v' ys → Below w.heap.size w w' → K (a.put o.dst v') w') :
    if Region.wanted o (yielded ops a.tmps) = true then Oper.wp Try.prog o a w K Q else E := by
  obtain ⟨i0, hi, hz0, hz1, hz2⟩ := info_parts info_int
  obtain ⟨a0, cap, rfl, hlen, hc⟩ := hr
  rcases hc with rfl | ⟨g, off, rfl, hc⟩
  · have hw : Region.wanted o (yielded ops a.tmps) = true := by simp [Region.wanted, hg]
    rw [if_pos hw]
    have hrun := knothing (w := w) hi hz1 o.type (some ⟨b, 0, none⟩) 0 0 (Nat.le_refl _) a0 cap
    unfold Oper.wp execOp
    simp only [hop, resolve, invoke, builtin, Sem.run_bind, Sem.run_pure, Result.andThen_ok, List.map_toArray, List.map_cons, List.map_nil, hs, hx, List.length_nil, hrun]
    exact hK _ _ (kown_nil _ _ _ _ _) (.inl ⟨rfl, _, rfl⟩) (Below.refl _ _)
  · by_cases h0 : ys.length = 0
    · obtain rfl := List.length_eq_zero_iff.1 h0
      have hw : Region.wanted o (yielded ops a.tmps) = true := by simp [Region.wanted, hg]
      rw [if_pos hw]
      have hrun := knothing (w := w) hi hz1 o.type (some ⟨b, 0, none⟩) 0 0 (Nat.le_refl _) (some ⟨g, off, none⟩) cap
      unfold Oper.wp execOp
      simp only [hop, resolve, invoke, builtin, Sem.run_bind, Sem.run_pure, Result.andThen_ok, List.map_toArray, List.map_cons, List.map_nil, hs, hx, List.length_nil, hrun]
      exact hK _ _ (kown_nil _ _ _ _ _) (.inl ⟨rfl, _, rfl⟩) (Below.refl _ _)
    · refine step_append_grows hg s x _ hop 3 i0 (.int .i64 0) 1 8 Try.underlying23 hi hz0 hz1 hz2 (by rfl) (by decide) (some ⟨b, 0, none⟩) 0 0 [] hs (by intro h; cases h) (by rfl) (by intro b0 _ j u h; simp at h) ⟨g, off, none⟩ ys.length cap (kflat ys) hx (by rw [length_kflat, Nat.mul_one]) (kflat_cells hc) (kflat_one _) (by omega) (by unfold maxLen; omega) (by omega) ?_
      intro u2 w2 hown hgrow
      rw [Nat.zero_add, List.nil_append] at hown
      exact hK _ _ (KOwn.of_owns hown (by omega)) (KApp.of_owns hown rfl) ((Below.refl _ _).grown hgrow (Nat.le_refl _) (by intro k h; cases h))
theorem sform_of_owns {w : World} {base : Nat} {t : TypeId} {size n : Nat} {v : Value} {us : List Value} (h : w.ownsRow base t size v n us) : ∃ a k, v = .slice a n k := by
  rcases h.2 with ⟨rfl, rfl⟩ | ⟨g, cap, _, rfl, _⟩
  · exact ⟨_, _, rfl⟩
  · exact ⟨_, _, rfl⟩
end Go.Proofs.Ytnkpboobfkjibad
namespace Go.Proofs.Ytnkpboobfkjibad
open Go.RowKit

theorem kreads_cell {w : World} {b : Nat} {r : Int} (h : w.cell? ⟨b, 0, none⟩ = some (.int .i64 r)) : KReads w (.slice (some ⟨b, 0, none⟩) 1 1) [r] := by
  refine ⟨_, 1, rfl, by simp, .inr ⟨b, 0, rfl, fun i hi => ?_⟩⟩
  obtain rfl : i = 0 := by simpa using hi
  exact h
theorem owns_lower {w : World} {base base' : Nat} {t : TypeId} {size n : Nat} {v : Value} {cs : List Value} (h : w.ownsRow base t size v n cs) (hb : base' ≤ base) : w.ownsRow base' t size v n cs := by
  obtain ⟨h1, h2⟩ := h
  refine ⟨h1, ?_⟩
  rcases h2 with h | ⟨g, cap, cur, rfl, hg, hr⟩
  · exact .inl h
  · exact .inr ⟨g, cap, cur, rfl, Nat.le_trans hb hg, hr⟩
theorem owns_raise {w : World} {base base' : Nat} {t : TypeId} {size n : Nat} {v : Value} {cs : List Value} (h : w.ownsRow base t size v n cs) (hb : ∀ g, v.ownBlock = some g → base' ≤ g) : w.ownsRow base' t size v n cs := by
  obtain ⟨h1, h2⟩ := h
  refine ⟨h1, ?_⟩
  rcases h2 with h | ⟨g, cap, cur, rfl, hg, hr⟩
  · exact .inl h
  · exact .inr ⟨g, cap, cur, rfl, hb g rfl, hr⟩
theorem step_append_app {ops : Array Oper} {o : Oper} {a : Act} {w : World} {K : Act → World → Prop} {Q : Exit → Act → World → Prop} {E : Prop} (hg : o.guard = none) (s x : Operand)
    (hop : o.op = Op.call { callee := Callee.builtin Builtin.append, args := #[s, x], argTypes := #[23, 23] }) (lo hi : Nat) (v : Value) (xs : List Int) (hs : a.eval s = v) (hA : KApp lo hi w v xs) (vx : Value) (ys : List Int) (hx : a.eval x = vx) (hr : KReads w vx ys) (hl : xs.length + ys.length ≤ 1000) (hpos : 0 < ys.length)
    (hK : ∀ v' w', w'.ownsRow 0 3 1 v' (xs.length + ys.length) (kflat (xs ++ ys)) → (∃ Wr : Option Nat, w.grownBy w' Wr ∧ (∀ g, Wr = some g → lo ≤ g ∧ g < hi) ∧ ∀ g, v'.ownBlock = some g → Wr = some g ∨ w.heap.size ≤ g) → K (a.put o.dst v') w') :
    if Region.wanted o (yielded ops a.tmps) = true then Oper.wp Try.prog o a w K Q else E := by
  obtain ⟨i0, hi0, hz0, hz1, hz2⟩ := info_parts info_int
  rcases hA with ⟨rfl, av, rfl⟩ | ⟨hown, hblk⟩
  · obtain ⟨a0, cap, rfl, hlen, hc⟩ := hr
    obtain ⟨g, off, rfl, hcc⟩ := hc.resolve_left (fun e => by rw [e] at hpos; simp at hpos)
    refine step_append_grows hg s x _ hop 3 i0 (.int .i64 0) 1 8 Try.underlying23 hi0 hz0 hz1 hz2 (by rfl) (by decide) av 0 0 [] hs (fun _ => ⟨rfl, rfl⟩) (by rfl) (by intro b0 _ j u h; simp at h) ⟨g, off, none⟩ ys.length cap (kflat ys) hx (by rw [length_kflat, Nat.mul_one]) (kflat_cells hcc) (kflat_one _) (by omega) (by unfold maxLen; simp at hl; omega) (by simp at hl; omega) ?_
    intro v' w' hown hgrow
    exact hK v' w' (owns_lower (by simpa using hown) (Nat.zero_le _)) ⟨none, hgrow, (fun _ h => by cases h), fun j hj => .inr (hown.lt j hj).1⟩
  · refine step_append_reads hg s x hop 0 v xs.length xs hs (owns_lower hown (Nat.zero_le _)) vx ys hx hr hl (Nat.zero_le _) ?_
    intro v' w' hown' hgrow hat
    refine hK v' w' hown' ⟨v.ownBlock, hgrow, fun j hj => ⟨(hown.lt j hj).1, hblk j hj⟩, fun j hj => ?_⟩
    rcases hat with h | h
    · rw [h] at hj; exact .inl hj
    · rw [h] at hj
      cases hj
      exact .inr (Nat.le_refl _)
end Go.Proofs.Ytnkpboobfkjibad
