/-
  A row of numbers to which one may append: in blocks of its own, or with no room at all. Plain facts on the memory.
  Numbers appended: the laws of one operation in a region that draws its order. Plain facts.
-/
import Derived.Test.YtijojdempijhbadQSet
import Derived.Test.YtijojdempijhbadBut5
import Derived.Deep.RegionLawGrows
namespace Go.Proofs.Ytijojdempijhbad
open Go.RowKit

def KApp (lo hi : Nat) (w : World) (v : Value) (xs : List Int) : Prop := (xs = [] ∧ ∃ a, v = .slice a 0 0) ∨ (w.ownsRow lo 3 1 v xs.length (kflat xs) ∧ ∀ g, v.ownBlock = some g → g < hi)
theorem owns_at1 {w w' : World} {base : Nat} {t : TypeId} {size n : Nat} {v : Value} {cs : List Value} (h : w.ownsRow base t size v n cs) (e : ∀ g, v.ownBlock = some g → base ≤ g → g < w.heap.size → w'.heap[g]? = w.heap[g]?) : w'.ownsRow base t size v n cs := by
  refine ⟨h.1, ?_⟩
  rcases h.2 with h2 | ⟨g, cap, cur, rfl, hb, hh, hr⟩
  · exact .inl h2
  · have hlt : g < w.heap.size := by
      by_cases hg : g < w.heap.size
      · exact hg
      · rw [Array.getElem?_eq_none (by omega)] at hh; cases hh
    exact .inr ⟨g, cap, cur, rfl, hb, (e g rfl hb hlt).trans hh, hr⟩
theorem KApp.at {lo hi : Nat} {w w' : World} {v : Value} {xs : List Int} (h : KApp lo hi w v xs) (hk : ∀ g, lo ≤ g → g < hi → g < w.heap.size → w'.heap[g]? = w.heap[g]?) : KApp lo hi w' v xs := by
  rcases h with h | ⟨h1, h2⟩
  · exact .inl h
  · exact .inr ⟨owns_at1 h1 fun g e hb hl => hk g hb (h2 g e) hl, h2⟩
theorem KApp.below {lo hi : Nat} {w w' : World} {v : Value} {xs : List Int} (h : KApp lo hi w v xs) (hb : Below w.heap.size w w') : KApp lo hi w' v xs := h.at fun g _ _ hg => hb.block g hg
theorem KApp.onlyP {lo hi : Nat} {w w' : World} {v : Value} {xs : List Int} {P : Nat → Prop} (h : KApp lo hi w v xs) (ho : OnlyP P w w') (hd : ∀ g, lo ≤ g → g < hi → ¬ P g) : KApp lo hi w' v xs := h.at fun g h1 h2 _ => ho.2.1 g (hd g h1 h2)
theorem KApp.of_owns {w : World} {base : Nat} {v : Value} {n : Nat} {xs : List Int} (h : w.ownsRow base 3 1 v n (kflat xs)) (hn : n = xs.length) : KApp base w.heap.size w v xs := by
  subst hn
  refine .inr ⟨h, fun g e => ?_⟩
  rcases h.2 with ⟨rfl, _⟩ | ⟨g', cap, cur, rfl, hb, hh, hr⟩
  · cases e
  · simp only [Value.ownBlock, Option.some.injEq] at e
    subst e
    by_cases hg : g' < w.heap.size
    · exact hg
    · rw [Array.getElem?_eq_none (by omega)] at hh; cases hh
/-- To each row of a row of rows one may append. -/
def QAppd (w : World) (v : Value) (xss : List (List Int)) (iv : Nat → Nat × Nat) : Prop := ∀ B n cap, v = .slice (some ⟨B, 0, none⟩) n cap → ∀ i, i < xss.length → ∀ u, w.cell? ⟨B, i, none⟩ = some u → KApp (iv i).1 (iv i).2 w u (xss.getD i [])
theorem QAppd.below {w w' : World} {c : Nat × Nat} {v : Value} {xss : List (List Int)} {iv : Nat → Nat × Nat} (h : QAppd w v xss iv) (hq : QRow w c v xss iv) (hb : Below w.heap.size w w') : QAppd w' v xss iv := by
  intro B n cap e i hi u hc
  obtain ⟨_, hq⟩ := hq
  rcases hq with ⟨a', cap', e', e''⟩ | ⟨B', cap', us, e', hg', hf⟩
  · rw [e''] at hi; simp at hi
  · rw [e] at e'
    cases e'
    have hlt := lt_of_cell (hf i hi).1
    rw [World.cell?_of_block (a := ⟨B, i, none⟩) (hb.block B hlt)] at hc
    exact (h B _ _ e i hi u hc).below hb
theorem qmade_app (w : World) (n : Nat) (xss : List (List Int)) (hx : xss.length = n) : QAppd (w.alloc (.cells (madeCells #[.slice none 0 0] n) 23)) (.slice (some ⟨w.heap.size, 0, none⟩) n n) (qpart xss 0) (fun _ => (w.heap.size + 1, w.heap.size + 1)) := by
  intro B m cap e i hi u hc
  cases e
  rw [length_qpart] at hi
  rw [World.cell?_alloc_new] at hc
  have hu : u = .slice none 0 0 := by
    have hlt : i < n := by omega
    simp [madeCells, hlt, Nat.mod_one] at hc
    exact hc.symm
  rw [qpart_get _ _ _ hi, if_neg (by omega), hu]
  exact .inl ⟨rfl, _, rfl⟩
end Go.Proofs.Ytijojdempijhbad
namespace Go.Proofs.Ytijojdempijhbad
open Go.RowKit

theorem step_append_reads {ops : Array Oper} {o : Oper} {a : Act} {w : World} {K : Act → World → Prop} {Q : Exit → Act → World → Prop} {E : Prop} (hg : o.guard = none) (s x : Operand)
    (hop : o.op = Op.call { callee := Callee.builtin Builtin.append, args := #[s, x], argTypes := #[23, 23] }) (base : Nat) (v : Value) (n : Nat) (xs : List Int) (hs : a.eval s = v) (hown : w.ownsRow base 3 1 v n (kflat xs)) (vx : Value) (ys : List Int) (hx : a.eval x = vx) (hr : KReads w vx ys) (hl : n + ys.length ≤ 1000) (hbase : base ≤ w.heap.size)
    (hK : ∀ v' w', w'.ownsRow base 3 1 v' (n + ys.length) (kflat (xs ++ ys)) → w.grownBy w' v.ownBlock → (v'.ownBlock = v.ownBlock ∨ v'.ownBlock = some w.heap.size) → K (a.put o.dst v') w') :
    if Region.wanted o (yielded ops a.tmps) = true then Oper.wp Try.prog o a w K Q else E := by
  have hw : Region.wanted o (yielded ops a.tmps) = true := by simp [Region.wanted, hg]
  rw [if_pos hw]
  obtain ⟨v', w', hrun, h1, h2, h3⟩ := append_reads w base v n xs hown vx ys hr hl hbase o.type
  unfold Oper.wp execOp
  simp only [hop, resolve, invoke, builtin, Sem.run_bind, Sem.run_pure, Result.andThen_ok, List.map_toArray, List.map_cons, List.map_nil, hs, hx, hrun]
  exact hK v' w' h1 h2 h3
/-- A row of numbers appended to an empty one that is written out: a row of one's own. -/
theorem step_clone_lit {ops : Array Oper} {o : Oper} {a : Act} {w : World} {K : Act → World → Prop} {Q : Exit → Act → World → Prop} {E : Prop} (hg : o.guard = none) (s x : Operand)
    (hop : o.op = Op.call { callee := Callee.builtin Builtin.append, args := #[s, x], argTypes := #[23, 23] }) (b : Nat) (hs : a.eval s = .slice (some ⟨b, 0, none⟩) 0 0) (vx : Value) (ys : List Int) (hx : a.eval x = vx) (hr : KReads w vx ys) (hl : ys.length ≤ 1000)
    (hK : ∀ v' w', KOwn w.heap.size w'.heap.size w' v' ys → KApp w.heap.size w'.heap.size w' v' ys → Below w.heap.size w w' → K (a.put o.dst v') w') :
    if Region.wanted o (yielded ops a.tmps) = true then Oper.wp Try.prog o a w K Q else E := by
  obtain ⟨i0, hi, hz0, hz1, hz2⟩ := info_parts info_int
  obtain ⟨a0, cap, rfl, hlen, hc⟩ := hr
  rcases hc with rfl | ⟨g, off, rfl, hc⟩
  · have hw : Region.wanted o (yielded ops a.tmps) = true := by simp [Region.wanted, hg]
    rw [if_pos hw]
    have hrun := knothing (w := w) hi hz1 o.type (some ⟨b, 0, none⟩) 0 0 (Nat.le_refl _) a0 cap
    unfold Oper.wp execOp
    simp only [hop, resolve, invoke, builtin, Sem.run_bind, Sem.run_pure, Result.andThen_ok, List.map_toArray, List.map_cons, List.map_nil, hs, hx, List.length_nil, hrun]
    exact hK _ _ (kown_nil _ _ _ _ _) (.inl ⟨rfl, _, rfl⟩) (Below.refl _ _)
  · by_cases h0 : ys.length = 0
    · obtain rfl := List.length_eq_zero_iff.1 h0
      have hw : Region.wanted o (yielded ops a.tmps) = true := by simp [Region.wanted, hg]
      rw [if_pos hw]
      have hrun := knothing (w := w) hi hz1 o.type (some ⟨b, 0, none⟩) 0 0 (Nat.le_refl _) (some ⟨g, off, none⟩) cap
      unfold Oper.wp execOp
      simp only [hop, resolve, invoke, builtin, Sem.run_bind, Sem.run_pure, Result.andThen_ok, List.map_toArray, List.map_cons, List.map_nil, hs, hx, List.length_nil, hrun]
      exact hK _ _ (kown_nil _ _ _ _ _) (.inl ⟨rfl, _, rfl⟩) (Below.refl _ _)
    · refine step_append_grows hg s x _ hop 3 i0 (.int .i64 0) 1 8 Try.underlying23 hi hz0 hz1 hz2 (by rfl) (by decide) (some ⟨b, 0, none⟩) 0 0 [] hs (by intro h; cases h) (by rfl) (by intro b0 _ j u h; simp at h) ⟨g, off, none⟩ ys.length cap (kflat ys) hx (by rw [length_kflat, Nat.mul_one]) (kflat_cells hc) (kflat_one _) (by omega) (by unfold maxLen; omega) (by omega) ?_
      intro u2 w2 hown hgrow
      rw [Nat.zero_add, List.nil_append] at hown
      exact hK _ _ (KOwn.of_owns hown (by omega)) (KApp.of_owns hown rfl) ((Below.refl _ _).grown hgrow (Nat.le_refl _) (by intro k h; cases h))
theorem sform_of_owns {w : World} {base : Nat} {t : TypeId} {size n : Nat} {v : Value} {us : List Value} (h : w.ownsRow base t size v n us) : ∃ a k, v = .slice a n k := by
  rcases h.2 with ⟨rfl, rfl⟩ | ⟨g, cap, _, rfl, _⟩
  · exact ⟨_, _, rfl⟩
  · exact ⟨_, _, rfl⟩
end Go.Proofs.Ytijojdempijhbad
