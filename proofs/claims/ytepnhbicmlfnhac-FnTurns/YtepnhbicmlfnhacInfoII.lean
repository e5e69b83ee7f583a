/-
  The type of rows of rows of numbers. A fact of the program.
  Rows appended: the laws of one operation in a region that draws its order; a row of rows out of what an append leaves. Plain facts.
  A row of rows, made anew: plain facts on the memory.
  New turns, laid into the answer's box: what is left behind. Plain facts on the memory.
-/
import Derived.Test.YtepnhbicmlfnhacInts
import Derived.Test.YtepnhbicmlfnhacKAppd
import Derived.Test.YtepnhbicmlfnhacQSet
import Derived.Test.YtepnhbicmlfnhacTurnFns
import Derived.Test.YtepnhbicmlfnhacKAppN
namespace Go.Proofs.Ytepnhbicmlfnhac
open Go.RowKit

theorem info_ints : (Try.prog.info? 23).map (fun i => (i.zero, i.size, i.bytes)) = some (some (.slice none 0 0), 1, 24) := by kernel_rfl
end Go.Proofs.Ytepnhbicmlfnhac
namespace Go.Proofs.Ytepnhbicmlfnhac
open Go.RowKit

/-- A row of slices of numbers, one appended. -/
theorem step_append_row {ops : Array Oper} {o : Oper} {a : Act} {w : World} {K : Act → World → Prop} {Q : Exit → Act → World → Prop} {E : Prop} (hg : o.guard = none) (s x : Operand)
    (hop : o.op = Op.call { callee := Callee.builtin Builtin.append, args := #[s, x], argTypes := #[53, 53] }) (base : Nat) (v : Value) (n : Nat) (us : List Value) (hs : a.eval s = v) (hown : w.ownsRow base 23 1 v n us) (b cap : Nat) (a1 : Option Addr) (n1 k1 : Nat) (hx : a.eval x = .slice (some ⟨b, 0, none⟩) 1 cap) (hc : w.cell? ⟨b, 0, none⟩ = some (.slice a1 n1 k1)) (hl : n + 1 ≤ 1000) (hbase : base ≤ w.heap.size)
    (hK : ∀ v' w', w'.ownsRow base 23 1 v' (n + 1) (us ++ [.slice a1 n1 k1]) → w.grownBy w' v.ownBlock → (v'.ownBlock = v.ownBlock ∨ v'.ownBlock = some w.heap.size) → K (a.put o.dst v') w') :
    if Region.wanted o (yielded ops a.tmps) = true then Oper.wp Try.prog o a w K Q else E := by
  have hw : Region.wanted o (yielded ops a.tmps) = true := by simp [Region.wanted, hg]
  rw [if_pos hw]
  obtain ⟨i0, hi, hz0, hz1, hz2⟩ := info_parts info_ints
  obtain ⟨v', w', hrun, h1, h2, _, h3⟩ := run_append_own_at (P := Try.prog) w base 53 o.type 23 i0 (.slice none 0 0) 1 24 Try.underlying53 hi hz0 hz1 hz2 rfl (by decide) v n us hown ⟨b, 0, none⟩ 1 cap [.slice a1 n1 k1] rfl (fun j u h => by
    rcases j with _ | j
    · simp at h; subst h; exact hc
    · simp at h) (by simp [Value.oneCell']) (by unfold maxLen; omega) (by omega) hbase
  unfold Oper.wp execOp
  simp only [hop, resolve, invoke, builtin, Sem.run_bind, Sem.run_pure, Result.andThen_ok, List.map_toArray, List.map_cons, List.map_nil, hs, hx, hrun]
  exact hK v' w' h1 h2 h3
theorem QRow.of_owns {base : Nat} {w : World} {v : Value} {n : Nat} {us : List Value} {xss : List (List KEl)} {c : Nat × Nat} {iv : Nat → Nat × Nat} (h : w.ownsRow base 23 1 v n us) (hn : xss.length = n) (hl : n ≤ 1152921504606846975) (hc : ∀ g, v.ownBlock = some g → c.1 ≤ g ∧ g < c.2) (hr : ∀ i, i < n → KOwn (iv i).1 (iv i).2 w (us.getD i undef) (xss.getD i [])) : QRow w c v xss iv := by
  subst hn
  refine ⟨hl, ?_⟩
  rcases h.2 with ⟨rfl, h0⟩ | ⟨g, cap, cur, rfl, _, hh, hle, _, hcs, ht⟩
  · exact .inl ⟨none, 0, rfl, List.length_eq_zero_iff.1 h0⟩
  · refine .inr ⟨g, cap, fun i => us.getD i undef, rfl, ⟨(hc g rfl).1, (hc g rfl).2, hle⟩, fun i hi => ⟨?_, ?_, hr i hi⟩⟩
    · have hlen : us.length = xss.length := by have := h.1; omega
      rw [cell_of_row w g i cur _ (0, 0) hh]
      have e : us[i]? = cur[i]? := by rw [← ht, List.getElem?_take, if_pos (by omega)]; simp
      rw [← e]
      show us[i]? = some (us.getD i undef)
      rw [List.getD_eq_getElem?_getD, List.getElem?_eq_getElem (by omega)]
      rfl
    · unfold KFree
      simp [World.frozen?, hh]
theorem owns_at {w w' : World} {base : Nat} {t : TypeId} {size n : Nat} {v : Value} {cs : List Value} (h : w.ownsRow base t size v n cs) (e : ∀ g, v.ownBlock = some g → g < w.heap.size → w'.heap[g]? = w.heap[g]?) : w'.ownsRow base t size v n cs := by
  refine ⟨h.1, ?_⟩
  rcases h.2 with h2 | ⟨g, cap, cur, rfl, hb, hh, hr⟩
  · exact .inl h2
  · have hlt : g < w.heap.size := by
      by_cases hg : g < w.heap.size
      · exact hg
      · rw [Array.getElem?_eq_none (by omega)] at hh; cases hh
    exact .inr ⟨g, cap, cur, rfl, hb, (e g rfl hlt).trans hh, hr⟩
theorem owns_lt {w : World} {base : Nat} {t : TypeId} {size n : Nat} {v : Value} {cs : List Value} (h : w.ownsRow base t size v n cs) (g : Nat) (e : v.ownBlock = some g) : base ≤ g ∧ g < w.heap.size := by
  rcases h.2 with ⟨rfl, _⟩ | ⟨g', cap, cur, rfl, hb, hh, hr⟩
  · cases e
  · have hlt : g' < w.heap.size := by
      by_cases hg : g' < w.heap.size
      · exact hg
      · rw [Array.getElem?_eq_none (by omega)] at hh; cases hh
    simp only [Value.ownBlock, Option.some.injEq] at e
    subst e
    exact ⟨hb, hlt⟩
end Go.Proofs.Ytepnhbicmlfnhac
namespace Go.Proofs.Ytepnhbicmlfnhac
open Go.RowKit

theorem qmade (w : World) (n : Nat) (xss : List (List KEl)) (hx : xss.length = n) (hn : n ≤ 1048576) : QRow (w.alloc (.cells (madeCells #[.slice none 0 0] n) 23)) (w.heap.size, w.heap.size + 1) (.slice (some ⟨w.heap.size, 0, none⟩) n n) (qpart xss 0) (fun _ => (w.heap.size + 1, w.heap.size + 1)) := by
  refine ⟨by rw [length_qpart]; omega, .inr ⟨w.heap.size, n, fun _ => .slice none 0 0, by rw [length_qpart, hx], by rw [length_qpart]; exact ⟨Nat.le_refl _, Nat.lt_succ_self _, by omega⟩, fun i hi => ?_⟩⟩
  rw [length_qpart] at hi
  rw [qpart_get xss 0 i hi, if_neg (by omega)]
  refine ⟨?_, ?_, kown_nil _ _ _ _ _⟩
  · rw [World.cell?_alloc_new]
    simp [madeCells, show i < n by omega, Nat.mod_one]
  · show World.frozen? _ _ = false
    simp
end Go.Proofs.Ytepnhbicmlfnhac
namespace Go.Proofs.Ytepnhbicmlfnhac
open Go.RowKit

def newT (xs : List Int) : TuD := ⟨xs, List.replicate xs.length [], List.replicate xs.length 0, List.replicate xs.length 0, 0⟩
abbrev put5 (w : World) (b : Nat) (v0 v1 v2 v3 v4 : Value) : World := ((((w.setCell ⟨b, 0, none⟩ v0).setCell ⟨b, 1, none⟩ v1).setCell ⟨b, 2, none⟩ v2).setCell ⟨b, 3, none⟩ v3).setCell ⟨b, 4, none⟩ v4
theorem put5_box {w : World} {b : Nat} {z0 z1 z2 z3 z4 : Value} (h : BoxL w b [z0, z1, z2, z3, z4]) (v0 v1 v2 v3 v4 : Value) : BoxL (put5 w b v0 v1 v2 v3 v4) b [v0, v1, v2, v3, v4] :=
  ((((h.set 0 (by simp) v0).set 1 (by simp) v1).set 2 (by simp) v2).set 3 (by simp) v3).set 4 (by simp) v4
theorem put5_only (w : World) (b : Nat) (v0 v1 v2 v3 v4 : Value) : OnlyP (fun j => j = b) w (put5 w b v0 v1 v2 v3 v4) :=
  ((((onlyP_set _ _ _ _).trans (onlyP_set _ _ _ _)).trans (onlyP_set _ _ _ _)).trans (onlyP_set _ _ _ _)).trans (onlyP_set _ _ _ _)
theorem qpart_nil (xss : List (List KEl)) : qpart xss 0 = List.replicate xss.length [] := by
  apply List.ext_getElem
  · simp [qpart]
  · intro j h1 h2
    simp [qpart]
theorem snew_leaf {w V : World} {xs : List Int} {u0 u1 u2 u3 z0 z1 z2 z3 z4 : Value} {c0 c1 c2 c3 : Nat × Nat} (hB : BoxL V w.heap.size [z0, z1, z2, z3, z4]) (hbel : Below w.heap.size w V)
    (h0 : KOwn c0.1 c0.2 V u0 xs) (h1 : QRow V c1 u1 (List.replicate xs.length []) (fun _ => (c1.2, c1.2))) (h2 : KOwn c2.1 c2.2 V u2 (List.replicate xs.length 0)) (h3 : KOwn c3.1 c3.2 V u3 (List.replicate xs.length 0))
    (hin : (w.heap.size < c0.1 ∧ c0.1 ≤ c0.2 ∧ c0.2 ≤ V.heap.size) ∧ (w.heap.size < c1.1 ∧ c1.1 ≤ c1.2 ∧ c1.2 ≤ V.heap.size) ∧ (w.heap.size < c2.1 ∧ c2.1 ≤ c2.2 ∧ c2.2 ≤ V.heap.size) ∧ (w.heap.size < c3.1 ∧ c3.1 ≤ c3.2 ∧ c3.2 ≤ V.heap.size))
    (hdj : Dj c0 c1 ∧ Dj c0 c2 ∧ Dj c0 c3 ∧ Dj c1 c2 ∧ Dj c1 c3 ∧ Dj c2 c3) :
    TuOwn (Iv w.heap.size (put5 V w.heap.size u0 u1 u2 u3 (.int .i64 0)).heap.size) (put5 V w.heap.size u0 u1 u2 u3 (.int .i64 0)) (.agg #[u0, u1, u2, u3, .int .i64 0]) (newT xs) ∧ Below w.heap.size w (put5 V w.heap.size u0 u1 u2 u3 (.int .i64 0)) ∧ BoxL (put5 V w.heap.size u0 u1 u2 u3 (.int .i64 0)) w.heap.size [u0, u1, u2, u3, .int .i64 0] := by
  have op := put5_only V w.heap.size u0 u1 u2 u3 (.int .i64 0)
  have hs : (put5 V w.heap.size u0 u1 u2 u3 (.int .i64 0)).heap.size = V.heap.size := op.1
  have hl := hB.lt
  obtain ⟨i0, i1, i2, i3⟩ := hin
  obtain ⟨d01, d02, d03, d12, d13, d23⟩ := hdj
  unfold Dj at d01 d02 d03 d12 d13 d23
  refine ⟨⟨u0, u1, u2, u3, c0, c1, c2, c3, fun _ => (c1.2, c1.2), rfl, ⟨fun j hj => ?_, fun j r hj hr hne => ?_⟩, h0.onlyP op (fun g g1 g2 e => by omega), h1.onlyP op (fun g g1 g2 e => by omega) (fun r hr g g1 g2 e => by simp only at g1 g2; omega), h2.onlyP op (fun g g1 g2 e => by omega), h3.onlyP op (fun g g1 g2 e => by omega)⟩, hbel.trans (op.below fun j e => by omega), put5_box hB _ _ _ _ _⟩
  · rcases j with _ | _ | _ | _ | j <;> simp only [tuIv] <;> exact ⟨by omega, fun g g1 g2 => ⟨by omega, by omega⟩⟩
  · rcases j with _ | _ | _ | _ | j <;> rcases r with _ | _ | _ | _ | r <;> simp only [tuIv, Dj] <;> omega
/-- Turns of which nothing is told. -/
def noT : TuD := ⟨[], [], [], [], 0⟩
theorem noT_own (n m : Nat) (w : World) : TuOwn (Iv n m) w (.agg #[.slice none 0 0, .slice none 0 0, .slice none 0 0, .slice none 0 0, .int .i64 0]) noT :=
  ⟨_, _, _, _, (m, m), (m, m), (m, m), (m, m), fun _ => (m, m), rfl, ⟨fun j hj => by
    have hj : j < 4 := hj
    rcases j with _ | _ | _ | _ | j <;> simp only [tuIv] <;> exact ⟨Nat.le_refl _, fun g g1 g2 => by omega⟩, fun j r hj hr hne => by
    have hj : j < 4 := hj
    have hr : r < 4 := hr
    rcases j with _ | _ | _ | _ | j <;> rcases r with _ | _ | _ | _ | r <;> simp only [tuIv, Dj] <;> omega⟩, kown_nil _ _ _ _ _, qrow_nil _ _ _ _ _, kown_nil _ _ _ _ _, kown_nil _ _ _ _ _⟩
theorem newT_tot {xs : List Int} (h : xs.length ≤ 4) : tuTot (newT xs) ≤ 1048576 := by
  have e : preL (List.replicate xs.length []) xs.length = 0 := by
    unfold preL
    rw [List.take_replicate, List.map_replicate]
    simp
  unfold tuTot newT
  simp only [List.length_replicate, e]
  omega
end Go.Proofs.Ytepnhbicmlfnhac
