/-
  A region that draws its order, by an invariant: whatever operation may come up keeps it. One proof an operation, not one an order.
  A region that draws its order: reads, then one call of them all, then one store of its answer. One proof an operation, not one an order.
  What has come up when none is left: operations that name later ones where nothing binds. Plain facts.
  A region that draws its order: a greeting is copied, a step is done with the copy, the answer laid into a new box. What stands between two operations.
-/
import Derived.Test.YtdlkilacnnjglaaInts
import Derived.RegionTactic
import Derived.Test.YtdlkilacnnjglaaPut11
namespace Go.Proofs.Ytdlkilacnnjglaa
open Go.RowKit

/-- How many have not come up yet. -/
def unl (l : Array Bool) : Nat := (l.toList.filter (fun b => !b)).length
theorem unl_set {l : Array Bool} {i : Nat} (h : l.getD i true = false) : unl (l.setIfInBounds i true) + 1 = unl l := by
  have hlt : i < l.size := by
    rcases Nat.lt_or_ge i l.size with h' | h'
    · exact h'
    · simp [Array.getElem?_eq_none h'] at h
  have hv : l.toList[i]'(by simpa using hlt) = false := by
    have : l.getD i true = l[i] := by simp [hlt]
    rw [this] at h
    simpa using h
  have e1 : l.toList = l.toList.take i ++ false :: l.toList.drop (i + 1) := by
    rw [← hv, ← List.drop_eq_getElem_cons]
    exact (List.take_append_drop i _).symm
  have e2 : (l.setIfInBounds i true).toList = l.toList.take i ++ true :: l.toList.drop (i + 1) := by
    rw [Array.toList_setIfInBounds, List.set_eq_take_append_cons_drop, if_pos (by simpa using hlt)]
  unfold unl
  rw [e2]
  conv => rhs; rw [e1]
  simp only [List.filter_append, List.length_append, List.filter_cons]
  simp
  omega
section
variable {P : Program} {md : Region.Mode} {ops : Array Oper} {Q : Exit → Act → World → Prop}
theorem wpAny_inv (I : Array Bool → Act → World → Prop) (hd : ∀ l a w, I l a w → Region.ready md ops l = [] → Q .normal a w)
    (hs : ∀ l a w i, I l a w → i ∈ Region.ready md ops l → wpOp P ops Q i (I (l.setIfInBounds i true)) a w) :
    ∀ (fuel : Nat) (l : Array Bool) (a : Act) (w : World), I l a w → unl l ≤ fuel → wpAny P md ops Q fuel l a w
  | 0, l, a, w, h, hl => by
    have hr : Region.ready md ops l = [] := by
      rw [List.eq_nil_iff_forall_not_mem]
      intro j hj
      have := unl_set (mem_ready.1 hj).1
      omega
    exact ⟨hr, hd l a w h hr⟩
  | fuel + 1, l, a, w, h, hl => ⟨hd l a w h, fun i hi => wpOp_mono (fun a' w' h' => wpAny_inv I hd hs fuel _ a' w' h' (by have := unl_set (mem_ready.1 hi).1; omega)) (hs l a w i h hi)⟩
theorem unl_none (n : Nat) : unl (Array.replicate n false) = n := by simp [unl]
/-- The beginning. -/
theorem wp_region_inv {id : Nat} {a : Act} {w : World} (I : Array Bool → Act → World → Prop) (hm : P.follows .mixedOrders = true) (h0 : I (Array.replicate ops.size false) a w.drew)
    (hd : ∀ l a w, I l a w → Region.ready .any ops l = [] → Q .normal a w) (hs : ∀ l a w i, I l a w → i ∈ Region.ready .any ops l → wpOp P ops Q i (I (l.setIfInBounds i true)) a w) :
    (Code.region id ops true).wp P Q a w := wp_region_any hm (wpAny_inv I hd hs _ _ a _ h0 (by rw [unl_none]; exact Nat.le_refl _))
/-- What has come up. -/
abbrev up (l : Array Bool) (j : Nat) : Prop := l.getD j false = true
theorem up_none {n j : Nat} (h : up (Array.replicate n false) j) : False := by
  unfold up at h
  by_cases hj : j < n <;> simp [hj] at h
theorem up_old {l : Array Bool} {i j : Nat} (h : up (l.setIfInBounds i true) j) (hne : i ≠ j) : up l j := by
  unfold up at h ⊢
  rwa [getD_set_ne false hne] at h
theorem up_not {l : Array Bool} {j : Nat} (h : l.getD j true = false) : ¬ up l j := by
  intro hu
  unfold up at hu
  by_cases hj : j < l.size
  · simp [hj] at h hu
    rw [h] at hu
    cases hu
  · simp [hj] at hu
theorem up_set {l : Array Bool} {i : Nat} (h : i < l.size) : up (l.setIfInBounds i true) i := by
  unfold up
  simp [h]
/-- Each operation waits for such alone as stand ahead of it. -/
def depsB (ops : Array Oper) : Bool := (List.range ops.size).all fun j => ((ops[j]?).map (fun o => o.after.all fun e => decide (e.on < j))).getD true
theorem up_all {l : Array Bool} (hr : Region.ready md ops l = []) (hl : l.size = ops.size) (hB : depsB ops = true) : ∀ j, j < ops.size → up l j := by
  have hw : ∀ (j : Nat) (o : Oper), ops[j]? = some o → ∀ e ∈ o.after, e.on < j := by
    intro j o ho e he
    have hj : j < ops.size := (Array.getElem?_eq_some_iff.1 ho).1
    unfold depsB at hB
    rw [List.all_eq_true] at hB
    have h := hB j (List.mem_range.2 hj)
    rw [ho] at h
    simp only [Option.map_some, Option.getD_some, Array.all_eq_true_iff_forall_mem, decide_eq_true_eq] at h
    exact h e he
  intro j
  induction j using Nat.strongRecOn with
  | _ j ih =>
    intro hj
    cases hb : l.getD j true with
    | true =>
      unfold up
      have hlt : j < l.size := by omega
      have : l.getD j false = l.getD j true := by simp [hlt]
      rw [this, hb]
    | false =>
      exfalso
      have hm : j ∈ Region.ready md ops l := by
        rw [mem_ready]
        exact ⟨hb, ops[j], Array.getElem?_eq_getElem hj, fun e he _ => ih e.on (hw j _ (Array.getElem?_eq_getElem hj) e he) (by have := hw j _ (Array.getElem?_eq_getElem hj) e he; omega)⟩
      rw [hr] at hm
      cases hm
end
end Go.Proofs.Ytdlkilacnnjglaa
namespace Go.Proofs.Ytdlkilacnnjglaa
open Go.RowKit

theorem rcKeep {l : Array Bool} {i j : Nat} (h : up l j) : up (l.setIfInBounds i true) j := by
  unfold up at h ⊢
  by_cases e : i = j
  · subst e
    by_cases hi : i < l.size
    · simp [hi]
    · simp [hi] at h
  · rw [getD_set_ne false e]; exact h
/-- What stands between two operations: n reads of the world V, a call (n), a store (n + 1). -/
structure RcI (n : Nat) (V : World) (val : Nat → Value) (dep : Nat → List Nat) (P1 : World → Value → Prop) (P2 : World → Prop) (l : Array Bool) (wr : World) (s : Nat → Value) : Prop where
  ls : l.size = n + 2
  f : ∀ i, i < n → up l i → s i = val i
  d : ∀ i, i < n → up l i → ∀ j ∈ dep i, up l j
  w : ¬ up l n → wr = V
  c : up l n → ∀ i, i < n → up l i
  p : up l n → ¬ up l (n + 1) → P1 wr (s n)
  q : up l (n + 1) → P2 wr
  e : up l (n + 1) → up l n
section
variable {n : Nat} {V : World} {val : Nat → Value} {dep : Nat → List Nat} {P1 : World → Value → Prop} {P2 : World → Prop} {l : Array Bool} {wr : World} {s s' : Nat → Value}
theorem RcI.start (s : Nat → Value) : RcI n V val dep P1 P2 (Array.replicate (n + 2) false) V s :=
  ⟨by simp, fun _ _ h => (up_none h).elim, fun _ _ h => (up_none h).elim, fun _ => rfl, fun h => (up_none h).elim, fun h => (up_none h).elim, fun h => (up_none h).elim, fun h => (up_none h).elim⟩
theorem RcI.early (H : RcI n V val dep P1 P2 l wr s) {i : Nat} (hi : i < n) (hno : ¬ up l i) : ¬ up l n ∧ ¬ up l (n + 1) := ⟨fun h => hno (H.c h i hi), fun h => hno (H.c (H.e h) i hi)⟩
theorem RcI.read (H : RcI n V val dep P1 P2 l wr s) (i : Nat) (hi : i < n) (hno : ¬ up l i) (hdep : ∀ j ∈ dep i, up l j) (hs : ∀ j, j < n → j ≠ i → s' j = s j) (hv : s' i = val i) : RcI n V val dep P1 P2 (l.setIfInBounds i true) wr s' := by
  obtain ⟨e1, e2⟩ := H.early hi hno
  refine ⟨by rw [Array.size_setIfInBounds]; exact H.ls, fun j hj h => ?_, fun j hj h q hq => ?_, fun h => H.w e1, fun h => absurd (up_old h (by omega)) e1, fun h => absurd (up_old h (by omega)) e1, fun h => absurd (up_old h (by omega)) e2, fun h => absurd (up_old h (by omega)) e2⟩
  · by_cases e : j = i
    · subst e; exact hv
    · rw [hs j hj e]; exact H.f j hj (up_old h (fun h' => e h'.symm))
  · by_cases e : j = i
    · subst e; exact rcKeep (hdep q hq)
    · exact rcKeep (H.d j hj (up_old h (fun h' => e h'.symm)) q hq)
theorem RcI.call (H : RcI n V val dep P1 P2 l wr s) (hno : ¬ up l n) (hall : ∀ i, i < n → up l i) {w' : World} (hs : ∀ j, j < n → s' j = s j) (hp : P1 w' (s' n)) : RcI n V val dep P1 P2 (l.setIfInBounds n true) w' s' := by
  have e2 : ¬ up l (n + 1) := fun h => hno (H.e h)
  have hup : up (l.setIfInBounds n true) n := up_set (by rw [H.ls]; omega)
  exact ⟨by rw [Array.size_setIfInBounds]; exact H.ls, fun j hj _ => by rw [hs j hj]; exact H.f j hj (hall j hj), fun j hj _ q hq => rcKeep (H.d j hj (hall j hj) q hq), fun h => absurd hup h, fun _ i hi => rcKeep (hall i hi), fun _ _ => hp, fun h => absurd (up_old h (by omega)) e2, fun h => absurd (up_old h (by omega)) e2⟩
theorem RcI.store (H : RcI n V val dep P1 P2 l wr s) (hn : up l n) {w' : World} (hp : P2 w') : RcI n V val dep P1 P2 (l.setIfInBounds (n + 1) true) w' s := by
  have hup : up (l.setIfInBounds (n + 1) true) (n + 1) := up_set (by rw [H.ls]; omega)
  exact ⟨by rw [Array.size_setIfInBounds]; exact H.ls, fun j hj _ => H.f j hj (H.c hn j hj), fun j hj _ q hq => rcKeep (H.d j hj (H.c hn j hj) q hq), fun h => absurd (rcKeep hn) h, fun _ i hi => rcKeep (H.c hn i hi), fun _ h => absurd hup h, fun _ => hp, fun _ => rcKeep hn⟩
end
end Go.Proofs.Ytdlkilacnnjglaa
namespace Go.Proofs.Ytdlkilacnnjglaa
open Go.RowKit

/-- Each operation waits for such alone as stand ahead of it, where it waits at all. -/
def depsB2 (md : Region.Mode) (ops : Array Oper) : Bool := (List.range ops.size).all fun j => ((ops[j]?).map (fun o => o.after.all fun e => decide (e.on < j) || !Region.binds md e)).getD true
theorem up_all2 {md : Region.Mode} {ops : Array Oper} {l : Array Bool} (hr : Region.ready md ops l = []) (hl : l.size = ops.size) (hB : depsB2 md ops = true) : ∀ j, j < ops.size → up l j := by
  have hw : ∀ (j : Nat) (o : Oper), ops[j]? = some o → ∀ e ∈ o.after, Region.binds md e = true → e.on < j := by
    intro j o ho e he hb
    have hj : j < ops.size := (Array.getElem?_eq_some_iff.1 ho).1
    unfold depsB2 at hB
    rw [List.all_eq_true] at hB
    have h := hB j (List.mem_range.2 hj)
    rw [ho] at h
    simp only [Option.map_some, Option.getD_some, Array.all_eq_true_iff_forall_mem, Bool.or_eq_true, decide_eq_true_eq] at h
    exact (h e he).resolve_right (by rw [hb]; decide)
  intro j
  induction j using Nat.strongRecOn with
  | _ j ih =>
    intro hj
    cases hb : l.getD j true with
    | true =>
      unfold up
      have hlt : j < l.size := by omega
      have : l.getD j false = l.getD j true := by simp [hlt]
      rw [this, hb]
    | false =>
      exfalso
      have hm : j ∈ Region.ready md ops l := by
        rw [mem_ready]
        exact ⟨hb, ops[j], Array.getElem?_eq_getElem hj, fun e he hbi => ih e.on (hw j _ (Array.getElem?_eq_getElem hj) e he hbi) (by have := hw j _ (Array.getElem?_eq_getElem hj) e he hbi; omega)⟩
      rw [hr] at hm
      cases hm
end Go.Proofs.Ytdlkilacnnjglaa
namespace Go.Proofs.Ytdlkilacnnjglaa
open Go.RowKit

structure OsG (X : World) (D D' : GrD) (t : Bool) (c sv : Value) (l : Array Bool) (wr : World) (s23 s24 s25 s26 s22 s27 s28 s9 s10 u8 u9 u10 x8 x9 x10 : Value) (bx : Nat) : Prop where
  ls : l.size = 10
  bel : Below X.heap.size X wr
  f0 : up l 0 → s23 = c
  f2 : up l 2 → s25 = sv
  r1 : up l 1 → ¬ up l 3 → s24 = grV D u8 u9 u10 ∧ RowsU X.heap.size wr u8 u9 u10 D.f8 D.f9 D.f10
  r2 : up l 3 → s26 = .tuple #[grV D' x8 x9 x10, .bool t] ∧ RowsU X.heap.size wr x8 x9 x10 D'.f8 D'.f9 D'.f10
  d3 : up l 3 → up l 1
  f4 : up l 4 → s22 = .tuple #[grV D' x8 x9 x10, .bool t] ∧ up l 3
  f5 : up l 5 → s27 = grV D' x8 x9 x10 ∧ up l 4
  f6 : up l 6 → s28 = .bool t ∧ up l 4
  b1 : up l 7 → s9 = .pointer (some ⟨bx, 0, none⟩) ∧ X.heap.size ≤ bx
  b2 : up l 7 → ¬ up l 8 → BoxL wr bx zeroC
  b3 : up l 8 → BoxL wr bx (grC D' x8 x9 x10) ∧ up l 7 ∧ up l 5
  g1 : up l 7 → up l 1 → ¬ up l 3 → ¬ Bk u8 u9 u10 bx
  g2 : up l 7 → up l 3 → ¬ Bk x8 x9 x10 bx
  f9 : up l 9 → s10 = .bool t
end Go.Proofs.Ytdlkilacnnjglaa
