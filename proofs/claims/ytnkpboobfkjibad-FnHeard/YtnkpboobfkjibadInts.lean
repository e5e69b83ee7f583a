/-
  Slices of integers: what they read as, which are new: plain facts on the memory.
  'Only lo hi w w'': between two worlds no block has come, and those outside lo .. hi are as they were.
  spec.l1Least: the lesser of two. Nothing is written.
  A region that draws its order, by an invariant: whatever operation may come up keeps it. One proof an operation, not one an order.
  A region that draws its order: where nothing is ready any more all has come up. Edges that bind other modes alone do not count.
-/
import Derived.Test.YtnkpboobfkjibadProg
import Derived.WalkKit
import Derived.Handy
import Derived.Deep.OwnRows
import Derived.RegionTactic
namespace Go.Proofs.Ytnkpboobfkjibad
open Go.RowKit

theorem info_int : (Try.prog.info? 3).map (fun i => (i.zero, i.size, i.bytes)) = some (some (.int .i64 0), 1, 8) := by kernel_rfl

theorem hid {p : Prop} (h : p) : Hid p := h

/-- The slice v reads as the list xs. -/
def Reads (w : World) (v : Value) (xs : List Int) : Prop :=
  ∃ a cap, v = .slice a xs.length cap ∧ xs.length ≤ 1152921504606846975 ∧ (xs = [] ∨ ∃ b off, a = some ⟨b, off, none⟩ ∧ ∀ i, i < xs.length → w.cell? ⟨b, off + i, none⟩ = some (.int .i64 (xs.getD i 0)))

/-- The slice v reads as xs, in a row of its own from block 'base' on that may be written. -/
def Own (base : Nat) (w : World) (v : Value) (xs : List Int) : Prop :=
  xs.length ≤ 1152921504606846975 ∧ ((v = .slice none 0 0 ∧ xs = []) ∨ ∃ g cap f, v = .slice (some ⟨g, 0, none⟩) xs.length cap ∧ base ≤ g ∧ xs.length ≤ cap ∧ cap ≤ maxLen ∧ w.rowIs g 3 cap f ∧ ∀ i, i < xs.length → f i = .int .i64 (xs.getD i 0))

theorem lt_of_cell {w : World} {b o : Nat} {u : Value} (h : w.cell? ⟨b, o, none⟩ = some u) : b < w.heap.size := by
  by_cases hb : b < w.heap.size
  · exact hb
  · exfalso
    have : w.heap[b]? = none := Array.getElem?_eq_none (by omega)
    simp [World.cell?, this] at h

theorem Reads.below {w w' : World} {v : Value} {xs : List Int} (h : Reads w v xs) (hb : Below w.heap.size w w') : Reads w' v xs := by
  obtain ⟨a, cap, rfl, hl, hx⟩ := h
  refine ⟨a, cap, rfl, hl, ?_⟩
  rcases hx with hx | ⟨b, off, rfl, hc⟩
  · exact .inl hx
  · exact .inr ⟨b, off, rfl, fun i hi => (hb.cell (p := ⟨b, off + i, none⟩) (lt_of_cell (hc i hi))).trans (hc i hi)⟩

theorem Own.reads {base : Nat} {w : World} {v : Value} {xs : List Int} (h : Own base w v xs) : Reads w v xs := by
  obtain ⟨hl, h⟩ := h
  rcases h with ⟨rfl, rfl⟩ | ⟨g, cap, f, rfl, hg, hc, hm, hr, hf⟩
  · exact ⟨none, 0, rfl, by simp, .inl rfl⟩
  · exact ⟨_, cap, rfl, hl, .inr ⟨g, 0, rfl, fun i hi => by rw [Nat.zero_add, hr.cell (by omega), hf i hi]⟩⟩

theorem Own.mono {base base' : Nat} {w : World} {v : Value} {xs : List Int} (h : Own base w v xs) (hb : base' ≤ base) : Own base' w v xs := by
  obtain ⟨hl, h⟩ := h
  rcases h with h | ⟨g, cap, f, rfl, hg, hr⟩
  · exact ⟨hl, .inl h⟩
  · exact ⟨hl, .inr ⟨g, cap, f, rfl, by omega, hr⟩⟩

theorem Own.below {base : Nat} {w w' : World} {v : Value} {xs : List Int} (h : Own base w v xs) (hb : Below w.heap.size w w') : Own base w' v xs := by
  obtain ⟨hl, h⟩ := h
  rcases h with h | ⟨g, cap, f, rfl, hg, hc, hm, hr, hf⟩
  · exact ⟨hl, .inl h⟩
  · exact ⟨hl, .inr ⟨g, cap, f, rfl, hg, hc, hm, hr.of_block (hb.block g hr.lt), hf⟩⟩

theorem Own.of_owns {base : Nat} {w : World} {v : Value} {n : Nat} {xs : List Int} (h : w.ownsRow base 3 1 v n (xs.map (Value.int .i64))) (hl : xs.length ≤ 1152921504606846975) : Own base w v xs := by
  obtain ⟨hn, h⟩ := h
  simp only [List.length_map, Nat.mul_one] at hn
  subst hn
  refine ⟨hl, ?_⟩
  rcases h with ⟨rfl, h0⟩ | ⟨g, cap, cur, rfl, hg, hh, hc, hm, hs, ht⟩
  · exact .inl ⟨rfl, List.eq_nil_of_length_eq_zero h0⟩
  · refine .inr ⟨g, cap, fun i => cur.getD i (.int .i64 0), rfl, hg, hc, hm, ⟨cur, hh, by omega, fun i hi => ?_⟩, fun i hi => ?_⟩
    · simp [Array.getD, show i < cur.size by omega]
    · have e : (cur.toList.take (xs.length * 1))[i]? = (xs.map (Value.int .i64))[i]? := by rw [ht]
      have hi2 : i < cur.size := by omega
      simp [hi, hi2] at e
      simp [Array.getD, hi2, e, List.getD_eq_getElem?_getD, hi]

/-- A new row of zeros. -/
theorem Own.made (w : World) (n : Nat) (hn : n ≤ 1152921504606846975) : Own w.heap.size (w.alloc (.cells (madeCells #[.int .i64 0] n) 3)) (.slice (some ⟨w.heap.size, 0, none⟩) n n) (List.replicate n 0) := by
  refine ⟨by simpa using hn, .inr ⟨w.heap.size, n, fun _ => .int .i64 0, by simp, Nat.le_refl _, by simp, by unfold maxLen; omega, World.rowIs_made w (.int .i64 0) n 3, fun i hi => ?_⟩⟩
  have hi' : i < n := by simpa using hi
  simp [List.getD_eq_getElem?_getD, hi']

/-- One store into an own row. -/
theorem Own.set {base g cap : Nat} {w : World} {xs : List Int} (h : Own base w (.slice (some ⟨g, 0, none⟩) xs.length cap) xs) (i : Nat) (x : Int) (hi : i < xs.length) :
    Own base (w.setCell ⟨g, i, none⟩ (.int .i64 x)) (.slice (some ⟨g, 0, none⟩) xs.length cap) (xs.set i x) ∧ base ≤ g ∧ w.frozen? ⟨g, i, none⟩ = false ∧ w.cell? ⟨g, i, none⟩ = some (.int .i64 (xs.getD i 0)) := by
  obtain ⟨hl, h⟩ := h
  rcases h with ⟨h, _⟩ | ⟨g', cap', f, e, hg, hc, hm, hr, hf⟩
  · cases h
  · cases e
    refine ⟨⟨by simpa using hl, .inr ⟨g, cap, _, by simp, hg, by simpa using hc, hm, hr.set i (.int .i64 x), fun j hj => ?_⟩⟩, hg, hr.frozen i, by rw [hr.cell (by omega), hf i hi]⟩
    have hj' : j < xs.length := by simpa using hj
    by_cases e : j = i
    · subst e; simp [List.getD_eq_getElem?_getD, hj']
    · rw [if_neg e, hf j hj']; simp [List.getD_eq_getElem?_getD, Ne.symm e]
end Go.Proofs.Ytnkpboobfkjibad
namespace Go.Proofs.Ytnkpboobfkjibad
open Go.RowKit

def Only (lo hi : Nat) (w w' : World) : Prop := w'.heap.size = w.heap.size ∧ ∀ j, (j < lo ∨ hi ≤ j) → w'.heap[j]? = w.heap[j]?
theorem Only.refl (lo hi : Nat) (w : World) : Only lo hi w w := ⟨rfl, fun _ _ => rfl⟩
theorem Only.trans {lo hi : Nat} {a b c : World} (h : Only lo hi a b) (k : Only lo hi b c) : Only lo hi a c := ⟨k.1.trans h.1, fun j hj => (k.2 j hj).trans (h.2 j hj)⟩
theorem Only.setCell {lo hi : Nat} {a w : World} (h : Only lo hi a w) {p : Addr} (h1 : lo ≤ p.block) (h2 : p.block < hi) (u : Value) : Only lo hi a (w.setCell p u) :=
  ⟨by rw [← h.1]; simp [World.setCell], fun j hj => (Below.heap_setCell _ _ _ _ (by omega)).trans (h.2 j hj)⟩
theorem Only.mono {lo hi lo' hi' : Nat} {a b : World} (h : Only lo hi a b) (h1 : lo' ≤ lo) (h2 : hi ≤ hi') : Only lo' hi' a b := ⟨h.1, fun j hj => h.2 j (by omega)⟩
theorem Only.drew {lo hi : Nat} {a b : World} (h : Only lo hi a b) : Only lo hi a b.drew := h
theorem Only.below {lo hi : Nat} {a b : World} (h : Only lo hi a b) (hs : b.os = a.os ∧ b.tape = a.tape ∧ b.output = a.output) : Below lo a b := ⟨hs.1, hs.2.1, hs.2.2, by rw [h.1]; exact Nat.le_refl _, fun k hk => h.2 k (.inl hk)⟩
end Go.Proofs.Ytnkpboobfkjibad
namespace Go.Proofs.Ytnkpboobfkjibad
open Go.RowKit

theorem sleast_eq (x y r : Int) (hr : min x y = r) (w : World) : Calls Try.prog 163 #[.int .i64 x, .int .i64 y] w fun e w' => e = .returned (.int .i64 r) ∧ w' = w := by
  by_cases h : x < y
  · have hv : Hid (r = x) := by show _ = _; omega
    clear hr
    go_enter Try.func163, Try.ntmps163
    go_wp2
    go_ret
    exact ⟨by rw [hv.out]; rfl, rfl⟩
  · have hv : Hid (r = y) := by show _ = _; omega
    clear hr
    go_enter Try.func163, Try.ntmps163
    go_wp2
    go_ret
    exact ⟨by rw [hv.out]; rfl, rfl⟩
end Go.Proofs.Ytnkpboobfkjibad
namespace Go.Proofs.Ytnkpboobfkjibad
open Go.RowKit

/-- How many have not come up yet. -/
def unl (l : Array Bool) : Nat := (l.toList.filter (fun b => !b)).length
theorem unl_set {l : Array Bool} {i : Nat} (h : l.getD i true = false) : unl (l.setIfInBounds i true) + 1 = unl l := by
  have hlt : i < l.size := by
    rcases Nat.lt_or_ge i l.size with h' | h'
    · exact h'
    · simp [Array.getElem?_eq_none h'] at h
  have hv : l.toList[i]'(by simpa using hlt) = false := by
    have : l.getD i true = l[i] := by simp [hlt]
    rw [this] at h
    simpa using h
  have e1 : l.toList = l.toList.take i ++ false :: l.toList.drop (i + 1) := by
    rw [← hv, ← List.drop_eq_getElem_cons]
    exact (List.take_append_drop i _).symm
  have e2 : (l.setIfInBounds i true).toList = l.toList.take i ++ true :: l.toList.drop (i + 1) := by
    rw [Array.toList_setIfInBounds, List.set_eq_take_append_cons_drop, if_pos (by simpa using hlt)]
  unfold unl
  rw [e2]
  conv => rhs; rw [e1]
  simp only [List.filter_append, List.length_append, List.filter_cons]
  simp
  omega
section
variable {P : Program} {md : Region.Mode} {ops : Array Oper} {Q : Exit → Act → World → Prop}
theorem wpAny_inv (I : Array Bool → Act → World → Prop) (hd : ∀ l a w, I l a w → Region.ready md ops l = [] → Q .normal a w)
    (hs : ∀ l a w i, I l a w → i ∈ Region.ready md ops l → wpOp P ops Q i (I (l.setIfInBounds i true)) a w) :
    ∀ (fuel : Nat) (l : Array Bool) (a : Act) (w : World), I l a w → unl l ≤ fuel → wpAny P md ops Q fuel l a w
  | 0, l, a, w, h, hl => by
    have hr : Region.ready md ops l = [] := by
      rw [List.eq_nil_iff_forall_not_mem]
      intro j hj
      have := unl_set (mem_ready.1 hj).1
      omega
    exact ⟨hr, hd l a w h hr⟩
  | fuel + 1, l, a, w, h, hl => ⟨hd l a w h, fun i hi => wpOp_mono (fun a' w' h' => wpAny_inv I hd hs fuel _ a' w' h' (by have := unl_set (mem_ready.1 hi).1; omega)) (hs l a w i h hi)⟩
theorem unl_none (n : Nat) : unl (Array.replicate n false) = n := by simp [unl]
/-- The beginning. -/
theorem wp_region_inv {id : Nat} {a : Act} {w : World} (I : Array Bool → Act → World → Prop) (hm : P.follows .mixedOrders = true) (h0 : I (Array.replicate ops.size false) a w.drew)
    (hd : ∀ l a w, I l a w → Region.ready .any ops l = [] → Q .normal a w) (hs : ∀ l a w i, I l a w → i ∈ Region.ready .any ops l → wpOp P ops Q i (I (l.setIfInBounds i true)) a w) :
    (Code.region id ops true).wp P Q a w := wp_region_any hm (wpAny_inv I hd hs _ _ a _ h0 (by rw [unl_none]; exact Nat.le_refl _))
/-- What has come up. -/
abbrev up (l : Array Bool) (j : Nat) : Prop := l.getD j false = true
theorem up_none {n j : Nat} (h : up (Array.replicate n false) j) : False := by
  unfold up at h
  by_cases hj : j < n <;> simp [hj] at h
theorem up_old {l : Array Bool} {i j : Nat} (h : up (l.setIfInBounds i true) j) (hne : i ≠ j) : up l j := by
  unfold up at h ⊢
  rwa [getD_set_ne false hne] at h
theorem up_not {l : Array Bool} {j : Nat} (h : l.getD j true = false) : ¬ up l j := by
  intro hu
  unfold up at hu
  by_cases hj : j < l.size
  · simp [hj] at h hu
    rw [h] at hu
    cases hu
  · simp [hj] at hu
theorem up_set {l : Array Bool} {i : Nat} (h : i < l.size) : up (l.setIfInBounds i true) i := by
  unfold up
  simp [h]
/-- Each operation waits for such alone as stand ahead of it. -/
def depsB (ops : Array Oper) : Bool := (List.range ops.size).all fun j => ((ops[j]?).map (fun o => o.after.all fun e => decide (e.on < j))).getD true
theorem up_all {l : Array Bool} (hr : Region.ready md ops l = []) (hl : l.size = ops.size) (hB : depsB ops = true) : ∀ j, j < ops.size → up l j := by
  have hw : ∀ (j : Nat) (o : Oper), ops[j]? = some o → ∀ e ∈ o.after, e.on < j := by
    intro j o ho e he
    have hj : j < ops.size := (Array.getElem?_eq_some_iff.1 ho).1
    unfold depsB at hB
    rw [List.all_eq_true] at hB
    have h := hB j (List.mem_range.2 hj)
    rw [ho] at h
    simp only [Option.map_some, Option.getD_some, Array.all_eq_true_iff_forall_mem, decide_eq_true_eq] at h
    exact h e he
  intro j
  induction j using Nat.strongRecOn with
  | _ j ih =>
    intro hj
    cases hb : l.getD j true with
    | true =>
      unfold up
      have hlt : j < l.size := by omega
      have : l.getD j false = l.getD j true := by simp [hlt]
      rw [this, hb]
    | false =>
      exfalso
      have hm : j ∈ Region.ready md ops l := by
        rw [mem_ready]
        exact ⟨hb, ops[j], Array.getElem?_eq_getElem hj, fun e he _ => ih e.on (hw j _ (Array.getElem?_eq_getElem hj) e he) (by have := hw j _ (Array.getElem?_eq_getElem hj) e he; omega)⟩
      rw [hr] at hm
      cases hm
end
end Go.Proofs.Ytnkpboobfkjibad
namespace Go.Proofs.Ytnkpboobfkjibad
open Go.RowKit

/-- Each operation waits for such alone as stand ahead of it, by the edges that bind here. -/
def depsA (ops : Array Oper) : Bool := (List.range ops.size).all fun j => ((ops[j]?).map (fun o => o.after.all fun e => !Region.binds .any e || decide (e.on < j))).getD true
theorem up_allA {ops : Array Oper} {l : Array Bool} (hr : Region.ready .any ops l = []) (hl : l.size = ops.size) (hB : depsA ops = true) : ∀ j, j < ops.size → up l j := by
  have hw : ∀ (j : Nat) (o : Oper), ops[j]? = some o → ∀ e ∈ o.after, Region.binds .any e = true → e.on < j := by
    intro j o ho e he hb
    have hj : j < ops.size := (Array.getElem?_eq_some_iff.1 ho).1
    unfold depsA at hB
    rw [List.all_eq_true] at hB
    have h := hB j (List.mem_range.2 hj)
    rw [ho] at h
    simp only [Option.map_some, Option.getD_some, Array.all_eq_true_iff_forall_mem, Bool.or_eq_true, Bool.not_eq_true', decide_eq_true_eq] at h
    rcases h e he with h | h
    · rw [hb] at h; cases h
    · exact h
  intro j
  induction j using Nat.strongRecOn with
  | _ j ih =>
    intro hj
    cases hb : l.getD j true with
    | true =>
      unfold up
      have hlt : j < l.size := by omega
      have : l.getD j false = l.getD j true := by simp [hlt]
      rw [this, hb]
    | false =>
      exfalso
      have hm : j ∈ Region.ready .any ops l := by
        rw [mem_ready]
        exact ⟨hb, ops[j], Array.getElem?_eq_getElem hj, fun e he hbi => ih e.on (hw j _ (Array.getElem?_eq_getElem hj) e he hbi) (by have := hw j _ (Array.getElem?_eq_getElem hj) e he hbi; omega)⟩
      rw [hr] at hm
      cases hm
end Go.Proofs.Ytnkpboobfkjibad
