/-
  A set of numbers in a map: what it has. Plain facts on the memory.
  (set).put: numbers go into a set. Nothing else is written.
  impl.setOf: a set of numbers. Nothing old is written.
  (set).has: whether a number is in a set. Nothing old is written.
-/
import Derived.Test.YtnkpboobfkjibalKIntRows
import Derived.Maps.RangeWalk
import Derived.Maps.OwnSet
import Derived.Maps.AppendAt
namespace Go.Proofs.Ytnkpboobfkjibal
open Go.RowKit

abbrev uE : Value → Option (DataW Unit × List MemPlace) := unitElem (H := Unit)
theorem setLaw : Maps.Keyed Try.prog 3 := Maps.int_keyed Try.underlying3
theorem zeroUn (w : World) : (zeroValue 67).run Try.prog w = .ok (.agg #[]) w := by kernel_rfl
def inW (x : Int) : Prop := (Lit.int .i64 x).wf = true
theorem inW_small {x : Int} (h0 : -1000000 ≤ x) (h1 : x ≤ 1000000) : inW x := WalkArith.wf_i64 (by omega)
theorem same_self (x : Int) : (Lit.int .i64 x).sameKey (.int .i64 x) = true := by simp [Lit.sameKey]
theorem same_other {x y : Int} (h : x ≠ y) : (Lit.int .i64 x).sameKey (.int .i64 y) = false := Maps.sameKey_ne (by simpa using h)
/-- Block b is a set of at most n numbers: f tells which. -/
def MSet (w : World) (b n : Nat) (f : Int → Bool) : Prop :=
  ∃ D : DataW Unit, w.ownsMap Try.prog 3 uE b n D ∧ ∀ x, Maps.has D (.int .i64 x) = f x
theorem MSet.lt {w : World} {b n : Nat} {f : Int → Bool} (h : MSet w b n f) : b < w.heap.size := by obtain ⟨D, h, _⟩ := h; exact h.lt
theorem MSet.mono {w : World} {b n m : Nat} {f : Int → Bool} (h : MSet w b n f) (hn : n ≤ m) : MSet w b m f := by obtain ⟨D, h, hf⟩ := h; exact ⟨D, h.mono hn, hf⟩
theorem MSet.congr {w : World} {b n : Nat} {f g : Int → Bool} (h : MSet w b n f) (e : ∀ x, f x = g x) : MSet w b n g := by obtain ⟨D, h, hf⟩ := h; exact ⟨D, h, fun x => (hf x).trans (e x)⟩
theorem MSet.of_block {w w' : World} {b n : Nat} {f : Int → Bool} (h : MSet w b n f) (e : w'.heap[b]? = w.heap[b]?) : MSet w' b n f := by
  obtain ⟨D, ⟨es, cl, hb, r⟩, hf⟩ := h
  exact ⟨D, ⟨es, cl, e.trans hb, r⟩, hf⟩
theorem MSet.below {w w' : World} {b n : Nat} {f : Int → Bool} (h : MSet w b n f) (hb : Below w.heap.size w w') : MSet w' b n f := h.of_block (hb.block b h.lt)
theorem MSet.grown {w w' : World} {b c n : Nat} {f : Int → Bool} (h : MSet w b n f) (hg : w.grownBy w' (some c)) (hne : b ≠ c) : MSet w' b n f := h.of_block (hg.block b h.lt (by simpa using hne))
theorem MSet.ne {w : World} {b n g o : Nat} {f : Int → Bool} {u : Value} (h : MSet w b n f) (hc : w.cell? ⟨g, o, none⟩ = some u) : g ≠ b := by
  rintro rfl
  obtain ⟨D, ⟨es, cl, hb, r⟩, hf⟩ := h
  simp [World.cell?, hb] at hc
theorem MSet.made (w : World) : MSet (w.alloc (.map #[] 0)) w.heap.size 0 (fun _ => false) := ⟨.map [], World.ownsMap_made _ _ _ _, fun _ => rfl⟩
theorem has_put {D : DataW Unit} (hD : Maps.IsMap D) (x y : Int) (d : DataW Unit) : Maps.has (D.put (.int .i64 x) d) (.int .i64 y) = (Maps.has D (.int .i64 y) || x == y) := by
  by_cases e : x = y
  · subst e
    rw [Maps.has_put_same hD (show WideAt.IsKeyLit (Lit.int .i64 x) from trivial)]
    simp
  · rw [Maps.has_put_other (by simpa using Ne.symm e)]
    simp [e]
theorem KReads.grown {w w' : World} {v : Value} {xs : List KEl} {b n : Nat} {f : Int → Bool} (h : KReads w v xs) (hm : MSet w b n f) (hg : w.grownBy w' (some b)) : KReads w' v xs := by
  obtain ⟨a, cap, rfl, hl, hx⟩ := h
  refine ⟨a, cap, rfl, hl, ?_⟩
  rcases hx with hx | ⟨g, off, rfl, hc⟩
  · exact .inl hx
  · exact .inr ⟨g, off, rfl, fun i hi => (hc i hi).of_block (hg.block g (hc i hi).lt (by simpa using hm.ne (hc i hi)))⟩
theorem contains_take (xs : List Int) (k : Nat) (h : k < xs.length) (y : Int) : (xs.take (k + 1)).contains y = ((xs.take k).contains y || xs.getD k 0 == y) := by
  rw [List.take_succ_eq_append_getElem h]
  simp only [List.getD_eq_getElem?_getD, List.getElem?_eq_getElem h, Option.getD_some]
  rw [List.contains_eq_mem, List.contains_eq_mem, Bool.eq_iff_iff, Bool.or_eq_true, decide_eq_true_eq, decide_eq_true_eq, beq_iff_eq, List.mem_append, List.mem_singleton]
  exact or_congr_right ⟨Eq.symm, Eq.symm⟩
end Go.Proofs.Ytnkpboobfkjibal
namespace Go.Proofs.Ytnkpboobfkjibal
open Go.RowKit

set_option maxRecDepth 100000 in
set_option maxHeartbeats 2000000 in
theorem iputs_any (b n : Nat) (f : Int → Bool) (v : Value) (xs : List Int) (w : World) (hm : MSet w b n f) (hr : KReads w v xs) (hw : ∀ x ∈ xs, inW x) (hn : n + xs.length ≤ 1000000) :
    Calls Try.prog 31 #[.map (some b), v] w fun e w' => e = .returned (.tuple #[]) ∧ MSet w' b (n + xs.length) (fun x => f x || xs.contains x) ∧ w.grownBy w' (some b) := by
  have HM := hid hm
  have HR := hid hr
  have HW := hid hw
  obtain ⟨a, cap, rfl, hl, _⟩ := hr
  clear hm hw
  go_enter Try.func31, Try.ntmps31
  go_wp2
  go_loopw [8] (fun i wr => ∃ k : Nat, k ≤ xs.length ∧ i = .int .i64 k ∧ MSet wr b (n + k) (fun x => f x || (xs.take k).contains x) ∧ w.grownBy wr (some b)) (fun i _ => xs.length - (intOf i).toNat)
  case atStart => exact ⟨0, Nat.zero_le _, rfl, HM.out.congr (fun x => by simp), World.grownBy.refl _ _⟩
  case round =>
    obtain ⟨k, hk, rfl, hs, hg⟩ := hrel
    have HS := hid hs
    have HG := hid hg
    clear hs hg
    by_cases hlt : k < xs.length
    · obtain ⟨g, o, cap', e, hc⟩ := (HR.out.grown HM.out HG.out).cells k hlt
      cases e
      obtain ⟨x, hx⟩ : ∃ x, x = xs.getD k 0 := ⟨_, rfl⟩
      have cx : wr.cell? ⟨g, o + k, none⟩ = some (.int .i64 x) := by rw [hx]; exact hc k hlt
      have HX : Hid (inW x) := by
        refine HW.out x ?_
        rw [hx]
        simp [List.getD_eq_getElem?_getD, hlt]
      have HT : Hid (∀ y, (xs.take (k + 1)).contains y = ((xs.take k).contains y || x == y)) := fun y => by rw [hx]; exact contains_take xs k hlt y
      have m0 : (0 : Int) ≤ (k : Int) := by omega
      have n1 : (k : Int) < (xs.length : Int) := by omega
      clear hx hc
      obtain ⟨D, hD, hf⟩ := HS.out
      have HD := hid hD
      have HF := hid hf
      clear hD hf HS
      go_wp2_with (at_mapUpdate; refine wpList_mapUpdate_own _ rfl _ _ _ 44 rfl 3 67 setLaw Try.underlying44 _ b (n + k) _ rfl HD.out (by unfold maxLen; omega) _ _ _ rfl rfl (Maps.keyOf_int_mk Try.underlying3 HX.out) _ [] unitElem_mk ?_; intro w1 hown1 hgrow1)
      have HO := hid hown1
      have HG1 := hid (HG.out.trans hgrow1)
      clear hown1 hgrow1
      go_wp2
      go_roundw
      case rel =>
        refine ⟨k + 1, by omega, by go_num, ⟨_, HO.out, fun y => ?_⟩, HG1.out⟩
        rw [has_put HD.out.isMap, HF.out]
        show ((f y || (xs.take k).contains y) || x == y) = (f y || (xs.take (k + 1)).contains y)
        rw [HT.out, Bool.or_assoc]
      case measure => simp [intOf]; omega
    · have HE : Hid (MSet wr b (n + xs.length) (fun x => f x || xs.contains x)) := by
        have h := HS.out
        rw [show k = xs.length by omega, List.take_length] at h
        exact h
      go_wp2
      go_end0
      exact ⟨rfl, HE.out, HG.out⟩
end Go.Proofs.Ytnkpboobfkjibal
namespace Go.Proofs.Ytnkpboobfkjibal
open Go.RowKit

theorem below_put {w w' w1 : World} {b : Nat} (h : Below w.heap.size w w1) (hg : w1.grownBy w' (some b)) (hb : w.heap.size ≤ b) : Below w.heap.size w w' := h.grown hg h.size (fun k e => by cases e; exact hb)
set_option maxRecDepth 100000 in
set_option maxHeartbeats 2000000 in
theorem isetof_any (v : Value) (xs : List Int) (w : World) (hr : KReads w v xs) (hw : ∀ x ∈ xs, inW x) (hn : xs.length ≤ 1000000) :
    Calls Try.prog 18 #[v] w fun e w' => e = .returned (.map (some w.heap.size)) ∧ MSet w' w.heap.size xs.length (fun x => xs.contains x) ∧ Below w.heap.size w w' := by
  have HR := hid hr
  have HW := hid hw
  have hmm := @run_makeMap Try.prog
  have HB : Hid (Below w.heap.size w (w.alloc (.map #[] 0))) := (Below.refl _ _).alloc (Nat.le_refl _) _
  have HM := hid (MSet.made w)
  clear hr hw
  go_enter Try.func18, Try.ntmps18
  go_wp2_with fail
  refine (iputs_any w.heap.size 0 _ v xs _ HM.out (HR.out.below HB.out) HW.out (by omega)).mono ?_
  rintro e w' ⟨rfl, hm, hg⟩
  have HM2 : Hid (MSet w' w.heap.size xs.length (fun x => xs.contains x)) := (hm.mono (by omega)).congr (fun x => by simp)
  have HB2 : Hid (Below w.heap.size w w') := below_put HB.out hg (Nat.le_refl _)
  clear hm hg
  go_wp2
  go_ret
  exact ⟨rfl, HM2.out, HB2.out⟩
end Go.Proofs.Ytnkpboobfkjibal
namespace Go.Proofs.Ytnkpboobfkjibal
open Go.RowKit

set_option maxRecDepth 100000 in
set_option maxHeartbeats 2000000 in
theorem ihass_eq (b n : Nat) (f : Int → Bool) (x : Int) (t : Bool) (ht : f x = t) (w : World) (hm : MSet w b n f) (hx : inW x) :
    Calls Try.prog 21 #[.map (some b), .int .i64 x] w fun e w' => e = .returned (.bool t) ∧ Below w.heap.size w w' := by
  obtain ⟨D, hD, hf⟩ := hm
  have HT : Hid (Maps.has D (.int .i64 x) = t) := by show _ = _; rw [hf, ht]
  have HD := hid hD
  have HX := hid hx
  clear hD hx hf ht
  go_enter Try.func21, Try.ntmps21
  go_wp2_with (at_lookup; refine wpList_lookup_own_unit _ rfl _ _ 44 rfl 3 67 setLaw Try.underlying44 (zeroUn _) b n _ rfl HD.out _ _ rfl (Maps.keyOf_int_mk Try.underlying3 HX.out) ?_; rw [HT.out])
  go_wp2
  go_ret
  exact ⟨rfl, (Below.refl _ _).alloc (Nat.le_refl _) _⟩
end Go.Proofs.Ytnkpboobfkjibal
