/-
  A set of numbers in a map: what it has. Plain facts on the memory.
  (set).has: whether a number is in a set. Nothing old is written.
  slices.ContainsFunc with a set's method has: whether one of the numbers is in the set. Nothing old is written.
-/
import Derived.Test.YtnkpboobfkjibadKIntRows
import Derived.Maps.RangeWalk
import Derived.Maps.OwnSet
import Derived.Maps.AppendAt
namespace Go.Proofs.Ytnkpboobfkjibad
open Go.RowKit

abbrev uE : Value → Option (DataW Unit × List MemPlace) := unitElem (H := Unit)
theorem setLaw : Maps.Keyed Try.prog 3 := Maps.int_keyed Try.underlying3
theorem zeroUn (w : World) : (zeroValue 157).run Try.prog w = .ok (.agg #[]) w := by kernel_rfl
def inW (x : Int) : Prop := (Lit.int .i64 x).wf = true
theorem inW_small {x : Int} (h0 : -1000000 ≤ x) (h1 : x ≤ 1000000) : inW x := WalkArith.wf_i64 (by omega)
theorem same_self (x : Int) : (Lit.int .i64 x).sameKey (.int .i64 x) = true := by simp [Lit.sameKey]
theorem same_other {x y : Int} (h : x ≠ y) : (Lit.int .i64 x).sameKey (.int .i64 y) = false := Maps.sameKey_ne (by simpa using h)
/-- Block b is a set of at most n numbers: f tells which. -/
def MSet (w : World) (b n : Nat) (f : Int → Bool) : Prop :=
  ∃ D : DataW Unit, w.ownsMap Try.prog 3 uE b n D ∧ ∀ x, Maps.has D (.int .i64 x) = f x
theorem MSet.lt {w : World} {b n : Nat} {f : Int → Bool} (h : MSet w b n f) : b < w.heap.size := by obtain ⟨D, h, _⟩ := h; exact h.lt
theorem MSet.mono {w : World} {b n m : Nat} {f : Int → Bool} (h : MSet w b n f) (hn : n ≤ m) : MSet w b m f := by obtain ⟨D, h, hf⟩ := h; exact ⟨D, h.mono hn, hf⟩
theorem MSet.congr {w : World} {b n : Nat} {f g : Int → Bool} (h : MSet w b n f) (e : ∀ x, f x = g x) : MSet w b n g := by obtain ⟨D, h, hf⟩ := h; exact ⟨D, h, fun x => (hf x).trans (e x)⟩
theorem MSet.of_block {w w' : World} {b n : Nat} {f : Int → Bool} (h : MSet w b n f) (e : w'.heap[b]? = w.heap[b]?) : MSet w' b n f := by
  obtain ⟨D, ⟨es, cl, hb, r⟩, hf⟩ := h
  exact ⟨D, ⟨es, cl, e.trans hb, r⟩, hf⟩
theorem MSet.below {w w' : World} {b n : Nat} {f : Int → Bool} (h : MSet w b n f) (hb : Below w.heap.size w w') : MSet w' b n f := h.of_block (hb.block b h.lt)
theorem MSet.grown {w w' : World} {b c n : Nat} {f : Int → Bool} (h : MSet w b n f) (hg : w.grownBy w' (some c)) (hne : b ≠ c) : MSet w' b n f := h.of_block (hg.block b h.lt (by simpa using hne))
theorem MSet.ne {w : World} {b n g o : Nat} {f : Int → Bool} {u : Value} (h : MSet w b n f) (hc : w.cell? ⟨g, o, none⟩ = some u) : g ≠ b := by
  rintro rfl
  obtain ⟨D, ⟨es, cl, hb, r⟩, hf⟩ := h
  simp [World.cell?, hb] at hc
theorem MSet.made (w : World) : MSet (w.alloc (.map #[] 0)) w.heap.size 0 (fun _ => false) := ⟨.map [], World.ownsMap_made _ _ _ _, fun _ => rfl⟩
theorem has_put {D : DataW Unit} (hD : Maps.IsMap D) (x y : Int) (d : DataW Unit) : Maps.has (D.put (.int .i64 x) d) (.int .i64 y) = (Maps.has D (.int .i64 y) || x == y) := by
  by_cases e : x = y
  · subst e
    rw [Maps.has_put_same hD (show WideAt.IsKeyLit (Lit.int .i64 x) from trivial)]
    simp
  · rw [Maps.has_put_other (by simpa using Ne.symm e)]
    simp [e]
theorem KReads.grown {w w' : World} {v : Value} {xs : List KEl} {b n : Nat} {f : Int → Bool} (h : KReads w v xs) (hm : MSet w b n f) (hg : w.grownBy w' (some b)) : KReads w' v xs := by
  obtain ⟨a, cap, rfl, hl, hx⟩ := h
  refine ⟨a, cap, rfl, hl, ?_⟩
  rcases hx with hx | ⟨g, off, rfl, hc⟩
  · exact .inl hx
  · exact .inr ⟨g, off, rfl, fun i hi => (hc i hi).of_block (hg.block g (hc i hi).lt (by simpa using hm.ne (hc i hi)))⟩
theorem contains_take (xs : List Int) (k : Nat) (h : k < xs.length) (y : Int) : (xs.take (k + 1)).contains y = ((xs.take k).contains y || xs.getD k 0 == y) := by
  rw [List.take_succ_eq_append_getElem h]
  simp only [List.getD_eq_getElem?_getD, List.getElem?_eq_getElem h, Option.getD_some]
  rw [List.contains_eq_mem, List.contains_eq_mem, Bool.eq_iff_iff, Bool.or_eq_true, decide_eq_true_eq, decide_eq_true_eq, beq_iff_eq, List.mem_append, List.mem_singleton]
  exact or_congr_right ⟨Eq.symm, Eq.symm⟩
end Go.Proofs.Ytnkpboobfkjibad
namespace Go.Proofs.Ytnkpboobfkjibad
open Go.RowKit

set_option maxRecDepth 100000 in
set_option maxHeartbeats 2000000 in
theorem ihass_eq (b n : Nat) (f : Int → Bool) (x : Int) (t : Bool) (ht : f x = t) (w : World) (hm : MSet w b n f) (hx : inW x) :
    Calls Try.prog 130 #[.map (some b), .int .i64 x] w fun e w' => e = .returned (.bool t) ∧ Below w.heap.size w w' := by
  obtain ⟨D, hD, hf⟩ := hm
  have HT : Hid (Maps.has D (.int .i64 x) = t) := by show _ = _; rw [hf, ht]
  have HD := hid hD
  have HX := hid hx
  clear hD hx hf ht
  go_enter Try.func130, Try.ntmps130
  go_wp2_with (at_lookup; refine wpList_lookup_own_unit _ rfl _ _ 120 rfl 3 157 setLaw Try.underlying120 (zeroUn _) b n _ rfl HD.out _ _ rfl (Maps.keyOf_int_mk Try.underlying3 HX.out) ?_; rw [HT.out])
  go_wp2
  go_ret
  exact ⟨rfl, (Below.refl _ _).alloc (Nat.le_refl _) _⟩
end Go.Proofs.Ytnkpboobfkjibad
namespace Go.Proofs.Ytnkpboobfkjibad
open Go.RowKit

abbrev hasV (b : Nat) : Value := .func (.func 130) #[.map (some b)] #[]
theorem any_take (f : Int → Bool) (xs : List Int) (k : Nat) (hk : k < xs.length) : (xs.take (k + 1)).any f = ((xs.take k).any f || f (xs.getD k 0)) := by
  rw [List.take_succ_eq_append_getElem hk, List.any_append]
  simp [List.getD_eq_getElem?_getD, hk]
theorem any_true {f : Int → Bool} {xs : List Int} (k : Nat) (hk : k < xs.length) (h : f (xs.getD k 0) = true) : xs.any f = true := by
  rw [List.any_eq_true]
  exact ⟨xs.getD k 0, by simp [List.getD_eq_getElem?_getD, hk], h⟩
set_option maxRecDepth 100000 in
set_option maxHeartbeats 2000000 in
theorem sindex_any (b n : Nat) (f : Int → Bool) (v : Value) (xs : List Int) (w : World) (hr : KReads w v xs) (hm : MSet w b n f) (hw : ∀ x ∈ xs, inW x) :
    Calls Try.prog 165 #[v, hasV b] w fun e w' => ∃ r : Int, e = .returned (.int .i64 r) ∧ decide (0 ≤ r) = xs.any f ∧ Below w.heap.size w w' := by
  have HR := hid hr
  have HM := hid hm
  have HW := hid hw
  obtain ⟨a, cap, rfl, hl, _⟩ := hr
  clear hm hw
  go_enter Try.func165, Try.ntmps165
  go_wp2
  go_loopw [8] (fun i wr => ∃ k : Nat, k ≤ xs.length ∧ i = .int .i64 k ∧ (xs.take k).any f = false ∧ Below w.heap.size w wr) (fun i _ => xs.length - (intOf i).toNat)
  case atStart => exact ⟨0, Nat.zero_le _, rfl, rfl, Below.refl _ _⟩
  case round =>
    obtain ⟨k, hk, rfl, hall, hb⟩ := hrel
    have HL := hid hall
    have HB := hid hb
    clear hall hb
    by_cases hlt : k < xs.length
    · obtain ⟨g, o, cap', e, hc⟩ := (HR.out.below HB.out).cells k hlt
      cases e
      obtain ⟨x, hx0⟩ : ∃ x, x = xs.getD k 0 := ⟨_, rfl⟩
      have hck : wr.cell? ⟨g, o + k, none⟩ = some (.int .i64 x) := by rw [hx0]; exact hc k hlt
      have HX : Hid (inW x) := by
        refine HW.out x ?_
        rw [hx0]
        simp [List.getD_eq_getElem?_getD, hlt]
      obtain ⟨t, ht⟩ : ∃ t, f (xs.getD k 0) = t := ⟨_, rfl⟩
      have HK := hid ht
      have HKX : Hid (f x = t) := by rw [hx0]; exact ht
      have HS : Hid ((xs.take (k + 1)).any f = t) := by show _ = _; rw [any_take f xs k hlt, HL.out, ht, Bool.false_or]
      clear hc ht hx0
      go_wp2_with fail
      refine (ihass_eq b n f x t HKX.out _ (HM.out.below HB.out) HX.out).mono ?_
      rintro e w2 ⟨rfl, b2⟩
      have HB2 := hid (HB.out.trans (b2.mono HB.out.size))
      clear b2
      cases t
      · go_wp2
        go_roundw
        case rel => exact ⟨k + 1, by omega, by go_num, HS.out, HB2.out⟩
        case measure => simp [intOf]; omega
      · have hv : Hid (xs.any f = true) := any_true k hlt HK.out
        go_wp2
        go_ret
        exact ⟨_, rfl, by rw [hv.out]; simp, HB2.out⟩
    · have hv : Hid (xs.any f = false) := by show _ = _; have := HL.out; rw [List.take_of_length_le (by omega)] at this; exact this
      go_wp2
      go_ret
      exact ⟨_, rfl, by rw [hv.out]; rfl, HB.out⟩
set_option maxRecDepth 100000 in
theorem scontains_any (b n : Nat) (f : Int → Bool) (v : Value) (xs : List Int) (t : Bool) (ht : xs.any f = t) (w : World) (hr : KReads w v xs) (hm : MSet w b n f) (hw : ∀ x ∈ xs, inW x) :
    Calls Try.prog 101 #[v, hasV b] w fun e w' => e = .returned (.bool t) ∧ Below w.heap.size w w' := by
  have HR := hid hr
  have HM := hid hm
  have HW := hid hw
  have HT := hid ht
  clear hr ht hm hw
  go_enter Try.func101, Try.ntmps101
  go_wp2_with fail
  refine (sindex_any b n f v xs _ HR.out HM.out HW.out).mono ?_
  rintro e w' ⟨r, rfl, hd, b2⟩
  rw [HT.out] at hd
  have HB := hid b2
  clear b2
  go_wp2
  go_ret
  exact ⟨by rw [← hd]; rfl, HB.out⟩
end Go.Proofs.Ytnkpboobfkjibad
