/-
  (set).put: numbers go into a set. Nothing else is written.
  impl.setOf: a set of numbers. Nothing old is written.
  impl.goodLetters: whether an order is of unlike letters below many. Nothing old is written.
-/
import Derived.Test.YtijojdempijhbadISet
import Derived.Test.YtijojdempijhbadISortI
import Derived.Test.YtijojdempijhbadKOne
import Derived.Test.YtijojdempijhbadFlowFns
namespace Go.Proofs.Ytijojdempijhbad
open Go.RowKit

set_option maxRecDepth 100000 in
set_option maxHeartbeats 2000000 in
theorem iputs_any (b n : Nat) (f : Int → Bool) (v : Value) (xs : List Int) (w : World) (hm : MSet w b n f) (hr : KReads w v xs) (hw : ∀ x ∈ xs, inW x) (hn : n + xs.length ≤ 1000000) :
    Calls Try.prog 123 #[.map (some b), v] w fun e w' => e = .returned (.tuple #[]) ∧ MSet w' b (n + xs.length) (fun x => f x || xs.contains x) ∧ w.grownBy w' (some b) := by
  have HM := hid hm
  have HR := hid hr
  have HW := hid hw
  obtain ⟨a, cap, rfl, hl, _⟩ := hr
  clear hm hw
  go_enter Try.func123, Try.ntmps123
  go_wp2
  go_loopw [8] (fun i wr => ∃ k : Nat, k ≤ xs.length ∧ i = .int .i64 k ∧ MSet wr b (n + k) (fun x => f x || (xs.take k).contains x) ∧ w.grownBy wr (some b)) (fun i _ => xs.length - (intOf i).toNat)
  case atStart => exact ⟨0, Nat.zero_le _, rfl, HM.out.congr (fun x => by simp), World.grownBy.refl _ _⟩
  case round =>
    obtain ⟨k, hk, rfl, hs, hg⟩ := hrel
    have HS := hid hs
    have HG := hid hg
    clear hs hg
    by_cases hlt : k < xs.length
    · obtain ⟨g, o, cap', e, hc⟩ := (HR.out.grown HM.out HG.out).cells k hlt
      cases e
      obtain ⟨x, hx⟩ : ∃ x, x = xs.getD k 0 := ⟨_, rfl⟩
      have cx : wr.cell? ⟨g, o + k, none⟩ = some (.int .i64 x) := by rw [hx]; exact hc k hlt
      have HX : Hid (inW x) := by
        refine HW.out x ?_
        rw [hx]
        simp [List.getD_eq_getElem?_getD, hlt]
      have HT : Hid (∀ y, (xs.take (k + 1)).contains y = ((xs.take k).contains y || x == y)) := fun y => by rw [hx]; exact contains_take xs k hlt y
      have m0 : (0 : Int) ≤ (k : Int) := by omega
      have n1 : (k : Int) < (xs.length : Int) := by omega
      clear hx hc
      obtain ⟨D, hD, hf⟩ := HS.out
      have HD := hid hD
      have HF := hid hf
      clear hD hf HS
      go_wp2_with (at_mapUpdate; refine wpList_mapUpdate_own _ rfl _ _ _ 120 rfl 3 157 setLaw Try.underlying120 _ b (n + k) _ rfl HD.out (by unfold maxLen; omega) _ _ _ rfl rfl (Maps.keyOf_int_mk Try.underlying3 HX.out) _ [] unitElem_mk ?_; intro w1 hown1 hgrow1)
      have HO := hid hown1
      have HG1 := hid (HG.out.trans hgrow1)
      clear hown1 hgrow1
      go_wp2
      go_roundw
      case rel =>
        refine ⟨k + 1, by omega, by go_num, ⟨_, HO.out, fun y => ?_⟩, HG1.out⟩
        rw [has_put HD.out.isMap, HF.out]
        show ((f y || (xs.take k).contains y) || x == y) = (f y || (xs.take (k + 1)).contains y)
        rw [HT.out, Bool.or_assoc]
      case measure => simp [intOf]; omega
    · have HE : Hid (MSet wr b (n + xs.length) (fun x => f x || xs.contains x)) := by
        have h := HS.out
        rw [show k = xs.length by omega, List.take_length] at h
        exact h
      go_wp2
      go_end0
      exact ⟨rfl, HE.out, HG.out⟩
end Go.Proofs.Ytijojdempijhbad
namespace Go.Proofs.Ytijojdempijhbad
open Go.RowKit

theorem below_put {w w' w1 : World} {b : Nat} (h : Below w.heap.size w w1) (hg : w1.grownBy w' (some b)) (hb : w.heap.size ≤ b) : Below w.heap.size w w' := h.grown hg h.size (fun k e => by cases e; exact hb)
set_option maxRecDepth 100000 in
set_option maxHeartbeats 2000000 in
theorem isetof_any (v : Value) (xs : List Int) (w : World) (hr : KReads w v xs) (hw : ∀ x ∈ xs, inW x) (hn : xs.length ≤ 1000000) :
    Calls Try.prog 119 #[v] w fun e w' => e = .returned (.map (some w.heap.size)) ∧ MSet w' w.heap.size xs.length (fun x => xs.contains x) ∧ Below w.heap.size w w' := by
  have HR := hid hr
  have HW := hid hw
  have hmm := @run_makeMap Try.prog
  have HB : Hid (Below w.heap.size w (w.alloc (.map #[] 0))) := (Below.refl _ _).alloc (Nat.le_refl _) _
  have HM := hid (MSet.made w)
  clear hr hw
  go_enter Try.func119, Try.ntmps119
  go_wp2_with fail
  refine (iputs_any w.heap.size 0 _ v xs _ HM.out (HR.out.below HB.out) HW.out (by omega)).mono ?_
  rintro e w' ⟨rfl, hm, hg⟩
  have HM2 : Hid (MSet w' w.heap.size xs.length (fun x => xs.contains x)) := (hm.mono (by omega)).congr (fun x => by simp)
  have HB2 : Hid (Below w.heap.size w w') := below_put HB.out hg (Nat.le_refl _)
  clear hm hg
  go_wp2
  go_ret
  exact ⟨rfl, HM2.out, HB2.out⟩
end Go.Proofs.Ytijojdempijhbad
namespace Go.Proofs.Ytijojdempijhbad
open Go.RowKit

set_option maxRecDepth 100000 in
set_option maxHeartbeats 4000000 in
theorem igoodLet_eq (v : Value) (xs : List Int) (many : Int) (t : Bool) (h : oruB xs many = t) (hm : 0 ≤ many ∧ many ≤ 60) (hw : ∀ x ∈ xs, inW x) (w : World) (hr : KReads w v xs) :
    Calls Try.prog 134 #[v, .int .i64 many] w fun e w' => e = .returned (.bool t) ∧ Below w.heap.size w w' := by
  have HT := hid h
  have HR := hid hr
  have HW := hid hw
  obtain ⟨a, cap, rfl, hl, _⟩ := hr
  by_cases h60 : 60 < xs.length
  · have hd : decide ((60 : Int) < (xs.length : Int)) = true := by rw [decide_eq_true_eq]; omega
    have HV : Hid (t = false) := by
      show _ = _
      rw [← h, ← Bool.not_eq_true]
      intro hh
      have := oruB_len hh hm.2
      omega
    clear h h60 hw
    go_enter Try.func134, Try.ntmps134
    go_wp2
    go_ret
    exact ⟨by rw [HV.out]; rfl, Below.refl _ _⟩
  have hd : decide ((60 : Int) < (xs.length : Int)) = false := by rw [decide_eq_false_iff_not]; omega
  have HL : Hid (xs.length ≤ 60) := by show _ ≤ _; omega
  clear h h60 hw
  go_enter Try.func134, Try.ntmps134
  go_wp2_with fail
  refine (isetof_any _ xs _ HR.out HW.out (by have := HL.out; omega)).mono ?_
  rintro e w1 ⟨rfl, hm1, b1⟩
  have HM1 := hid hm1
  have HB1 := hid b1
  clear hm1 b1
  go_wp2_with fail
  refine (iinorder_any _ _ _ _ HM1.out (by have := HL.out; omega)).mono ?_
  rintro e w2 ⟨u, rfl, ys, o2, hlt, hmem, hlen, hin, b2⟩
  have HY := hid o2.reads
  have HB2 := hid (HB1.out.trans (b2.mono HB1.out.size))
  have HE : Hid ((decide (ys.length = xs.length) && risB ys many) = t) := by
    show _ = _
    rw [← HT.out]
    exact (oru_of_set hlt (fun x => by rw [hmem]; simp) many).symm
  obtain ⟨a2, cap2, hu, _⟩ := o2.reads
  subst hu
  clear o2 hlt hmem hin b2 HM1 HB1 hlen
  by_cases hq : ys.length = xs.length
  · obtain ⟨b3, hb3⟩ : ∃ b, risB ys many = b := ⟨_, rfl⟩
    have HB3 := hid hb3
    have HV : Hid (t = b3) := by show _ = _; rw [← HE.out, decide_eq_true hq, hb3]; rfl
    have hd2 : ((ys.length : Int) == (xs.length : Int)) = true := by rw [beq_iff_eq]; omega
    clear hb3 hq
    go_wp2_with fail
    refine (iris_eq _ ys many b3 HB3.out _ HY.out).mono ?_
    rintro e w' ⟨rfl, hw⟩; obtain rfl := hw.symm
    go_wp2
    go_ret
    exact ⟨by rw [HV.out]; simp, HB2.out⟩
  · have HV : Hid (t = false) := by show _ = _; rw [← HE.out, decide_eq_false hq]; rfl
    have hd2 : ((ys.length : Int) == (xs.length : Int)) = false := by rw [beq_eq_false_iff_ne]; omega
    clear hq
    go_wp2
    go_ret
    exact ⟨by rw [HV.out]; rfl, HB2.out⟩
end Go.Proofs.Ytijojdempijhbad
