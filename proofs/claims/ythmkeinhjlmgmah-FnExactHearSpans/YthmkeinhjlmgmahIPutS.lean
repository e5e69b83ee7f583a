/-
  (set).put: numbers go into a set. Nothing else is written.
  impl.setOf: a set of numbers. Nothing old is written.
  (set).without: those of a set that are not in another. Nothing old is written.
-/
import Derived.Test.YthmkeinhjlmgmahISet
import Derived.Test.YthmkeinhjlmgmahIRows
namespace Go.Proofs.Ythmkeinhjlmgmah
open Go.RowKit

set_option maxRecDepth 100000 in
set_option maxHeartbeats 2000000 in
theorem iputs_any (b n : Nat) (f : Int → Bool) (v : Value) (xs : List Int) (w : World) (hm : MSet w b n f) (hr : KReads w v xs) (hw : ∀ x ∈ xs, inW x) (hn : n + xs.length ≤ 1000000) :
    Calls Try.prog 62 #[.map (some b), v] w fun e w' => e = .returned (.tuple #[]) ∧ MSet w' b (n + xs.length) (fun x => f x || xs.contains x) ∧ w.grownBy w' (some b) := by
  have HM := hid hm
  have HR := hid hr
  have HW := hid hw
  obtain ⟨a, cap, rfl, hl, _⟩ := hr
  clear hm hw
  go_enter Try.func62, Try.ntmps62
  go_wp2
  go_loopw [8] (fun i wr => ∃ k : Nat, k ≤ xs.length ∧ i = .int .i64 k ∧ MSet wr b (n + k) (fun x => f x || (xs.take k).contains x) ∧ w.grownBy wr (some b)) (fun i _ => xs.length - (intOf i).toNat)
  case atStart => exact ⟨0, Nat.zero_le _, rfl, HM.out.congr (fun x => by simp), World.grownBy.refl _ _⟩
  case round =>
    obtain ⟨k, hk, rfl, hs, hg⟩ := hrel
    have HS := hid hs
    have HG := hid hg
    clear hs hg
    by_cases hlt : k < xs.length
    · obtain ⟨g, o, cap', e, hc⟩ := (HR.out.grown HM.out HG.out).cells k hlt
      cases e
      obtain ⟨x, hx⟩ : ∃ x, x = xs.getD k 0 := ⟨_, rfl⟩
      have cx : wr.cell? ⟨g, o + k, none⟩ = some (.int .i64 x) := by rw [hx]; exact hc k hlt
      have HX : Hid (inW x) := by
        refine HW.out x ?_
        rw [hx]
        simp [List.getD_eq_getElem?_getD, hlt]
      have HT : Hid (∀ y, (xs.take (k + 1)).contains y = ((xs.take k).contains y || x == y)) := fun y => by rw [hx]; exact contains_take xs k hlt y
      have m0 : (0 : Int) ≤ (k : Int) := by omega
      have n1 : (k : Int) < (xs.length : Int) := by omega
      clear hx hc
      obtain ⟨D, hD, hf⟩ := HS.out
      have HD := hid hD
      have HF := hid hf
      clear hD hf HS
      go_wp2_with (at_mapUpdate; refine wpList_mapUpdate_own _ rfl _ _ _ 71 rfl 3 95 setLaw Try.underlying71 _ b (n + k) _ rfl HD.out (by unfold maxLen; omega) _ _ _ rfl rfl (Maps.keyOf_int_mk Try.underlying3 HX.out) _ [] unitElem_mk ?_; intro w1 hown1 hgrow1)
      have HO := hid hown1
      have HG1 := hid (HG.out.trans hgrow1)
      clear hown1 hgrow1
      go_wp2
      go_roundw
      case rel =>
        refine ⟨k + 1, by omega, by go_num, ⟨_, HO.out, fun y => ?_⟩, HG1.out⟩
        rw [has_put HD.out.isMap, HF.out]
        show ((f y || (xs.take k).contains y) || x == y) = (f y || (xs.take (k + 1)).contains y)
        rw [HT.out, Bool.or_assoc]
      case measure => simp [intOf]; omega
    · have HE : Hid (MSet wr b (n + xs.length) (fun x => f x || xs.contains x)) := by
        have h := HS.out
        rw [show k = xs.length by omega, List.take_length] at h
        exact h
      go_wp2
      go_end0
      exact ⟨rfl, HE.out, HG.out⟩
end Go.Proofs.Ythmkeinhjlmgmah
namespace Go.Proofs.Ythmkeinhjlmgmah
open Go.RowKit

theorem below_put {w w' w1 : World} {b : Nat} (h : Below w.heap.size w w1) (hg : w1.grownBy w' (some b)) (hb : w.heap.size ≤ b) : Below w.heap.size w w' := h.grown hg h.size (fun k e => by cases e; exact hb)
set_option maxRecDepth 100000 in
set_option maxHeartbeats 2000000 in
theorem isetof_any (v : Value) (xs : List Int) (w : World) (hr : KReads w v xs) (hw : ∀ x ∈ xs, inW x) (hn : xs.length ≤ 1000000) :
    Calls Try.prog 58 #[v] w fun e w' => e = .returned (.map (some w.heap.size)) ∧ MSet w' w.heap.size xs.length (fun x => xs.contains x) ∧ Below w.heap.size w w' := by
  have HR := hid hr
  have HW := hid hw
  have hmm := @run_makeMap Try.prog
  have HB : Hid (Below w.heap.size w (w.alloc (.map #[] 0))) := (Below.refl _ _).alloc (Nat.le_refl _) _
  have HM := hid (MSet.made w)
  clear hr hw
  go_enter Try.func58, Try.ntmps58
  go_wp2_with fail
  refine (iputs_any w.heap.size 0 _ v xs _ HM.out (HR.out.below HB.out) HW.out (by omega)).mono ?_
  rintro e w' ⟨rfl, hm, hg⟩
  have HM2 : Hid (MSet w' w.heap.size xs.length (fun x => xs.contains x)) := (hm.mono (by omega)).congr (fun x => by simp)
  have HB2 : Hid (Below w.heap.size w w') := below_put HB.out hg (Nat.le_refl _)
  clear hm hg
  go_wp2
  go_ret
  exact ⟨rfl, HM2.out, HB2.out⟩
end Go.Proofs.Ythmkeinhjlmgmah
namespace Go.Proofs.Ythmkeinhjlmgmah
open Go.RowKit

set_option maxRecDepth 100000 in
set_option maxHeartbeats 4000000 in
theorem iwithout_any (b c n m : Nat) (f g : Int → Bool) (w : World) (hm : MSet w b n f) (ho : MSet w c m g) (hn : n ≤ 100000) :
    Calls Try.prog 57 #[.map (some b), .map (some c)] w fun e w' => e = .returned (.map (some w.heap.size)) ∧ MSet w' w.heap.size n (fun x => f x && !g x) ∧ Below w.heap.size w w' := by
  have hbl := hm.lt
  have HO := hid ho
  obtain ⟨D, hD, hf⟩ := hm
  have hsz := hD.size_le
  have HD := hid hD
  have HF := hid hf
  have hmm := @run_makeMap Try.prog
  have e1 : (w.alloc (.map #[] 0)).heap.size = w.heap.size + 1 := by simp
  have HB : Hid (Below w.heap.size w (w.alloc (.map #[] 0))) := (Below.refl _ _).alloc (Nat.le_refl _) _
  have HM := hid (MSet.made w)
  have E1 := hid e1
  clear hD hf ho e1
  go_enter Try.func57, Try.ntmps57
  go_wp2_with (at_range; refine wpList_range_own _ rfl _ 71 rfl 3 95 setLaw Try.underlying71 _ b n _ rfl (HD.out.alloc _) ?_; intro w0 hrg0 hg0 hs0)
  go_frame
  rw [E1.out] at hrg0 hs0 ⊢
  go_loopw [10] (fun _ wr => ∃ (left : Lit → Bool) (cnt : Nat) (h : Int → Bool), wr.ranges Try.prog 3 uE b (w.heap.size + 1) n D left cnt ∧ cnt ≤ n ∧
      MSet wr w.heap.size (n - cnt) h ∧ (∀ x, h x = (f x && !left (.int .i64 x) && !g x)) ∧ Below w.heap.size w wr)
    (fun _ wr => wr.rangeLeft b (w.heap.size + 1))
  case atStart =>
    refine ⟨_, _, _, hrg0, hsz, ((HM.out.of_block (hg0.block _ (by rw [E1.out]; omega) (by simp))).mono (Nat.zero_le _)), fun x => ?_, HB.out.grown hg0 HB.out.size (fun j hj => by cases hj)⟩
    rw [HF.out]
    cases f x <;> rfl
  case round =>
    obtain ⟨left, cnt, h, hrg, hcs, hs, hh, hb⟩ := hrel
    have HS := hid hs
    have HH := hid hh
    have HBW := hid hb
    have hsz1 := hb.size
    clear hs hh hb
    go_wp2_with (at_next; refine wpList_next_ranges _ rfl _ rfl 3 setLaw uE (Value.int .i64) (fun _ : Unit => Value.agg #[]) (fun key kl hk => by obtain ⟨x, rfl, _⟩ := Maps.keyOf_int_inv Try.underlying3 hk; exact ⟨x, rfl⟩) (fun v y hv => ⟨(), (unitElem_inv hv).1⟩) b (w.heap.size + 1) n _ _ _ rfl hrg ?_ ?_)
    · intro hc0 hl0
      have HE : Hid (MSet wr w.heap.size n (fun x => f x && !g x)) := (HS.out.mono (by omega)).congr (fun x => by rw [HH.out, hl0]; simp)
      clear hl0
      go_wp2
      go_ret
      exact ⟨rfl, HE.out, HBW.out⟩
    · intro x kl yd yp w1 cnt1 hkey hlk hv hat hrg1 hlt hg1 hs1 hen
      obtain ⟨x', ex, rfl, hwx⟩ := Maps.keyOf_int_inv Try.underlying3 hkey
      cases ex
      have HFX : Hid (f x = true) := by show _ = _; rw [← HF.out]; exact Maps.has_true_of_atKey hat
      have HL : Hid (∀ y : Int, (left (.int .i64 y) && !(Lit.int .i64 y).sameKey (.int .i64 x)) = (left (.int .i64 y) && !(x == y))) := fun y => by
        by_cases e : y = x
        · subst e; rw [same_self]; simp
        · rw [same_other e]; simp [Ne.symm e]
      have HRG := hid hrg1
      have HWX := hid hwx
      have HS1 : Hid (MSet w1 w.heap.size (n - cnt) h) := HS.out.grown hg1 (by omega)
      have HB1 : Hid (Below w.heap.size w w1) := HBW.out.grown hg1 hsz1 (fun j hj => by cases hj; omega)
      have hsz2 := HB1.out.size
      have HO1 : Hid (MSet w1 c m g) := HO.out.below HB1.out
      have HLE : Hid (w1.rangeLeft b (w.heap.size + 1) = cnt1) := hrg1.left_eq
      have HLE0 : Hid (wr.rangeLeft b (w.heap.size + 1) = cnt) := hrg.left_eq
      have HLT := hid hlt
      have HS0 := hid hs1
      clear hkey hlk hv hat hrg1 hrg hg1 hs1 HS HO hlt
      obtain ⟨q, hq⟩ : ∃ q, g x = q := ⟨_, rfl⟩
      have HQ := hid hq
      clear hq
      go_wp2_with fail
      refine (ihass_eq c m g x q HQ.out _ HO1.out HWX.out).mono ?_
      rintro e w2 ⟨rfl, b2⟩
      have HS2 : Hid (MSet w2 w.heap.size (n - cnt) h) := HS1.out.below b2
      have HRG2 : Hid (w2.ranges Try.prog 3 uE b (w.heap.size + 1) n D (fun z => left z && !z.sameKey (.int .i64 x)) cnt1) := HRG.out.kept (row := none) ⟨b2.os, b2.tape, b2.output, b2.size, fun i hi _ => b2.block i hi⟩ (by simp) (by simp)
      have HB2 : Hid (Below w.heap.size w w2) := HB1.out.trans (b2.mono hsz2)
      have hsz3 := HB2.out.size
      clear b2 HS1 HRG hen
      have hle := HLT.out
      cases q
      · go_wp2_with fail
        have HB3 : Hid (Below w.heap.size w (w2.alloc (.cells #[.int .i64 x] 3))) := HB2.out.alloc hsz3 _
        have HS3 : Hid (MSet (w2.alloc (.cells #[.int .i64 x] 3)) w.heap.size (n - cnt) h) := HS2.out.below ((Below.refl _ _).alloc (Nat.le_refl _) _)
        refine (iputs_any w.heap.size (n - cnt) h _ [x] _ HS3.out (kreads_int _ _) (fun y hy => by rw [List.mem_singleton] at hy; rw [hy]; exact HWX.out) (by simp; omega)).mono ?_
        rintro e w4 ⟨rfl, hm4, hg4⟩
        have HM4 := hid hm4
        have HG4 := hid hg4
        have HRG4 : Hid (w4.ranges Try.prog 3 uE b (w.heap.size + 1) n D (fun z => left z && !z.sameKey (.int .i64 x)) cnt1) := (HRG2.out.alloc _).kept hg4 (by simp; omega) (by simp)
        clear hm4 hg4
        go_wp2
        go_roundw
        case rel =>
          refine ⟨_, cnt1, _, HRG4.out, by omega, HM4.out.mono (by simp; omega), fun y => ?_, below_put HB3.out HG4.out (Nat.le_refl _)⟩
          show (h y || [x].contains y) = (f y && !(left (.int .i64 y) && !(Lit.int .i64 y).sameKey (.int .i64 x)) && !g y)
          rw [HL.out, HH.out]
          by_cases e : x = y
          · subst e; rw [HFX.out, HQ.out]; simp
          · rw [show [x].contains y = false by simp [Ne.symm e], show (x == y) = false by simpa using e]; simp
        case measure => rw [HRG4.out.left_eq, HLE0.out]; exact HLT.out
      · go_wp2
        go_roundw
        case rel =>
          refine ⟨_, cnt1, _, HRG2.out, by omega, HS2.out.mono (by omega), fun y => ?_, HB2.out⟩
          show h y = (f y && !(left (.int .i64 y) && !(Lit.int .i64 y).sameKey (.int .i64 x)) && !g y)
          rw [HL.out, HH.out]
          by_cases e : x = y
          · subst e; rw [HQ.out]; simp
          · rw [show (x == y) = false by simpa using e]; simp
        case measure => rw [HRG2.out.left_eq, HLE0.out]; exact HLT.out
end Go.Proofs.Ythmkeinhjlmgmah
