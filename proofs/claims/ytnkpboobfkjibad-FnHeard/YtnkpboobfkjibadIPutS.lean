/-
  (set).put: numbers go into a set. Nothing else is written.
  impl.setOf: a set of numbers. Nothing old is written.
  impl.lettersIn: the letters of spans, as a set. Nothing old is written.
-/
import Derived.Test.YtnkpboobfkjibadISet
import Derived.Test.YtnkpboobfkjibadSpans
import Derived.Test.YtnkpboobfkjibadKSpanConv
import Derived.Test.YtnkpboobfkjibadKOne
import Derived.Test.YtnkpboobfkjibadBoxL
namespace Go.Proofs.Ytnkpboobfkjibad
open Go.RowKit

set_option maxRecDepth 100000 in
set_option maxHeartbeats 2000000 in
theorem iputs_any (b n : Nat) (f : Int → Bool) (v : Value) (xs : List Int) (w : World) (hm : MSet w b n f) (hr : KReads w v xs) (hw : ∀ x ∈ xs, inW x) (hn : n + xs.length ≤ 1000000) :
    Calls Try.prog 123 #[.map (some b), v] w fun e w' => e = .returned (.tuple #[]) ∧ MSet w' b (n + xs.length) (fun x => f x || xs.contains x) ∧ w.grownBy w' (some b) := by
  have HM := hid hm
  have HR := hid hr
  have HW := hid hw
  obtain ⟨a, cap, rfl, hl, _⟩ := hr
  clear hm hw
  go_enter Try.func123, Try.ntmps123
  go_wp2
  go_loopw [8] (fun i wr => ∃ k : Nat, k ≤ xs.length ∧ i = .int .i64 k ∧ MSet wr b (n + k) (fun x => f x || (xs.take k).contains x) ∧ w.grownBy wr (some b)) (fun i _ => xs.length - (intOf i).toNat)
  case atStart => exact ⟨0, Nat.zero_le _, rfl, HM.out.congr (fun x => by simp), World.grownBy.refl _ _⟩
  case round =>
    obtain ⟨k, hk, rfl, hs, hg⟩ := hrel
    have HS := hid hs
    have HG := hid hg
    clear hs hg
    by_cases hlt : k < xs.length
    · obtain ⟨g, o, cap', e, hc⟩ := (HR.out.grown HM.out HG.out).cells k hlt
      cases e
      obtain ⟨x, hx⟩ : ∃ x, x = xs.getD k 0 := ⟨_, rfl⟩
      have cx : wr.cell? ⟨g, o + k, none⟩ = some (.int .i64 x) := by rw [hx]; exact hc k hlt
      have HX : Hid (inW x) := by
        refine HW.out x ?_
        rw [hx]
        simp [List.getD_eq_getElem?_getD, hlt]
      have HT : Hid (∀ y, (xs.take (k + 1)).contains y = ((xs.take k).contains y || x == y)) := fun y => by rw [hx]; exact contains_take xs k hlt y
      have m0 : (0 : Int) ≤ (k : Int) := by omega
      have n1 : (k : Int) < (xs.length : Int) := by omega
      clear hx hc
      obtain ⟨D, hD, hf⟩ := HS.out
      have HD := hid hD
      have HF := hid hf
      clear hD hf HS
      go_wp2_with (at_mapUpdate; refine wpList_mapUpdate_own _ rfl _ _ _ 120 rfl 3 157 setLaw Try.underlying120 _ b (n + k) _ rfl HD.out (by unfold maxLen; omega) _ _ _ rfl rfl (Maps.keyOf_int_mk Try.underlying3 HX.out) _ [] unitElem_mk ?_; intro w1 hown1 hgrow1)
      have HO := hid hown1
      have HG1 := hid (HG.out.trans hgrow1)
      clear hown1 hgrow1
      go_wp2
      go_roundw
      case rel =>
        refine ⟨k + 1, by omega, by go_num, ⟨_, HO.out, fun y => ?_⟩, HG1.out⟩
        rw [has_put HD.out.isMap, HF.out]
        show ((f y || (xs.take k).contains y) || x == y) = (f y || (xs.take (k + 1)).contains y)
        rw [HT.out, Bool.or_assoc]
      case measure => simp [intOf]; omega
    · have HE : Hid (MSet wr b (n + xs.length) (fun x => f x || xs.contains x)) := by
        have h := HS.out
        rw [show k = xs.length by omega, List.take_length] at h
        exact h
      go_wp2
      go_end0
      exact ⟨rfl, HE.out, HG.out⟩
end Go.Proofs.Ytnkpboobfkjibad
namespace Go.Proofs.Ytnkpboobfkjibad
open Go.RowKit

theorem below_put {w w' w1 : World} {b : Nat} (h : Below w.heap.size w w1) (hg : w1.grownBy w' (some b)) (hb : w.heap.size ≤ b) : Below w.heap.size w w' := h.grown hg h.size (fun k e => by cases e; exact hb)
set_option maxRecDepth 100000 in
set_option maxHeartbeats 2000000 in
theorem isetof_any (v : Value) (xs : List Int) (w : World) (hr : KReads w v xs) (hw : ∀ x ∈ xs, inW x) (hn : xs.length ≤ 1000000) :
    Calls Try.prog 119 #[v] w fun e w' => e = .returned (.map (some w.heap.size)) ∧ MSet w' w.heap.size xs.length (fun x => xs.contains x) ∧ Below w.heap.size w w' := by
  have HR := hid hr
  have HW := hid hw
  have hmm := @run_makeMap Try.prog
  have HB : Hid (Below w.heap.size w (w.alloc (.map #[] 0))) := (Below.refl _ _).alloc (Nat.le_refl _) _
  have HM := hid (MSet.made w)
  clear hr hw
  go_enter Try.func119, Try.ntmps119
  go_wp2_with fail
  refine (iputs_any w.heap.size 0 _ v xs _ HM.out (HR.out.below HB.out) HW.out (by omega)).mono ?_
  rintro e w' ⟨rfl, hm, hg⟩
  have HM2 : Hid (MSet w' w.heap.size xs.length (fun x => xs.contains x)) := (hm.mono (by omega)).congr (fun x => by simp)
  have HB2 : Hid (Below w.heap.size w w') := below_put HB.out hg (Nat.le_refl _)
  clear hm hg
  go_wp2
  go_ret
  exact ⟨rfl, HM2.out, HB2.out⟩
end Go.Proofs.Ytnkpboobfkjibad
namespace Go.Proofs.Ytnkpboobfkjibad
open Go.RowKit

def upB (p q x : Int) : Bool := decide (p ≤ x) && decide (x < q)
theorem upB_step (p z x : Int) (hz : p ≤ z) : upB p (z + 1) x = (upB p z x || [z].contains x) := by
  rw [Bool.eq_iff_iff]
  simp only [upB, Bool.or_eq_true, Bool.and_eq_true, decide_eq_true_eq, List.contains_eq_mem, List.mem_singleton]
  omega
theorem upB_none (p x : Int) : upB p p x = false := by
  rw [← Bool.not_eq_true]
  simp only [upB, Bool.and_eq_true, decide_eq_true_eq]
  omega
theorem upB_past (p q x : Int) (h : q ≤ p) : upB p q x = false := by
  rw [← Bool.not_eq_true]
  simp only [upB, Bool.and_eq_true, decide_eq_true_eq]
  omega
set_option maxRecDepth 100000 in
set_option maxHeartbeats 4000000 in
theorem iletters_any (v : Value) (xs : List Sp) (w : World) (hr : SReads w v xs) (hn : xs.length ≤ 1000) (hin : ∀ k, k < xs.length → 0 ≤ (xs.getD k (0, 0)).1 ∧ (xs.getD k (0, 0)).2 ≤ 60) :
    Calls Try.prog 117 #[v] w fun e w' => e = .returned (.map (some w.heap.size)) ∧ (∃ m, m ≤ 60 * xs.length ∧ MSet w' w.heap.size m (fun x => hasL xs x)) ∧ Below w.heap.size w w' := by
  obtain ⟨a, cap, rfl, hl, hx⟩ := hr
  have HC := hid hx
  have HI := hid hin
  have hmm := @run_makeMap Try.prog
  have HB : Hid (Below w.heap.size w (w.alloc (.map #[] 0))) := (Below.refl _ _).alloc (Nat.le_refl _) _
  have HM := hid (MSet.made w)
  clear hx hin
  go_enter Try.func117, Try.ntmps117
  go_wp2
  go_loopw [10] (fun i wr => ∃ k : Nat, k ≤ xs.length ∧ i = .int .i64 k ∧ (∃ m, m ≤ 60 * k ∧ MSet wr w.heap.size m (fun x => hasL (xs.take k) x)) ∧ Below w.heap.size w wr) (fun i _ => xs.length - (intOf i).toNat)
  case atStart => exact ⟨0, Nat.zero_le _, rfl, ⟨0, Nat.le_refl _, HM.out⟩, HB.out⟩
  case round =>
    obtain ⟨k, hk, rfl, ⟨m, hm, hs⟩, hal⟩ := hrel
    have HS := hid hs
    clear hs
    by_cases hlt : k < xs.length
    · obtain ⟨ga, oa, rfl, hca⟩ : ∃ b off, a = some ⟨b, off, none⟩ ∧ ∀ i, i < xs.length → w.cell? ⟨b, off + i * 2, none⟩ = some (.int .i64 (xs.getD i (0, 0)).1) ∧ w.cell? ⟨b, off + i * 2 + 1, none⟩ = some (.int .i64 (xs.getD i (0, 0)).2) := by
        rcases HC.out with h | h
        · subst h; simp at hlt
        · exact h
      have h1 := (hal.cell (p := ⟨ga, oa + k * 2, none⟩) (lt_of_cell (hca k hlt).1)).trans (hca k hlt).1
      have h2 := (hal.cell (p := ⟨ga, oa + k * 2 + 1, none⟩) (lt_of_cell (hca k hlt).2)).trans (hca k hlt).2
      have HL := hid hal
      obtain ⟨i1, i2⟩ := HI.out k hlt
      obtain ⟨p, hp⟩ : ∃ p, p = (xs.getD k (0, 0)).1 := ⟨_, rfl⟩
      obtain ⟨q, hq⟩ : ∃ q, q = (xs.getD k (0, 0)).2 := ⟨_, rfl⟩
      have HT : Hid (∀ x, hasL (xs.take (k + 1)) x = (hasL (xs.take k) x || upB p q x)) := fun x => by rw [has_take_succ xs k x hlt, hp, hq]; rfl
      rw [← hp] at h1 i1
      rw [← hq] at h2 i2
      clear hca hal hp hq
      obtain ⟨W1, hW1⟩ : ∃ W1, W1 = wr.alloc (.cells #[.int .i64 p, .int .i64 q] 133) := ⟨_, rfl⟩
      have hbx := boxL_new wr [.int .i64 p, .int .i64 q] 133
      have c0 : W1.cell? ⟨wr.heap.size, 0, none⟩ = some (.int .i64 p) := by rw [hW1]; exact hbx.two.1
      have c1 : W1.cell? ⟨wr.heap.size, 1, none⟩ = some (.int .i64 q) := by rw [hW1]; exact hbx.two.2
      have HW1 := hid hW1
      have HS1 : Hid (MSet W1 w.heap.size m (fun x => hasL (xs.take k) x)) := by rw [hW1]; exact HS.out.below ((Below.refl _ _).alloc (Nat.le_refl _) _)
      have HB1 : Hid (Below w.heap.size w W1) := by rw [hW1]; exact HL.out.alloc HL.out.size _
      have hs1 : W1.heap.size = wr.heap.size + 1 := by rw [hW1]; simp
      have HZ := hid hs1
      have hws := HL.out.size
      have hbb := HS.out.lt
      have HCE : Hid (∀ W', W1.grownBy W' (some w.heap.size) → W'.cell? ⟨wr.heap.size, 0, none⟩ = some (.int .i64 p) ∧ W'.cell? ⟨wr.heap.size, 1, none⟩ = some (.int .i64 q)) := fun W' h =>
        ⟨h.cell (a := ⟨wr.heap.size, 0, none⟩) c0 (by simp; omega), h.cell (a := ⟨wr.heap.size, 1, none⟩) c1 (by simp; omega)⟩
      clear HS hW1 hs1 c0 c1 hbx
      go_wp2
      rw [← HW1.out]
      clear HW1
      go_loopw [6] (fun zv wr' => ∃ z : Int, zv = .int .i64 z ∧ p ≤ z ∧ (z ≤ q ∨ z = p) ∧ MSet wr' w.heap.size (m + (z - p).toNat) (fun x => hasL (xs.take k) x || upB p z x) ∧ W1.grownBy wr' (some w.heap.size)) (fun zv _ => (q - intOf zv).toNat)
      case atStart =>
        exact ⟨p, rfl, Int.le_refl _, .inr rfl, (HS1.out.mono (by omega)).congr (fun x => by rw [upB_none]; simp), World.grownBy.refl _ _⟩
      case round =>
        obtain ⟨z, rfl, hz, hzq, hs2, hg2⟩ := hrel
        have HS2 := hid hs2
        have HG2 := hid hg2
        clear hs2 hg2
        obtain ⟨d0, d1⟩ := HCE.out _ HG2.out
        by_cases hzl : z < q
        · have hzd : z ≤ 60 := by omega
          go_wp2_with fail
          refine (iputs_any w.heap.size (m + (z - p).toNat) _ _ [z] _ (HS2.out.below ((Below.refl _ _).alloc (Nat.le_refl _) _)) (kreads_int _ _) (fun y hy => by rw [List.mem_singleton] at hy; rw [hy]; exact inW_small (by omega) (by omega)) (by simp; omega)).mono ?_
          rintro e w4 ⟨rfl, hm4, hg4⟩
          have HM4 : Hid (MSet w4 w.heap.size (m + (z + 1 - p).toNat) (fun x => hasL (xs.take k) x || upB p (z + 1) x)) := (hm4.mono (by simp; omega)).congr (fun x => by rw [upB_step p z x hz, Bool.or_assoc])
          have HG4 : Hid (W1.grownBy w4 (some w.heap.size)) := (HG2.out.trans (World.grownBy_alloc _ _ _)).trans hg4
          clear hm4 hg4
          go_wp2
          go_roundw
          case rel => exact ⟨z + 1, by go_num, by omega, by omega, HM4.out, HG4.out⟩
          case measure => simp [intOf]; omega
        · have HE : Hid (∃ m', m' ≤ 60 * (k + 1) ∧ MSet wr w.heap.size m' (fun x => hasL (xs.take (k + 1)) x)) := by
            refine ⟨_, ?_, HS2.out.congr (fun x => ?_)⟩
            · omega
            · rw [HT.out]
              rcases hzq with h | h
              · rw [show z = q by omega]
              · rw [h, upB_none, upB_past p q x (by omega)]
          have HB3 : Hid (Below w.heap.size w wr) := below_put HB1.out HG2.out (Nat.le_refl _)
          go_wp2
          go_roundw
          case rel => exact ⟨k + 1, by omega, by go_num, HE.out, HB3.out⟩
          case measure => simp [intOf]; omega
    · have HE : Hid (∃ m', m' ≤ 60 * xs.length ∧ MSet wr w.heap.size m' (fun x => hasL xs x)) := by
        refine ⟨m, by omega, ?_⟩
        have h := HS.out
        rw [show k = xs.length by omega, List.take_length] at h
        exact h
      have HL := hid hal
      clear hal
      go_wp2
      go_ret
      exact ⟨rfl, HE.out, HL.out⟩
end Go.Proofs.Ytnkpboobfkjibad
