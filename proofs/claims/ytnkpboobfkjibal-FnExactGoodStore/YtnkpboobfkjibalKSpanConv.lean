/-
  The two ways of saying what spans lie where, one out of the other. Plain facts on the memory.
  spec.l11Below: whether spans are good and below many. Nothing old is written.
  impl.endOf, impl.spansBelow: whether spans are good and below many. Nothing old is written.
-/
import Derived.Test.YtnkpboobfkjibalSpans
import Derived.Test.YtnkpboobfkjibalKSpanRows
import Derived.Test.YtnkpboobfkjibalFlowFns
import Derived.Test.YtnkpboobfkjibalSGood
import Derived.Test.YtnkpboobfkjibalGoodSpan
namespace Go.Proofs.Ytnkpboobfkjibal
open Go.RowKit

theorem SpReads.s {w : World} {v : Value} {xs : List Sp} (h : SpReads w v xs) : SReads w v xs := h
theorem SOwn.k {base : Nat} {w : World} {v : Value} {xs : List Sp} (h : SOwn base w v xs) : SpOwn base w.heap.size w v xs := by
  obtain ⟨hl, h⟩ := h
  rcases h with ⟨a, rfl, rfl⟩ | ⟨g, cap, rfl, hg, hf⟩
  · exact ⟨hl, .inl ⟨a, 0, rfl, rfl⟩⟩
  · by_cases h0 : xs = []
    · subst h0
      exact ⟨hl, .inl ⟨_, cap, rfl, rfl⟩⟩
    · exact ⟨hl, .inr ⟨g, cap, rfl, ⟨hg.1, lt_of_cell (hf 0 (List.length_pos_iff.2 h0)).1.1, hg.2⟩, hf⟩⟩
end Go.Proofs.Ytnkpboobfkjibal
namespace Go.Proofs.Ytnkpboobfkjibal
open Go.RowKit

set_option maxRecDepth 100000 in
set_option maxHeartbeats 4000000 in
theorem sbel_eq (v : Value) (xs : List Sp) (many : Int) (t : Bool) (h : belB xs many = t) (w : World) (hr : SpReads w v xs) :
    Calls Try.prog 26 #[v, .int .i64 many] w fun e w' => e = .returned (.bool t) ∧ Below w.heap.size w w' := by
  have HT := hid h
  have HR := hid hr
  obtain ⟨a, cap, rfl, hl, _⟩ := hr
  clear h
  go_enter Try.func26, Try.ntmps26
  go_wp2_with fail
  refine (sgood_any _ xs _ HR.out.s).mono ?_
  rintro e w1 ⟨rfl, b1⟩
  have HB := hid b1
  have HR1 := hid (HR.out.below b1)
  clear b1
  obtain ⟨g1, hg1⟩ : ∃ b, goodL xs = b := ⟨_, rfl⟩
  rw [hg1]
  have HG := hid hg1
  clear hg1
  cases g1
  · have HV : Hid (t = false) := by show _ = _; rw [← HT.out]; unfold belB; rw [HG.out]; rfl
    go_wp2
    go_ret
    exact ⟨by rw [HV.out]; rfl, HB.out⟩
  by_cases h0 : xs.length = 0
  · have HV : Hid (t = true) := by show _ = _; rw [← HT.out]; unfold belB; rw [HG.out, decide_eq_true h0]; rfl
    have hd : ((xs.length : Int) == 0) = true := by rw [beq_iff_eq]; omega
    clear h0
    go_wp2
    go_ret
    exact ⟨by rw [HV.out]; rfl, HB.out⟩
  · have hd : ((xs.length : Int) == 0) = false := by rw [beq_eq_false_iff_ne]; omega
    obtain ⟨g, o, cap', e, hc⟩ := HR1.out.cells 0 (by omega)
    cases e
    obtain ⟨k1, hk1⟩ : ∃ k1, k1 = xs.length - 1 := ⟨_, rfl⟩
    have hw1 : IntKind.i64.wrap ((xs.length : Int) - 1) = (k1 : Int) := by rw [hk1, IntKind.wrap_i64]; omega
    obtain ⟨z, hz⟩ : ∃ z, z = lastTo xs := ⟨_, rfl⟩
    have cz : w1.cell? ⟨g, o + k1 * 2 + 1, none⟩ = some (.int .i64 z) := by rw [hz, hk1]; exact (hc (xs.length - 1) (by omega)).2
    have i0 : (0 : Int) ≤ (k1 : Int) := by omega
    have i1 : (k1 : Int) < (xs.length : Int) := by omega
    have HV : Hid (t = decide (z ≤ many)) := by show _ = _; rw [← HT.out]; unfold belB; rw [HG.out, decide_eq_false h0, ← hz]; rfl
    clear hk1 hz hc h0
    go_wp2
    go_ret
    exact ⟨by rw [HV.out]; rfl, HB.out⟩
end Go.Proofs.Ytnkpboobfkjibal
namespace Go.Proofs.Ytnkpboobfkjibal
open Go.RowKit

def endN (l : List Sp) : Int := bif decide (l.length = 0) then 0 else lastTo l
set_option maxRecDepth 100000 in
set_option maxHeartbeats 4000000 in
theorem iend_eq (v : Value) (xs : List Sp) (z : Int) (h : endN xs = z) (w : World) (hr : SpReads w v xs) :
    Calls Try.prog 42 #[v] w fun e w' => e = .returned (.int .i64 z) ∧ w' = w := by
  have HR := hid hr
  obtain ⟨a, cap, rfl, hl, _⟩ := hr
  by_cases h0 : xs.length = 0
  · have HV : Hid (z = 0) := by show _ = _; rw [← h]; unfold endN; rw [decide_eq_true h0]; rfl
    have hd : ((xs.length : Int) == 0) = true := by rw [beq_iff_eq]; omega
    clear h0 h
    go_enter Try.func42, Try.ntmps42
    go_wp2
    go_ret
    exact ⟨by rw [HV.out]; rfl, rfl⟩
  · have hd : ((xs.length : Int) == 0) = false := by rw [beq_eq_false_iff_ne]; omega
    obtain ⟨g, o, cap', e, hc⟩ := HR.out.cells 0 (by omega)
    cases e
    obtain ⟨k1, hk1⟩ : ∃ k1, k1 = xs.length - 1 := ⟨_, rfl⟩
    have hw1 : IntKind.i64.wrap ((xs.length : Int) - 1) = (k1 : Int) := by rw [hk1, IntKind.wrap_i64]; omega
    have hz : z = lastTo xs := by rw [← h]; unfold endN; rw [decide_eq_false h0]; rfl
    have cz : w.cell? ⟨g, o + k1 * 2 + 1, none⟩ = some (.int .i64 z) := by rw [hz, hk1]; exact (hc (xs.length - 1) (by omega)).2
    have i0 : (0 : Int) ≤ (k1 : Int) := by omega
    have i1 : (k1 : Int) < (xs.length : Int) := by omega
    clear hk1 hz hc h0 h
    go_enter Try.func42, Try.ntmps42
    go_wp2
    go_ret
    exact ⟨rfl, rfl⟩
set_option maxRecDepth 100000 in
set_option maxHeartbeats 4000000 in
theorem ibel_eq (v : Value) (xs : List Sp) (many : Int) (t : Bool) (h : belB xs many = t) (hm : 0 ≤ many) (w : World) (hr : SpReads w v xs) :
    Calls Try.prog 34 #[v, .int .i64 many] w fun e w' => e = .returned (.bool t) ∧ Below w.heap.size w w' := by
  have HT := hid h
  have HR := hid hr
  obtain ⟨a, cap, rfl, hl, _⟩ := hr
  clear h
  go_enter Try.func34, Try.ntmps34
  go_wp2_with fail
  refine (igood_any _ xs _ HR.out.s).mono ?_
  rintro e w1 ⟨rfl, b1⟩
  have HB := hid b1
  have HR1 := hid (HR.out.below b1)
  clear b1
  obtain ⟨g1, hg1⟩ : ∃ b, goodL xs = b := ⟨_, rfl⟩
  rw [hg1]
  have HG := hid hg1
  clear hg1
  cases g1
  · have HV : Hid (t = false) := by show _ = _; rw [← HT.out]; unfold belB; rw [HG.out]; rfl
    go_wp2
    go_ret
    exact ⟨by rw [HV.out]; rfl, HB.out⟩
  obtain ⟨z, hz⟩ : ∃ z, endN xs = z := ⟨_, rfl⟩
  have HZ := hid hz
  have HV : Hid (t = decide (z ≤ many)) := by
    show _ = _
    rw [← HT.out, ← hz]
    unfold belB endN
    rw [HG.out]
    by_cases h0 : xs.length = 0
    · rw [decide_eq_true h0]
      simp [hm]
    · rw [decide_eq_false h0]
      rfl
  clear hz
  go_wp2_with fail
  refine (iend_eq _ xs z HZ.out _ HR1.out).mono ?_
  rintro e w' ⟨rfl, hw⟩; obtain rfl := hw.symm
  go_wp2
  go_ret
  exact ⟨by rw [HV.out]; rfl, HB.out⟩
end Go.Proofs.Ytnkpboobfkjibal
