/-
  The two ways of saying what spans lie where, one out of the other. Plain facts on the memory.
  impl.endOf, impl.spansBelow: whether spans are good and below many. Nothing old is written.
  spec.l2Tell: spans, where they are not too many; the world stays.
  spec.AcksOf: spans of all letters, in memory of their own. Nothing old is written.
-/
import Derived.Test.YtijojdempijhbadSpans
import Derived.Test.YtijojdempijhbadKSpanRows
import Derived.Test.YtijojdempijhbadFlowFns
import Derived.Test.YtijojdempijhbadSpanOk
import Derived.Test.YtijojdempijhbadSHas1
import Derived.Test.YtijojdempijhbadSAdd
namespace Go.Proofs.Ytijojdempijhbad
open Go.RowKit

theorem SpReads.s {w : World} {v : Value} {xs : List Sp} (h : SpReads w v xs) : SReads w v xs := h
theorem SOwn.k {base : Nat} {w : World} {v : Value} {xs : List Sp} (h : SOwn base w v xs) : SpOwn base w.heap.size w v xs := by
  obtain ⟨hl, h⟩ := h
  rcases h with ⟨a, rfl, rfl⟩ | ⟨g, cap, rfl, hg, hf⟩
  · exact ⟨hl, .inl ⟨a, 0, rfl, rfl⟩⟩
  · by_cases h0 : xs = []
    · subst h0
      exact ⟨hl, .inl ⟨_, cap, rfl, rfl⟩⟩
    · exact ⟨hl, .inr ⟨g, cap, rfl, ⟨hg.1, lt_of_cell (hf 0 (List.length_pos_iff.2 h0)).1.1, hg.2⟩, hf⟩⟩
end Go.Proofs.Ytijojdempijhbad
namespace Go.Proofs.Ytijojdempijhbad
open Go.RowKit

def endN (l : List Sp) : Int := bif decide (l.length = 0) then 0 else lastTo l
set_option maxRecDepth 100000 in
set_option maxHeartbeats 4000000 in
theorem iend_eq (v : Value) (xs : List Sp) (z : Int) (h : endN xs = z) (w : World) (hr : SpReads w v xs) :
    Calls Try.prog 167 #[v] w fun e w' => e = .returned (.int .i64 z) ∧ w' = w := by
  have HR := hid hr
  obtain ⟨a, cap, rfl, hl, _⟩ := hr
  by_cases h0 : xs.length = 0
  · have HV : Hid (z = 0) := by show _ = _; rw [← h]; unfold endN; rw [decide_eq_true h0]; rfl
    have hd : ((xs.length : Int) == 0) = true := by rw [beq_iff_eq]; omega
    clear h0 h
    go_enter Try.func167, Try.ntmps167
    go_wp2
    go_ret
    exact ⟨by rw [HV.out]; rfl, rfl⟩
  · have hd : ((xs.length : Int) == 0) = false := by rw [beq_eq_false_iff_ne]; omega
    obtain ⟨g, o, cap', e, hc⟩ := HR.out.cells 0 (by omega)
    cases e
    obtain ⟨k1, hk1⟩ : ∃ k1, k1 = xs.length - 1 := ⟨_, rfl⟩
    have hw1 : IntKind.i64.wrap ((xs.length : Int) - 1) = (k1 : Int) := by rw [hk1, IntKind.wrap_i64]; omega
    have hz : z = lastTo xs := by rw [← h]; unfold endN; rw [decide_eq_false h0]; rfl
    have cz : w.cell? ⟨g, o + k1 * 2 + 1, none⟩ = some (.int .i64 z) := by rw [hz, hk1]; exact (hc (xs.length - 1) (by omega)).2
    have i0 : (0 : Int) ≤ (k1 : Int) := by omega
    have i1 : (k1 : Int) < (xs.length : Int) := by omega
    clear hk1 hz hc h0 h
    go_enter Try.func167, Try.ntmps167
    go_wp2
    go_ret
    exact ⟨rfl, rfl⟩
set_option maxRecDepth 100000 in
set_option maxHeartbeats 4000000 in
theorem ibel_eq (v : Value) (xs : List Sp) (many : Int) (t : Bool) (h : belB xs many = t) (hm : 0 ≤ many) (w : World) (hr : SpReads w v xs) :
    Calls Try.prog 115 #[v, .int .i64 many] w fun e w' => e = .returned (.bool t) ∧ Below w.heap.size w w' := by
  have HT := hid h
  have HR := hid hr
  obtain ⟨a, cap, rfl, hl, _⟩ := hr
  clear h
  go_enter Try.func115, Try.ntmps115
  go_wp2_with fail
  refine (igood_any _ xs _ HR.out.s).mono ?_
  rintro e w1 ⟨rfl, b1⟩
  have HB := hid b1
  have HR1 := hid (HR.out.below b1)
  clear b1
  obtain ⟨g1, hg1⟩ : ∃ b, goodL xs = b := ⟨_, rfl⟩
  rw [hg1]
  have HG := hid hg1
  clear hg1
  cases g1
  · have HV : Hid (t = false) := by show _ = _; rw [← HT.out]; unfold belB; rw [HG.out]; rfl
    go_wp2
    go_ret
    exact ⟨by rw [HV.out]; rfl, HB.out⟩
  obtain ⟨z, hz⟩ : ∃ z, endN xs = z := ⟨_, rfl⟩
  have HZ := hid hz
  have HV : Hid (t = decide (z ≤ many)) := by
    show _ = _
    rw [← HT.out, ← hz]
    unfold belB endN
    rw [HG.out]
    by_cases h0 : xs.length = 0
    · rw [decide_eq_true h0]
      simp [hm]
    · rw [decide_eq_false h0]
      rfl
  clear hz
  go_wp2_with fail
  refine (iend_eq _ xs z HZ.out _ HR1.out).mono ?_
  rintro e w' ⟨rfl, hw⟩; obtain rfl := hw.symm
  go_wp2
  go_ret
  exact ⟨by rw [HV.out]; rfl, HB.out⟩
end Go.Proofs.Ytijojdempijhbad
namespace Go.Proofs.Ytijojdempijhbad
open Go.RowKit
set_option maxRecDepth 100000

theorem stell_yes (v : Value) (xs : List Sp) (w : World) (hr : SReads w v xs) (h : xs.length ≤ 20) : Calls Try.prog 141 #[v] w fun e w' => e = .returned (.tuple #[v, .bool true]) ∧ w' = w := by
  obtain ⟨a, cap, rfl, _, _⟩ := hr
  go_enter Try.func141, Try.ntmps141
  go_wp2
  go_ret2
  exact ⟨rfl, rfl⟩
theorem stell_no (v : Value) (xs : List Sp) (w : World) (hr : SReads w v xs) (h : ¬ xs.length ≤ 20) : Calls Try.prog 141 #[v] w fun e w' => e = .returned (.tuple #[.slice none 0 0, .bool false]) ∧ w' = w := by
  obtain ⟨a, cap, rfl, _, _⟩ := hr
  go_enter Try.func141, Try.ntmps141
  go_wp2
  go_ret2
  exact ⟨rfl, rfl⟩
end Go.Proofs.Ytijojdempijhbad
namespace Go.Proofs.Ytijojdempijhbad
open Go.RowKit

set_option maxRecDepth 100000 in
set_option maxHeartbeats 8000000 in
theorem sacks_any (v : Value) (xs : List Int) (w : World) (hr : KReads w v xs) (Y : List Sp) (t : Bool) (hY : acksY xs = Y) (ht : acksB xs = t) :
    Calls Try.prog 53 #[v] w fun e w' => ∃ v', e = .returned (.tuple #[v', .bool t]) ∧ SpOwn w.heap.size w'.heap.size w' v' Y ∧ Below w.heap.size w w' := by
  have HY := hid hY
  have HT := hid ht
  have HR := hid hr
  obtain ⟨a, cap, rfl, hl, _⟩ := hr
  obtain ⟨t1, e1⟩ : ∃ b, oruB xs 60 = b := ⟨_, rfl⟩
  have E1 := hid e1
  clear hY ht e1
  go_enter Try.func53, Try.ntmps53
  go_wp2_with fail
  refine (soru_eq _ xs 60 t1 E1.out (by omega) _ HR.out).mono ?_
  rintro e w' ⟨rfl, hw⟩; obtain rfl := hw.symm
  cases t1
  · have HV : Hid (t = false) := by show _ = _; rw [← HT.out]; unfold acksB; rw [E1.out]; rfl
    have HV2 : Hid (Y = []) := by show _ = _; rw [← HY.out]; unfold acksY acksB; rw [E1.out]; rfl
    go_wp2
    go_ret2
    exact ⟨_, by rw [HV.out]; rfl, by rw [HV2.out]; exact spown_nil _ _ _ _ _, Below.refl _ _⟩
  have HI : Hid (∀ i, i < xs.length → 0 ≤ fl xs i ∧ fl xs i ≤ 59) := fun i hi => by have := oruU_at xs.length E1.out i hi; omega
  go_wp2
  go_loopw [4, 12] (fun l i wr => ∃ k : Nat, k ≤ xs.length ∧ i = .int .i64 k ∧ SOwn w.heap.size wr l (acksU xs k) ∧ Below w.heap.size w wr) (fun _ i _ => xs.length - (intOf i).toNat)
  case atStart => exact ⟨0, Nat.zero_le _, rfl, ⟨by simp [acksU], .inl ⟨none, rfl, rfl⟩⟩, Below.refl _ _⟩
  case round =>
    obtain ⟨k, hk, rfl, hown, hbel⟩ := hrel
    have HO := hid hown
    have HB := hid hbel
    clear hown hbel
    by_cases hlt : k < xs.length
    · obtain ⟨g, o, cap', e, hc⟩ := (HR.out.below HB.out).cells k hlt
      cases e
      obtain ⟨x, hx⟩ : ∃ x, x = fl xs k := ⟨_, rfl⟩
      have cx : wr.cell? ⟨g, o + k, none⟩ = some (.int .i64 x) := by rw [hx]; exact hc k hlt
      have hb := HI.out k hlt
      rw [← hx] at hb
      have hw1 : IntKind.i64.wrap (x + 1) = x + 1 := by rw [IntKind.wrap_i64]; omega
      have HF := hid (chain_few (acks_chain k fun i hi => HI.out i (by omega)))
      have HN : Hid (acksU xs (k + 1) = addL (acksU xs k) (x, x + 1)) := by rw [hx]; exact rfl
      have m0 : (0 : Int) ≤ (k : Int) := by omega
      have n1 : (k : Int) < (xs.length : Int) := by omega
      have hsz := HB.out.size
      clear hx hc
      go_wp2_with fail
      refine (sadd_any _ (acksU xs k) x (x + 1) _ HO.out.reads (by have := HF.out; omega)).mono ?_
      rintro e w2 ⟨v2, rfl, o2, b2⟩
      have HO2 : Hid (SOwn w.heap.size w2 v2 (acksU xs (k + 1))) := by rw [HN.out]; exact o2.mono hsz
      have HB2 := hid (HB.out.trans (b2.mono HB.out.size))
      clear o2 b2 HO
      go_wp2
      go_roundw
      case rel => exact ⟨k + 1, by omega, by go_num, HO2.out, HB2.out⟩
      case measure => simp [intOf]; omega
    · obtain rfl : k = xs.length := by omega
      by_cases h20 : (acksU xs xs.length).length ≤ 20
      · have HV : Hid (t = true) := by show _ = _; rw [← HT.out]; unfold acksB; rw [E1.out, decide_eq_true h20]; rfl
        have HV2 : Hid (Y = acksU xs xs.length) := by show _ = _; rw [← HY.out]; unfold acksY acksB; rw [E1.out, decide_eq_true h20]; rfl
        have HK : Hid (SpOwn w.heap.size wr.heap.size wr u4 Y) := by rw [HV2.out]; exact HO.out.k
        go_wp2_with fail
        refine (stell_yes _ _ _ HO.out.reads h20).mono ?_
        rintro e w' ⟨rfl, hw⟩; obtain rfl := hw.symm
        clear h20 HO
        go_wp2
        go_ret2
        exact ⟨_, by rw [HV.out]; rfl, HK.out, HB.out⟩
      · have HV : Hid (t = false) := by show _ = _; rw [← HT.out]; unfold acksB; rw [E1.out, decide_eq_false h20]; rfl
        have HV2 : Hid (Y = []) := by show _ = _; rw [← HY.out]; unfold acksY acksB; rw [E1.out, decide_eq_false h20]; rfl
        go_wp2_with fail
        refine (stell_no _ _ _ HO.out.reads h20).mono ?_
        rintro e w' ⟨rfl, hw⟩; obtain rfl := hw.symm
        clear h20 HO
        go_wp2
        go_ret2
        exact ⟨_, by rw [HV.out]; rfl, by rw [HV2.out]; exact spown_nil _ _ _ _ _, HB.out⟩
end Go.Proofs.Ytijojdempijhbad
