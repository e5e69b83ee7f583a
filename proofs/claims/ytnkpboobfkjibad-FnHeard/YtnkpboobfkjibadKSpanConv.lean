/-
  The two ways of saying what spans lie where, one out of the other. Plain facts on the memory.
  impl.endOf, impl.spansBelow: whether spans are good and below many. Nothing old is written.
  A point in spans, by the first so many. Plain arithmetic.
  spec.l2Has: whether a point lies in spans. Nothing old is written.
  spec.l11Below: whether spans are good and below many. Nothing old is written.
  spec.GoodSender: whether a sender is as said. Nothing old is written.
  slices.Clone of spans, told as a row of its own. Nothing old is written.
-/
import Derived.Test.YtnkpboobfkjibadSpans
import Derived.Test.YtnkpboobfkjibadKSpanRows
import Derived.Test.YtnkpboobfkjibadFlowFns
import Derived.Test.YtnkpboobfkjibadGoodSpan
import Derived.Test.YtnkpboobfkjibadSpanMath
import Derived.Test.YtnkpboobfkjibadSpanOk
import Derived.Test.YtnkpboobfkjibadSIn
import Derived.Test.YtnkpboobfkjibadSCloneM
namespace Go.Proofs.Ytnkpboobfkjibad
open Go.RowKit

theorem SpReads.s {w : World} {v : Value} {xs : List Sp} (h : SpReads w v xs) : SReads w v xs := h
theorem SOwn.k {base : Nat} {w : World} {v : Value} {xs : List Sp} (h : SOwn base w v xs) : SpOwn base w.heap.size w v xs := by
  obtain ⟨hl, h⟩ := h
  rcases h with ⟨a, rfl, rfl⟩ | ⟨g, cap, rfl, hg, hf⟩
  · exact ⟨hl, .inl ⟨a, 0, rfl, rfl⟩⟩
  · by_cases h0 : xs = []
    · subst h0
      exact ⟨hl, .inl ⟨_, cap, rfl, rfl⟩⟩
    · exact ⟨hl, .inr ⟨g, cap, rfl, ⟨hg.1, lt_of_cell (hf 0 (List.length_pos_iff.2 h0)).1.1, hg.2⟩, hf⟩⟩
end Go.Proofs.Ytnkpboobfkjibad
namespace Go.Proofs.Ytnkpboobfkjibad
open Go.RowKit

def endN (l : List Sp) : Int := bif decide (l.length = 0) then 0 else lastTo l
set_option maxRecDepth 100000 in
set_option maxHeartbeats 4000000 in
theorem iend_eq (v : Value) (xs : List Sp) (z : Int) (h : endN xs = z) (w : World) (hr : SpReads w v xs) :
    Calls Try.prog 167 #[v] w fun e w' => e = .returned (.int .i64 z) ∧ w' = w := by
  have HR := hid hr
  obtain ⟨a, cap, rfl, hl, _⟩ := hr
  by_cases h0 : xs.length = 0
  · have HV : Hid (z = 0) := by show _ = _; rw [← h]; unfold endN; rw [decide_eq_true h0]; rfl
    have hd : ((xs.length : Int) == 0) = true := by rw [beq_iff_eq]; omega
    clear h0 h
    go_enter Try.func167, Try.ntmps167
    go_wp2
    go_ret
    exact ⟨by rw [HV.out]; rfl, rfl⟩
  · have hd : ((xs.length : Int) == 0) = false := by rw [beq_eq_false_iff_ne]; omega
    obtain ⟨g, o, cap', e, hc⟩ := HR.out.cells 0 (by omega)
    cases e
    obtain ⟨k1, hk1⟩ : ∃ k1, k1 = xs.length - 1 := ⟨_, rfl⟩
    have hw1 : IntKind.i64.wrap ((xs.length : Int) - 1) = (k1 : Int) := by rw [hk1, IntKind.wrap_i64]; omega
    have hz : z = lastTo xs := by rw [← h]; unfold endN; rw [decide_eq_false h0]; rfl
    have cz : w.cell? ⟨g, o + k1 * 2 + 1, none⟩ = some (.int .i64 z) := by rw [hz, hk1]; exact (hc (xs.length - 1) (by omega)).2
    have i0 : (0 : Int) ≤ (k1 : Int) := by omega
    have i1 : (k1 : Int) < (xs.length : Int) := by omega
    clear hk1 hz hc h0 h
    go_enter Try.func167, Try.ntmps167
    go_wp2
    go_ret
    exact ⟨rfl, rfl⟩
set_option maxRecDepth 100000 in
set_option maxHeartbeats 4000000 in
theorem ibel_eq (v : Value) (xs : List Sp) (many : Int) (t : Bool) (h : belB xs many = t) (hm : 0 ≤ many) (w : World) (hr : SpReads w v xs) :
    Calls Try.prog 115 #[v, .int .i64 many] w fun e w' => e = .returned (.bool t) ∧ Below w.heap.size w w' := by
  have HT := hid h
  have HR := hid hr
  obtain ⟨a, cap, rfl, hl, _⟩ := hr
  clear h
  go_enter Try.func115, Try.ntmps115
  go_wp2_with fail
  refine (igood_any _ xs _ HR.out.s).mono ?_
  rintro e w1 ⟨rfl, b1⟩
  have HB := hid b1
  have HR1 := hid (HR.out.below b1)
  clear b1
  obtain ⟨g1, hg1⟩ : ∃ b, goodL xs = b := ⟨_, rfl⟩
  rw [hg1]
  have HG := hid hg1
  clear hg1
  cases g1
  · have HV : Hid (t = false) := by show _ = _; rw [← HT.out]; unfold belB; rw [HG.out]; rfl
    go_wp2
    go_ret
    exact ⟨by rw [HV.out]; rfl, HB.out⟩
  obtain ⟨z, hz⟩ : ∃ z, endN xs = z := ⟨_, rfl⟩
  have HZ := hid hz
  have HV : Hid (t = decide (z ≤ many)) := by
    show _ = _
    rw [← HT.out, ← hz]
    unfold belB endN
    rw [HG.out]
    by_cases h0 : xs.length = 0
    · rw [decide_eq_true h0]
      simp [hm]
    · rw [decide_eq_false h0]
      rfl
  clear hz
  go_wp2_with fail
  refine (iend_eq _ xs z HZ.out _ HR1.out).mono ?_
  rintro e w' ⟨rfl, hw⟩; obtain rfl := hw.symm
  go_wp2
  go_ret
  exact ⟨by rw [HV.out]; rfl, HB.out⟩
end Go.Proofs.Ytnkpboobfkjibad
namespace Go.Proofs.Ytnkpboobfkjibad

theorem has_take_succ (xs : List Sp) (k : Nat) (n : Int) (h : k < xs.length) : hasL (xs.take (k + 1)) n = (hasL (xs.take k) n || inB (xs.getD k (0, 0)) n) := by
  rw [List.take_succ_eq_append_getElem h, has_append]
  simp [List.getD_eq_getElem?_getD, h, hasL]
theorem has_of_at (xs : List Sp) (k : Nat) (n : Int) (h : k < xs.length) (hi : inB (xs.getD k (0, 0)) n = true) : hasL xs n = true := by
  have e : xs = xs.take k ++ xs.drop k := (List.take_append_drop k xs).symm
  rw [e, has_append, List.drop_eq_getElem_cons h]
  simp only [List.getD_eq_getElem?_getD, List.getElem?_eq_getElem h, Option.getD_some] at hi
  simp [hasL, hi]

end Go.Proofs.Ytnkpboobfkjibad
namespace Go.Proofs.Ytnkpboobfkjibad
open Go.RowKit

set_option maxHeartbeats 1000000 in
theorem shas_any (v : Value) (xs : List Sp) (n : Int) (w : World) (hr : SReads w v xs) :
    Calls Try.prog 171 #[v, .int .i64 n] w fun e w' => e = .returned (.bool (hasL xs n)) ∧ Below w.heap.size w w' := by
  obtain ⟨a, cap, rfl, hl, hx⟩ := hr
  have HC := hid hx
  clear hx
  go_enter Try.func171, Try.ntmps171
  go_wp2
  go_loopw [9] (fun i wr => ∃ k : Nat, k ≤ xs.length ∧ i = .int .i64 k ∧ hasL (xs.take k) n = false ∧ Below w.heap.size w wr) (fun i _ => xs.length - (intOf i).toNat)
  case atStart => exact ⟨0, Nat.zero_le _, rfl, rfl, Below.refl _ _⟩
  case round =>
    obtain ⟨k, hk, rfl, hno, hal⟩ := hrel
    have HN := hid hno
    clear hno
    by_cases hlt : k < xs.length
    · obtain ⟨ga, oa, rfl, hca⟩ : ∃ b off, a = some ⟨b, off, none⟩ ∧ ∀ i, i < xs.length → w.cell? ⟨b, off + i * 2, none⟩ = some (.int .i64 (xs.getD i (0, 0)).1) ∧ w.cell? ⟨b, off + i * 2 + 1, none⟩ = some (.int .i64 (xs.getD i (0, 0)).2) := by
        rcases HC.out with h | h
        · subst h; simp at hlt
        · exact h
      have h1 := (hal.cell (p := ⟨ga, oa + k * 2, none⟩) (lt_of_cell (hca k hlt).1)).trans (hca k hlt).1
      have h2 := (hal.cell (p := ⟨ga, oa + k * 2 + 1, none⟩) (lt_of_cell (hca k hlt).2)).trans (hca k hlt).2
      have HL := hid hal
      have hy := hid (has_of_at xs k n hlt)
      have hs := hid (has_take_succ xs k n hlt)
      obtain ⟨p, hp⟩ : ∃ p, p = (xs.getD k (0, 0)).1 := ⟨_, rfl⟩
      obtain ⟨q, hq⟩ : ∃ q, q = (xs.getD k (0, 0)).2 := ⟨_, rfl⟩
      rw [← hp] at h1
      rw [← hq] at h2
      have hin : Hid (inB (xs.getD k (0, 0)) n = true ↔ p ≤ n ∧ n < q) := by
        show _ ↔ _
        rw [inB_iff, hp, hq]
      clear hca hal hp hq
      by_cases c1 : p ≤ n
      · by_cases c2 : n < q
        · go_wp2
          go_ret
          refine ⟨by rw [hy.out (hin.out.2 ⟨c1, c2⟩)]; rfl, ?_⟩
          exact HL.out.alloc HL.out.size _
        · have hf : Hid (hasL (xs.take (k + 1)) n = false) := by
            show _ = _
            rw [hs.out, HN.out, Bool.false_or]
            cases e : inB (xs.getD k (0, 0)) n with
            | false => rfl
            | true => exact absurd (hin.out.1 e).2 c2
          go_wp2
          go_roundw
          case rel => exact ⟨k + 1, by omega, by go_num, hf.out, HL.out.alloc HL.out.size _⟩
          case measure => simp [intOf]; omega
      · have hf : Hid (hasL (xs.take (k + 1)) n = false) := by
          show _ = _
          rw [hs.out, HN.out, Bool.false_or]
          cases e : inB (xs.getD k (0, 0)) n with
          | false => rfl
          | true => exact absurd (hin.out.1 e).1 c1
        go_wp2
        go_roundw
        case rel => exact ⟨k + 1, by omega, by go_num, hf.out, HL.out.alloc HL.out.size _⟩
        case measure => simp [intOf]; omega
    · obtain rfl : k = xs.length := by omega
      have hn := HN.out
      rw [List.take_length] at hn
      go_wp2
      go_ret
      exact ⟨by rw [hn]; rfl, hal⟩

end Go.Proofs.Ytnkpboobfkjibad
namespace Go.Proofs.Ytnkpboobfkjibad
open Go.RowKit

set_option maxRecDepth 100000 in
set_option maxHeartbeats 4000000 in
theorem sbel_eq (v : Value) (xs : List Sp) (many : Int) (t : Bool) (h : belB xs many = t) (w : World) (hr : SpReads w v xs) :
    Calls Try.prog 125 #[v, .int .i64 many] w fun e w' => e = .returned (.bool t) ∧ Below w.heap.size w w' := by
  have HT := hid h
  have HR := hid hr
  obtain ⟨a, cap, rfl, hl, _⟩ := hr
  clear h
  go_enter Try.func125, Try.ntmps125
  go_wp2_with fail
  refine (sgood_any _ xs _ HR.out.s).mono ?_
  rintro e w1 ⟨rfl, b1⟩
  have HB := hid b1
  have HR1 := hid (HR.out.below b1)
  clear b1
  obtain ⟨g1, hg1⟩ : ∃ b, goodL xs = b := ⟨_, rfl⟩
  rw [hg1]
  have HG := hid hg1
  clear hg1
  cases g1
  · have HV : Hid (t = false) := by show _ = _; rw [← HT.out]; unfold belB; rw [HG.out]; rfl
    go_wp2
    go_ret
    exact ⟨by rw [HV.out]; rfl, HB.out⟩
  by_cases h0 : xs.length = 0
  · have HV : Hid (t = true) := by show _ = _; rw [← HT.out]; unfold belB; rw [HG.out, decide_eq_true h0]; rfl
    have hd : ((xs.length : Int) == 0) = true := by rw [beq_iff_eq]; omega
    clear h0
    go_wp2
    go_ret
    exact ⟨by rw [HV.out]; rfl, HB.out⟩
  · have hd : ((xs.length : Int) == 0) = false := by rw [beq_eq_false_iff_ne]; omega
    obtain ⟨g, o, cap', e, hc⟩ := HR1.out.cells 0 (by omega)
    cases e
    obtain ⟨k1, hk1⟩ : ∃ k1, k1 = xs.length - 1 := ⟨_, rfl⟩
    have hw1 : IntKind.i64.wrap ((xs.length : Int) - 1) = (k1 : Int) := by rw [hk1, IntKind.wrap_i64]; omega
    obtain ⟨z, hz⟩ : ∃ z, z = lastTo xs := ⟨_, rfl⟩
    have cz : w1.cell? ⟨g, o + k1 * 2 + 1, none⟩ = some (.int .i64 z) := by rw [hz, hk1]; exact (hc (xs.length - 1) (by omega)).2
    have i0 : (0 : Int) ≤ (k1 : Int) := by omega
    have i1 : (k1 : Int) < (xs.length : Int) := by omega
    have HV : Hid (t = decide (z ≤ many)) := by show _ = _; rw [← HT.out]; unfold belB; rw [HG.out, decide_eq_false h0, ← hz]; rfl
    clear hk1 hz hc h0
    go_wp2
    go_ret
    exact ⟨by rw [HV.out]; rfl, HB.out⟩
end Go.Proofs.Ytnkpboobfkjibad
namespace Go.Proofs.Ytnkpboobfkjibad
open Go.RowKit

set_option maxRecDepth 100000 in
set_option maxHeartbeats 8000000 in
theorem sgoodSd_eq (v : Value) (D : SdD) (t : Bool) (h : goodSd D = t) (w : World) (hr : SdReads w v D) :
    Calls Try.prog 124 #[v] w fun e w' => e = .returned (.bool t) ∧ Below w.heap.size w w' := by
  obtain ⟨v1, v2, rfl, r1, r2⟩ := hr
  have R1 := hid r1
  have R2 := hid r2
  obtain ⟨a2, p2, rfl, l2, _⟩ := r2
  unfold goodSd at h
  obtain ⟨z, hz⟩ : ∃ z, z = D.f0 := ⟨_, rfl⟩
  rw [← hz] at h ⊢
  have PB := hid (boxL_new w [.int .i64 z, v1, .slice a2 D.f2.length p2] 49)
  have BW : Hid (Below w.heap.size w (w.alloc (.cells #[.int .i64 z, v1, .slice a2 D.f2.length p2] 49))) := (Below.refl _ _).alloc (Nat.le_refl _) _
  obtain ⟨b1, e1⟩ : ∃ b, decide (0 ≤ z ∧ z ≤ 60) = b := ⟨_, rfl⟩
  obtain ⟨b2, e2⟩ : ∃ b, belB D.f1 z = b := ⟨_, rfl⟩
  obtain ⟨b3, e3⟩ : ∃ b, risB D.f2 z = b := ⟨_, rfl⟩
  rw [e1, e2, e3] at h
  have HT := hid h
  have E1 := hid e1
  have E2 := hid e2
  have E3 := hid e3
  clear h e1 e2 e3 hz r1
  obtain ⟨q0, q1, q2⟩ := PB.out.three
  go_enter Try.func124, Try.ntmps124
  go_wp2_with fail
  refine (l1In_eq z 0 60 b1 E1.out _).mono ?_
  rintro e w' ⟨rfl, hw⟩; obtain rfl := hw.symm
  cases b1
  · have HV : Hid (t = false) := HT.out.symm
    go_wp2
    go_ret
    exact ⟨by rw [HV.out]; rfl, BW.out⟩
  have hz60 : 0 ≤ z ∧ z ≤ 60 := by have := E1.out; rwa [decide_eq_true_eq] at this
  go_wp2_with fail
  refine (sbel_eq _ D.f1 z b2 E2.out _ (R1.out.below BW.out)).mono ?_
  rintro e w1 ⟨rfl, bb⟩
  replace BW := hid (BW.out.trans (bb.mono BW.out.size))
  replace PB := hid (PB.out.below bb PB.out.lt)
  clear q0 q1 q2 bb
  obtain ⟨q0, q1, q2⟩ := PB.out.three
  cases b2
  · have HV : Hid (t = false) := HT.out.symm
    go_wp2
    go_ret
    exact ⟨by rw [HV.out]; rfl, BW.out⟩
  go_wp2_with fail
  refine (sris_eq _ D.f2 z b3 E3.out ⟨hz60.1, by omega⟩ _ (R2.out.below BW.out)).mono ?_
  rintro e w' ⟨rfl, hw⟩; obtain rfl := hw.symm
  cases b3
  · have HV : Hid (t = false) := HT.out.symm
    go_wp2
    go_ret
    exact ⟨by rw [HV.out]; rfl, BW.out⟩
  have HT2 : Hid (noneU D.f1 D.f2 D.f2.length = t) := HT.out
  clear HT
  go_wp2
  clear q0 q1 q2
  go_loopw [28] (fun i wr => ∃ k : Nat, k ≤ D.f2.length ∧ i = .int .i64 k ∧ noneU D.f1 D.f2 k = true ∧ Below w1.heap.size w1 wr) (fun i _ => D.f2.length - (intOf i).toNat)
  case atStart => exact ⟨0, Nat.zero_le _, rfl, rfl, Below.refl _ _⟩
  case round =>
    obtain ⟨k, hk, rfl, hu, hb⟩ := hrel
    have HU := hid hu
    have HB := hid hb
    have HBW := hid (BW.out.trans (hb.mono BW.out.size))
    clear hu hb
    obtain ⟨q0, q1, q2⟩ := (PB.out.below HB.out PB.out.lt).three
    by_cases hlt : k < D.f2.length
    · obtain ⟨g, o, cap', e, hc⟩ := (R2.out.below HBW.out).cells k hlt
      cases e
      obtain ⟨x, hx⟩ : ∃ x, x = fl D.f2 k := ⟨_, rfl⟩
      have cx : wr.cell? ⟨g, o + k, none⟩ = some (.int .i64 x) := by rw [hx]; exact hc k hlt
      obtain ⟨b4, hb4⟩ : ∃ b, hasL D.f1 x = b := ⟨_, rfl⟩
      have HS : Hid (noneU D.f1 D.f2 (k + 1) = !b4) := by
        show (noneU D.f1 D.f2 k && _) = _
        rw [HU.out, ← hx, hb4]; rfl
      have HF : Hid (noneU D.f1 D.f2 (k + 1) = false → t = false) := fun h => by rw [← HT2.out]; exact noneU_no h _ (by omega)
      have m0 : (0 : Int) ≤ (k : Int) := by omega
      have n1 : (k : Int) < (D.f2.length : Int) := by omega
      have HB4 := hid hb4
      clear hx hc hb4
      go_wp2_with fail
      refine (shas_any _ D.f1 x _ (R1.out.below HBW.out).s).mono ?_
      rintro e w2 ⟨rfl, b5⟩
      rw [HB4.out]
      have HB5 := hid (HB.out.trans (b5.mono HB.out.size))
      have HBW5 := hid (HBW.out.trans (b5.mono HBW.out.size))
      clear b5 q0 q1 q2
      cases b4
      · go_wp2
        go_roundw
        case rel => exact ⟨k + 1, by omega, by go_num, HS.out, HB5.out⟩
        case measure => simp [intOf]; omega
      · have HV : Hid (t = false) := HF.out HS.out
        go_wp2
        go_ret
        exact ⟨by rw [HV.out]; rfl, HBW5.out⟩
    · have HV : Hid (t = true) := by show _ = _; rw [← HT2.out]; have h := HU.out; rw [show k = D.f2.length by omega] at h; exact h
      clear q0 q1 q2
      go_wp2
      go_ret
      exact ⟨by rw [HV.out]; rfl, HBW.out⟩
end Go.Proofs.Ytnkpboobfkjibad
namespace Go.Proofs.Ytnkpboobfkjibad
open Go.RowKit

theorem iclone_sp (v : Value) (xs : List Sp) (w : World) (hr : SReads w v xs) (hx : xs.length ≤ 1048576) :
    Calls Try.prog 133 #[v] w fun e w' => ∃ u, e = .returned u ∧ SpOwn w.heap.size w'.heap.size w' u xs ∧ Below w.heap.size w w' := by
  refine (clone_any v xs w hr hx).mono fun e w' h => ?_
  obtain ⟨u, rfl, hb, h⟩ := h
  rcases h with ⟨rfl, a, rfl⟩ | ⟨_, h⟩
  · exact ⟨_, rfl, spown_nil _ _ _ _ _, hb⟩
  · exact ⟨u, rfl, (SOwn.of_owns h (by omega)).k, hb⟩
end Go.Proofs.Ytnkpboobfkjibad
