/-
  A point in spans, by the first so many. Plain arithmetic.
  spec.l2Has: whether a point lies in spans. Nothing old is written.
  spec.GoodBlock: whether a block is good. Nothing old is written.
-/
import Derived.Test.YtnkpboobfkjibalSpanMath
import Derived.Test.YtnkpboobfkjibalSpans
import Derived.Test.YtnkpboobfkjibalSIn
import Derived.Test.YtnkpboobfkjibalKSpanConv
namespace Go.Proofs.Ytnkpboobfkjibal

theorem has_take_succ (xs : List Sp) (k : Nat) (n : Int) (h : k < xs.length) : hasL (xs.take (k + 1)) n = (hasL (xs.take k) n || inB (xs.getD k (0, 0)) n) := by
  rw [List.take_succ_eq_append_getElem h, has_append]
  simp [List.getD_eq_getElem?_getD, h, hasL]
theorem has_of_at (xs : List Sp) (k : Nat) (n : Int) (h : k < xs.length) (hi : inB (xs.getD k (0, 0)) n = true) : hasL xs n = true := by
  have e : xs = xs.take k ++ xs.drop k := (List.take_append_drop k xs).symm
  rw [e, has_append, List.drop_eq_getElem_cons h]
  simp only [List.getD_eq_getElem?_getD, List.getElem?_eq_getElem h, Option.getD_some] at hi
  simp [hasL, hi]

end Go.Proofs.Ytnkpboobfkjibal
namespace Go.Proofs.Ytnkpboobfkjibal
open Go.RowKit

set_option maxHeartbeats 1000000 in
theorem shas_any (v : Value) (xs : List Sp) (n : Int) (w : World) (hr : SReads w v xs) :
    Calls Try.prog 27 #[v, .int .i64 n] w fun e w' => e = .returned (.bool (hasL xs n)) ∧ Below w.heap.size w w' := by
  obtain ⟨a, cap, rfl, hl, hx⟩ := hr
  have HC := hid hx
  clear hx
  go_enter Try.func27, Try.ntmps27
  go_wp2
  go_loopw [9] (fun i wr => ∃ k : Nat, k ≤ xs.length ∧ i = .int .i64 k ∧ hasL (xs.take k) n = false ∧ Below w.heap.size w wr) (fun i _ => xs.length - (intOf i).toNat)
  case atStart => exact ⟨0, Nat.zero_le _, rfl, rfl, Below.refl _ _⟩
  case round =>
    obtain ⟨k, hk, rfl, hno, hal⟩ := hrel
    have HN := hid hno
    clear hno
    by_cases hlt : k < xs.length
    · obtain ⟨ga, oa, rfl, hca⟩ : ∃ b off, a = some ⟨b, off, none⟩ ∧ ∀ i, i < xs.length → w.cell? ⟨b, off + i * 2, none⟩ = some (.int .i64 (xs.getD i (0, 0)).1) ∧ w.cell? ⟨b, off + i * 2 + 1, none⟩ = some (.int .i64 (xs.getD i (0, 0)).2) := by
        rcases HC.out with h | h
        · subst h; simp at hlt
        · exact h
      have h1 := (hal.cell (p := ⟨ga, oa + k * 2, none⟩) (lt_of_cell (hca k hlt).1)).trans (hca k hlt).1
      have h2 := (hal.cell (p := ⟨ga, oa + k * 2 + 1, none⟩) (lt_of_cell (hca k hlt).2)).trans (hca k hlt).2
      have HL := hid hal
      have hy := hid (has_of_at xs k n hlt)
      have hs := hid (has_take_succ xs k n hlt)
      obtain ⟨p, hp⟩ : ∃ p, p = (xs.getD k (0, 0)).1 := ⟨_, rfl⟩
      obtain ⟨q, hq⟩ : ∃ q, q = (xs.getD k (0, 0)).2 := ⟨_, rfl⟩
      rw [← hp] at h1
      rw [← hq] at h2
      have hin : Hid (inB (xs.getD k (0, 0)) n = true ↔ p ≤ n ∧ n < q) := by
        show _ ↔ _
        rw [inB_iff, hp, hq]
      clear hca hal hp hq
      by_cases c1 : p ≤ n
      · by_cases c2 : n < q
        · go_wp2
          go_ret
          refine ⟨by rw [hy.out (hin.out.2 ⟨c1, c2⟩)]; rfl, ?_⟩
          exact HL.out.alloc HL.out.size _
        · have hf : Hid (hasL (xs.take (k + 1)) n = false) := by
            show _ = _
            rw [hs.out, HN.out, Bool.false_or]
            cases e : inB (xs.getD k (0, 0)) n with
            | false => rfl
            | true => exact absurd (hin.out.1 e).2 c2
          go_wp2
          go_roundw
          case rel => exact ⟨k + 1, by omega, by go_num, hf.out, HL.out.alloc HL.out.size _⟩
          case measure => simp [intOf]; omega
      · have hf : Hid (hasL (xs.take (k + 1)) n = false) := by
          show _ = _
          rw [hs.out, HN.out, Bool.false_or]
          cases e : inB (xs.getD k (0, 0)) n with
          | false => rfl
          | true => exact absurd (hin.out.1 e).1 c1
        go_wp2
        go_roundw
        case rel => exact ⟨k + 1, by omega, by go_num, hf.out, HL.out.alloc HL.out.size _⟩
        case measure => simp [intOf]; omega
    · obtain rfl : k = xs.length := by omega
      have hn := HN.out
      rw [List.take_length] at hn
      go_wp2
      go_ret
      exact ⟨by rw [hn]; rfl, hal⟩

end Go.Proofs.Ytnkpboobfkjibal
namespace Go.Proofs.Ytnkpboobfkjibal
open Go.RowKit

set_option maxRecDepth 100000 in
set_option maxHeartbeats 8000000 in
theorem sgoodBl_eq (v : Value) (D : BlD) (t : Bool) (h : goodBl D = t) (w : World) (hr : BlReads w v D) :
    Calls Try.prog 11 #[v] w fun e w' => e = .returned (.bool t) ∧ Below w.heap.size w w' := by
  obtain ⟨v3, rfl, r3⟩ := hr
  have R3 := hid r3
  unfold goodBl at h
  obtain ⟨z, hz⟩ : ∃ z, z = D.f0 := ⟨_, rfl⟩
  obtain ⟨l, hl⟩ : ∃ l, l = D.f1 := ⟨_, rfl⟩
  obtain ⟨s, hs⟩ : ∃ s, s = D.f2 := ⟨_, rfl⟩
  rw [← hz, ← hl, ← hs] at h ⊢
  have PB := hid (boxL_new w [.int .i64 z, .int .i64 l, .string s, v3] 38)
  have BW : Hid (Below w.heap.size w (w.alloc (.cells #[.int .i64 z, .int .i64 l, .string s, v3] 38))) := (Below.refl _ _).alloc (Nat.le_refl _) _
  obtain ⟨b1, e1⟩ : ∃ b, idB z l = b := ⟨_, rfl⟩
  obtain ⟨b2, e2⟩ : ∃ b, decide ((s.size : Int) = l) = b := ⟨_, rfl⟩
  obtain ⟨b3, e3⟩ : ∃ b, belB D.f3 l = b := ⟨_, rfl⟩
  rw [e1, e2, e3] at h
  have HT := hid h
  have E1 := hid e1
  have E2 := hid e2
  have E3 := hid e3
  clear h e1 e2 e3 hz hl hs r3
  obtain ⟨q0, q1, q2, q3⟩ := PB.out.four
  go_enter Try.func11, Try.ntmps11
  go_wp2_with fail
  refine (sid13_eq z l b1 E1.out _).mono ?_
  rintro e w' ⟨rfl, hw⟩; obtain rfl := hw.symm
  cases b1
  · have HV : Hid (t = false) := HT.out.symm
    go_wp2
    go_ret
    exact ⟨by rw [HV.out]; rfl, BW.out⟩
  have hl40 : 1 ≤ l ∧ l ≤ 40 := by have h := E1.out; unfold idB at h; rw [Bool.and_eq_true, decide_eq_true_eq, decide_eq_true_eq] at h; exact h.2
  cases b2
  · have HV : Hid (t = false) := HT.out.symm
    have hd : ((s.size : Int) != l) = true := by have := E2.out; rw [decide_eq_false_iff_not] at this; simpa using this
    go_wp2
    go_ret
    exact ⟨by rw [HV.out]; rfl, BW.out⟩
  have hsl : (s.size : Int) = l := by have := E2.out; rwa [decide_eq_true_eq] at this
  have hd : ((s.size : Int) != l) = false := by simpa using hsl
  have HSL := hid hsl
  clear hsl
  go_wp2_with fail
  refine (sbel_eq _ D.f3 l b3 E3.out _ (R3.out.below BW.out)).mono ?_
  rintro e w1 ⟨rfl, bb⟩
  replace BW := hid (BW.out.trans (bb.mono BW.out.size))
  replace PB := hid (PB.out.below bb PB.out.lt)
  clear q0 q1 q2 q3 bb hd
  obtain ⟨q0, q1, q2, q3⟩ := PB.out.four
  cases b3
  · have HV : Hid (t = false) := HT.out.symm
    go_wp2
    go_ret
    exact ⟨by rw [HV.out]; rfl, BW.out⟩
  have HT2 : Hid (blankU s D.f3 l.toNat = t) := HT.out
  clear HT
  go_wp2
  clear q0 q1 q2 q3
  go_loopw [3] (fun i wr => ∃ k : Nat, (k : Int) ≤ l ∧ i = .int .i64 k ∧ blankU s D.f3 k = true ∧ Below w1.heap.size w1 wr) (fun i _ => l.toNat - (intOf i).toNat)
  case atStart => exact ⟨0, by omega, rfl, rfl, Below.refl _ _⟩
  case round =>
    obtain ⟨k, hk, rfl, hu, hb⟩ := hrel
    have HU := hid hu
    have HB := hid hb
    have HBW := hid (BW.out.trans (hb.mono BW.out.size))
    clear hu hb
    obtain ⟨q0, q1, q2, q3⟩ := (PB.out.below HB.out PB.out.lt).four
    by_cases hlt : (k : Int) < l
    · have hks : k < s.size := by have := HSL.out; omega
      obtain ⟨b4, hb4⟩ : ∃ b, (bt s k == 0) = b := ⟨_, rfl⟩
      obtain ⟨b5, hb5⟩ : ∃ b, hasL D.f3 (k : Nat) = b := ⟨_, rfl⟩
      have HS : Hid (blankU s D.f3 (k + 1) = (b4 || b5)) := by
        show (blankU s D.f3 k && _) = _
        rw [HU.out, hb4, hb5]; rfl
      have HF : Hid (blankU s D.f3 (k + 1) = false → t = false) := fun h => by rw [← HT2.out]; exact blankU_no h _ (by omega)
      have HB5 := hid hb5
      have hyb : ((s[k]'hks).toNat = 0) = (b4 = true) := by
        rw [← hb4, ← bt_eq s k hks, beq_iff_eq, eq_iff_iff]
        exact ⟨fun h => UInt8.toNat_inj.1 (by simpa using h), fun h => by rw [h]; rfl⟩
      clear hb4 hb5
      cases b4
      · have hy1 : (((s[k]'hks).toNat : Int) != 0) = true := by simpa using hyb
        have HH : Hid (blankU s D.f3 (k + 1) = b5) := HS.out
        clear hyb HS
        go_wp2_with fail
        refine (shas_any _ D.f3 (k : Nat) _ (R3.out.below HBW.out).s).mono ?_
        rintro e w2 ⟨rfl, b6⟩
        rw [HB5.out]
        have HB6 := hid (HB.out.trans (b6.mono HB.out.size))
        have HBW6 := hid (HBW.out.trans (b6.mono HBW.out.size))
        clear b6 q0 q1 q2 q3
        cases b5
        · have HV : Hid (t = false) := HF.out HH.out
          go_wp2
          go_ret
          exact ⟨by rw [HV.out]; rfl, HBW6.out⟩
        · go_wp2
          go_roundw
          case rel => exact ⟨k + 1, by omega, by go_num, HH.out, HB6.out⟩
          case measure => simp [intOf]; omega
      · have hy1 : (((s[k]'hks).toNat : Int) != 0) = false := by simpa using hyb
        have HH : Hid (blankU s D.f3 (k + 1) = true) := HS.out
        clear hyb HS
        clear q0 q3
        go_wp2
        go_roundw
        case rel => exact ⟨k + 1, by omega, by go_num, HH.out, HB.out⟩
        case measure => simp [intOf]; omega
    · have HV : Hid (t = true) := by show _ = _; rw [← HT2.out]; have h := HU.out; rw [show k = l.toNat by omega] at h; exact h
      clear q0 q2 q3
      go_wp2
      go_ret
      exact ⟨by rw [HV.out]; rfl, HBW.out⟩
end Go.Proofs.Ytnkpboobfkjibal
