/-
  impl.without: others without the numbers of a span, in memory of its own. Nothing old is written.
-/
import Derived.Test.YtnkpboobfkjibalCutMath
import Derived.Test.YtnkpboobfkjibalReplaced
import Derived.Test.YtnkpboobfkjibalReplacedM
namespace Go.Proofs.Ytnkpboobfkjibal
open Go.RowKit
set_option maxRecDepth 100000

set_option maxHeartbeats 4000000 in
theorem without_any (v : Value) (xs : List Sp) (p q : Int) (w : World) (hr : SReads w v xs) (hx : xs.length ≤ 1048576) :
    Calls Try.prog 43 #[v, .agg #[.int .i64 p, .int .i64 q]] w fun e w' => ∃ v', e = .returned v' ∧ SOwn w.heap.size w' v' (cutL xs (p, q)) ∧ Below w.heap.size w w' := by
  obtain ⟨i0, hi, hz0, hz1, hz2⟩ := info_parts info_span
  have HR := hid hr
  have ha := ahead_le xs p
  have hu := upto_le xs (ahead xs p) q ha
  have hau : ahead xs p ≤ upto xs (ahead xs p) q := by rw [upto_fronts]; omega
  have HK : Hid (keptL xs (p, q) = if ahead xs p < upto xs (ahead xs p) q then (if (xs.getD (ahead xs p) (0, 0)).1 < p then [((xs.getD (ahead xs p) (0, 0)).1, p)] else []) ++ (if q < (xs.getD (upto xs (ahead xs p) q - 1) (0, 0)).2 then [(q, (xs.getD (upto xs (ahead xs p) q - 1) (0, 0)).2)] else []) else []) := rfl
  have HM : Hid (cutL xs (p, q) = xs.take (ahead xs p) ++ keptL xs (p, q) ++ xs.drop (upto xs (ahead xs p) q)) := rfl
  have HRC := hid (fun wz => reaching_any v xs p q wz)
  clear hr
  generalize upto xs (ahead xs p) q = b at hu hau HK HM HRC
  generalize ahead xs p = f at ha hau HK HM HRC
  by_cases hlt : f < b
  · obtain ⟨ga, oa, cap, rfl, hca⟩ := sreads_cells HR.out f (by omega)
    have h1 := (hca f (by omega)).1
    have h2 := (hca (b - 1) (by omega)).2
    have hga : ga < w.heap.size := lt_of_cell h1
    obtain ⟨r, hr0⟩ : ∃ r, r = (xs.getD f (0, 0)).1 := ⟨_, rfl⟩
    obtain ⟨s, hs0⟩ : ∃ s, s = (xs.getD (b - 1) (0, 0)).2 := ⟨_, rfl⟩
    have HG : Hid (keptL xs (p, q) = (if r < p then [(r, p)] else []) ++ (if q < s then [(q, s)] else [])) := by
      show _ = _
      rw [HK.out, if_pos hlt, hr0, hs0]
    rw [← hr0] at h1
    rw [← hs0] at h2
    obtain ⟨b1, hb1⟩ : ∃ b1, b1 = b - 1 := ⟨_, rfl⟩
    rw [← hb1] at h2
    have hw : IntKind.i64.wrap ((b : Int) - 1) = (b1 : Int) := by rw [IntKind.wrap_i64]; omega
    have n0 : (0 : Int) ≤ (f : Int) := by omega
    have n1 : (f : Int) < (xs.length : Int) := by omega
    have n2 : (0 : Int) ≤ (b1 : Int) := by omega
    have n3 : (b1 : Int) < (xs.length : Int) := by omega
    clear hca hr0 hs0 HK hb1
    by_cases hc1 : r < p
    · by_cases hc2 : q < s
      · have hg : Hid (keptL xs (p, q) = [(r, p), (q, s)]) := by
          show _ = _
          rw [HG.out, if_pos hc1, if_pos hc2]
          rfl
        go_enter Try.func43, Try.ntmps43
        go_wp2_with fail
        refine (HRC.out _ (HR.out.below ?_)).mono ?_
        · exact (Below.refl _ _).alloc (Nat.le_refl _) _
        rintro e w' ⟨rfl, hw'⟩; obtain rfl := hw'.symm
        go_wp2_with (at_builtin; refine wpList_append_own _ rfl _ _ 36 rfl (w.heap.size + 1) 65 i0 (.agg #[.int .i64 0, .int .i64 0]) 2 16 Try.underlying36 hi hz0 hz1 hz2 rfl (by decide) _ _ _ rfl (owns_nil _ _ _) ⟨w.heap.size + 1, 0, none⟩ 1 1 (flat [(r, p)]) rfl rfl ?c1 (flat_one _) (by unfold maxLen; omega) (by omega) ?c5 ?_)
        case c1 =>
          intro j u h
          have := pair_new (w.alloc (.cells #[.int .i64 p, .int .i64 q] 65)) (r, p) 65 j u h
          rw [show (w.alloc (.cells #[.int .i64 p, .int .i64 q] 65)).heap.size = w.heap.size + 1 by simp] at this
          exact this
        case c5 => simp
        intro v1 w1 hown hgr _
        have L1 : Hid (Below (w.heap.size + 1) (w.alloc (.cells #[.int .i64 p, .int .i64 q] 65)) w1) := ((Below.refl _ _).alloc (by simp) _).grown hgr (by simp) (by intro k hk; simp [Value.ownBlock] at hk)
        have B1 : Hid (Below w.heap.size w w1) := ((Below.refl _ w).alloc (Nat.le_refl _) _).trans (L1.out.mono (by omega))
        have O1 := hid hown
        have c10 := (L1.out.cell (p := ⟨w.heap.size, 0, none⟩) (by simp)).trans (show _ = some (.int .i64 p) by simp)
        have c11 := (L1.out.cell (p := ⟨w.heap.size, 1, none⟩) (by simp)).trans (show _ = some (.int .i64 q) by simp)
        have k1 := (B1.out.cell (p := ⟨ga, oa + b1 * 2 + 1, none⟩) (lt_of_cell h2)).trans h2
        clear hown hgr
        go_wp2_with (at_builtin; refine wpList_append_own _ rfl _ _ 36 rfl (w.heap.size + 1) 65 i0 (.agg #[.int .i64 0, .int .i64 0]) 2 16 Try.underlying36 hi hz0 hz1 hz2 rfl (by decide) _ _ _ rfl (O1.out.alloc _) ⟨w1.heap.size, 0, none⟩ 1 1 (flat [(q, s)]) rfl rfl (pair_new w1 (q, s) _) (flat_one _) (by unfold maxLen; omega) (by omega) ?c5 ?_)
        case c5 => have := L1.out.size; simp at this ⊢; omega
        intro v2 w2 hown hgr _
        have L2 : Hid (Below (w.heap.size + 1) w1 w2) := ((Below.refl _ _).alloc (by have := L1.out.size; simp at this; omega) _).grown hgr (by have := L1.out.size; simp at this ⊢; omega) (owns_block O1.out)
        have B2 : Hid (Below w.heap.size w w2) := B1.out.trans (L2.out.mono (by omega))
        have O2 : Hid (w2.ownsRow (w.heap.size + 1) 65 2 v2 (0 + 1 + 1) (flat [(r, p), (q, s)])) := hown
        clear hown hgr
        go_wp2_with fail
        refine (replaced_any _ _ xs [(r, p), (q, s)] f b _ (HR.out.below B2.out) (SOwn.of_owns (base := w.heap.size) (n := 0 + 1 + 1) (owns_mono O2.out (by omega)) (by simp)).reads hau hu hx (by simp)).mono ?_
        rintro e w5 ⟨v5, rfl, o5, b5⟩
        have B5 : Hid (Below w.heap.size w w5) := B2.out.trans (b5.mono B2.out.size)
        have O5 : Hid (SOwn w.heap.size w5 v5 (cutL xs (p, q))) := by
          show SOwn _ _ _ _
          rw [HM.out, hg.out]
          exact o5.mono B2.out.size
        clear o5 b5
        go_wp2
        go_ret
        exact ⟨_, rfl, O5.out, B5.out⟩
      · have hg : Hid (keptL xs (p, q) = [(r, p)]) := by
          show _ = _
          rw [HG.out, if_pos hc1, if_neg hc2]
          rfl
        go_enter Try.func43, Try.ntmps43
        go_wp2_with fail
        refine (HRC.out _ (HR.out.below ?_)).mono ?_
        · exact (Below.refl _ _).alloc (Nat.le_refl _) _
        rintro e w' ⟨rfl, hw'⟩; obtain rfl := hw'.symm
        go_wp2_with (at_builtin; refine wpList_append_own _ rfl _ _ 36 rfl (w.heap.size + 1) 65 i0 (.agg #[.int .i64 0, .int .i64 0]) 2 16 Try.underlying36 hi hz0 hz1 hz2 rfl (by decide) _ _ _ rfl (owns_nil _ _ _) ⟨w.heap.size + 1, 0, none⟩ 1 1 (flat [(r, p)]) rfl rfl ?c1 (flat_one _) (by unfold maxLen; omega) (by omega) ?c5 ?_)
        case c1 =>
          intro j u h
          have := pair_new (w.alloc (.cells #[.int .i64 p, .int .i64 q] 65)) (r, p) 65 j u h
          rw [show (w.alloc (.cells #[.int .i64 p, .int .i64 q] 65)).heap.size = w.heap.size + 1 by simp] at this
          exact this
        case c5 => simp
        intro v1 w1 hown hgr _
        have L1 : Hid (Below (w.heap.size + 1) (w.alloc (.cells #[.int .i64 p, .int .i64 q] 65)) w1) := ((Below.refl _ _).alloc (by simp) _).grown hgr (by simp) (by intro k hk; simp [Value.ownBlock] at hk)
        have B1 : Hid (Below w.heap.size w w1) := ((Below.refl _ w).alloc (Nat.le_refl _) _).trans (L1.out.mono (by omega))
        have O1 := hid hown
        have c10 := (L1.out.cell (p := ⟨w.heap.size, 0, none⟩) (by simp)).trans (show _ = some (.int .i64 p) by simp)
        have c11 := (L1.out.cell (p := ⟨w.heap.size, 1, none⟩) (by simp)).trans (show _ = some (.int .i64 q) by simp)
        have k1 := (B1.out.cell (p := ⟨ga, oa + b1 * 2 + 1, none⟩) (lt_of_cell h2)).trans h2
        clear hown hgr
        go_wp2_with fail
        refine (replaced_any _ _ xs [(r, p)] f b _ (HR.out.below B1.out) (SOwn.of_owns (base := w.heap.size) (n := 0 + 1) (owns_mono O1.out (by omega)) (by simp)).reads hau hu hx (by simp)).mono ?_
        rintro e w5 ⟨v5, rfl, o5, b5⟩
        have B5 : Hid (Below w.heap.size w w5) := B1.out.trans (b5.mono B1.out.size)
        have O5 : Hid (SOwn w.heap.size w5 v5 (cutL xs (p, q))) := by
          show SOwn _ _ _ _
          rw [HM.out, hg.out]
          exact o5.mono B1.out.size
        clear o5 b5
        go_wp2
        go_ret
        exact ⟨_, rfl, O5.out, B5.out⟩
    · by_cases hc2 : q < s
      · have hg : Hid (keptL xs (p, q) = [(q, s)]) := by
          show _ = _
          rw [HG.out, if_neg hc1, if_pos hc2]
          rfl
        go_enter Try.func43, Try.ntmps43
        go_wp2_with fail
        refine (HRC.out _ (HR.out.below ?_)).mono ?_
        · exact (Below.refl _ _).alloc (Nat.le_refl _) _
        rintro e w' ⟨rfl, hw'⟩; obtain rfl := hw'.symm
        go_wp2_with (at_builtin; refine wpList_append_own _ rfl _ _ 36 rfl (w.heap.size + 1) 65 i0 (.agg #[.int .i64 0, .int .i64 0]) 2 16 Try.underlying36 hi hz0 hz1 hz2 rfl (by decide) _ _ _ rfl (owns_nil _ _ _) ⟨w.heap.size + 1, 0, none⟩ 1 1 (flat [(q, s)]) rfl rfl ?c1 (flat_one _) (by unfold maxLen; omega) (by omega) ?c5 ?_)
        case c1 =>
          intro j u h
          have := pair_new (w.alloc (.cells #[.int .i64 p, .int .i64 q] 65)) (q, s) 65 j u h
          rw [show (w.alloc (.cells #[.int .i64 p, .int .i64 q] 65)).heap.size = w.heap.size + 1 by simp] at this
          exact this
        case c5 => simp
        intro v1 w1 hown hgr _
        have L1 : Hid (Below (w.heap.size + 1) (w.alloc (.cells #[.int .i64 p, .int .i64 q] 65)) w1) := ((Below.refl _ _).alloc (by simp) _).grown hgr (by simp) (by intro k hk; simp [Value.ownBlock] at hk)
        have B1 : Hid (Below w.heap.size w w1) := ((Below.refl _ w).alloc (Nat.le_refl _) _).trans (L1.out.mono (by omega))
        have O1 := hid hown
        have c10 := (L1.out.cell (p := ⟨w.heap.size, 0, none⟩) (by simp)).trans (show _ = some (.int .i64 p) by simp)
        have c11 := (L1.out.cell (p := ⟨w.heap.size, 1, none⟩) (by simp)).trans (show _ = some (.int .i64 q) by simp)
        have k1 := (B1.out.cell (p := ⟨ga, oa + b1 * 2 + 1, none⟩) (lt_of_cell h2)).trans h2
        clear hown hgr
        go_wp2_with fail
        refine (replaced_any _ _ xs [(q, s)] f b _ (HR.out.below B1.out) (SOwn.of_owns (base := w.heap.size) (n := 0 + 1) (owns_mono O1.out (by omega)) (by simp)).reads hau hu hx (by simp)).mono ?_
        rintro e w5 ⟨v5, rfl, o5, b5⟩
        have B5 : Hid (Below w.heap.size w w5) := B1.out.trans (b5.mono B1.out.size)
        have O5 : Hid (SOwn w.heap.size w5 v5 (cutL xs (p, q))) := by
          show SOwn _ _ _ _
          rw [HM.out, hg.out]
          exact o5.mono B1.out.size
        clear o5 b5
        go_wp2
        go_ret
        exact ⟨_, rfl, O5.out, B5.out⟩
      · have hg : Hid (keptL xs (p, q) = []) := by
          show _ = _
          rw [HG.out, if_neg hc1, if_neg hc2]
          rfl
        go_enter Try.func43, Try.ntmps43
        go_wp2_with fail
        refine (HRC.out _ (HR.out.below ?_)).mono ?_
        · exact (Below.refl _ _).alloc (Nat.le_refl _) _
        rintro e w' ⟨rfl, hw'⟩; obtain rfl := hw'.symm
        go_wp2_with fail
        refine (replaced_any _ _ xs [] f b _ (HR.out.below ((Below.refl _ w).alloc (Nat.le_refl _) _)) (snil_reads _ _) hau hu hx (by simp)).mono ?_
        rintro e w5 ⟨v5, rfl, o5, b5⟩
        have B5 : Hid (Below w.heap.size w w5) := ((Below.refl _ w).alloc (Nat.le_refl _) _).trans (b5.mono ((Below.refl _ w).alloc (Nat.le_refl _) _).size)
        have O5 : Hid (SOwn w.heap.size w5 v5 (cutL xs (p, q))) := by
          show SOwn _ _ _ _
          rw [HM.out, hg.out]
          exact o5.mono ((Below.refl _ w).alloc (Nat.le_refl _) _).size
        clear o5 b5
        go_wp2
        go_ret
        exact ⟨_, rfl, O5.out, B5.out⟩
  · have hg : Hid (keptL xs (p, q) = []) := by
      show _ = _
      rw [HK.out, if_neg hlt]
    go_enter Try.func43, Try.ntmps43
    go_wp2_with fail
    refine (HRC.out _ (HR.out.below ?_)).mono ?_
    · exact (Below.refl _ _).alloc (Nat.le_refl _) _
    rintro e w' ⟨rfl, hw'⟩; obtain rfl := hw'.symm
    go_wp2_with fail
    refine (replaced_any _ _ xs [] f b _ (HR.out.below ((Below.refl _ w).alloc (Nat.le_refl _) _)) (snil_reads _ _) hau hu hx (by simp)).mono ?_
    rintro e w5 ⟨v5, rfl, o5, b5⟩
    have B5 : Hid (Below w.heap.size w w5) := ((Below.refl _ w).alloc (Nat.le_refl _) _).trans (b5.mono ((Below.refl _ w).alloc (Nat.le_refl _) _).size)
    have O5 : Hid (SOwn w.heap.size w5 v5 (cutL xs (p, q))) := by
      show SOwn _ _ _ _
      rw [HM.out, hg.out]
      exact o5.mono ((Below.refl _ w).alloc (Nat.le_refl _) _).size
    clear o5 b5
    go_wp2
    go_ret
    exact ⟨_, rfl, O5.out, B5.out⟩
end Go.Proofs.Ytnkpboobfkjibal
