/-
  spec.l2Missing: in memory of its own; nothing old is written.
-/
import Derived.Test.YtndbdioignmaeaaSMeet
namespace Go.Proofs.Ytndbdioignmaeaa
open Go.RowKit
set_option maxRecDepth 100000

set_option maxHeartbeats 4000000 in
theorem smiss_any (v : Value) (xs : List Sp) (u : Int) (w : World) (hr : SReads w v xs) (hx : xs.length ≤ 1048576) :
    Calls Try.prog 63 #[v, .int .i64 u] w fun e w' => ∃ v', e = .returned v' ∧ SOwn w.heap.size w' v' (missL xs u) ∧ Below w.heap.size w w' := by
  obtain ⟨i0, hi, hz0, hz1, hz2⟩ := info_parts info_span
  have HR := hid hr
  obtain ⟨a, ca, rfl, _, _⟩ := hr
  go_enter Try.func63, Try.ntmps63
  go_wp2
  go_loopw [5, 6, 11] (fun o at' i wr => ∃ (k n : Nat) (t : Int) (l : List Sp), k ≤ xs.length ∧ i = .int .i64 k ∧ at' = .int .i64 t ∧ missL xs u = l ++ missF u t (xs.drop k) ∧ n ≤ k ∧ wr.ownsRow w.heap.size 39 2 o n (flat l) ∧ Below w.heap.size w wr) (fun _ _ i _ => xs.length - (intOf i).toNat)
  case atStart => exact ⟨0, 0, 0, [], Nat.zero_le _, rfl, rfl, rfl, Nat.le_refl _, owns_nil _ _ _, Below.refl _ _⟩
  case round =>
    obtain ⟨k, n, t, l, hk, rfl, rfl, hm, hn, hown, hbel⟩ := hrel
    have HM := hid hm
    have HO := hid hown
    have HL := hid hbel
    have hln : l.length = n := by have := hown.1; rw [length_flat] at this; omega
    clear hm hown hbel
    by_cases hlt : k < xs.length
    · obtain ⟨ga, oa, cap', e, hca⟩ := sreads_cells (HR.out.below HL.out) k hlt
      cases e
      obtain ⟨c1, c2⟩ := hca k hlt
      have HD : Hid (xs.drop k = ((xs.getD k (0, 0)).1, (xs.getD k (0, 0)).2) :: xs.drop (k + 1)) := by
        show _ = _
        rw [List.drop_eq_getElem_cons hlt, show ((xs.getD k (0, 0)).1, (xs.getD k (0, 0)).2) = xs[k] by simp [List.getD_eq_getElem?_getD, hlt]]
      clear hca
      generalize (xs.getD k (0, 0)).1 = p at c1 HD
      generalize (xs.getD k (0, 0)).2 = q at c2 HD
      by_cases h1 : u ≤ p
      · have HF : Hid (missL xs u = l ++ if t < u then [(t, u)] else []) := by
          show _ = _
          rw [HM.out, HD.out, missF, if_pos h1]
        have hd1 : decide (u ≤ p) = true := by simpa using h1
        by_cases h2 : t < u
        · go_wp2_with (at_builtin; refine wpList_append_own _ rfl _ _ 23 rfl w.heap.size 39 i0 (.agg #[.int .i64 0, .int .i64 0]) 2 16 Try.underlying23 hi hz0 hz1 hz2 rfl (by decide) _ n (flat l) rfl ?own_0 ⟨wr.heap.size + 1, 0, none⟩ 1 1 (flat [(t, u)]) rfl rfl (pair_at ?p0_0 ?p1_0) (flat_one _) (by unfold maxLen; omega) (by omega) ?c5_0 ?_)
          case own_0 => exact (HO.out.alloc _).alloc _
          case c5_0 => have := HL.out.size; simp; omega
          intro v3 w3 hown3 hgr3 _
          have B3 : Hid (Below w.heap.size w w3) := ((HL.out.alloc HL.out.size _).alloc (by have := HL.out.size; simp; omega) _).grown hgr3 (by have := HL.out.size; simp; omega) (owns_block HO.out)
          have O3 : Hid (w3.ownsRow w.heap.size 39 2 v3 (n + 1) (flat (missL xs u))) := by
            have := hown3
            rw [← flat_append] at this
            show World.ownsRow _ _ _ _ _ _ _
            rw [HF.out, if_pos h2]
            exact this
          have hl3 : (missL xs u).length = n + 1 := by rw [HF.out, if_pos h2]; simp [hln]
          clear hown3 hgr3
          go_wp2
          go_ret
          exact ⟨_, rfl, SOwn.of_owns O3.out (by omega), B3.out⟩
        · go_wp2
          go_ret
          refine ⟨_, rfl, ?_, HL.out.alloc HL.out.size _⟩
          rw [HF.out, if_neg (by omega), List.append_nil]
          exact SOwn.of_owns (HO.out.alloc _) (by omega)
      · have hd1 : decide (u ≤ p) = false := by simpa using h1
        by_cases h2 : t < p
        · have HF : Hid (missL xs u = (l ++ [(t, p)]) ++ missF u q (xs.drop (k + 1))) := by
            show _ = _
            rw [HM.out, HD.out, missF, if_neg h1, if_pos h2]
            simp
          go_wp2_with (at_builtin; refine wpList_append_own _ rfl _ _ 23 rfl w.heap.size 39 i0 (.agg #[.int .i64 0, .int .i64 0]) 2 16 Try.underlying23 hi hz0 hz1 hz2 rfl (by decide) _ n (flat l) rfl ?own_1 ⟨wr.heap.size + 1, 0, none⟩ 1 1 (flat [(t, p)]) rfl rfl (pair_at ?p0_1 ?p1_1) (flat_one _) (by unfold maxLen; omega) (by omega) ?c5_1 ?_)
          case own_1 => exact (HO.out.alloc _).alloc _
          case c5_1 => have := HL.out.size; simp; omega
          intro v3 w3 hown3 hgr3 _
          have B3 : Hid (Below w.heap.size w w3) := ((HL.out.alloc HL.out.size _).alloc (by have := HL.out.size; simp; omega) _).grown hgr3 (by have := HL.out.size; simp; omega) (owns_block HO.out)
          have O3 : Hid (w3.ownsRow w.heap.size 39 2 v3 (n + 1) (flat (l ++ [(t, p)]))) := by
            have := hown3
            rw [← flat_append] at this
            exact this
          have e1 := hgr3.cell (a := ⟨wr.heap.size, 1, none⟩) (v := .int .i64 q) (by simp) (fun h => by have := (HO.out.lt _ h.symm).2; simp at this)
          clear hown3 hgr3
          go_wp2
          go_roundw
          case rel => exact ⟨k + 1, n + 1, q, _, by omega, by go_num, rfl, HF.out, by omega, O3.out, B3.out⟩
          case measure => simp [intOf]; omega
        · have HF : Hid (missL xs u = l ++ missF u q (xs.drop (k + 1))) := by
            show _ = _
            rw [HM.out, HD.out, missF, if_neg h1, if_neg h2]
          go_wp2
          go_roundw
          case rel => exact ⟨k + 1, n, q, _, by omega, by go_num, rfl, HF.out, by omega, HO.out.alloc _, HL.out.alloc HL.out.size _⟩
          case measure => simp [intOf]; omega
    · have HF : Hid (missL xs u = l ++ if t < u then [(t, u)] else []) := by
        show _ = _
        rw [HM.out, List.drop_of_length_le (by omega), missF]
      by_cases h2 : t < u
      · go_wp2_with (at_builtin; refine wpList_append_own _ rfl _ _ 23 rfl w.heap.size 39 i0 (.agg #[.int .i64 0, .int .i64 0]) 2 16 Try.underlying23 hi hz0 hz1 hz2 rfl (by decide) _ n (flat l) rfl ?own_2 ⟨wr.heap.size, 0, none⟩ 1 1 (flat [(t, u)]) rfl rfl (pair_at ?p0_2 ?p1_2) (flat_one _) (by unfold maxLen; omega) (by omega) ?c5_2 ?_)
        case own_2 => exact HO.out.alloc _
        case c5_2 => have := HL.out.size; simp; omega
        intro v3 w3 hown3 hgr3 _
        have B3 : Hid (Below w.heap.size w w3) := (HL.out.alloc HL.out.size _).grown hgr3 (by have := HL.out.size; simp; omega) (owns_block HO.out)
        have O3 : Hid (w3.ownsRow w.heap.size 39 2 v3 (n + 1) (flat (missL xs u))) := by
          have := hown3
          rw [← flat_append] at this
          show World.ownsRow _ _ _ _ _ _ _
          rw [HF.out, if_pos h2]
          exact this
        have hl3 : (missL xs u).length = n + 1 := by rw [HF.out, if_pos h2]; simp [hln]
        clear hown3 hgr3
        go_wp2
        go_ret
        exact ⟨_, rfl, SOwn.of_owns O3.out (by omega), B3.out⟩
      · go_wp2
        go_ret
        refine ⟨_, rfl, ?_, HL.out⟩
        rw [HF.out, if_neg (by omega), List.append_nil]
        exact SOwn.of_owns HO.out (by omega)
end Go.Proofs.Ytndbdioignmaeaa
