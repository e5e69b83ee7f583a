/-
  spec.l4Late: the jobs that are late in slots, in memory of its own. Nothing old is written.
-/
import Derived.Test.YtobkockikpgcoabLateKit
import Derived.Test.YtobkockikpgcoabKIntRows
import Derived.Test.YtobkockikpgcoabOwnsSame
import Derived.RangeFuncBox
namespace Go.Proofs.Ytobkockikpgcoab
open Go.RowKit

theorem l1Bit_eq (b : Bool) (r : Int) (h : (if b = true then (1 : Int) else 0) = r) (w : World) : Calls Try.prog 44 #[.bool b] w fun e w' => e = .returned (.int .i64 r) ∧ w' = w := by
  cases b
  · have hr : Hid (r = 0) := h.symm
    clear h
    go_enter Try.func44, Try.ntmps44
    go_wp2
    go_ret
    exact ⟨by rw [hr.out]; rfl, rfl⟩
  · have hr : Hid (r = 1) := h.symm
    clear h
    go_enter Try.func44, Try.ntmps44
    go_wp2
    go_ret
    exact ⟨by rw [hr.out]; rfl, rfl⟩
set_option maxRecDepth 100000 in
set_option maxHeartbeats 8000000 in
theorem slate_any (v vs : Value) (xs : List JbEl) (ss : List Int) (w : World) (hr : JbReads w v xs) (hs : KReads w vs ss) (hg : goodJ xs = true) (h24 : ss.length = 24) :
    Calls Try.prog 38 #[v, vs] w fun e w' => ∃ u, e = .returned u ∧ KOwn w.heap.size w'.heap.size w' u (lateL xs ss) ∧ Below w.heap.size w w' := by
  have HR := hid hr
  have HG := hid hg
  have hlen := goodJ_len hg
  obtain ⟨a, cap, rfl, _, _⟩ := hr
  obtain ⟨gs, os, caps, rfl, _, hcs⟩ := kcells_at hs (by omega)
  rw [h24] at hcs ⊢
  have HC := hid hcs
  obtain ⟨i0, hi, hz0, hz1, hz2⟩ := info_parts info_int
  clear hg hs hcs h24
  go_enter Try.func38, Try.ntmps38
  go_wp2
  go_loopw [5, 12] (fun o i wr => ∃ k : Nat, k ≤ xs.length ∧ i = .int .i64 k ∧ wr.ownsRow w.heap.size 3 1 o (lateU xs ss k).length (kflat (lateU xs ss k)) ∧ Below w.heap.size w wr) (fun _ i _ => xs.length - (intOf i).toNat)
  case atStart => exact ⟨0, Nat.zero_le _, rfl, World.ownsRow_nil _ _ _ _, Below.refl _ _⟩
  case round =>
    obtain ⟨k, hk, rfl, hrow, hbel⟩ := hrel
    have HRow := hid hrow
    have HB := hid hbel
    clear hrow hbel
    by_cases hlt : k < xs.length
    · obtain ⟨g, o, cap', e, hc⟩ := (HR.out.below HB.out).cells k hlt
      cases e
      obtain ⟨p, hp⟩ : ∃ p, p = (xs.getD k (0, 0, 0)).1 := ⟨_, rfl⟩
      obtain ⟨q, hq⟩ : ∃ q, q = (xs.getD k (0, 0, 0)).2.1 := ⟨_, rfl⟩
      obtain ⟨r, hr⟩ : ∃ r, r = (xs.getD k (0, 0, 0)).2.2 := ⟨_, rfl⟩
      obtain ⟨c0, c1, c2⟩ := hc k hlt
      rw [← hp] at c0
      rw [← hq] at c1
      rw [← hr] at c2
      have hj := jobB_in (goodJ_at HG.out k hlt)
      rw [← hp, ← hq, ← hr] at hj
      obtain ⟨E, rfl⟩ : ∃ E : Nat, r = (E : Int) := ⟨r.toNat, by omega⟩
      have HLB : Hid (lateB xs ss k = decide (cS (sl ss) k E < q)) := by
        show decide _ = _
        rw [← hq, ← hr, Int.toNat_natCast]
      have hll := length_lateU xs ss k
      obtain ⟨wo, hwo⟩ : ∃ wo, wo = wr := ⟨_, rfl⟩
      subst hwo
      have hE : E ≤ 24 := by omega
      clear hc hp hq hr
      go_wp2
      go_loopw [8, 9] (fun n i wz => ∃ t : Nat, t ≤ E ∧ i = .int .i64 t ∧ n = .int .i64 (cS (sl ss) k t) ∧ wo.alloc (.cells #[.int .i64 p, .int .i64 q, .int .i64 (E : Int)] 34) = wz) (fun _ i _ => E - (intOf i).toNat)
      case atStart => exact ⟨0, Nat.zero_le _, rfl, rfl, rfl⟩
      case round =>
        obtain ⟨t, ht, rfl, rfl, rfl⟩ := hrel
        by_cases hte : t < E
        · obtain ⟨s, hs⟩ : ∃ s, s = sl ss t := ⟨_, rfl⟩
          have hcell : wo.cell? ⟨gs, os + t, none⟩ = some (.int .i64 s) := by
            have := HC.out t (by omega)
            rw [← hs] at this
            exact (HB.out.cell (p := ⟨gs, os + t, none⟩) (lt_of_cell this)).trans this
          have hgw : gs < wo.heap.size := lt_of_cell hcell
          have hcs1 := cS_nonneg (sl ss) k t
          have hcs2 := cS_le (sl ss) k t
          obtain ⟨c, hc⟩ : ∃ c, c = cS (sl ss) k t := ⟨_, rfl⟩
          rw [← hc] at hcs1 hcs2 ⊢
          have n0 : (0 : Int) ≤ (t : Int) := by omega
          have n1 : (t : Int) < 24 := by omega
          by_cases hsk : s = (k : Int)
          · have HV : Hid (cS (sl ss) k (t + 1) = c + 1) := by show cS _ _ _ + _ = _; rw [← hc, ← hs, if_pos hsk]
            have hb : (s == (k : Int)) = true := by simpa using hsk
            have hw1 : IntKind.i64.wrap (c + 1) = c + 1 := by rw [IntKind.wrap_i64]; omega
            clear hc hs hsk
            go_wp2_with fail
            refine (l1Bit_eq true 1 rfl _).mono ?_
            rintro e w' ⟨rfl, hw⟩; obtain rfl := hw.symm
            go_wp2
            go_roundw
            case rel => exact ⟨t + 1, by omega, by go_num, by rw [HV.out], trivial⟩
            case measure => simp [intOf]; omega
          · have HV : Hid (cS (sl ss) k (t + 1) = c) := by show cS _ _ _ + _ = _; rw [← hc, ← hs, if_neg hsk]; omega
            have hb : (s == (k : Int)) = false := by rw [beq_eq_false_iff_ne]; exact hsk
            have hw1 : IntKind.i64.wrap (c + 0) = c := by rw [IntKind.wrap_i64]; omega
            clear hc hs hsk
            go_wp2_with fail
            refine (l1Bit_eq false 0 rfl _).mono ?_
            rintro e w' ⟨rfl, hw⟩; obtain rfl := hw.symm
            go_wp2
            go_roundw
            case rel => exact ⟨t + 1, by omega, by go_num, by rw [HV.out], trivial⟩
            case measure => simp [intOf]; omega
        · obtain rfl : t = E := by omega
          obtain ⟨c, hc⟩ : ∃ c, c = cS (sl ss) k t := ⟨_, rfl⟩
          rw [← hc] at HLB ⊢
          by_cases hcq : c < q
          · have HV : Hid (lateU xs ss (k + 1) = lateU xs ss k ++ [(k : Int)]) := by
              show (if _ then _ else _) = _
              rw [HLB.out, if_pos (by simpa using hcq)]
            clear HLB hc
            go_wp2_with (at_builtin; refine wpList_append_own _ rfl _ _ 46 rfl w.heap.size 3 i0 (.int .i64 0) 1 8 Try.underlying46 hi hz0 hz1 hz2 rfl (by decide) _ _ _ rfl ((HRow.out.alloc _).alloc _) ⟨wo.heap.size + 1, 0, none⟩ 1 1 [.int .i64 k] rfl rfl (one_at_new (by simp)) (by simp [Value.oneCell']) (by unfold maxLen; omega) (by omega) (by have := HB.out.size; simp; omega) ?_; intro v' w1 hown' hgrow _)
            obtain ⟨g', cap', rfl⟩ := ownsRow_succ hown'
            have HRn : Hid (w1.ownsRow w.heap.size 3 1 (.slice (some ⟨g', 0, none⟩) ((lateU xs ss k).length + 1) cap') (lateU xs ss (k + 1)).length (kflat (lateU xs ss (k + 1)))) := by
              show World.ownsRow _ _ _ _ _ _ _
              rw [HV.out, kflat_append, List.length_append]
              exact hown'
            have HBn : Hid (Below w.heap.size w w1) := grown_below (HB.out.alloc HB.out.size _) (by have := HB.out.size; simp; omega) hgrow (owns_base HRow.out) (Nat.le_refl _)
            clear hown' hgrow
            go_wp2
            go_roundw
            case rel => exact ⟨k + 1, by omega, by go_num, HRn.out, HBn.out⟩
            case measure => simp [intOf]; omega
          · have HV : Hid (lateU xs ss (k + 1) = lateU xs ss k) := by
              show (if _ then _ else _) = _
              rw [HLB.out, if_neg (by simpa using hcq)]
            have HRn : Hid ((wo.alloc (.cells #[.int .i64 p, .int .i64 q, .int .i64 (t : Int)] 34)).ownsRow w.heap.size 3 1 u5 (lateU xs ss (k + 1)).length (kflat (lateU xs ss (k + 1)))) := by
              show World.ownsRow _ _ _ _ _ _ _
              rw [HV.out]
              exact HRow.out.alloc _
            clear HLB hc
            go_wp2
            go_roundw
            case rel => exact ⟨k + 1, by omega, by go_num, HRn.out, HB.out.alloc HB.out.size _⟩
            case measure => simp [intOf]; omega
    · obtain rfl : k = xs.length := by omega
      have hll := length_lateU xs ss xs.length
      go_wp2
      go_ret
      exact ⟨_, rfl, KOwn.of_owns HRow.out (by unfold lateL at *; omega), HB.out⟩
end Go.Proofs.Ytobkockikpgcoab
