/-
  impl.replaced: those ahead, then others, then those behind, in memory of its own. Nothing old is written.
-/
import Derived.Test.YtnkpboobfkjibalSCloneM
import Derived.Test.YtnkpboobfkjibalReplacedM
namespace Go.Proofs.Ytnkpboobfkjibal
open Go.RowKit
set_option maxRecDepth 100000

set_option maxHeartbeats 2000000 in
theorem replaced_any (v vy : Value) (xs ys : List Sp) (first behind : Nat) (w : World) (hr : SReads w v xs) (hy : SReads w vy ys) (hfb : first ≤ behind) (hbl : behind ≤ xs.length) (hx : xs.length ≤ 1048576) (hyl : ys.length ≤ 2) :
    Calls Try.prog 49 #[v, .int .i64 first, .int .i64 behind, vy] w fun e w' => ∃ v', e = .returned v' ∧ SOwn w.heap.size w' v' (xs.take first ++ ys ++ xs.drop behind) ∧ Below w.heap.size w w' := by
  obtain ⟨i0, hi, hz0, hz1, hz2⟩ := info_parts info_span
  have HR := hid hr
  have HY := hid hy
  obtain ⟨ay, cy, rfl, _, _⟩ := hy
  clear hr
  go_enter Try.func49, Try.ntmps49
  go_wp2_with fail
  refine (clone_any v xs w HR.out hx).mono ?_
  rintro e w1 ⟨v1, rfl, b1, h1⟩
  have B1 := hid b1
  have HY1 := hid (sreads_addr (HY.out.below b1))
  clear b1
  rcases h1 with ⟨rfl, a1, rfl⟩ | ⟨hne, hown⟩
  · obtain rfl : behind = 0 := by simpa using hbl
    obtain rfl : first = 0 := by omega
    by_cases h0 : ys = []
    · subst h0
      clear HY1 HY HR
      cases a1
      all_goals
        go_wp2_with (first
          | (at_builtin; refine Lib.wpList_append_run_sl _ rfl _ _ 36 rfl _ _ rfl rfl (nothing_run hi hz1 _ _ _ _ (Nat.le_refl _) _ _) ?_))
        go_ret
        exact ⟨_, rfl, sown_nil _ _ _, B1.out⟩
    · obtain ⟨b, off, rfl, hcy⟩ := HY1.out.2.resolve_left h0
      have HCY := hid hcy
      have hpos : 0 < ys.length := List.length_pos_iff.2 h0
      clear HY1 HY HR hcy h0
      cases a1
      all_goals
        go_wp2_with (at_builtin; refine wpList_append_grows _ rfl _ _ 36 rfl 65 i0 (.agg #[.int .i64 0, .int .i64 0]) 2 16 Try.underlying36 hi hz0 hz1 hz2 rfl (by decide) _ 0 0 [] rfl (by simp) rfl (by intro b0 _ j u h; simp at h) ⟨b, off, none⟩ ys.length cy (flat ys) rfl (length_flat ys) HCY.out (flat_one ys) (by omega) (by unfold maxLen; omega) (by omega) ?_)
        intro v2 w2 hown2 hgr2
        have O2 := hid hown2
        have B2 : Hid (Below w.heap.size w w2) := B1.out.grown hgr2 B1.out.size (by intro k hk; cases hk)
        obtain ⟨g2, cap2, rfl, hle2⟩ : ∃ g2 cap2, v2 = .slice (some ⟨g2, 0, none⟩) ys.length cap2 ∧ ys.length ≤ cap2 := by
          rcases hown2.2 with ⟨_, h⟩ | ⟨g, cap, cur, rfl, _, _, hc, _⟩
          · omega
          · exact ⟨g, cap, rfl, hc⟩
        clear hown2 hgr2
        go_wp2_with (first
          | (at_builtin; refine Lib.wpList_append_run_sl _ rfl _ _ 36 rfl _ _ rfl rfl (nothing_run hi hz1 _ _ _ _ hle2 _ _) ?_))
        go_ret
        refine ⟨_, rfl, ?_, B2.out⟩
        rw [List.take_nil, List.nil_append, List.drop_nil, List.append_nil]
        exact SOwn.of_owns (n := ys.length) (owns_mono O2.out B1.out.size) (by omega)
  · obtain ⟨g, cap, cur, rfl, hg, hh, hlc, hcm, hcs, hct⟩ : ∃ g cap cur, v1 = .slice (some ⟨g, 0, none⟩) xs.length cap ∧ w.heap.size ≤ g ∧ w1.heap[g]? = some (.cells cur 65 (0, 0)) ∧ xs.length ≤ cap ∧ cap ≤ maxLen ∧ cur.size = cap * 2 ∧ cur.toList.take (xs.length * 2) = flat xs := by
      rcases hown.2 with ⟨_, h⟩ | h
      · exact absurd (List.eq_nil_of_length_eq_zero h) hne
      · exact h
    have HP := hid (fun k c hk hkc => sown_part (base := w.heap.size) hh hct hg k c hk hkc hx)
    have HA : Hid (∀ j u, (flat xs)[j]? = some u → w1.cell? ⟨g, j, none⟩ = some u) := fun j u hj => by
      have := flat_cells (b := g) (off := 0) (fun i hi => by rw [Nat.zero_add]; exact (own_cells hh hct (Nat.le_refl _) i hi).1) j u hj
      rw [add_lit', Nat.zero_add] at this
      exact this
    have ltf : (flat (xs.take first)).length = first * 2 := by rw [length_flat]; simp; omega
    have ltd : (flat (xs.drop behind)).length = (xs.length - behind) * 2 := by rw [length_flat]; simp
    have n0 : (0 : Int) ≤ (first : Int) := by omega
    have n1 : (first : Int) ≤ (cap : Int) := by omega
    have n2 : (0 : Int) ≤ (behind : Int) := by omega
    have n3 : (behind : Int) ≤ (xs.length : Int) := by omega
    have hm' : cap ≤ 9223372036854775807 := by unfold maxLen at hcm; exact hcm
    clear hown hh hct hcs HR hcm
    by_cases h0 : ys = []
    · subst h0
      clear HY1 HY
      by_cases hbe : behind = xs.length
      · subst hbe
        go_wp2_with (first
          | (at_builtin; refine Lib.wpList_append_run_sl _ rfl _ _ 36 rfl _ _ rfl rfl (nothing_run hi hz1 _ _ _ _ (Nat.le_refl _) _ _) ?_))
        all_goals
          go_ret
          exact ⟨_, rfl, HP.out first first (by omega) (Nat.le_refl _), B1.out⟩
      · have hlt : behind < xs.length := by omega
        go_wp2_with (first
          | (at_builtin; refine wpList_append_grows _ rfl _ _ 36 rfl 65 i0 (.agg #[.int .i64 0, .int .i64 0]) 2 16 Try.underlying36 hi hz0 hz1 hz2 rfl (by decide) (some ⟨g, 0, none⟩) first first (flat (xs.take first)) rfl (by intro h; cases h) ltf (by intro b0 hb0; cases hb0; exact cells_take HA.out first) ⟨g, behind * 2, none⟩ (xs.length - behind) (cap - behind) (flat (xs.drop behind)) rfl ltd (cells_drop HA.out behind) (flat_one _) (by omega) (by unfold maxLen; omega) (by omega) ?_)
          | (at_builtin; refine Lib.wpList_append_run_sl _ rfl _ _ 36 rfl _ _ rfl rfl (nothing_run hi hz1 _ _ _ _ (Nat.le_refl _) _ _) ?_))
        intro v3 w3 hown3 hgr3
        have O3 := hid hown3
        have B3 : Hid (Below w.heap.size w w3) := B1.out.grown hgr3 B1.out.size (by intro k hk; cases hk)
        clear hown3 hgr3
        go_wp2
        go_ret
        refine ⟨_, rfl, ?_, B3.out⟩
        rw [List.append_nil]
        refine SOwn.of_owns (n := first + (xs.length - behind)) (owns_mono ?_ B1.out.size) (by simp; omega)
        have := O3.out
        rw [← flat_append] at this
        exact this
    · obtain ⟨b, off, rfl, hcy⟩ := HY1.out.2.resolve_left h0
      have HCY := hid hcy
      have hpos : 0 < ys.length := List.length_pos_iff.2 h0
      clear HY1 HY hcy h0
      go_wp2_with (at_builtin; refine wpList_append_grows _ rfl _ _ 36 rfl 65 i0 (.agg #[.int .i64 0, .int .i64 0]) 2 16 Try.underlying36 hi hz0 hz1 hz2 rfl (by decide) (some ⟨g, 0, none⟩) first first (flat (xs.take first)) rfl (by intro h; cases h) ltf (by intro b0 hb0; cases hb0; exact cells_take HA.out first) ⟨b, off, none⟩ ys.length cy (flat ys) rfl (length_flat ys) HCY.out (flat_one ys) (by omega) (by unfold maxLen; omega) (by omega) ?_)
      intro v2 w2 hown2 hgr2
      have O2 := hid hown2
      have B2' : Hid (Below w1.heap.size w1 w2) := (Below.refl _ _).grown hgr2 (Nat.le_refl _) (by intro k hk; cases hk)
      have B2 : Hid (Below w.heap.size w w2) := B1.out.trans (B2'.out.mono B1.out.size)
      have HA2 := hid (cells_grown HA.out B2'.out)
      obtain ⟨g2, cap2, rfl, hg2, hle2⟩ : ∃ g2 cap2, v2 = .slice (some ⟨g2, 0, none⟩) (first + ys.length) cap2 ∧ w1.heap.size ≤ g2 ∧ first + ys.length ≤ cap2 := by
        rcases hown2.2 with ⟨_, h⟩ | ⟨g, cap, cur, rfl, hg, _, hc, _⟩
        · omega
        · exact ⟨g, cap, rfl, hg, hc⟩
      clear hown2 hgr2
      by_cases hbe : behind = xs.length
      · subst hbe
        go_wp2_with (first
          | (at_builtin; refine Lib.wpList_append_run_sl _ rfl _ _ 36 rfl _ _ rfl rfl (nothing_run hi hz1 _ _ _ _ hle2 _ _) ?_))
        all_goals
          go_ret
          refine ⟨_, rfl, ?_, B2.out⟩
          refine SOwn.of_owns (n := first + ys.length) (owns_mono ?_ B1.out.size) (by simp; omega)
          have := O2.out
          rw [← flat_append] at this
          exact this
      · have hlt : behind < xs.length := by omega
        go_wp2_with (at_builtin; refine wpList_append_own _ rfl _ _ 36 rfl w1.heap.size 65 i0 (.agg #[.int .i64 0, .int .i64 0]) 2 16 Try.underlying36 hi hz0 hz1 hz2 rfl (by decide) _ _ _ rfl O2.out ⟨g, behind * 2, none⟩ (xs.length - behind) (cap - behind) (flat (xs.drop behind)) rfl ltd (cells_drop HA2.out behind) (flat_one _) (by unfold maxLen; omega) (by omega) B2'.out.size ?_)
        intro v3 w3 hown3 hgr3 _
        have O3 := hid hown3
        have B3 : Hid (Below w.heap.size w w3) := B2.out.grown hgr3 B2.out.size (by intro k hk; simp [Value.ownBlock] at hk; have := B1.out.size; omega)
        clear hown3 hgr3
        go_wp2
        go_ret
        refine ⟨_, rfl, ?_, B3.out⟩
        refine SOwn.of_owns (n := first + ys.length + (xs.length - behind)) (owns_mono ?_ B1.out.size) (by simp; omega)
        have := O3.out
        rw [← flat_append, ← flat_append, ← List.append_assoc] at this
        exact this
end Go.Proofs.Ytnkpboobfkjibal
