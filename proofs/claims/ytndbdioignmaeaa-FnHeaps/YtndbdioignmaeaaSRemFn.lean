/-
  spec.RemoveAt: a heap without the one at k, in memory of its own. Nothing old is written.
-/
import Derived.Test.YtndbdioignmaeaaSPop
import Derived.Test.YtndbdioignmaeaaSUp
import Derived.Test.YtndbdioignmaeaaWkApp2
import Derived.Deep.DeepCutAuto
namespace Go.Proofs.Ytndbdioignmaeaa
open Go.RowKit

theorem removeL_end (l : List WkEl) (m : Nat) (hl : l.length = m + 1) : removeL l m = l.take m := by
  unfold removeL
  rw [hl, if_neg (by omega)]
  rfl
theorem removeL_mid (l : List WkEl) (k m : Nat) (hl : l.length = m + 1) (hk : k < m) : removeL l k = if (upL k ((l.take m).set k (l.getD m wz)) k).2 = k then (downL m (upL k ((l.take m).set k (l.getD m wz)) k).1 k 0).1 else (upL k ((l.take m).set k (l.getD m wz)) k).1 := by
  unfold removeL putAt
  rw [hl, if_pos (by omega)]
  rw [show (l.take (m + 1 - 1)) = l.take m from rfl, show m + 1 - 1 = m from rfl, List.length_take, hl, show min m (m + 1) = m by omega]

set_option linter.unusedSimpArgs false in
set_option maxRecDepth 100000 in
set_option maxHeartbeats 8000000 in
theorem sRemoveAt_yes (ga oa ca n m k : Nat) (xs : List WkEl) (w : World) (hr : WkReads w (.slice (some ⟨ga, oa, none⟩) n ca) xs) (hn : xs.length = n) (hm : n = m + 1) (hk : k < n) (hg : goodW xs = true) (hh : heapB xs = true) :
    Calls Try.prog 35 #[.slice (some ⟨ga, oa, none⟩) n ca, .int .i64 k] w fun e w' => ∃ v', e = .returned (.tuple #[v', .bool true]) ∧ WkOwn w.heap.size w'.heap.size w' v' (removeL xs k) ∧ Below w.heap.size w w' := by
  obtain ⟨i0, hi, hz0, hz1, hz2⟩ := info_parts info_work
  have HR := hid hr
  have HN := hid hn
  have HM := hid hm
  have hl := goodW_len hg
  have hn40 : n ≤ 40 := by omega
  have hpos : 0 < n := by omega
  have hmn : m < n := by omega
  have d1 : decide ((k : Int) < 0) = false := by simp
  have d2 : decide ((n : Int) ≤ (k : Int)) = false := by simp; omega
  have r1 : (n : Int) - 1 = (m : Int) := by omega
  have n1 : (0 : Int) ≤ (m : Int) := by omega
  have n2 : (m : Int) < (n : Int) := by omega
  have HG := hid hg
  have HH := hid hh
  clear hr hn hm hg hh hl
  go_enter Try.func35, Try.ntmps35
  go_wp2_with fail
  refine (l3Good_eq _ xs true HG.out _ HR.out).mono ?_
  rintro e w1 ⟨rfl, b1⟩
  have B1 := hid b1
  clear b1
  go_wp2_with fail
  refine (l3Is_eq _ xs true HH.out _ (HR.out.below B1.out) (by rw [HN.out]; omega)).mono ?_
  rintro e w2 ⟨rfl, b2⟩
  have B2 : Hid (Below w.heap.size w w2) := B1.out.trans (b2.mono B1.out.size)
  clear b2 B1
  have hca : Hid (∀ i, i < xs.length → WkCells w2 ga (oa + i * 3) (xs.getD i (0, 0, 0))) := by
    obtain ⟨_, _, _, e, hc⟩ := (HR.out.below B2.out).cells 0 (by rw [HN.out]; exact hpos)
    cases e
    exact hc
  have hfc := hid (wkflat_cells hca.out)
  have hlt : ga < w2.heap.size := (hca.out 0 (by rw [HN.out]; exact hpos)).lt
  go_wp2_with (at_builtin; refine wpList_append_grows _ rfl _ _ 46 rfl 48 i0 (.agg #[.int .i64 0, .int .i64 0, .int .i64 0]) 3 24 Try.underlying46 hi hz0 hz1 hz2 rfl (by decide) (some ⟨w2.heap.size, 0, none⟩) 0 0 [] rfl (by intro h; cases h) rfl (by intro b0 _ j u h; simp at h) ⟨ga, oa, none⟩ n ca (wkflat xs) rfl (by rw [← HN.out]; exact length_wkflat xs) ?c1 (wkflat_one _) (by omega) (by unfold maxLen; omega) (by omega) ?_)
  case c1 => exact cells_below hfc.out ((Below.refl _ _).alloc (Nat.le_refl _) _) hlt
  intro v3 w3 hown hgr
  have B3 : Hid (Below w.heap.size w w3) := (B2.out.alloc B2.out.size _).grown hgr (by have := B2.out.size; simp; omega) (by intro k hk; cases hk)
  obtain ⟨g, cap, rfl, hgb, o3⟩ := WkOwn.nonempty hown (by rw [HN.out]; omega) (List.length_pos_iff.1 (by rw [HN.out]; exact hpos)) (Nat.le_refl _)
  rw [HN.out] at o3 ⊢
  have hgw : w.heap.size ≤ g := by have := B2.out.size; omega
  obtain ⟨y, hy0⟩ : ∃ y, y = xs.getD m wz := ⟨_, rfl⟩
  have hcap : n ≤ cap := by
    rcases o3.2 with ⟨a, c, e, e2⟩ | ⟨g', c, e, hg, hf⟩
    · cases e; omega
    · cases e; have := hg.2.2; rw [HN.out] at this; exact this
  have n4 : (m : Int) ≤ (cap : Int) := by omega
  obtain ⟨a0, a1, a2⟩ : WkCells w3 g (m * 3) y := by
    obtain ⟨_, _, e, _, hcc⟩ := o3.form 0 (by rw [HN.out]; exact hpos)
    cases e
    rw [hy0]
    exact (hcc m (by rw [HN.out]; exact hmn)).1
  obtain ⟨W, hW⟩ : ∃ W, W = w3.alloc (.cells #[.int .i64 y.1, .int .i64 y.2.1, .int .i64 y.2.2] 48) := ⟨_, rfl⟩
  have bW : Below w3.heap.size w3 W := by rw [hW]; exact (Below.refl _ _).alloc (Nat.le_refl _) _
  have OW := hid ((o3.below bW).head HN.out (Nat.le_of_lt hmn) hpos)
  have BW : Hid (Below w.heap.size w W) := B3.out.trans (bW.mono B3.out.size)
  obtain ⟨⟨p0, p1, p2⟩, _⟩ := alloc3 w3 y
  rw [← hW] at p0 p1 p2
  have HLT : Hid ((xs.take m).length = m) := by show _ = _; rw [List.length_take, HN.out]; omega
  have HWW := hid hW
  have HY := hid hy0
  have hs3 : g < w3.heap.size := by omega
  clear hown hgr o3 hW bW hy0
  go_upto_region 5 with fail
  rw [← HWW.out]
  by_cases hkm : k < m
  · have hd : decide ((k : Int) < (m : Int)) = true := by simpa using hkm
    have n5 : (k : Int) < (m : Int) := by omega
    have hst := WkOwn.set (xs := xs.take m) (by rw [HLT.out]; exact OW.out) k y (by rw [HLT.out]; exact hkm)
    rw [HLT.out] at hst
    obtain ⟨s1, _, ⟨f0, f1, f2⟩, ⟨t0, t1, t2⟩⟩ := hst
    obtain ⟨V, hV0⟩ : ∃ V, V = ((W.setCell ⟨g, k * 3, none⟩ (.int .i64 y.1)).setCell ⟨g, k * 3 + 1, none⟩ (.int .i64 y.2.1)).setCell ⟨g, k * 3 + 2, none⟩ (.int .i64 y.2.2) := ⟨_, rfl⟩
    have hV : V = put3 W g (k * 3) y := hV0
    have bV : But (fun j => j = g) W V := by rw [hV]; exact but_put3 (P := fun j => j = g) (But.refl _ _) rfl _ _
    obtain ⟨l, hll⟩ : ∃ l, l = (xs.take m).set k y := ⟨_, rfl⟩
    have OV : Hid (WkOwn g (g + 1) V (.slice (some ⟨g, 0, none⟩) m cap) l) := by rw [hV, hll]; exact s1
    have HLV : Hid (l.length = m) := by show _ = _; rw [hll, List.length_set]; exact HLT.out
    have hsW := BW.out.size
    have BV : Hid (Below w.heap.size w V) := BW.out.trans (bV.to hsW (fun j hj h => by omega))
    have HRR : Hid (removeL xs k = if (upL k l k).2 = k then (downL m (upL k l k).1 k 0).1 else (upL k l k).1) := by
      rw [hll, HY.out]
      exact removeL_mid xs k m (by rw [HN.out]; exact HM.out) hkm
    have hgV : g ≤ V.heap.size := by have := bV.size; have := lt_of_cell p0; omega
    have HVV := hid hV0
    clear s1 hV hV0 bV hll
    go_upto_region 8 with fail
    rw [← HVV.out]
    obtain ⟨u, hu⟩ : ∃ u, u = (upL k l k).2 := ⟨_, rfl⟩
    have HU := hid hu
    have UP : Hid (Calls Try.prog 84 #[.slice (some ⟨g, 0, none⟩) m cap, .int .i64 k] V fun e w' => e = .returned (.int .i64 u) ∧ WkOwn g (g + 1) w' (.slice (some ⟨g, 0, none⟩) m cap) (upL k l k).1 ∧ But (fun j => g ≤ j ∧ j < g + 1) V w') := by
      rw [hu]
      exact l3Up_but g (g + 1) _ l k V OV.out (by rw [HLV.out]; exact hkm) (by rw [HLV.out]; omega) hgV
    clear hu
    go_wp2_with fail
    refine UP.out.mono ?_
    rintro e w6 ⟨rfl, o6, b6⟩
    have O6 := hid o6
    have hs6 := b6.size
    have B6 : Hid (Below w.heap.size w w6) := BV.out.trans (b6.to (by have := BV.out.size; omega) (fun j hj h => by omega))
    have HL6 : Hid ((upL k l k).1.length = m) := by show _ = _; rw [upL_len]; exact HLV.out
    clear o6 b6 a0 a1 a2 p0 p1 p2 f0 f1 f2 t0 t1 t2
    by_cases huk : u = k
    · have hd2 : ((u : Int) == (k : Int)) = true := by simp [huk]
      have HRM0 : Hid (removeL xs k = (downL m (upL k l k).1 k 0).1) := by show _ = _; rw [HRR.out, if_pos (by rw [← HU.out]; exact huk)]
      obtain ⟨l6, hl6⟩ : ∃ l6, l6 = (upL k l k).1 := ⟨_, rfl⟩
      rw [← hl6] at O6 HL6 HRM0
      obtain ⟨l7, hl7⟩ : ∃ l7, l7 = (downL m l6 k 0).1 := ⟨_, rfl⟩
      have HRM : Hid (removeL xs k = l7) := by show _ = _; rw [HRM0.out, hl7]
      have HLN : Hid (l7.length = m) := by show _ = _; rw [hl7, downL_len]; exact HL6.out
      have DN : Hid (Calls Try.prog 85 #[.slice (some ⟨g, 0, none⟩) m cap, .int .i64 k] w6 fun e w' => e = .returned (.int .i64 (downL m l6 k 0).2) ∧ WkOwn g (g + 1) w' (.slice (some ⟨g, 0, none⟩) m cap) l7 ∧ But (fun j => g ≤ j ∧ j < g + 1) w6 w') := by
        have := l3Down_but g (g + 1) _ l6 k w6 O6.out (by rw [HL6.out]; exact hkm) (by rw [HL6.out]; omega) (by omega)
        rw [HL6.out, ← hl7] at this
        exact this
      clear huk hl6 hl7
      go_wp2_with fail
      refine DN.out.mono ?_
      rintro e w7 ⟨rfl, o7, b7⟩
      have O7 := hid o7
      have B7 : Hid (Below w.heap.size w w7) := B6.out.trans (b7.to (by have := B6.out.size; omega) (fun j hj h => by omega))
      clear o7 b7
      by_cases hm0 : 0 < m
      · have hfc2 : Hid (∀ j u, (wkflat l7)[j]? = some u → w7.cell? ((⟨g, 0, none⟩ : Addr).add j) = some u) := by
          obtain ⟨_, _, e, _, hcc⟩ := O7.out.form 0 (by rw [HLN.out]; exact hm0)
          cases e
          exact wkflat_cells fun i hi => by rw [Nat.zero_add]; exact (hcc i hi).1
        have hgz : g < w7.heap.size := by
          obtain ⟨_, _, e, _, hcc⟩ := O7.out.form 0 (by rw [HLN.out]; exact hm0)
          cases e
          exact (hcc 0 (by rw [HLN.out]; exact hm0)).1.lt
        go_wp2_with (at_builtin; refine wpList_append_grows _ rfl _ _ 46 rfl 48 i0 (.agg #[.int .i64 0, .int .i64 0, .int .i64 0]) 3 24 Try.underlying46 hi hz0 hz1 hz2 rfl (by decide) (some ⟨w7.heap.size, 0, none⟩) 0 0 [] rfl (by intro h; cases h) rfl (by intro b0 _ j u h; simp at h) ⟨g, 0, none⟩ m cap (wkflat l7) rfl (by rw [← HLN.out]; exact length_wkflat _) ?d1 (wkflat_one _) (by omega) (by unfold maxLen; omega) (by omega) ?_)
        case d1 => exact cells_below hfc2.out ((Below.refl _ _).alloc (Nat.le_refl _) _) hgz
        intro v9 w9 hown9 hgr9
        have B9 : Hid (Below w.heap.size w w9) := (B7.out.alloc B7.out.size _).grown hgr9 (by have := B7.out.size; simp; omega) (by intro k hk; cases hk)
        have O9 := hid ((WkOwn.of_owns (xs := l7) hown9 (by rw [HLN.out]; omega)).mono (lo' := w.heap.size) (by have := B7.out.size; omega) (Nat.le_refl _))
        clear hown9 hgr9
        go_wp2
        go_ret2
        exact ⟨_, rfl, by rw [HRM.out]; exact O9.out, B9.out⟩
      · obtain rfl : m = 0 := by omega
        have HL0 : Hid (l7 = []) := List.eq_nil_of_length_eq_zero HLN.out
        go_wp2_with (at_builtin; refine Lib.wpList_append_run_sl _ rfl _ _ 46 rfl _ _ rfl rfl (wknothing_run hi hz1 _ _ _ _ (Nat.le_refl _) _ _) ?_)
        go_ret2
        exact ⟨_, rfl, by rw [HRM.out, HL0.out]; exact wkown_nil _ _ _ _ _, B7.out.alloc B7.out.size _⟩
    · have hd2 : ((u : Int) == (k : Int)) = false := by simp; omega
      obtain ⟨l6, hl6⟩ : ∃ l6, l6 = (upL k l k).1 := ⟨_, rfl⟩
      have HRM : Hid (removeL xs k = l6) := by show _ = _; rw [HRR.out, if_neg (by rw [← HU.out]; exact huk), hl6]
      rw [← hl6] at O6 HL6
      have HLN := HL6
      clear huk hl6
      by_cases hm0 : 0 < m
      · have hfc2 : Hid (∀ j u, (wkflat l6)[j]? = some u → w6.cell? ((⟨g, 0, none⟩ : Addr).add j) = some u) := by
          obtain ⟨_, _, e, _, hcc⟩ := O6.out.form 0 (by rw [HLN.out]; exact hm0)
          cases e
          exact wkflat_cells fun i hi => by rw [Nat.zero_add]; exact (hcc i hi).1
        have hgz : g < w6.heap.size := by
          obtain ⟨_, _, e, _, hcc⟩ := O6.out.form 0 (by rw [HLN.out]; exact hm0)
          cases e
          exact (hcc 0 (by rw [HLN.out]; exact hm0)).1.lt
        go_wp2_with (at_builtin; refine wpList_append_grows _ rfl _ _ 46 rfl 48 i0 (.agg #[.int .i64 0, .int .i64 0, .int .i64 0]) 3 24 Try.underlying46 hi hz0 hz1 hz2 rfl (by decide) (some ⟨w6.heap.size, 0, none⟩) 0 0 [] rfl (by intro h; cases h) rfl (by intro b0 _ j u h; simp at h) ⟨g, 0, none⟩ m cap (wkflat l6) rfl (by rw [← HLN.out]; exact length_wkflat _) ?d2 (wkflat_one _) (by omega) (by unfold maxLen; omega) (by omega) ?_)
        case d2 => exact cells_below hfc2.out ((Below.refl _ _).alloc (Nat.le_refl _) _) hgz
        intro v9 w9 hown9 hgr9
        have B9 : Hid (Below w.heap.size w w9) := (B6.out.alloc B6.out.size _).grown hgr9 (by have := B6.out.size; simp; omega) (by intro k hk; cases hk)
        have O9 := hid ((WkOwn.of_owns (xs := l6) hown9 (by rw [HLN.out]; omega)).mono (lo' := w.heap.size) (by have := B6.out.size; omega) (Nat.le_refl _))
        clear hown9 hgr9
        go_wp2
        go_ret2
        exact ⟨_, rfl, by rw [HRM.out]; exact O9.out, B9.out⟩
      · obtain rfl : m = 0 := by omega
        have HL0 : Hid (l6 = []) := List.eq_nil_of_length_eq_zero HLN.out
        go_wp2_with (at_builtin; refine Lib.wpList_append_run_sl _ rfl _ _ 46 rfl _ _ rfl rfl (wknothing_run hi hz1 _ _ _ _ (Nat.le_refl _) _ _) ?_)
        go_ret2
        exact ⟨_, rfl, by rw [HRM.out, HL0.out]; exact wkown_nil _ _ _ _ _, B6.out.alloc B6.out.size _⟩
  · have hd : decide ((k : Int) < (m : Int)) = false := by simp; omega
    obtain rfl : k = m := by omega
    obtain ⟨l, hll⟩ : ∃ l, l = xs.take k := ⟨_, rfl⟩
    have HRM : Hid (removeL xs k = l) := by rw [hll]; exact removeL_end xs k (by rw [HN.out]; exact HM.out)
    rw [← hll] at OW HLT
    have HLN := HLT
    clear hll a0 a1 a2 p0 p1 p2
    by_cases hm0 : 0 < k
    · have hfc2 : Hid (∀ j u, (wkflat l)[j]? = some u → W.cell? ((⟨g, 0, none⟩ : Addr).add j) = some u) := by
        obtain ⟨_, _, e, _, hcc⟩ := OW.out.form 0 (by rw [HLN.out]; exact hm0)
        cases e
        exact wkflat_cells fun i hi => by rw [Nat.zero_add]; exact (hcc i hi).1
      have hgz : g < W.heap.size := by
        obtain ⟨_, _, e, _, hcc⟩ := OW.out.form 0 (by rw [HLN.out]; exact hm0)
        cases e
        exact (hcc 0 (by rw [HLN.out]; exact hm0)).1.lt
      go_wp2_with (at_builtin; refine wpList_append_grows _ rfl _ _ 46 rfl 48 i0 (.agg #[.int .i64 0, .int .i64 0, .int .i64 0]) 3 24 Try.underlying46 hi hz0 hz1 hz2 rfl (by decide) (some ⟨W.heap.size, 0, none⟩) 0 0 [] rfl (by intro h; cases h) rfl (by intro b0 _ j u h; simp at h) ⟨g, 0, none⟩ k cap (wkflat l) rfl (by rw [← HLN.out]; exact length_wkflat _) ?d3 (wkflat_one _) (by omega) (by unfold maxLen; omega) (by omega) ?_)
      case d3 => exact cells_below hfc2.out ((Below.refl _ _).alloc (Nat.le_refl _) _) hgz
      intro v9 w9 hown9 hgr9
      have B9 : Hid (Below w.heap.size w w9) := (BW.out.alloc BW.out.size _).grown hgr9 (by have := BW.out.size; simp; omega) (by intro k hk; cases hk)
      have O9 := hid ((WkOwn.of_owns (xs := l) hown9 (by rw [HLN.out]; omega)).mono (lo' := w.heap.size) (by have := BW.out.size; omega) (Nat.le_refl _))
      clear hown9 hgr9
      go_wp2
      go_ret2
      exact ⟨_, rfl, by rw [HRM.out]; exact O9.out, B9.out⟩
    · obtain rfl : k = 0 := by omega
      have HL0 : Hid (l = []) := List.eq_nil_of_length_eq_zero HLN.out
      go_wp2_with (at_builtin; refine Lib.wpList_append_run_sl _ rfl _ _ 46 rfl _ _ rfl rfl (wknothing_run hi hz1 _ _ _ _ (Nat.le_refl _) _ _) ?_)
      go_ret2
      exact ⟨_, rfl, by rw [HRM.out, HL0.out]; exact wkown_nil _ _ _ _ _, BW.out.alloc BW.out.size _⟩
theorem sRemoveAt_any (v : Value) (xs : List WkEl) (k : Int) (w : World) (hr : WkReads w v xs) :
    Calls Try.prog 35 #[v, .int .i64 k] w fun e w' => ∃ v', e = .returned (.tuple #[v', .bool (remB xs k)]) ∧ WkOwn w.heap.size w'.heap.size w' v' (remY xs k) ∧ Below w.heap.size w w' := by
  have HR := hid hr
  obtain ⟨a, cap, rfl, _, _⟩ := hr
  obtain ⟨t, ht⟩ : ∃ t, goodW xs = t := ⟨_, rfl⟩
  obtain ⟨s, hs⟩ : ∃ s, heapB xs = s := ⟨_, rfl⟩
  have hrb : remB xs k = ((t && s) && (decide (0 ≤ k) && decide (k < xs.length))) := by unfold remB; rw [ht, hs]
  have HT := hid ht
  have HS := hid hs
  cases t with
  | false =>
    have hv : remB xs k = false := hrb
    rw [remY_no hv, hv]
    clear ht hs hrb hv
    go_enter Try.func35, Try.ntmps35
    go_wp2_with fail
    refine (l3Good_eq _ xs false HT.out _ HR.out).mono ?_
    rintro e w1 ⟨rfl, b1⟩
    have B1 := hid b1
    clear b1
    go_wp2
    go_ret2
    exact ⟨_, rfl, wkown_nil _ _ _ _ _, B1.out⟩
  | true =>
    have hl := goodW_len ht
    cases s with
    | false =>
      have hv : remB xs k = false := hrb
      rw [remY_no hv, hv]
      clear ht hs hrb hv
      go_enter Try.func35, Try.ntmps35
      go_wp2_with fail
      refine (l3Good_eq _ xs true HT.out _ HR.out).mono ?_
      rintro e w1 ⟨rfl, b1⟩
      have B1 := hid b1
      clear b1
      go_wp2_with fail
      refine (l3Is_eq _ xs false HS.out _ (HR.out.below B1.out) (by omega)).mono ?_
      rintro e w2 ⟨rfl, b2⟩
      have B2 : Hid (Below w.heap.size w w2) := B1.out.trans (b2.mono B1.out.size)
      clear b2 B1
      go_wp2
      go_ret2
      exact ⟨_, rfl, wkown_nil _ _ _ _ _, B2.out⟩
    | true =>
      by_cases hk : 0 ≤ k ∧ k < xs.length
      · have hv : remB xs k = true := by rw [hrb]; simp [hk]
        rw [remY_yes hv, hv]
        obtain ⟨k', rfl⟩ := Int.eq_ofNat_of_zero_le hk.1
        rw [Int.toNat_natCast]
        have hk2 : k' < xs.length := by omega
        obtain ⟨ga, oa, ca, e, _⟩ := HR.out.cells k' hk2
        cases e
        exact sRemoveAt_yes ga oa _ xs.length (xs.length - 1) k' xs w HR.out rfl (by omega) hk2 ht hs
      · have hv : remB xs k = false := by rw [hrb]; simp; omega
        rw [remY_no hv, hv]
        clear ht hs hrb hv
        by_cases hk0 : k < 0
        · have d1 : decide (k < 0) = true := by simpa using hk0
          go_enter Try.func35, Try.ntmps35
          go_wp2_with fail
          refine (l3Good_eq _ xs true HT.out _ HR.out).mono ?_
          rintro e w1 ⟨rfl, b1⟩
          have B1 := hid b1
          clear b1
          go_wp2_with fail
          refine (l3Is_eq _ xs true HS.out _ (HR.out.below B1.out) (by omega)).mono ?_
          rintro e w2 ⟨rfl, b2⟩
          have B2 : Hid (Below w.heap.size w w2) := B1.out.trans (b2.mono B1.out.size)
          clear b2 B1
          go_wp2
          go_ret2
          exact ⟨_, rfl, wkown_nil _ _ _ _ _, B2.out⟩
        · have d1 : decide (k < 0) = false := by simpa using hk0
          have d3 : (xs.length : Int) ≤ k := by omega
          have d2 : decide ((xs.length : Int) ≤ k) = true := by simpa using d3
          clear hk
          go_enter Try.func35, Try.ntmps35
          go_wp2_with fail
          refine (l3Good_eq _ xs true HT.out _ HR.out).mono ?_
          rintro e w1 ⟨rfl, b1⟩
          have B1 := hid b1
          clear b1
          go_wp2_with fail
          refine (l3Is_eq _ xs true HS.out _ (HR.out.below B1.out) (by omega)).mono ?_
          rintro e w2 ⟨rfl, b2⟩
          have B2 : Hid (Below w.heap.size w w2) := B1.out.trans (b2.mono B1.out.size)
          clear b2 B1
          go_wp2
          go_ret2
          exact ⟨_, rfl, wkown_nil _ _ _ _ _, B2.out⟩
end Go.Proofs.Ytndbdioignmaeaa
