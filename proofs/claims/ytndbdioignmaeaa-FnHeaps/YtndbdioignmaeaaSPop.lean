/-
  spec.l3Pop, spec.PopHeap: the first of a heap, and what is left, in memory of its own. Nothing old is written.
-/
import Derived.Test.YtndbdioignmaeaaSDown
import Derived.Test.YtndbdioignmaeaaSGoodW
import Derived.Test.YtndbdioignmaeaaSIsW
import Derived.Test.YtndbdioignmaeaaKWorkApp
import Derived.Test.YtndbdioignmaeaaPushMath
import Derived.Test.YtndbdioignmaeaaBut
import Derived.Deep.RegionLawGrows
import Derived.Deep.DeepCutAuto
namespace Go.Proofs.Ytndbdioignmaeaa
open Go.RowKit

/-- The first m of a row that is owned. -/
theorem WkOwn.head {g n m cap : Nat} {w : World} {xs : List WkEl} (h : WkOwn g (g + 1) w (.slice (some ⟨g, 0, none⟩) n cap) xs) (hn : xs.length = n) (hm : m ≤ n) (h0 : 0 < n) : WkOwn g (g + 1) w (.slice (some ⟨g, 0, none⟩) m cap) (xs.take m) := by
  obtain ⟨hl, h1⟩ := h
  rcases h1 with ⟨a, c, e, e2⟩ | ⟨g', c, e, hg, hf⟩
  · cases e; omega
  · cases e
    have hlt : (xs.take m).length = m := by rw [List.length_take]; omega
    refine ⟨by omega, .inr ⟨g, cap, by rw [hlt], by omega, ?_⟩⟩
    intro i hi
    rw [hlt] at hi
    have := hf i (by omega)
    rw [show (xs.take m).getD i (0, 0, 0) = xs.getD i (0, 0, 0) from getD_take xs m i hi]
    exact this
theorem removeL_zero (l : List WkEl) (m : Nat) (hl : l.length = m + 1) (hm : 0 < m) : removeL l 0 = (downL m ((l.set 0 (l.getD m wz)).take m) 0 0).1 := by
  unfold removeL putAt
  rw [hl, if_pos (by omega), show (l.take (m + 1 - 1)) = l.take m from rfl, show m + 1 - 1 = m from rfl, List.length_take, hl, show min m (m + 1) = m by omega, ← List.take_set]
  rfl
theorem removeL_one (l : List WkEl) (hl : l.length = 1) (x : WkEl) : removeL l 0 = (l.set 0 x).take 0 := by
  unfold removeL
  rw [hl]
  rfl

set_option maxRecDepth 100000 in
set_option maxHeartbeats 4000000 in
theorem l3Pop_any (ga oa ca n m : Nat) (xs : List WkEl) (x : WkEl) (hx0 : x = xs.getD 0 wz) (w : World) (hca : ∀ i, i < xs.length → WkCells w ga (oa + i * 3) (xs.getD i (0, 0, 0))) (hn : xs.length = n) (hm : n = m + 1) (hx : n ≤ 1048576) :
    Calls Try.prog 87 #[.slice (some ⟨ga, oa, none⟩) n ca] w fun e w' => ∃ g cap, e = .returned (.tuple #[.slice (some ⟨g, 0, none⟩) m cap, .agg #[.int .i64 x.1, .int .i64 x.2.1, .int .i64 x.2.2]]) ∧ (w.heap.size ≤ g ∧ g < w'.heap.size) ∧ WkOwn g (g + 1) w' (.slice (some ⟨g, 0, none⟩) m cap) (removeL xs 0) ∧ Below w.heap.size w w' := by
  obtain ⟨i0, hi, hz0, hz1, hz2⟩ := info_parts info_work
  have hlt : ga < w.heap.size := (hca 0 (by omega)).lt
  have hfc := hid (wkflat_cells hca)
  have HN := hid hn
  have HM := hid hm
  have HX0 := hid hx0
  have hpos : 0 < n := by omega
  clear hca hn hm hx0
  go_enter Try.func87, Try.ntmps87
  go_wp2_with (at_builtin; refine wpList_append_grows _ rfl _ _ 46 rfl 48 i0 (.agg #[.int .i64 0, .int .i64 0, .int .i64 0]) 3 24 Try.underlying46 hi hz0 hz1 hz2 rfl (by decide) (some ⟨w.heap.size + 1, 0, none⟩) 0 0 [] rfl (by intro h; cases h) rfl (by intro b0 _ j u h; simp at h) ⟨ga, oa, none⟩ n ca (wkflat xs) rfl (by rw [← HN.out]; exact length_wkflat xs) ?c1 (wkflat_one xs) (by omega) (by unfold maxLen; omega) (by omega) ?_)
  case c1 =>
    intro j u hj
    have := hfc.out j u hj
    rw [show (⟨ga, oa, none⟩ : Addr).add j = ⟨ga, oa + j, none⟩ by rcases j with _ | j <;> simp [Addr.add]] at this ⊢
    rw [World.cell?_alloc_past _ _ _ (by simp; omega), World.cell?_alloc_past _ _ _ hlt]
    exact this
  intro v1 w1 hown hgr
  have B1 : Hid (Below w.heap.size w w1) := (((Below.refl _ _).alloc (Nat.le_refl _) _).alloc (by simp) _).grown hgr (by simp; omega) (by intro k hk; cases hk)
  have hs1 : w.heap.size + 2 ≤ w1.heap.size := by have := hgr.size; simp at this; omega
  obtain ⟨hr0, hrf⟩ := alloc3 w (0, 0, 0)
  have R1 : Hid (WkCells w1 w.heap.size 0 (0, 0, 0) ∧ WkFree w1 w.heap.size 0) := by
    have hb : ∀ k, k = w.heap.size → w1.heap[k]? = (w.alloc (.cells #[.int .i64 0, .int .i64 0, .int .i64 0] 48)).heap[k]? := fun k hk => (hgr.block k (by simp; omega) (by intro h; cases h)).trans (Below.heap_alloc _ _ _ (by simp; omega))
    exact ⟨hr0.of_block (hb _ rfl), hrf.of_block (hb _ rfl)⟩
  obtain ⟨g, cap, rfl, hgb, o1⟩ := WkOwn.nonempty hown (by rw [HN.out]; exact hx) (List.length_pos_iff.1 (by rw [HN.out]; exact hpos)) (Nat.le_refl _)
  rw [HN.out] at o1 ⊢
  obtain ⟨y, hy0⟩ : ∃ y, y = xs.getD m (0, 0, 0) := ⟨_, rfl⟩
  have hcap : n ≤ cap := by
    rcases o1.2 with ⟨a, c, e, e2⟩ | ⟨g', c, e, hg, hf⟩
    · cases e; omega
    · cases e; have := hg.2.2; rw [HN.out] at this; exact this
  obtain ⟨W, hW⟩ : ∃ W, W = w1.alloc (.cells #[.int .i64 x.1, .int .i64 x.2.1, .int .i64 x.2.2] 48) := ⟨_, rfl⟩
  have bW : Below w1.heap.size w1 W := by rw [hW]; exact (Below.refl _ _).alloc (Nat.le_refl _) _
  have oW := o1.below bW
  have hst := WkOwn.set (xs := xs) (by rw [HN.out]; exact oW) 0 y (by rw [HN.out]; exact hpos)
  obtain ⟨s1, _, s3, s4⟩ := hst
  rw [HN.out] at s1
  obtain ⟨a0, a1, a2⟩ : WkCells w1 g 0 x := by
    obtain ⟨_, _, e, _, hcc⟩ := o1.form 0 (by rw [HN.out]; exact hpos)
    cases e
    have := (hcc 0 (by rw [HN.out]; exact hpos)).1
    rw [HX0.out]
    simpa using this
  obtain ⟨b0, b1, b2⟩ : WkCells W g (m * 3) y := by
    obtain ⟨_, _, e, _, hcc⟩ := oW.form 0 (by rw [HN.out]; exact hpos)
    cases e
    rw [hy0]
    exact (hcc m (by rw [HN.out]; have := HM.out; omega)).1
  obtain ⟨d0, d1, d2⟩ : WkCells W g 0 x := by
    have := s4
    rw [HX0.out]
    simpa using this
  obtain ⟨f0, f1, f2⟩ : WkFree W g 0 := by simpa using s3
  obtain ⟨⟨p0, p1, p2⟩, _⟩ := alloc3 w1 x
  rw [← hW] at p0 p1 p2
  have hgW : g < W.heap.size := lt_of_cell d0
  obtain ⟨V, hV0⟩ : ∃ V, V = ((W.setCell ⟨g, 0, none⟩ (.int .i64 y.1)).setCell ⟨g, 1, none⟩ (.int .i64 y.2.1)).setCell ⟨g, 2, none⟩ (.int .i64 y.2.2) := ⟨_, rfl⟩
  have hV : V = put3 W g 0 y := hV0
  have S1 : Hid (WkOwn g (g + 1) V (.slice (some ⟨g, 0, none⟩) m cap) ((xs.set 0 y).take m)) := by
    rw [hV]
    refine WkOwn.head (n := n) ?_ (by rw [List.length_set]; exact HN.out) (by have := HM.out; omega) hpos
    have := s1
    simp only [Nat.zero_mul, Nat.zero_add] at this
    exact this
  have bV : But (fun j => j = g) W V := by rw [hV]; exact but_put3 (P := fun j => j = g) (But.refl _ _) rfl _ _
  have hneg : w1.heap.size ≠ g := by omega
  have q0 : V.cell? ⟨w1.heap.size, 0, none⟩ = some (.int .i64 x.1) := by rw [hV]; exact (cell_set3 _ _ _ _ _ _ _ _ hneg).trans p0
  have q1 : V.cell? ⟨w1.heap.size, 1, none⟩ = some (.int .i64 x.2.1) := by rw [hV]; exact (cell_set3 _ _ _ _ _ _ _ _ hneg).trans p1
  have q2 : V.cell? ⟨w1.heap.size, 2, none⟩ = some (.int .i64 x.2.2) := by rw [hV]; exact (cell_set3 _ _ _ _ _ _ _ _ hneg).trans p2
  have RV : Hid (WkCells V w.heap.size 0 (0, 0, 0) ∧ WkFree V w.heap.size 0) := by
    have e1 : W.heap[w.heap.size]? = w1.heap[w.heap.size]? := bW.block _ (by omega)
    have e2 : V.heap[w.heap.size]? = W.heap[w.heap.size]? := bV.2 _ (by have := bW.size; omega) (by omega)
    exact ⟨R1.out.1.of_block (e2.trans e1), R1.out.2.of_block (e2.trans e1)⟩
  have BV : Hid (Below w.heap.size w V) := (B1.out.trans (bW.mono (by omega))).trans (bV.to (by have := bW.size; omega) (fun k hk h => by omega))
  have hsV : w1.heap.size < V.heap.size := lt_of_cell q0
  have HWW := hid hW
  have HVV := hid hV0
  have r1 : (n : Int) - 1 = (m : Int) := by have := HM.out; omega
  have hmn : m < n := by have := HM.out; omega
  have n1 : (0 : Int) ≤ (m : Int) := by omega
  have n2 : (m : Int) < (n : Int) := by omega
  have n3 : (0 : Int) < (n : Int) := by omega
  have n4 : (m : Int) ≤ (cap : Int) := by omega
  have HY0 := hid hy0
  clear hown hgr hr0 hrf o1 hW bW oW s1 s3 s4 hV hV0 bV p0 p1 p2 hi hz0 hz1 hz2 hy0
  go_upto_region 3 with fail
  rw [← HWW.out]
  go_upto_region 4 with fail
  rw [← HVV.out]
  by_cases hm0 : 0 < m
  · have HRM : Hid (removeL xs 0 = (downL m ((xs.set 0 y).take m) 0 0).1) := by
      show _ = _
      rw [HY0.out]
      exact removeL_zero xs m (by rw [HN.out]; exact HM.out) hm0
    obtain ⟨l, hl⟩ : ∃ l, l = (xs.set 0 y).take m := ⟨_, rfl⟩
    have HLL : Hid (l.length = m) := by show _ = _; rw [hl, List.length_take, List.length_set, HN.out]; omega
    rw [← hl] at S1 HRM
    have DN : Hid (∀ wq, WkOwn g (g + 1) wq (.slice (some ⟨g, 0, none⟩) m cap) l → g ≤ wq.heap.size → Calls Try.prog 85 #[.slice (some ⟨g, 0, none⟩) m cap, .int .i64 0] wq fun e w' => e = .returned (.int .i64 (downL m l 0 0).2) ∧ WkOwn g (g + 1) w' (.slice (some ⟨g, 0, none⟩) m cap) (removeL xs 0) ∧ But (fun j => g ≤ j ∧ j < g + 1) wq w') := fun wq ho hq => by
      have := l3Down_but g (g + 1) _ l 0 wq ho (by rw [HLL.out]; exact hm0) (by rw [HLL.out]; omega) hq
      rw [HLL.out, ← HRM.out] at this
      exact this
    clear hl
    go_wp2_with fail
    refine (DN.out _ S1.out (by omega)).mono ?_
    rintro e w5 ⟨rfl, o5, b5⟩
    have hs5 := b5.size
    have t0 := (b5.cell (p := ⟨w1.heap.size, 0, none⟩) (by intro h; have := h.1; have := h.2; simp at *; omega) (by show w1.heap.size < V.heap.size; omega)).trans q0
    have t1 := (b5.cell (p := ⟨w1.heap.size, 1, none⟩) (by intro h; have := h.1; have := h.2; simp at *; omega) (by show w1.heap.size < V.heap.size; omega)).trans q1
    have t2 := (b5.cell (p := ⟨w1.heap.size, 2, none⟩) (by intro h; have := h.1; have := h.2; simp at *; omega) (by show w1.heap.size < V.heap.size; omega)).trans q2
    have e5 := b5.2 w.heap.size (by omega) (by intro h; omega)
    have R5 := hid (RV.out.1.of_block e5)
    obtain ⟨u0, u1, u2⟩ := R5.out
    obtain ⟨v0, v1, v2⟩ := RV.out.2.of_block e5
    have B5 : Hid (Below w.heap.size w w5) := BV.out.trans (b5.to (by omega) (fun k hk h => by omega))
    have O5 := hid o5
    clear o5 b5 e5 q0 q1 q2 d0 d1 d2 b0 b1 b2 f0 f1 f2 a0 a1 a2
    go_wp2_with fail
    go_region
    all_goals
      go_wp2
      obtain ⟨e0, e1, e2⟩ := put3_same R5.out x
      refine bodyPost_ret (v := .tuple #[.slice (some ⟨g, 0, none⟩) m cap, .agg #[.int .i64 x.1, .int .i64 x.2.1, .int .i64 x.2.2]]) (by simp [results, Try.results87, go_sem, e0, e1, e2]) rfl ⟨g, cap, rfl, ⟨by omega, ?_⟩, ?_, (below_put3 B5.out (Nat.le_refl _) 0 x).drew⟩
      · show g < (put3 w5 w.heap.size 0 x).heap.size
        rw [size_put3]; omega
      · refine (O5.out.at fun j h1 h2 _ => ?_).below (w := put3 w5 w.heap.size 0 x) (Below.refl _ _).drew
        rw [Below.heap_setCell _ _ _ _ (by show j ≠ w.heap.size; omega), Below.heap_setCell _ _ _ _ (by show j ≠ w.heap.size; omega), Below.heap_setCell _ _ _ _ (by show j ≠ w.heap.size; omega)]
  · obtain rfl : m = 0 := by omega
    have HRM : Hid (removeL xs 0 = (xs.set 0 y).take 0) := removeL_one xs (by rw [HN.out]; exact HM.out) y
    obtain ⟨u0, u1, u2⟩ := RV.out.1
    obtain ⟨v0, v1, v2⟩ := RV.out.2
    clear d0 d1 d2 b0 b1 b2 f0 f1 f2 a0 a1 a2
    go_wp2_with fail
    go_region
    all_goals
      go_wp2
      obtain ⟨e0, e1, e2⟩ := put3_same RV.out.1 x
      refine bodyPost_ret (v := .tuple #[.slice (some ⟨g, 0, none⟩) 0 cap, .agg #[.int .i64 x.1, .int .i64 x.2.1, .int .i64 x.2.2]]) (by simp [results, Try.results87, go_sem, e0, e1, e2]) rfl ⟨g, cap, rfl, ⟨by omega, ?_⟩, ?_, (below_put3 BV.out (Nat.le_refl _) 0 x).drew⟩
      · show g < (put3 V w.heap.size 0 x).heap.size
        rw [size_put3]; omega
      · rw [HRM.out]
        refine (S1.out.at fun j h1 h2 _ => ?_).below (w := put3 V w.heap.size 0 x) (Below.refl _ _).drew
        rw [Below.heap_setCell _ _ _ _ (by show j ≠ w.heap.size; omega), Below.heap_setCell _ _ _ _ (by show j ≠ w.heap.size; omega), Below.heap_setCell _ _ _ _ (by show j ≠ w.heap.size; omega)]
end Go.Proofs.Ytndbdioignmaeaa
