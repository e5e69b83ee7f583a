/-
  spec.PushHeap: x behind a heap with room, up, in memory of its own. Nothing old is written.
-/
import Derived.Test.YtndbdioignmaeaaSPush
namespace Go.Proofs.Ytndbdioignmaeaa
open Go.RowKit

theorem owns_form1 {w : World} {base : Nat} {t : TypeId} {v : Value} {cs : List Value} (h : w.ownsRow base t 3 v (0 + 1) cs) : ∃ g cap, v = .slice (some ⟨g, 0, none⟩) 1 cap ∧ base ≤ g ∧ g < w.heap.size := owns_form h (by omega)
set_option linter.unusedSimpArgs false in
set_option maxRecDepth 100000 in
set_option maxHeartbeats 8000000 in
theorem l3Push_none (a : Option Addr) (ca : Nat) (x : WkEl) (w : World) :
    Calls Try.prog 76 #[.slice a 0 ca, .agg #[.int .i64 x.1, .int .i64 x.2.1, .int .i64 x.2.2]] w fun e w' => ∃ v', e = .returned v' ∧ WkOwn w.heap.size w'.heap.size w' v' [x] ∧ Below w.heap.size w w' := by
  obtain ⟨i0, hi, hz0, hz1, hz2⟩ := info_parts info_work
  cases a
  all_goals
    go_enter Try.func76, Try.ntmps76
    go_wp2_with fail
    go_region_law
      ((change (if Region.wanted (Oper.mk (some 11) _ _ _ _ _) _ = true then _ else _); refine step_append_grows (by rfl) _ _ _ (by rfl) 48 i0 (.agg #[.int .i64 0, .int .i64 0, .int .i64 0]) 3 24 Try.underlying46 hi hz0 hz1 hz2 (by rfl) (by decide) (some ⟨_, 0, none⟩) 0 0 [] (by rfl) (by intro h; cases h) (by rfl) (by intro b0 _ j u h; simp at h) ⟨_, 0, none⟩ 1 1 (wkflat [x]) (by rfl) (by rfl) (wkone_at ⟨by first | assumption | (simp [cellB3]; done) | exact cellC3_0 _ _ _ _ _ _ _, by first | assumption | (simp [cellB3]; done) | exact cellC3_1 _ _ _ _ _ _ _, by first | assumption | (simp [cellB3]; done) | exact cellC3_2 _ _ _ _ _ _ _⟩) (wkflat_one _) (by omega) (by unfold maxLen; omega) (by omega) ?_; intro v1 w1 hown1 hgrow1; obtain ⟨g1, cap1, rfl, hg1, hl1⟩ := owns_form1 hown1; rw [Nat.zero_add, List.nil_append] at hown1; have O1 := hid (wkowns_mono hown1 (show w.heap.size ≤ _ by simp <;> omega)); have B1 := hid (push_below (w := w) hgrow1 (by go_grown) (by intro k h; cases h)); clear hown1 hgrow1 hg1 hl1))
    all_goals
      have OK := hid (WkOwn.of_owns O1.out (by simp))
      have hs2 : w.heap.size ≤ w1.heap.size := B1.out.size
      have L3 : Hid (∀ wq, WkOwn w.heap.size w1.heap.size wq (.slice (some ⟨g1, 0, none⟩) 1 cap1) [x] → w.heap.size ≤ wq.heap.size → Calls Try.prog 84 #[.slice (some ⟨g1, 0, none⟩) 1 cap1, .int .i64 0] wq fun e w' => e = .returned (.int .i64 0) ∧ WkOwn w.heap.size w1.heap.size w' (.slice (some ⟨g1, 0, none⟩) 1 cap1) [x] ∧ Below w.heap.size wq w') := fun wq ho hq => l3Up_any w.heap.size w1.heap.size _ [x] 0 wq ho (by simp) (by simp) hq
      clear O1 hi hz0 hz1 hz2
      go_wp2_with fail
      refine (L3.out _ OK.out hs2).mono ?_
      rintro e w3 ⟨rfl, o3, b3⟩
      have O3 := hid (o3.mono (Nat.le_refl _) b3.size)
      have B3 : Hid (Below w.heap.size w w3) := B1.out.trans b3
      clear o3 b3
      go_wp2
      go_ret
      exact ⟨_, rfl, O3.out, B3.out⟩
theorem l3Push_any (v : Value) (xs : List WkEl) (x : WkEl) (w : World) (hr : WkReads w v xs) (hx : xs.length ≤ 40) :
    Calls Try.prog 76 #[v, .agg #[.int .i64 x.1, .int .i64 x.2.1, .int .i64 x.2.2]] w fun e w' => ∃ v', e = .returned v' ∧ WkOwn w.heap.size w'.heap.size w' v' (upL xs.length (xs ++ [x]) xs.length).1 ∧ Below w.heap.size w w' := by
  obtain ⟨a, ca, rfl, _, hxa⟩ := hr
  by_cases h0 : xs = []
  · subst h0
    exact l3Push_none a ca x w
  · obtain ⟨ga, oa, rfl, hca⟩ := hxa.resolve_left h0
    exact l3Push_some ga oa ca xs x xs.length (xs.length + 1) (xs ++ [x]) rfl rfl rfl w hca hx (List.length_pos_iff.2 h0)

set_option maxHeartbeats 2000000 in
theorem sPushHeap_any (v : Value) (xs : List WkEl) (x : WkEl) (w : World) (hr : WkReads w v xs) :
    Calls Try.prog 27 #[v, .agg #[.int .i64 x.1, .int .i64 x.2.1, .int .i64 x.2.2]] w fun e w' => ∃ v', e = .returned (.tuple #[v', .bool (pushB xs x)]) ∧ WkOwn w.heap.size w'.heap.size w' v' (pushY xs x) ∧ Below w.heap.size w w' := by
  have HR := hid hr
  cases hg : goodW xs with
  | false =>
    have hv : Hid (pushB xs x = false) := by show _ = _; unfold pushB; rw [hg]; rfl
    rw [pushY_no hv.out, hv.out]
    have HG := hid hg
    clear hr hg hv
    go_enter Try.func27, Try.ntmps27
    go_wp2_with fail
    refine (l3Good_eq v xs false HG.out _ (HR.out.below (by go_grown))).mono ?_
    rintro e w1 ⟨rfl, b1⟩
    have B1 : Hid (Below w.heap.size w w1) := ((Below.refl _ _).alloc (Nat.le_refl _) _).trans (b1.mono (by simp))
    clear b1
    go_wp2
    go_ret2
    exact ⟨_, rfl, wkown_nil _ _ _ _ _, B1.out⟩
  | true =>
    have hl := goodW_len hg
    obtain ⟨a, cap, rfl, _, _⟩ := hr
    have HG := hid hg
    cases hh : heapB xs with
    | false =>
      have hv : Hid (pushB xs x = false) := by show _ = _; unfold pushB; rw [hg, hh]; rfl
      rw [pushY_no hv.out, hv.out]
      have HH := hid hh
      clear hg hv hh
      go_enter Try.func27, Try.ntmps27
      go_wp2_with fail
      refine (l3Good_eq _ xs true HG.out _ (HR.out.below (by go_grown))).mono ?_
      rintro e w1 ⟨rfl, b1⟩
      have B1 : Hid (Below w.heap.size w w1) := ((Below.refl _ _).alloc (Nat.le_refl _) _).trans (b1.mono (by simp))
      clear b1
      go_wp2_with fail
      refine (l3Is_eq _ xs false HH.out _ (HR.out.below B1.out) (by omega)).mono ?_
      rintro e w2 ⟨rfl, b2⟩
      have B2 : Hid (Below w.heap.size w w2) := B1.out.trans (b2.mono B1.out.size)
      clear b2 B1
      go_wp2
      go_ret2
      exact ⟨_, rfl, wkown_nil _ _ _ _ _, B2.out⟩
    | true =>
      have HH := hid hh
      obtain ⟨t, ht⟩ : ∃ t, wkB x = t := ⟨_, rfl⟩
      have HT := hid ht
      have hpb : pushB xs x = (t && !decide (xs.length = 40)) := by unfold pushB; rw [hg, hh, ht]; rfl
      obtain ⟨r, hr2⟩ : ∃ r, pushB xs x = r := ⟨_, rfl⟩
      have HPB : Hid (r = (t && !decide (xs.length = 40))) := hr2.symm.trans hpb
      obtain ⟨Y, hY⟩ : ∃ Y, pushY xs x = Y := ⟨_, rfl⟩
      have HY0 : Hid (r = false → Y = []) := fun h => by rw [← hY]; exact pushY_no (hr2.trans h)
      have HY1 : Hid (r = true → Y = (upL xs.length (xs ++ [x]) xs.length).1) := fun h => by rw [← hY]; exact pushY_yes (hr2.trans h)
      rw [hr2, hY]
      clear ht hg hh hpb hr2 hY
      go_enter Try.func27, Try.ntmps27
      go_wp2_with fail
      refine (l3Good_eq _ xs true HG.out _ (HR.out.below (by go_grown))).mono ?_
      rintro e w1 ⟨rfl, b1⟩
      have B1 : Hid (Below w.heap.size w w1) := ((Below.refl _ _).alloc (Nat.le_refl _) _).trans (b1.mono (by simp))
      have x0 : w1.cell? ⟨w.heap.size, 0, none⟩ = some (.int .i64 x.1) := (b1.cell (by simp)).trans (by simp)
      have x1 : w1.cell? ⟨w.heap.size, 1, none⟩ = some (.int .i64 x.2.1) := (b1.cell (by simp)).trans (by simp)
      have x2 : w1.cell? ⟨w.heap.size, 2, none⟩ = some (.int .i64 x.2.2) := (b1.cell (by simp)).trans (by simp)
      have hs1 : w.heap.size < w1.heap.size := lt_of_cell x0
      clear b1
      go_wp2_with fail
      refine (l3Is_eq _ xs true HH.out _ (HR.out.below B1.out) (by omega)).mono ?_
      rintro e w2 ⟨rfl, b2⟩
      have B2 : Hid (Below w.heap.size w w2) := B1.out.trans (b2.mono (by omega))
      have y0 := (b2.cell (p := ⟨w.heap.size, 0, none⟩) hs1).trans x0
      have y1 := (b2.cell (p := ⟨w.heap.size, 1, none⟩) hs1).trans x1
      have y2 := (b2.cell (p := ⟨w.heap.size, 2, none⟩) hs1).trans x2
      have hs2 : w.heap.size < w2.heap.size := lt_of_cell y0
      clear b2 B1 x0 x1 x2 hs1
      go_wp2_with fail
      refine (l3Work_eq x t HT.out _).mono ?_
      rintro e w3 ⟨rfl, b3⟩
      have B3 : Hid (Below w.heap.size w w3) := B2.out.trans (b3.mono (by omega))
      have z0 := (b3.cell (p := ⟨w.heap.size, 0, none⟩) hs2).trans y0
      have z1 := (b3.cell (p := ⟨w.heap.size, 1, none⟩) hs2).trans y1
      have z2 := (b3.cell (p := ⟨w.heap.size, 2, none⟩) hs2).trans y2
      have hs3 : w.heap.size < w3.heap.size := lt_of_cell z0
      clear b3 B2 y0 y1 y2 hs2
      cases t
      · have hv : Hid (r = false) := HPB.out
        go_wp2
        go_ret2
        exact ⟨_, by rw [hv.out]; rfl, by rw [HY0.out hv.out]; exact wkown_nil _ _ _ _ _, B3.out⟩
      · by_cases h40 : xs.length = 40
        · have hd : ((xs.length : Int) == 40) = true := by rw [h40]; rfl
          have hv : Hid (r = false) := by show _ = _; rw [HPB.out]; simp [h40]
          clear h40
          go_wp2
          go_ret2
          exact ⟨_, by rw [hv.out]; rfl, by rw [HY0.out hv.out]; exact wkown_nil _ _ _ _ _, B3.out⟩
        · have hd : ((xs.length : Int) == 40) = false := by simp; omega
          have hv : Hid (r = true) := by show _ = _; rw [HPB.out]; simp [h40]
          clear h40
          go_wp2_with fail
          refine (l3Push_any _ xs x _ (HR.out.below B3.out) hl).mono ?_
          rintro e w4 ⟨v4, rfl, o4, b4⟩
          have O4 := hid (o4.mono (lo' := w.heap.size) (by omega) (Nat.le_refl _))
          have B4 : Hid (Below w.heap.size w w4) := B3.out.trans (b4.mono (by omega))
          clear o4 b4
          go_wp2
          go_ret2
          exact ⟨_, by rw [hv.out]; rfl, by rw [HY1.out hv.out]; exact O4.out, B4.out⟩
end Go.Proofs.Ytndbdioignmaeaa
