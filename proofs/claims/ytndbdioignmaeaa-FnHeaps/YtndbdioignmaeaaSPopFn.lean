/-
  spec.PopHeap: the first of a heap, and what is left, in memory of its own. Nothing old is written.
-/
import Derived.Test.YtndbdioignmaeaaSPop
import Derived.Test.YtndbdioignmaeaaWkApp2
namespace Go.Proofs.Ytndbdioignmaeaa
open Go.RowKit

theorem far_block {V W w6 : World} {row : Option Nat} (hg : W.grownBy w6 row) (bW : Below V.heap.size V W) {b : Nat} (hb : b < V.heap.size) (hne : row ≠ some b) : w6.heap[b]? = V.heap[b]? := (hg.block b (Nat.lt_of_lt_of_le hb bW.size) (fun e => hne e.symm)).trans (bW.block b hb)
set_option maxHeartbeats 2000000 in
theorem sPopHeap_no (v : Value) (xs : List WkEl) (w : World) (hr : WkReads w v xs) (h : popB xs = false) :
    Calls Try.prog 37 #[v] w fun e w' => e = .returned (.tuple #[.slice none 0 0, .agg #[.int .i64 0, .int .i64 0, .int .i64 0], .bool false]) ∧ Below w.heap.size w w' := by
  have HR := hid hr
  obtain ⟨t, ht⟩ : ∃ t, goodW xs = t := ⟨_, rfl⟩
  obtain ⟨s, hs⟩ : ∃ s, heapB xs = s := ⟨_, rfl⟩
  have HT := hid ht
  have HS := hid hs
  obtain ⟨a, cap, rfl, _, _⟩ := hr
  have HZ : Hid (t = true → s = true → xs.length = 0) := fun e e' => by
    unfold popB at h
    rw [ht, hs, e, e'] at h
    simpa using h
  clear ht hs h
  have HL : Hid (t = true → xs.length ≤ 40) := fun e => goodW_len (HT.out.trans e)
  go_enter Try.func37, Try.ntmps37
  go_wp2_with fail
  refine (l3Good_eq _ xs t HT.out _ (HR.out.below (by go_grown))).mono ?_
  rintro e w1 ⟨rfl, b1⟩
  have B1 : Hid (Below w.heap.size w w1) := ((Below.refl _ _).alloc (Nat.le_refl _) _).trans (b1.mono (by simp))
  have hs1 : w.heap.size < w1.heap.size := by have := b1.size; simp at this; omega
  obtain ⟨hx, hf⟩ := alloc3 w (0, 0, 0)
  have HX := hid (hx.below b1 (by simp))
  have HF := hid (hf.below b1 (by simp))
  clear b1 hx hf
  cases t
  · obtain ⟨x0, x1, x2⟩ := HX.out
    obtain ⟨f0, f1, f2⟩ := HF.out
    go_wp2
    obtain ⟨e0, e1, e2⟩ := put3_same HX.out (0, 0, 0)
    exact bodyPost_ret (v := .tuple #[.slice none 0 0, .agg #[.int .i64 0, .int .i64 0, .int .i64 0], .bool false]) (by simp [results, Try.results37, go_sem, e0, e1, e2]) rfl ⟨rfl, below_put3 B1.out (Nat.le_refl _) 0 (0, 0, 0)⟩
  · go_wp2_with fail
    refine (l3Is_eq _ xs s HS.out _ (HR.out.below B1.out) (by have := HL.out (by simp); omega)).mono ?_
    rintro e w2 ⟨rfl, b2⟩
    have B2 : Hid (Below w.heap.size w w2) := B1.out.trans (b2.mono B1.out.size)
    have HX2 := hid (HX.out.below b2 hs1)
    obtain ⟨x0, x1, x2⟩ := HX2.out
    obtain ⟨f0, f1, f2⟩ := HF.out.below b2 hs1
    clear b2 B1 HX HF
    cases s
    · go_wp2
      obtain ⟨e0, e1, e2⟩ := put3_same HX2.out (0, 0, 0)
      exact bodyPost_ret (v := .tuple #[.slice none 0 0, .agg #[.int .i64 0, .int .i64 0, .int .i64 0], .bool false]) (by simp [results, Try.results37, go_sem, e0, e1, e2]) rfl ⟨rfl, below_put3 B2.out (Nat.le_refl _) 0 (0, 0, 0)⟩
    · have h0 : xs.length = 0 := HZ.out (by simp) (by simp)
      have hd : ((xs.length : Int) == 0) = true := by rw [h0]; rfl
      clear h0
      go_wp2
      obtain ⟨e0, e1, e2⟩ := put3_same HX2.out (0, 0, 0)
      exact bodyPost_ret (v := .tuple #[.slice none 0 0, .agg #[.int .i64 0, .int .i64 0, .int .i64 0], .bool false]) (by simp [results, Try.results37, go_sem, e0, e1, e2]) rfl ⟨rfl, below_put3 B2.out (Nat.le_refl _) 0 (0, 0, 0)⟩

set_option linter.unusedSimpArgs false in
set_option maxRecDepth 100000 in
set_option maxHeartbeats 8000000 in
theorem sPopHeap_yes (v : Value) (xs : List WkEl) (x : WkEl) (hx0 : x = xs.getD 0 wz) (w : World) (hr : WkReads w v xs) (h : popB xs = true) :
    Calls Try.prog 37 #[v] w fun e w' => ∃ v', e = .returned (.tuple #[v', .agg #[.int .i64 x.1, .int .i64 x.2.1, .int .i64 x.2.2], .bool true]) ∧ WkOwn w.heap.size w'.heap.size w' v' (removeL xs 0) ∧ Below w.heap.size w w' := by
  obtain ⟨i0, hi, hz0, hz1, hz2⟩ := info_parts info_work
  have HR := hid hr
  unfold popB at h
  rw [Bool.and_eq_true, Bool.and_eq_true] at h
  have HG := hid h.1.1
  have HH := hid h.1.2
  have hl := goodW_len h.1.1
  have hpos : 0 < xs.length := by have := h.2; simp at this; exact List.length_pos_iff.2 this
  obtain ⟨a, cap, rfl, _, _⟩ := hr
  have hd : ((xs.length : Int) == 0) = false := by simp; intro h; rw [h] at hpos; simp at hpos
  have HX0 := hid hx0
  clear h hx0
  obtain ⟨m, hm⟩ : ∃ m, xs.length = m + 1 := ⟨xs.length - 1, by omega⟩
  have HM := hid hm
  clear hm
  go_enter Try.func37, Try.ntmps37
  go_wp2_with fail
  refine (l3Good_eq _ xs true HG.out _ (HR.out.below (by go_grown))).mono ?_
  rintro e w1 ⟨rfl, b1⟩
  have B1 : Hid (Below w.heap.size w w1) := ((Below.refl _ _).alloc (Nat.le_refl _) _).trans (b1.mono (by simp))
  have hs1 : w.heap.size < w1.heap.size := by have := b1.size; simp at this; omega
  obtain ⟨hx, hf⟩ := alloc3 w (0, 0, 0)
  have X1 := hid (hx.below b1 (by simp))
  have F1 := hid (hf.below b1 (by simp))
  clear b1 hx hf
  go_wp2_with fail
  refine (l3Is_eq _ xs true HH.out _ (HR.out.below B1.out) (by omega)).mono ?_
  rintro e w2 ⟨rfl, b2⟩
  have B2 : Hid (Below w.heap.size w w2) := B1.out.trans (b2.mono B1.out.size)
  have X2 := hid (X1.out.below b2 hs1)
  have F2 := hid (F1.out.below b2 hs1)
  have hs2 : w.heap.size < w2.heap.size := by have := b2.size; omega
  clear b2 B1 X1 F1
  obtain ⟨ga, oa, ca, e, hca⟩ := (HR.out.below B2.out).cells 0 hpos
  cases e
  go_wp2_with fail
  refine (l3Pop_any ga oa _ xs.length m xs x HX0.out _ hca rfl HM.out (by omega)).mono ?_
  rintro e w4 ⟨g, c4, rfl, hg4, o4, b4⟩
  have hs4 := b4.size
  have B4 : Hid (Below w.heap.size w w4) := B2.out.trans (b4.mono B2.out.size)
  have X4 := hid (X2.out.below b4 hs2)
  have F4 := hid (F2.out.below b4 hs2)
  obtain ⟨V, hV⟩ : ∃ V, V = w4.alloc (.cells #[.int .i64 x.1, .int .i64 x.2.1, .int .i64 x.2.2] 48) := ⟨_, rfl⟩
  have PV : Hid (WkCells V w4.heap.size 0 x) := by rw [hV]; exact (alloc3 w4 x).1
  have bV : Below w4.heap.size w4 V := by rw [hV]; exact (Below.refl _ _).alloc (Nat.le_refl _) _
  have XV := hid (X4.out.below bV (by omega))
  have FV := hid (F4.out.below bV (by omega))
  have OV := hid (o4.below bV)
  have BV : Hid (Below w.heap.size w V) := B4.out.trans (bV.mono B4.out.size)
  have hsV : w4.heap.size < V.heap.size := PV.out.lt
  have HVV := hid hV
  obtain ⟨p0, p1, p2⟩ := PV.out
  obtain ⟨x0, x1, x2⟩ := XV.out
  obtain ⟨f0, f1, f2⟩ := FV.out
  have hlr : (removeL xs 0).length = m := by rw [length_removeL, HM.out]; rfl
  obtain ⟨l, hll⟩ : ∃ l, l = removeL xs 0 := ⟨_, rfl⟩
  rw [← hll] at OV hlr
  have HLL := hid hll
  have HLR := hid hlr
  have hmx : m ≤ 40 := by have := HM.out; omega
  clear o4 b4 hV bV X4 F4 B4 hca X2 F2 hll hlr
  go_wp2_with fail
  rw [← HVV.out]
  by_cases hm0 : 0 < m
  · have hfc : Hid (∀ j u, (wkflat l)[j]? = some u → V.cell? ((⟨g, 0, none⟩ : Addr).add j) = some u) := by
      obtain ⟨_, _, e, _, hcc⟩ := OV.out.form 0 (by rw [HLR.out]; exact hm0)
      cases e
      exact wkflat_cells fun i hi => by rw [Nat.zero_add]; exact (hcc i hi).1
    have hgV : g < V.heap.size := by omega
    go_region_law
      ((change (if Region.wanted (Oper.mk (some 28) _ _ _ _ _) _ = true then _ else _); refine step_append_grows (by rfl) _ _ _ (by rfl) 48 i0 (.agg #[.int .i64 0, .int .i64 0, .int .i64 0]) 3 24 Try.underlying46 hi hz0 hz1 hz2 (by rfl) (by decide) (some ⟨_, 0, none⟩) 0 0 [] (by rfl) (by intro h; cases h) (by rfl) (by intro b0 _ j u h; simp at h) ⟨g, 0, none⟩ m c4 (wkflat l) (by rfl) (by rw [← HLR.out]; exact length_wkflat l) (cells_below hfc.out (by go_grown) hgV) (wkflat_one _) (by omega) (by unfold maxLen; omega) (by omega) ?_; intro v6 w6 hown6 hgrow6; rw [Nat.zero_add, List.nil_append] at hown6; obtain ⟨g6, cap6, rfl, hg6, hl6⟩ := owns_form hown6 hm0; have O6 := hid (wkowns_mono hown6 (show V.heap.size ≤ _ by simp <;> omega)); have B6 := hid (push_below (w := V) hgrow6 (by go_grown) (by intro k h; cases h)); obtain ⟨q0, q1, q2⟩ := PV.out.of_block (far_block (V := V) hgrow6 (by go_grown) hsV (by intro h; cases h)); have X6 := hid (XV.out.of_block (far_block (V := V) hgrow6 (by go_grown) (by omega) (by intro h; cases h))); obtain ⟨y0, y1, y2⟩ := X6.out; obtain ⟨g0, g1, g2⟩ := FV.out.of_block (far_block (V := V) hgrow6 (by go_grown) (by omega) (by intro h; cases h)); clear hown6 hgrow6 hg6 hl6))
    all_goals
      go_wp2
      obtain ⟨e0, e1, e2⟩ := put3_same X6.out x
      refine bodyPost_ret (v := .tuple #[.slice (some ⟨g6, 0, none⟩) m cap6, .agg #[.int .i64 x.1, .int .i64 x.2.1, .int .i64 x.2.2], .bool true]) (by simp [results, Try.results37, go_sem, e0, e1, e2]) rfl ⟨_, rfl, ?_, below_put3 (BV.out.trans (B6.out.mono BV.out.size)) (Nat.le_refl _) 0 x⟩
      have o6 := WkOwn.of_owns O6.out (by rw [HLR.out]; omega)
      rw [← HLL.out]
      refine ((o6.at fun j h1 h2 _ => ?_).mono (lo' := w.heap.size) (by have := BV.out.size; omega) ?_)
      · rw [Below.heap_setCell _ _ _ _ (by show j ≠ w.heap.size; omega), Below.heap_setCell _ _ _ _ (by show j ≠ w.heap.size; omega), Below.heap_setCell _ _ _ _ (by show j ≠ w.heap.size; omega)]
      · exact Nat.le_of_eq (size_put3 _ _ _ _).symm
  · obtain rfl : m = 0 := by omega
    have HL0 : Hid (removeL xs 0 = []) := by rw [← HLL.out]; exact List.eq_nil_of_length_eq_zero HLR.out
    obtain ⟨y0, y1, y2⟩ := XV.out.below ((Below.refl V.heap.size V).alloc (Nat.le_refl _) (.cells #[] 48)) (by omega)
    obtain ⟨g0, g1, g2⟩ := FV.out.below ((Below.refl V.heap.size V).alloc (Nat.le_refl _) (.cells #[] 48)) (by omega)
    obtain ⟨q0, q1, q2⟩ := PV.out.below ((Below.refl V.heap.size V).alloc (Nat.le_refl _) (.cells #[] 48)) hsV
    go_region
    all_goals
      go_wp2
      obtain ⟨e0, e1, e2⟩ := put3_same (w := V.alloc (.cells #[] 48)) (XV.out.below ((Below.refl _ _).alloc (Nat.le_refl _) _) (by omega)) x
      refine bodyPost_ret (v := .tuple #[.slice (some ⟨V.heap.size, 0, none⟩) 0 0, .agg #[.int .i64 x.1, .int .i64 x.2.1, .int .i64 x.2.2], .bool true]) (by simp [results, Try.results37, go_sem, e0, e1, e2]) rfl ⟨_, rfl, ?_, ?_⟩
      · rw [HL0.out]; exact wkown_nil _ _ _ _ _
      · exact (below_put3 (BV.out.alloc BV.out.size _) (Nat.le_refl _) 0 x).drew
theorem sPopHeap_any (v : Value) (xs : List WkEl) (w : World) (hr : WkReads w v xs) :
    Calls Try.prog 37 #[v] w fun e w' => ∃ v', e = .returned (.tuple #[v', .agg #[.int .i64 (popX xs).1, .int .i64 (popX xs).2.1, .int .i64 (popX xs).2.2], .bool (popB xs)]) ∧ WkOwn w.heap.size w'.heap.size w' v' (popY xs) ∧ Below w.heap.size w w' := by
  cases h : popB xs with
  | false =>
    rw [(popY_no h).1, (popY_no h).2]
    exact (sPopHeap_no v xs w hr h).mono fun _ _ ⟨a, b⟩ => ⟨_, a, wkown_nil _ _ _ _ _, b⟩
  | true =>
    rw [(popY_yes h).1, (popY_yes h).2]
    exact sPopHeap_yes v xs _ rfl w hr h
end Go.Proofs.Ytndbdioignmaeaa
