/-
  spec.l3Push, spec.PushHeap: x behind a heap, up, in memory of its own. Nothing old is written.
-/
import Derived.Test.YtndbdioignmaeaaSUp
import Derived.Test.YtndbdioignmaeaaSGoodW
import Derived.Test.YtndbdioignmaeaaSIsW
import Derived.Test.YtndbdioignmaeaaWkApp2
import Derived.Test.YtndbdioignmaeaaPushMath
import Derived.Deep.AppendLies
import Derived.Deep.RegionLawGrows
namespace Go.Proofs.Ytndbdioignmaeaa
open Go.RowKit

set_option linter.unusedSimpArgs false in
set_option maxRecDepth 100000 in
set_option maxHeartbeats 8000000 in
theorem l3Push_some (ga oa ca : Nat) (xs : List WkEl) (x : WkEl) (n n1 : Nat) (l : List WkEl) (hl : l = xs ++ [x]) (hn1 : n1 = n + 1) (hn : xs.length = n) (w : World) (hca : ∀ i, i < xs.length → WkCells w ga (oa + i * 3) (xs.getD i (0, 0, 0))) (hx : n ≤ 40) (hpos : 0 < n) :
    Calls Try.prog 76 #[.slice (some ⟨ga, oa, none⟩) n ca, .agg #[.int .i64 x.1, .int .i64 x.2.1, .int .i64 x.2.2]] w fun e w' => ∃ v', e = .returned v' ∧ WkOwn w.heap.size w'.heap.size w' v' (upL n l n).1 ∧ Below w.heap.size w w' := by
  obtain ⟨i0, hi, hz0, hz1, hz2⟩ := info_parts info_work
  have HN1 := hid hn1
  have HN : Hid (n = xs.length) := hn.symm
  have HLL := hid hl
  have hlt : ga < w.heap.size := (hca 0 (by omega)).lt
  have hfc := hid (wkflat_cells hca)
  clear hca hn hl hn1
  go_enter Try.func76, Try.ntmps76
  go_wp2_with fail
  go_region_law
    ((first
      | (change (if Region.wanted (Oper.mk (some 8) _ _ _ _ _) _ = true then _ else _); refine step_append_grows (by rfl) _ _ _ (by rfl) 48 i0 (.agg #[.int .i64 0, .int .i64 0, .int .i64 0]) 3 24 Try.underlying46 hi hz0 hz1 hz2 (by rfl) (by decide) (some ⟨_, 0, none⟩) 0 0 [] (by rfl) (by intro h; cases h) (by rfl) (by intro b0 _ j u h; simp at h) ⟨ga, oa, none⟩ n ca (wkflat xs) (by rfl) (by rw [HN.out]; exact length_wkflat xs) (cells_below hfc.out (by go_grown) hlt) (wkflat_one _) (by omega) (by unfold maxLen; omega) (by omega) ?_; intro v1 w1 hown1 hgrow1; rw [Nat.zero_add, List.nil_append] at hown1; obtain ⟨g1, cap1, rfl, hg1, hl1⟩ := owns_form hown1 hpos; have O1 := hid (wkowns_mono hown1 (show w.heap.size ≤ _ by simp <;> omega)); have HG1 : Hid (w.heap.size ≤ g1) := (by simp at hg1; show _ ≤ _; omega); have B1 := hid (push_below (w := w) hgrow1 (by go_grown) (by intro k h; cases h)); have q1 := hgrow1.cell (a := ⟨w.heap.size, 0, none⟩) (v := .int .i64 x.1) (by simp [cellA3, cellB3, cellC3_0, cellC3_1, cellC3_2]) (by intro h; cases h); have q2 := hgrow1.cell (a := ⟨w.heap.size, 1, none⟩) (v := .int .i64 x.2.1) (by simp [cellA3, cellB3, cellC3_0, cellC3_1, cellC3_2]) (by intro h; cases h); have q3 := hgrow1.cell (a := ⟨w.heap.size, 2, none⟩) (v := .int .i64 x.2.2) (by simp [cellA3, cellB3, cellC3_0, cellC3_1, cellC3_2]) (by intro h; cases h); (try (refine thenUse (A := w1.cell? ⟨w.heap.size + 1, 0, none⟩ = some (.int .i64 x.1)) ?_ (fun p00 => ?_); (focus (refine hgrow1.cell ?_ ?_; (focus (simp [cellA3, cellB3, cellC3_0, cellC3_1, cellC3_2]; done)); (intro h; cases h))))); (try (refine thenUse (A := w1.cell? ⟨w.heap.size + 1, 1, none⟩ = some (.int .i64 x.2.1)) ?_ (fun p01 => ?_); (focus (refine hgrow1.cell ?_ ?_; (focus (simp [cellA3, cellB3, cellC3_0, cellC3_1, cellC3_2]; done)); (intro h; cases h))))); (try (refine thenUse (A := w1.cell? ⟨w.heap.size + 1, 2, none⟩ = some (.int .i64 x.2.2)) ?_ (fun p02 => ?_); (focus (refine hgrow1.cell ?_ ?_; (focus (simp [cellA3, cellB3, cellC3_0, cellC3_1, cellC3_2]; done)); (intro h; cases h))))); (try (refine thenUse (A := w1.cell? ⟨w.heap.size + 1 + 1, 0, none⟩ = some (.int .i64 x.1)) ?_ (fun p10 => ?_); (focus (refine hgrow1.cell ?_ ?_; (focus (exact cellC3_0 _ _ _ _ _ _ _)); (intro h; cases h))))); (try (refine thenUse (A := w1.cell? ⟨w.heap.size + 1 + 1, 1, none⟩ = some (.int .i64 x.2.1)) ?_ (fun p11 => ?_); (focus (refine hgrow1.cell ?_ ?_; (focus (exact cellC3_1 _ _ _ _ _ _ _)); (intro h; cases h))))); (try (refine thenUse (A := w1.cell? ⟨w.heap.size + 1 + 1, 2, none⟩ = some (.int .i64 x.2.2)) ?_ (fun p12 => ?_); (focus (refine hgrow1.cell ?_ ?_; (focus (exact cellC3_2 _ _ _ _ _ _ _)); (intro h; cases h))))); clear hown1 hgrow1 hg1 hl1)
      | (change (if Region.wanted (Oper.mk (some 11) _ _ _ _ _) _ = true then _ else _); refine step_append_lies _ (by rfl) _ _ _ (by rfl) w.heap.size 48 i0 (.agg #[.int .i64 0, .int .i64 0, .int .i64 0]) 3 24 Try.underlying46 hi hz0 hz1 hz2 (by rfl) (by decide) (.slice (some ⟨g1, 0, none⟩) n cap1) n (wkflat xs) (by rfl) (by first | exact O1.out | exact O1.out.alloc _) ⟨_, 0, none⟩ 1 1 (wkflat [x]) (by rfl) (by rfl) (wkone_at ⟨by first | assumption | (simp [cellA3, cellB3, cellC3_0, cellC3_1, cellC3_2]; done), by first | assumption | (simp [cellA3, cellB3, cellC3_0, cellC3_1, cellC3_2]; done), by first | assumption | (simp [cellA3, cellB3, cellC3_0, cellC3_1, cellC3_2]; done)⟩) (wkflat_one _) (by decide) (by unfold maxLen; omega) (by omega) (by have := B1.out.size; simp <;> omega) _ (by rfl) ?_; intro g cap w2 hown2 hgrow2 hat2 hlt2; have O2 := hid hown2; have B2 := hid (push_below (w := w) hgrow2 (by first | exact B1.out | exact B1.out.alloc B1.out.size _) (fun k h => by simp [Value.ownBlock] at h; have := HG1.out; omega)); clear hown2 hgrow2 hat2)))
  all_goals
    have hn1 := HN1.out
    have r1 : (n1 : Int) - 1 = (n : Int) := by omega
    have rw2 : IntKind.i64.wrap (n : Int) = (n : Int) := by rw [IntKind.wrap_i64]; omega
    have hn1' : n < n1 := by omega
    have hn2 : n1 ≤ 1048576 := by omega
    have HNN : Hid (l.length = n1) := by show _ = _; rw [HLL.out, List.length_append, ← HN.out, hn1]; rfl
    rw [← wkflat_append, ← HLL.out] at O2
    rw [← hn1] at O2 ⊢
    have OK := hid (WkOwn.of_owns O2.out (by rw [HNN.out]; omega))
    have hs2 : w.heap.size ≤ w2.heap.size := B2.out.size
    clear hn1 O2 O1 B1 q1 q2 q3 hi hz0 hz1 hz2 hlt2
    go_wp2_with fail
    refine (l3Up_any w.heap.size w2.heap.size _ l n _ OK.out (by rw [HNN.out]; exact hn1') (by rw [HNN.out]; exact hn2) hs2).mono ?_
    rintro e w3 ⟨rfl, o3, b3⟩
    have O3 := hid (o3.mono (Nat.le_refl _) b3.size)
    have B3 : Hid (Below w.heap.size w w3) := B2.out.trans b3
    clear o3 b3
    go_wp2
    go_ret
    exact ⟨_, rfl, O3.out, B3.out⟩
end Go.Proofs.Ytndbdioignmaeaa
