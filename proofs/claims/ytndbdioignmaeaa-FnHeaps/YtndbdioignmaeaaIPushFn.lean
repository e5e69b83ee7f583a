/-
  impl.PushHeap: x behind a heap with room, up, in memory of its own. Nothing old is written.
-/
import Derived.Test.YtndbdioignmaeaaIPush
import Derived.Test.YtndbdioignmaeaaIInHeap
import Derived.Test.YtndbdioignmaeaaWClone
import Derived.Test.YtndbdioignmaeaaPushMath
namespace Go.Proofs.Ytndbdioignmaeaa
open Go.RowKit

set_option maxHeartbeats 2000000 in
theorem iPushHeap_any (v : Value) (xs : List WkEl) (x : WkEl) (w : World) (hr : WkReads w v xs) :
    Calls Try.prog 26 #[v, .agg #[.int .i64 x.1, .int .i64 x.2.1, .int .i64 x.2.2]] w fun e w' => ∃ v', e = .returned (.tuple #[v', .bool (pushB xs x)]) ∧ WkOwn w.heap.size w'.heap.size w' v' (pushY xs x) ∧ Below w.heap.size w w' := by
  have HR := hid hr
  unfold pushY
  cases hg : (goodW xs && heapB xs) with
  | false =>
    have hv : Hid (pushB xs x = false) := by show _ = _; unfold pushB; rw [hg]; rfl
    rw [hv.out]
    have HG := hid hg
    clear hr hg hv
    go_enter Try.func26, Try.ntmps26
    go_wp2_with fail
    refine (igoodHeap_eq v xs false HG.out _ (HR.out.below (by go_grown))).mono ?_
    rintro e w1 ⟨rfl, b1⟩
    have B1 : Hid (Below w.heap.size w w1) := ((Below.refl _ _).alloc (Nat.le_refl _) _).trans (b1.mono (by simp))
    clear b1
    go_wp2
    go_ret2
    exact ⟨_, rfl, wkown_nil _ _ _ _ _, B1.out⟩
  | true =>
    have hg' := hg
    rw [Bool.and_eq_true] at hg'
    have hl := goodW_len hg'.1
    obtain ⟨a, cap, rfl, _, _⟩ := hr
    have HG := hid hg
    clear hg'
    by_cases h40 : xs.length = 40
    · have hd : ((xs.length : Int) == 40) = true := by rw [h40]; rfl
      have hv : Hid (pushB xs x = false) := by show _ = _; unfold pushB; simp [h40]
      rw [hv.out]
      clear h40 hv hg
      go_enter Try.func26, Try.ntmps26
      go_wp2_with fail
      refine (igoodHeap_eq _ xs true HG.out _ (HR.out.below (by go_grown))).mono ?_
      rintro e w1 ⟨rfl, b1⟩
      have B1 : Hid (Below w.heap.size w w1) := ((Below.refl _ _).alloc (Nat.le_refl _) _).trans (b1.mono (by simp))
      clear b1
      go_wp2
      go_ret2
      exact ⟨_, rfl, wkown_nil _ _ _ _ _, B1.out⟩
    · have hd : ((xs.length : Int) == 40) = false := by simp; omega
      obtain ⟨t, ht⟩ : ∃ t, wkB x = t := ⟨_, rfl⟩
      have HT := hid ht
      have hv : Hid (pushB xs x = t) := by show _ = _; unfold pushB; rw [hg, ht]; simp [h40]
      rw [hv.out]
      clear ht hg hv
      go_enter Try.func26, Try.ntmps26
      go_wp2_with fail
      refine (igoodHeap_eq _ xs true HG.out _ (HR.out.below (by go_grown))).mono ?_
      rintro e w1 ⟨rfl, b1⟩
      have B1 : Hid (Below w.heap.size w w1) := ((Below.refl _ _).alloc (Nat.le_refl _) _).trans (b1.mono (by simp))
      have x0 : w1.cell? ⟨w.heap.size, 0, none⟩ = some (.int .i64 x.1) := (b1.cell (by simp)).trans (by simp)
      have x1 : w1.cell? ⟨w.heap.size, 1, none⟩ = some (.int .i64 x.2.1) := (b1.cell (by simp)).trans (by simp)
      have x2 : w1.cell? ⟨w.heap.size, 2, none⟩ = some (.int .i64 x.2.2) := (b1.cell (by simp)).trans (by simp)
      have hs1 : w.heap.size < w1.heap.size := lt_of_cell x0
      clear b1
      go_wp2_with fail
      refine (igoodWork_eq x t HT.out _).mono ?_
      rintro e w2 ⟨rfl, b2⟩
      have B2 : Hid (Below w.heap.size w w2) := B1.out.trans (b2.mono (by omega))
      have y0 := (b2.cell (p := ⟨w.heap.size, 0, none⟩) hs1).trans x0
      have y1 := (b2.cell (p := ⟨w.heap.size, 1, none⟩) hs1).trans x1
      have y2 := (b2.cell (p := ⟨w.heap.size, 2, none⟩) hs1).trans x2
      have hs2 : w.heap.size < w2.heap.size := lt_of_cell y0
      clear b2 B1 x0 x1 x2 hs1
      cases t
      · go_wp2
        go_ret2
        exact ⟨_, rfl, wkown_nil _ _ _ _ _, B2.out⟩
      · go_wp2_with fail
        refine (wclone_any _ xs _ (HR.out.below B2.out) (by omega)).mono ?_
        rintro e w3 ⟨v3, rfl, b3, h3⟩
        obtain ⟨a3, n3, c3, rfl⟩ : ∃ a n c, v3 = .slice a n c := by
          rcases h3 with ⟨_, a, rfl⟩ | ⟨_, h⟩
          · exact ⟨_, _, _, rfl⟩
          · rcases h.2 with ⟨rfl, _⟩ | ⟨g, cap, cur, rfl, _⟩
            · exact ⟨_, _, _, rfl⟩
            · exact ⟨_, _, _, rfl⟩
        have B3 : Hid (Below w.heap.size w w3) := B2.out.trans (b3.mono (by omega))
        have z0 := (b3.cell (p := ⟨w.heap.size, 0, none⟩) hs2).trans y0
        have z1 := (b3.cell (p := ⟨w.heap.size, 1, none⟩) hs2).trans y1
        have z2 := (b3.cell (p := ⟨w.heap.size, 2, none⟩) hs2).trans y2
        have hs3 : w.heap.size < w3.heap.size := lt_of_cell z0
        obtain ⟨W, hW⟩ : ∃ W, W = w3.alloc (.cells #[.slice a3 n3 c3] 87) := ⟨_, rfl⟩
        have hcW : W.cell? ⟨w3.heap.size, 0, none⟩ = some (.slice a3 n3 c3) := by rw [hW]; simp
        have hfW : W.frozen? ⟨w3.heap.size, 0, none⟩ = false := by rw [hW]; simp
        have bW : Below w3.heap.size w3 W := by rw [hW]; exact (Below.refl _ _).alloc (Nat.le_refl _) _
        have hsW : w3.heap.size < W.heap.size := lt_of_cell hcW
        have PU := hid (push_any w3.heap.size w2.heap.size xs.length (xs.length + 1) (.slice a3 n3 c3) xs (xs ++ [x]) x rfl rfl W hcW hfW (by
          rcases h3 with h | ⟨_, h⟩
          · exact .inl h
          · exact .inr ⟨by rw [hW]; exact h.alloc _, fun e => by have := (h.lt _ e).2; omega⟩) rfl (by omega) (by have := b3.size; omega) b3.size)
        have BW := hid bW
        have HB3 := hid b3
        have HWW := hid hW
        clear b3 h3 hW bW y0 y1 y2
        go_wp2_with fail
        rw [← HWW.out]
        refine PU.out.mono ?_
        rintro e w4 ⟨rfl, g, cap4, hc4, o4, hg4, b4⟩
        have O4 := hid (o4.mono (lo' := w.heap.size) (hi' := w4.heap.size) (by omega) (by omega))
        have B4 : Hid (Below w.heap.size w w4) := (B3.out.trans (BW.out.mono (by omega))).trans (b4.mono (by omega))
        clear o4 b4
        go_wp2
        go_ret2
        exact ⟨_, rfl, O4.out, B4.out⟩
end Go.Proofs.Ytndbdioignmaeaa
