/-
  spec.l3Up: one goes up in a list of its own. Nothing old is written.
-/
import Derived.Test.YtndbdioignmaeaaSLess
import Derived.Test.YtndbdioignmaeaaHeapMath
import Derived.Test.YtndbdioignmaeaaWkForm
import Derived.Deep.RegionHeld3
import Derived.Deep.DeepCutAuto
namespace Go.Proofs.Ytndbdioignmaeaa
open Go.RowKit

set_option maxHeartbeats 4000000 in
set_option linter.unusedSimpArgs false in
theorem l3Up_but (lo hi : Nat) (v : Value) (xs : List WkEl) (k0 : Nat) (w : World) (ho : WkOwn lo hi w v xs) (hk : k0 < xs.length) (hx : xs.length ≤ 1048576) (hlo : lo ≤ w.heap.size) :
    Calls Try.prog 84 #[v, .int .i64 k0] w fun e w' => e = .returned (.int .i64 (upL k0 xs k0).2) ∧ WkOwn lo hi w' v (upL k0 xs k0).1 ∧ But (fun j => lo ≤ j ∧ j < hi) w w' := by
  obtain ⟨g, cap, rfl, hg, _⟩ := ho.form k0 hk
  obtain ⟨n, hn⟩ : ∃ n, n = xs.length := ⟨_, rfl⟩
  have HO := hid ho
  rw [← hn] at HO hk hx ⊢
  have HN := hid hn
  clear ho hn
  go_enter Try.func84, Try.ntmps84
  go_wp2
  go_loopw [1] (fun i wr => ∃ (k f : Nat) (l : List WkEl), i = .int .i64 k ∧ k < n ∧ l.length = n ∧ k ≤ f ∧ upL k0 xs k0 = upL f l k ∧ WkOwn lo hi wr (.slice (some ⟨g, 0, none⟩) n cap) l ∧ But (fun j => lo ≤ j ∧ j < hi) w wr ∧ lo ≤ wr.heap.size) (fun i _ => (intOf i).toNat)
  case atStart => exact ⟨k0, k0, xs, rfl, hk, HN.out.symm, Nat.le_refl _, rfl, HO.out, But.refl _ _, hlo⟩
  case round =>
    obtain ⟨k, f, l, rfl, hkn, hl, hkf, hup, hown, hbel, hsz⟩ := hrel
    have HU := hid hup
    have HW := hid hown
    have HB := hid hbel
    have HL := hid hl
    clear hup hown hbel hl
    by_cases hk0 : 0 < k
    · obtain ⟨m, hm⟩ : ∃ m, m = (k - 1) / 2 := ⟨_, rfl⟩
      obtain ⟨k1, hk1⟩ : ∃ k1, k1 = k - 1 := ⟨_, rfl⟩
      obtain ⟨x, hx0⟩ : ∃ x, x = l.getD k (0, 0, 0) := ⟨_, rfl⟩
      obtain ⟨y, hy0⟩ : ∃ y, y = l.getD m (0, 0, 0) := ⟨_, rfl⟩
      have hw : IntKind.i64.wrap ((k : Int) - 1) = (k1 : Int) := by rw [IntKind.wrap_i64]; omega
      have hq1 : ((k1 : Int).tdiv 2) = (m : Int) := by rw [hm, hk1]; rfl
      have hq2 : (k1 : Int) / 2 = (m : Int) := by omega
      have hq3 : IntKind.i64.wrap (m : Int) = (m : Int) := by rw [IntKind.wrap_i64]; omega
      have hmk : m < k := by omega
      have hll : l.length = n := HL.out
      have hd0 : decide (0 < k) = true := by simpa using hk0
      obtain ⟨c0, c1, c2⟩ : WkCells wr g (k * 3) x := by
        obtain ⟨g', cap', e, _, hc⟩ := HW.out.form k (by omega)
        cases e
        rw [hx0]; exact (hc k (by omega)).1
      obtain ⟨d0, d1, d2⟩ : WkCells wr g (m * 3) y := by
        obtain ⟨g', cap', e, _, hc⟩ := HW.out.form k (by omega)
        cases e
        rw [hy0]; exact (hc m (by omega)).1
      have hga : g < wr.heap.size := lt_of_cell c0
      have n0 : (0 : Int) ≤ (k : Int) := by omega
      have n1 : (k : Int) < (n : Int) := by omega
      have n2 : (0 : Int) ≤ (m : Int) := by omega
      have n3 : (m : Int) < (n : Int) := by omega
      obtain ⟨b, hb⟩ : ∃ b, lessB x y = b := ⟨_, rfl⟩
      have HLS := hid hb
      have HX := hid hx0
      have HY := hid hy0
      have HMM := hid hm
      clear hb hx0 hy0 hm hk1 hll
      go_wp2_with fail
      go_region_held3 (fun w' => (w'.cell? ⟨g, k * 3, none⟩ = some (.int .i64 x.1) ∧ w'.cell? ⟨g, k * 3 + 1, none⟩ = some (.int .i64 x.2.1) ∧ w'.cell? ⟨g, k * 3 + 2, none⟩ = some (.int .i64 x.2.2)) ∧ w'.cell? ⟨g, m * 3, none⟩ = some (.int .i64 y.1) ∧ w'.cell? ⟨g, m * 3 + 1, none⟩ = some (.int .i64 y.2.1) ∧ w'.cell? ⟨g, m * 3 + 2, none⟩ = some (.int .i64 y.2.2)) (go_keep)
        (first | (go_at_call 92; refine (l3Less_eq x y b HLS.out _).mono ?_; rintro e w2 ⟨rfl, b2⟩; obtain ⟨e0, e1, e2⟩ := WkCells.below (show WkCells wr.drew g (k * 3) x from ⟨c0, c1, c2⟩) b2 hga; obtain ⟨e3, e4, e5⟩ := WkCells.below (show WkCells wr.drew g (m * 3) y from ⟨d0, d1, d2⟩) b2 hga))
      have HW2 := hid (HW.out.below ((Below.refl _ _).drew.trans b2))
      have HB2 : Hid (But (fun j => lo ≤ j ∧ j < hi) w w2) := HB.out.drew.trans (But.of b2)
      have hs2 : wr.heap.size ≤ w2.heap.size := b2.size
      clear b2 HW HB
      cases b
      · have hs : Hid (upL k0 xs k0 = (l, k)) := by
          show _ = _
          rw [HU.out]
          refine upL_stop f l k fun h => ?_
          have h2 := h.2
          rw [← HMM.out] at h2
          rw [show lessB (l.getD k wz) (l.getD m wz) = lessB x y by rw [HX.out, HY.out], HLS.out] at h2
          cases h2
        go_wp2
        go_ret
        exact ⟨by rw [hs.out]; rfl, by rw [hs.out]; exact HW2.out, HB2.out⟩
      · obtain ⟨W, hW⟩ : ∃ W, W = w2.alloc (.cells #[.int .i64 x.1, .int .i64 x.2.1, .int .i64 x.2.2] 48) := ⟨_, rfl⟩
        have hWb : Below w2.heap.size w2 W := by rw [hW]; exact (Below.refl _ _).alloc (Nat.le_refl _) _
        have hWs : W.heap.size = w2.heap.size + 1 := by rw [hW]; simp
        have hp0 : W.cell? ⟨w2.heap.size, 0, none⟩ = some (.int .i64 x.1) := by rw [hW]; simp
        have hp1 : W.cell? ⟨w2.heap.size, 1, none⟩ = some (.int .i64 x.2.1) := by rw [hW]; simp
        have hp2 : W.cell? ⟨w2.heap.size, 2, none⟩ = some (.int .i64 x.2.2) := by rw [hW]; simp
        have hsw := (HW2.out.below hWb).swap HL.out k m x y HX.out HY.out hkn (by omega)
        obtain ⟨sw, ⟨⟨f0, f1, f2⟩, ⟨x0, x1, x2⟩, y0, y1, y2⟩, ⟨f3, f4, f5⟩, z, z0, z1, z2⟩ := hsw
        have SW := hid sw
        have hne : w2.heap.size ≠ g := by omega
        have r0 : (put3 W g (k * 3) y).cell? ⟨w2.heap.size, 0, none⟩ = some (.int .i64 x.1) := (cell_set3 _ _ _ _ _ _ _ _ hne).trans hp0
        have r1 : (put3 W g (k * 3) y).cell? ⟨w2.heap.size, 1, none⟩ = some (.int .i64 x.2.1) := (cell_set3 _ _ _ _ _ _ _ _ hne).trans hp1
        have r2 : (put3 W g (k * 3) y).cell? ⟨w2.heap.size, 2, none⟩ = some (.int .i64 x.2.2) := (cell_set3 _ _ _ _ _ _ _ _ hne).trans hp2
        have B3 : Hid (But (fun j => lo ≤ j ∧ j < hi) w (put3 (put3 W g (k * 3) y) g (m * 3) x)) := but_put3 (P := fun j => lo ≤ j ∧ j < hi) (but_put3 (P := fun j => lo ≤ j ∧ j < hi) (HB2.out.trans (But.of hWb)) hg _ _) hg _ _
        have hs3 : (put3 (put3 W g (k * 3) y) g (m * 3) x).heap.size = w2.heap.size + 1 := by rw [size_put3, size_put3, hWs]
        obtain ⟨f', hf', he⟩ := upL_go f l k hkf hk0 (by rw [← HMM.out, show l.getD k wz = x from HX.out.symm, show l.getD m wz = y from HY.out.symm]; exact HLS.out)
        rw [← HMM.out] at hf' he
        have HE : Hid (upL k0 xs k0 = upL f' (swapL l k m) m) := HU.out.trans he
        have HWW := hid hW
        clear he sw hW hWb hp0 hp1 hp2
        go_upto_region 4 with fail
        rw [← HWW.out]
        go_wp2
        go_roundw
        case rel => exact ⟨m, f', swapL l k m, by go_num, by omega, by rw [length_swapL]; exact HL.out, hf', HE.out, SW.out, B3.out, by rw [hs3]; omega⟩
        case measure => simp [intOf]; omega
    · obtain rfl : k = 0 := by omega
      have hs : Hid (upL k0 xs k0 = (l, 0)) := by show _ = _; rw [HU.out]; exact upL_stop f l 0 (by omega)
      go_wp2_with fail
      refine wp_region_any (by kernel_rfl) ?_
      change wpAny _ _ _ _ _ _ _ (World.drew _)
      refine wpAny_ready (rs := [0]) (by kernel_rfl) (by simp) ?_
      refine AllReady.cons rfl (fun K hK => ?_) AllReady.nil
      go_simp
      refine hK _ _ ?_
      clear hK K
      refine wpAny_ready (rs := [1]) (by kernel_rfl) (by simp) ?_
      refine AllReady.cons rfl (fun K hK => ?_) AllReady.nil
      go_simp
      refine hK _ _ ?_
      clear hK K
      refine wpAny_ready (rs := [2]) (by kernel_rfl) (by simp) ?_
      refine AllReady.cons rfl (fun K hK => ?_) AllReady.nil
      go_simp
      refine hK _ _ ?_
      clear hK K
      refine wpAny_take (i := 3) (v := undef) rfl (by kernel_rfl) (by kernel_rfl) (by kernel_rfl) (fun _ _ _ h => h) (Or.inr ⟨by kernel_rfl, rfl⟩) ?_
      try simp only [Act.put]
      try simp only [List.setIfInBounds_toArray, List.set_cons_zero, List.set_cons_succ]
      refine wpAny_take (i := 4) (v := undef) rfl (by kernel_rfl) (by kernel_rfl) (by kernel_rfl) (fun _ _ _ h => h) (Or.inr ⟨by kernel_rfl, rfl⟩) ?_
      try simp only [Act.put]
      try simp only [List.setIfInBounds_toArray, List.set_cons_zero, List.set_cons_succ]
      refine wpAny_take (i := 5) (v := undef) rfl (by kernel_rfl) (by kernel_rfl) (by kernel_rfl) (fun _ _ _ h => h) (Or.inr ⟨by kernel_rfl, rfl⟩) ?_
      try simp only [Act.put]
      try simp only [List.setIfInBounds_toArray, List.set_cons_zero, List.set_cons_succ]
      refine wpAny_take (i := 6) (v := undef) rfl (by kernel_rfl) (by kernel_rfl) (by kernel_rfl) (fun _ _ _ h => h) (Or.inr ⟨by kernel_rfl, rfl⟩) ?_
      try simp only [Act.put]
      try simp only [List.setIfInBounds_toArray, List.set_cons_zero, List.set_cons_succ]
      refine wpAny_take (i := 7) (v := undef) rfl (by kernel_rfl) (by kernel_rfl) (by kernel_rfl) (fun _ _ _ h => h) (Or.inr ⟨by kernel_rfl, rfl⟩) ?_
      try simp only [Act.put]
      try simp only [List.setIfInBounds_toArray, List.set_cons_zero, List.set_cons_succ]
      refine wpAny_take (i := 8) (v := undef) rfl (by kernel_rfl) (by kernel_rfl) (by kernel_rfl) (fun _ _ _ h => h) (Or.inr ⟨by kernel_rfl, rfl⟩) ?_
      try simp only [Act.put]
      try simp only [List.setIfInBounds_toArray, List.set_cons_zero, List.set_cons_succ]
      refine wpAny_take (i := 9) (v := undef) rfl (by kernel_rfl) (by kernel_rfl) (by kernel_rfl) (fun _ _ _ h => h) (Or.inr ⟨by kernel_rfl, rfl⟩) ?_
      try simp only [Act.put]
      try simp only [List.setIfInBounds_toArray, List.set_cons_zero, List.set_cons_succ]
      refine wpAny_take (i := 10) (v := undef) rfl (by kernel_rfl) (by kernel_rfl) (by kernel_rfl) (fun _ _ _ h => h) (Or.inr ⟨by kernel_rfl, rfl⟩) ?_
      try simp only [Act.put]
      try simp only [List.setIfInBounds_toArray, List.set_cons_zero, List.set_cons_succ]
      refine wpAny_take (i := 11) (v := undef) rfl (by kernel_rfl) (by kernel_rfl) (by kernel_rfl) (fun _ _ _ h => h) (Or.inr ⟨by kernel_rfl, rfl⟩) ?_
      try simp only [Act.put]
      try simp only [List.setIfInBounds_toArray, List.set_cons_zero, List.set_cons_succ]
      refine wpAny_take (i := 12) (v := undef) rfl (by kernel_rfl) (by kernel_rfl) (by kernel_rfl) (fun _ _ _ h => h) (Or.inr ⟨by kernel_rfl, rfl⟩) ?_
      try simp only [Act.put]
      try simp only [List.setIfInBounds_toArray, List.set_cons_zero, List.set_cons_succ]
      refine wpAny_take (i := 13) (v := undef) rfl (by kernel_rfl) (by kernel_rfl) (by kernel_rfl) (fun _ _ _ h => h) (Or.inr ⟨by kernel_rfl, rfl⟩) ?_
      try simp only [Act.put]
      try simp only [List.setIfInBounds_toArray, List.set_cons_zero, List.set_cons_succ]
      refine wpAny_ready (rs := [14]) (by kernel_rfl) (by simp) ?_
      refine AllReady.cons rfl (fun K hK => ?_) AllReady.nil
      go_simp
      refine hK _ _ ?_
      clear hK K
      refine wpAny_done (by kernel_rfl) ?_ _
      go_wp2
      go_ret
      exact ⟨by rw [hs.out]; rfl, by rw [hs.out]; exact HW.out.below (Below.refl _ _).drew, HB.out.drew⟩
theorem l3Up_any (lo hi : Nat) (v : Value) (xs : List WkEl) (k0 : Nat) (w : World) (ho : WkOwn lo hi w v xs) (hk : k0 < xs.length) (hx : xs.length ≤ 1048576) (hlo : lo ≤ w.heap.size) :
    Calls Try.prog 84 #[v, .int .i64 k0] w fun e w' => e = .returned (.int .i64 (upL k0 xs k0).2) ∧ WkOwn lo hi w' v (upL k0 xs k0).1 ∧ Below lo w w' :=
  (l3Up_but lo hi v xs k0 w ho hk hx hlo).mono fun _ _ ⟨a, b, c⟩ => ⟨a, b, c.to hlo fun k hk h => by omega⟩
end Go.Proofs.Ytndbdioignmaeaa
