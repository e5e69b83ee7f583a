/-
  spec.l3Down: one goes down in a list of its own. Nothing old is written.
-/
import Derived.Test.YtndbdioignmaeaaSLess
import Derived.Test.YtndbdioignmaeaaWkForm
import Derived.Deep.RegionHeld3
import Derived.Deep.DeepCutAuto
namespace Go.Proofs.Ytndbdioignmaeaa
open Go.RowKit

def bestAt (l : List WkEl) (k j : Nat) : Nat := if j = 0 then k else if j = 1 then best1 l k else bestOf l k
theorem bestAt_step (l : List WkEl) (k j : Nat) (hj : j < 2) : bestAt l k (j + 1) = if 2 * k + 1 + j < l.length ∧ lessB (l.getD (2 * k + 1 + j) wz) (l.getD (bestAt l k j) wz) = true then 2 * k + 1 + j else bestAt l k j := by
  rcases (by omega : j = 0 ∨ j = 1) with rfl | rfl
  · rfl
  · rfl
theorem bestAt_lt (l : List WkEl) (k j : Nat) (hk : k < l.length) : bestAt l k j < l.length := by
  have h1 := best1_cases l k
  have h2 := bestOf_cases l k
  unfold bestAt
  split
  · exact hk
  · split <;> omega

set_option maxHeartbeats 4000000 in
set_option linter.unusedSimpArgs false in
theorem l3Down_but (lo hi : Nat) (v : Value) (xs : List WkEl) (k0 : Nat) (w : World) (ho : WkOwn lo hi w v xs) (hk : k0 < xs.length) (hx : xs.length ≤ 1048576) (hlo : lo ≤ w.heap.size) :
    Calls Try.prog 85 #[v, .int .i64 k0] w fun e w' => e = .returned (.int .i64 (downL xs.length xs k0 0).2) ∧ WkOwn lo hi w' v (downL xs.length xs k0 0).1 ∧ But (fun j => lo ≤ j ∧ j < hi) w w' := by
  obtain ⟨g, cap, rfl, hg, _⟩ := ho.form k0 hk
  obtain ⟨n, hn⟩ : ∃ n, n = xs.length := ⟨_, rfl⟩
  have HO := hid ho
  rw [← hn] at HO hk hx ⊢
  have HN := hid hn
  clear ho hn
  go_enter Try.func85, Try.ntmps85
  go_wp2
  go_loopw [1, 5] (fun i s wr => ∃ (k f t : Nat) (l : List WkEl), i = .int .i64 k ∧ s = .int .i64 t ∧ t ≤ k ∧ k < n ∧ l.length = n ∧ l.length - k ≤ f ∧ downL n xs k0 0 = downL f l k t ∧ WkOwn lo hi wr (.slice (some ⟨g, 0, none⟩) n cap) l ∧ But (fun j => lo ≤ j ∧ j < hi) w wr ∧ lo ≤ wr.heap.size) (fun i _ _ => n - (intOf i).toNat)
  case atStart => exact ⟨k0, n, 0, xs, rfl, rfl, by omega, hk, HN.out.symm, by rw [← HN.out]; omega, rfl, HO.out, But.refl _ _, hlo⟩
  case round =>
    obtain ⟨k, f, t, l, rfl, rfl, htk, hkn, hl, hkf, hdn, hown, hbel, hsz⟩ := hrel
    have HU := hid hdn
    have HW := hid hown
    have HB := hid hbel
    have HL := hid hl
    obtain ⟨wo, hwo⟩ : ∃ wo, wo = wr := ⟨_, rfl⟩
    subst hwo
    clear hdn hown hbel hl
    go_wp2
    go_loopw [6, 19] (fun s i wi => ∃ j : Nat, j ≤ 2 ∧ i = .int .i64 j ∧ s = .int .i64 (bestAt l k j) ∧ (wi.cell? ⟨wo.heap.size, 0, none⟩ = some (.int .i64 (2 * k + 1)) ∧ wi.cell? ⟨wo.heap.size, 1, none⟩ = some (.int .i64 (2 * k + 2))) ∧ WkOwn lo hi wi (.slice (some ⟨g, 0, none⟩) n cap) l ∧ But (fun j => lo ≤ j ∧ j < hi) w wi ∧ wo.heap.size < wi.heap.size) (fun _ i _ => 2 - (intOf i).toNat)
    case atStart => exact ⟨0, by omega, rfl, rfl, ⟨by simp, by simp⟩, HW.out.below ((Below.refl _ _).alloc (Nat.le_refl _) _), HB.out.alloc _, by simp⟩
    case round =>
      obtain ⟨j, hj, rfl, rfl, ⟨p0, p1⟩, hown, hbel, hsz2⟩ := hrel
      have HW2 := hid hown
      have HB2 := hid hbel
      clear hown hbel
      have hbl := bestAt_lt l k j (by rw [HL.out]; exact hkn)
      rw [HL.out] at hbl
      obtain ⟨bi, hbi⟩ : ∃ bi, bi = bestAt l k j := ⟨_, rfl⟩
      rw [← hbi] at hbl
      have HBI := hid hbi
      clear hbi
      by_cases hj2 : j < 2
      · have hst := bestAt_step l k j hj2
        rw [← HBI.out, HL.out] at hst
        have HST := hid hst
        obtain ⟨c, hc⟩ : ∃ c, c = 2 * k + 1 + j := ⟨_, rfl⟩
        rw [← hc] at HST
        have pc : wr.cell? ⟨wo.heap.size, j, none⟩ = some (.int .i64 (c : Int)) := by
          rcases (by omega : j = 0 ∨ j = 1) with rfl | rfl
          · rw [p0]; congr 2; omega
          · rw [p1]; congr 2; omega
        have hj0 : (0 : Int) ≤ (j : Int) := by omega
        have hj1 : (j : Int) < 2 := by omega
        clear hst
        rw [← HBI.out]
        by_cases hcn : c < n
        · obtain ⟨x, hx0⟩ : ∃ x, x = l.getD c (0, 0, 0) := ⟨_, rfl⟩
          obtain ⟨y, hy0⟩ : ∃ y, y = l.getD bi (0, 0, 0) := ⟨_, rfl⟩
          have hll : l.length = n := HL.out
          obtain ⟨c0, c1, c2⟩ : WkCells wr g (c * 3) x := by
            obtain ⟨g', cap', e, _, hc⟩ := HW2.out.form c (by omega)
            cases e
            rw [hx0]; exact (hc c (by omega)).1
          obtain ⟨d0, d1, d2⟩ : WkCells wr g (bi * 3) y := by
            obtain ⟨g', cap', e, _, hc⟩ := HW2.out.form c (by omega)
            cases e
            rw [hy0]; exact (hc bi (by omega)).1
          have hga : g < wr.heap.size := lt_of_cell c0
          have hd : decide (c < n) = true := by simpa using hcn
          have n0 : (0 : Int) ≤ (c : Int) := by omega
          have n1 : (c : Int) < (n : Int) := by omega
          have n2 : (0 : Int) ≤ (bi : Int) := by omega
          have n3 : (bi : Int) < (n : Int) := by omega
          obtain ⟨b, hb⟩ : ∃ b, lessB x y = b := ⟨_, rfl⟩
          have HLS := hid hb
          have hs : Hid (bestAt l k (j + 1) = if b = true then c else bi) := by
            show _ = _
            rw [HST.out, show l.getD c wz = x from hx0.symm, show l.getD bi wz = y from hy0.symm, hb]
            cases b <;> simp [hcn]
          clear hb hx0 hy0 hll hc
          go_wp2_with fail
          go_region_held3 (fun w' => (w'.cell? ⟨g, c * 3, none⟩ = some (.int .i64 x.1) ∧ w'.cell? ⟨g, c * 3 + 1, none⟩ = some (.int .i64 x.2.1) ∧ w'.cell? ⟨g, c * 3 + 2, none⟩ = some (.int .i64 x.2.2)) ∧ w'.cell? ⟨g, bi * 3, none⟩ = some (.int .i64 y.1) ∧ w'.cell? ⟨g, bi * 3 + 1, none⟩ = some (.int .i64 y.2.1) ∧ w'.cell? ⟨g, bi * 3 + 2, none⟩ = some (.int .i64 y.2.2)) (go_keep)
            (first | (go_at_call 92; refine (l3Less_eq x y b HLS.out _).mono ?_; rintro e w2 ⟨rfl, b2⟩; obtain ⟨e0, e1, e2⟩ := WkCells.below (show WkCells wr.drew g (c * 3) x from ⟨c0, c1, c2⟩) b2 hga; obtain ⟨e3, e4, e5⟩ := WkCells.below (show WkCells wr.drew g (bi * 3) y from ⟨d0, d1, d2⟩) b2 hga))
          have q0 := (b2.cell (p := ⟨wo.heap.size, 0, none⟩) hsz2).trans p0
          have q1 := (b2.cell (p := ⟨wo.heap.size, 1, none⟩) hsz2).trans p1
          have HW3 := hid (HW2.out.below ((Below.refl _ _).drew.trans b2))
          have HB3 : Hid (But (fun j => lo ≤ j ∧ j < hi) w w2) := HB2.out.drew.trans (But.of b2)
          have hs2 : wr.heap.size ≤ w2.heap.size := b2.size
          clear b2 HW2 HB2
          cases b
          · go_wp2
            go_roundw
            case rel => exact ⟨j + 1, by omega, by go_num, by rw [hs.out]; rfl, ⟨q0, q1⟩, HW3.out, HB3.out, by omega⟩
            case measure => simp [intOf]; omega
          · go_wp2
            go_roundw
            case rel => exact ⟨j + 1, by omega, by go_num, by rw [hs.out]; rfl, ⟨q0, q1⟩, HW3.out, HB3.out, by omega⟩
            case measure => simp [intOf]; omega
        · have hs : Hid (bestAt l k (j + 1) = bi) := by show _ = _; rw [HST.out, if_neg (fun h => hcn h.1)]
          have hd : decide (c < n) = false := by simpa using hcn
          have hd3 : decide ((c : Int) < (n : Int)) = false := by simp; omega
          clear hc
          go_wp2_with fail
          refine wp_region_any (by kernel_rfl) ?_
          change wpAny _ _ _ _ _ _ _ (World.drew _)
          refine wpAny_take (i := 0) (v := (.int .i64 c)) rfl (by kernel_rfl) (by kernel_rfl) (by kernel_rfl) (fun _ _ _ h => h) (Or.inl ⟨by kernel_rfl, fun _ => by go_simp⟩) ?_
          try simp only [Act.put]
          try simp only [List.setIfInBounds_toArray, List.set_cons_zero, List.set_cons_succ]
          refine wpAny_ready (rs := [1]) (by kernel_rfl) (by simp) ?_
          refine AllReady.cons rfl (fun K hK => ?_) AllReady.nil
          go_simp
          refine hK _ _ ?_
          clear hK K
          refine wpAny_ready (rs := [2]) (by kernel_rfl) (by simp) ?_
          refine AllReady.cons rfl (fun K hK => ?_) AllReady.nil
          go_simp
          refine hK _ _ ?_
          clear hK K
          refine wpAny_ready (rs := [3]) (by kernel_rfl) (by simp) ?_
          refine AllReady.cons rfl (fun K hK => ?_) AllReady.nil
          go_simp
          refine hK _ _ ?_
          clear hK K
          refine wpAny_ready (rs := [4]) (by kernel_rfl) (by simp) ?_
          refine AllReady.cons rfl (fun K hK => ?_) AllReady.nil
          go_simp
          refine hK _ _ ?_
          clear hK K
          refine wpAny_take (i := 5) (v := undef) rfl (by kernel_rfl) (by kernel_rfl) (by kernel_rfl) (fun _ _ _ h => h) (Or.inr ⟨by kernel_rfl, rfl⟩) ?_
          try simp only [Act.put]
          try simp only [List.setIfInBounds_toArray, List.set_cons_zero, List.set_cons_succ]
          refine wpAny_take (i := 6) (v := undef) rfl (by kernel_rfl) (by kernel_rfl) (by kernel_rfl) (fun _ _ _ h => h) (Or.inr ⟨by kernel_rfl, rfl⟩) ?_
          try simp only [Act.put]
          try simp only [List.setIfInBounds_toArray, List.set_cons_zero, List.set_cons_succ]
          refine wpAny_take (i := 7) (v := undef) rfl (by kernel_rfl) (by kernel_rfl) (by kernel_rfl) (fun _ _ _ h => h) (Or.inr ⟨by kernel_rfl, rfl⟩) ?_
          try simp only [Act.put]
          try simp only [List.setIfInBounds_toArray, List.set_cons_zero, List.set_cons_succ]
          refine wpAny_take (i := 8) (v := undef) rfl (by kernel_rfl) (by kernel_rfl) (by kernel_rfl) (fun _ _ _ h => h) (Or.inr ⟨by kernel_rfl, rfl⟩) ?_
          try simp only [Act.put]
          try simp only [List.setIfInBounds_toArray, List.set_cons_zero, List.set_cons_succ]
          refine wpAny_take (i := 9) (v := undef) rfl (by kernel_rfl) (by kernel_rfl) (by kernel_rfl) (fun _ _ _ h => h) (Or.inr ⟨by kernel_rfl, rfl⟩) ?_
          try simp only [Act.put]
          try simp only [List.setIfInBounds_toArray, List.set_cons_zero, List.set_cons_succ]
          refine wpAny_take (i := 10) (v := undef) rfl (by kernel_rfl) (by kernel_rfl) (by kernel_rfl) (fun _ _ _ h => h) (Or.inr ⟨by kernel_rfl, rfl⟩) ?_
          try simp only [Act.put]
          try simp only [List.setIfInBounds_toArray, List.set_cons_zero, List.set_cons_succ]
          refine wpAny_take (i := 11) (v := undef) rfl (by kernel_rfl) (by kernel_rfl) (by kernel_rfl) (fun _ _ _ h => h) (Or.inr ⟨by kernel_rfl, rfl⟩) ?_
          try simp only [Act.put]
          try simp only [List.setIfInBounds_toArray, List.set_cons_zero, List.set_cons_succ]
          refine wpAny_take (i := 12) (v := undef) rfl (by kernel_rfl) (by kernel_rfl) (by kernel_rfl) (fun _ _ _ h => h) (Or.inr ⟨by kernel_rfl, rfl⟩) ?_
          try simp only [Act.put]
          try simp only [List.setIfInBounds_toArray, List.set_cons_zero, List.set_cons_succ]
          refine wpAny_take (i := 13) (v := undef) rfl (by kernel_rfl) (by kernel_rfl) (by kernel_rfl) (fun _ _ _ h => h) (Or.inr ⟨by kernel_rfl, rfl⟩) ?_
          try simp only [Act.put]
          try simp only [List.setIfInBounds_toArray, List.set_cons_zero, List.set_cons_succ]
          refine wpAny_ready (rs := [14]) (by kernel_rfl) (by simp) ?_
          refine AllReady.cons rfl (fun K hK => ?_) AllReady.nil
          go_simp
          refine hK _ _ ?_
          clear hK K
          refine wpAny_done (by kernel_rfl) ?_ _
          go_wp2
          go_roundw
          case rel => exact ⟨j + 1, by omega, by go_num, by rw [hs.out], ⟨p0, p1⟩, HW2.out.below (Below.refl _ _).drew, HB2.out.drew, hsz2⟩
          case measure => simp [intOf]; omega
      · obtain rfl : j = 2 := by omega
        have hb2 : Hid (bi = bestOf l k) := HBI.out
        rw [← HBI.out]
        have hlen : l.length = n := HL.out
        by_cases hbk : bi = k
        · have hd : ((bi : Int) == (k : Int)) = true := by simp [hbk]
          have hs : Hid (downL n xs k0 0 = (l, t)) := by show _ = _; rw [HU.out]; exact downL_stop f l k t (by rw [← hb2.out]; exact hbk)
          clear hlen
          go_wp2
          go_ret
          exact ⟨by rw [hs.out]; rfl, by rw [hs.out]; exact HW2.out, HB2.out⟩
        · have hd : ((bi : Int) == (k : Int)) = false := by simp; omega
          have hcs := bestOf_cases l k
          rw [← hb2.out, hlen] at hcs
          have hkb : k < bi := by omega
          obtain ⟨x, hx0⟩ : ∃ x, x = l.getD k (0, 0, 0) := ⟨_, rfl⟩
          obtain ⟨y, hy0⟩ : ∃ y, y = l.getD bi (0, 0, 0) := ⟨_, rfl⟩
          have HX := hid hx0
          have HY := hid hy0
          obtain ⟨W, hW⟩ : ∃ W, W = wr.alloc (.cells #[.int .i64 x.1, .int .i64 x.2.1, .int .i64 x.2.2] 48) := ⟨_, rfl⟩
          have hWb : Below wr.heap.size wr W := by rw [hW]; exact (Below.refl _ _).alloc (Nat.le_refl _) _
          have hWs : W.heap.size = wr.heap.size + 1 := by rw [hW]; simp
          have hp0 : W.cell? ⟨wr.heap.size, 0, none⟩ = some (.int .i64 x.1) := by rw [hW]; simp
          have hp1 : W.cell? ⟨wr.heap.size, 1, none⟩ = some (.int .i64 x.2.1) := by rw [hW]; simp
          have hp2 : W.cell? ⟨wr.heap.size, 2, none⟩ = some (.int .i64 x.2.2) := by rw [hW]; simp
          obtain ⟨e0, e1, e2⟩ := (HW2.out.swap HL.out k bi x y hx0 hy0 hkn hbl).2.1.2.1
          have hga : g < wr.heap.size := lt_of_cell e0
          have hsw := (HW2.out.below hWb).swap HL.out k bi x y hx0 hy0 hkn hbl
          obtain ⟨sw, ⟨⟨f0, f1, f2⟩, ⟨x0, x1, x2⟩, y0, y1, y2⟩, ⟨f3, f4, f5⟩, z, z0, z1, z2⟩ := hsw
          have SW := hid sw
          have hne : wr.heap.size ≠ g := by omega
          have r0 : (put3 W g (k * 3) y).cell? ⟨wr.heap.size, 0, none⟩ = some (.int .i64 x.1) := (cell_set3 _ _ _ _ _ _ _ _ hne).trans hp0
          have r1 : (put3 W g (k * 3) y).cell? ⟨wr.heap.size, 1, none⟩ = some (.int .i64 x.2.1) := (cell_set3 _ _ _ _ _ _ _ _ hne).trans hp1
          have r2 : (put3 W g (k * 3) y).cell? ⟨wr.heap.size, 2, none⟩ = some (.int .i64 x.2.2) := (cell_set3 _ _ _ _ _ _ _ _ hne).trans hp2
          have B3 : Hid (But (fun j => lo ≤ j ∧ j < hi) w (put3 (put3 W g (k * 3) y) g (bi * 3) x)) := but_put3 (P := fun j => lo ≤ j ∧ j < hi) (but_put3 (P := fun j => lo ≤ j ∧ j < hi) (HB2.out.trans (But.of hWb)) hg _ _) hg _ _
          have hs3 : (put3 (put3 W g (k * 3) y) g (bi * 3) x).heap.size = wr.heap.size + 1 := by rw [size_put3, size_put3, hWs]
          obtain ⟨f', hf', he⟩ := downL_go f l k t hkf (by omega) (by rw [← hb2.out]; exact hbk)
          rw [← hb2.out] at hf' he
          have HE : Hid (downL n xs k0 0 = downL f' (swapL l k bi) bi (t + 1)) := HU.out.trans he
          have HWW := hid hW
          have n0 : (0 : Int) ≤ (k : Int) := by omega
          have n1 : (k : Int) < (n : Int) := by omega
          have n2 : (0 : Int) ≤ (bi : Int) := by omega
          have n3 : (bi : Int) < (n : Int) := by omega
          clear he sw hW hWb hp0 hp1 hp2 hx0 hy0 hlen hcs
          go_upto_region 12 with fail
          rw [← HWW.out]
          go_wp2
          go_roundw
          case rel => exact ⟨bi, f', t + 1, swapL l k bi, by go_num, by go_num, by omega, by omega, by rw [length_swapL]; exact HL.out, hf', HE.out, SW.out, B3.out, by rw [hs3]; omega⟩
          case measure => simp [intOf]; omega
theorem l3Down_any (lo hi : Nat) (v : Value) (xs : List WkEl) (k0 : Nat) (w : World) (ho : WkOwn lo hi w v xs) (hk : k0 < xs.length) (hx : xs.length ≤ 1048576) (hlo : lo ≤ w.heap.size) :
    Calls Try.prog 85 #[v, .int .i64 k0] w fun e w' => e = .returned (.int .i64 (downL xs.length xs k0 0).2) ∧ WkOwn lo hi w' v (downL xs.length xs k0 0).1 ∧ Below lo w w' :=
  (l3Down_but lo hi v xs k0 w ho hk hx hlo).mono fun _ _ ⟨a, b, c⟩ => ⟨a, b, c.to hlo fun k hk h => by omega⟩
end Go.Proofs.Ytndbdioignmaeaa
