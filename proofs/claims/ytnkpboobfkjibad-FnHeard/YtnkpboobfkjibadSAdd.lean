/-
  spec.l2Add: a span put into others, in memory of its own. Nothing old is written.
-/
import Derived.Test.YtnkpboobfkjibadRows2
import Derived.Test.YtnkpboobfkjibadDraw
import Derived.Test.YtnkpboobfkjibadSpans
import Derived.Deep.RegionHeld3
import Derived.Deep.DrawnRows
namespace Go.Proofs.Ytnkpboobfkjibad
open Go.RowKit
set_option maxRecDepth 100000

theorem addL_take (xs : List Sp) (x : Sp) (k : Nat) (hk : k < xs.length) (h : (xs.getD k (0, 0)).2 < x.1) : addL (xs.drop k) x = xs.getD k (0, 0) :: addL (xs.drop (k + 1)) x := by
  rw [List.drop_eq_getElem_cons hk]
  simp only [List.getD_eq_getElem?_getD, List.getElem?_eq_getElem hk, Option.getD_some] at h ⊢
  simp only [addL, if_pos h]
theorem take_snoc (xs : List Sp) (k : Nat) (hk : k < xs.length) : xs.take (k + 1) = xs.take k ++ [xs.getD k (0, 0)] := by
  rw [List.take_succ_eq_append_getElem hk]
  simp [List.getD_eq_getElem?_getD, hk]

/-- The one end of a region: all went well, this state, this world. -/
def onlyNormal (A : Act) (W : World) : Exit → Act → World → Prop
  | .normal, a, w => a = A ∧ w = W
  | _, _, _ => False
theorem onlyNormal_out {A : Act} {W : World} {e : Exit} {a : Act} {w : World} (h : onlyNormal A W e a w) : e = .normal ∧ a = A ∧ w = W := by
  cases e <;> first | exact ⟨rfl, h⟩ | exact h.elim
theorem owns_below {w w' : World} {base : Nat} {t : TypeId} {size n : Nat} {v : Value} {cs : List Value} (h : w.ownsRow base t size v n cs) (hb : ∀ g, base ≤ g → w'.heap[g]? = w.heap[g]? ∨ w.heap[g]? = none) : w'.ownsRow base t size v n cs := by
  obtain ⟨h1, h2⟩ := h
  refine ⟨h1, ?_⟩
  rcases h2 with h | ⟨g, cap, cur, hv, hg, hh, h⟩
  · exact .inl h
  · refine .inr ⟨g, cap, cur, hv, hg, ?_, h⟩
    rcases hb g hg with e | e
    · rw [e]; exact hh
    · rw [e] at hh; cases hh
theorem addL_addM (xs : List Sp) (x : Sp) (k : Nat) (h : k < xs.length → ¬ (xs.getD k (0, 0)).2 < x.1) : addL (xs.drop k) x = addM (xs.drop k) x := by
  by_cases hk : k < xs.length
  · have := h hk
    rw [List.drop_eq_getElem_cons hk]
    simp only [List.getD_eq_getElem?_getD, List.getElem?_eq_getElem hk, Option.getD_some] at this
    simp only [addL, if_neg this]
  · rw [List.drop_of_length_le (by omega)]
    rfl
theorem addM_take (xs : List Sp) (x : Sp) (k : Nat) (hk : k < xs.length) (h : (xs.getD k (0, 0)).1 ≤ x.2) : addM (xs.drop k) x = addM (xs.drop (k + 1)) (min x.1 (xs.getD k (0, 0)).1, max x.2 (xs.getD k (0, 0)).2) := by
  rw [List.drop_eq_getElem_cons hk]
  simp only [List.getD_eq_getElem?_getD, List.getElem?_eq_getElem hk, Option.getD_some] at h ⊢
  simp only [addM, if_pos h]
theorem addM_stop (xs : List Sp) (x : Sp) (k : Nat) (h : k < xs.length → ¬ (xs.getD k (0, 0)).1 ≤ x.2) : addM (xs.drop k) x = x :: xs.drop k := by
  by_cases hk : k < xs.length
  · have := h hk
    rw [List.drop_eq_getElem_cons hk]
    simp only [List.getD_eq_getElem?_getD, List.getElem?_eq_getElem hk, Option.getD_some] at this
    simp only [addM, if_neg this]
  · rw [List.drop_of_length_le (by omega)]
    rfl

attribute [local go_sem ↓] Go.wp_at_zero Go.wp_at_succ
set_option linter.unusedSimpArgs false in
set_option maxHeartbeats 40000000 in
theorem sadd_any (v : Value) (xs : List Sp) (p q : Int) (w : World) (hr : SReads w v xs) (hx : xs.length ≤ 1048576) :
    Calls Try.prog 140 #[v, .agg #[.int .i64 p, .int .i64 q]] w fun e w' => ∃ v', e = .returned v' ∧ SOwn w.heap.size w' v' (addL xs (p, q)) ∧ Below w.heap.size w w' := by
  obtain ⟨i0, hi, hz0, hz1, hz2⟩ := info_parts info_span
  obtain ⟨a, cap, rfl, hl, hxa⟩ := hr
  have HC := hid hxa
  clear hxa
  go_enter Try.func140, Try.ntmps140
  go_wp2
  go_loopw [5, 6] (fun o i wr => ∃ k : Nat, k ≤ xs.length ∧ i = .int .i64 k ∧ addL xs (p, q) = xs.take k ++ addL (xs.drop k) (p, q) ∧ wr.ownsRow (w.heap.size + 1) 133 2 o k (flat (xs.take k)) ∧ XBox wr w.heap.size p q ∧ w.heap.size + 1 ≤ wr.heap.size ∧ Below w.heap.size w wr) (fun _ i _ => xs.length - (intOf i).toNat)
  case atStart =>
    refine ⟨0, Nat.zero_le _, rfl, by simp, ⟨rfl, .inl ⟨rfl, rfl⟩⟩, ⟨⟨by simp, by simp⟩, by simp, by simp⟩, by simp, ?_⟩
    go_grown
  case round =>
    obtain ⟨k, hk, rfl, hadd, hown, hbox, hsz, hbel⟩ := hrel
    have HX := hid hbox
    have c0 := hbox.1.1
    clear hbox
    have HA := hid hadd
    have HO := hid hown
    have HB := hid hbel
    have hk0 : (0 : Int) ≤ (k : Int) := by omega
    clear hadd hown hbel
    by_cases hlt : k < xs.length
    · obtain ⟨ga, oa, rfl, hca⟩ : ∃ b off, a = some ⟨b, off, none⟩ ∧ ∀ i, i < xs.length → w.cell? ⟨b, off + i * 2, none⟩ = some (.int .i64 (xs.getD i (0, 0)).1) ∧ w.cell? ⟨b, off + i * 2 + 1, none⟩ = some (.int .i64 (xs.getD i (0, 0)).2) := by
        rcases HC.out with h | h
        · subst h; simp at hlt
        · exact h
      have h1 := (HB.out.cell (p := ⟨ga, oa + k * 2, none⟩) (lt_of_cell (hca k hlt).1)).trans (hca k hlt).1
      have h2 := (HB.out.cell (p := ⟨ga, oa + k * 2 + 1, none⟩) (lt_of_cell (hca k hlt).2)).trans (hca k hlt).2
      have hga : ga < w.heap.size := lt_of_cell (hca k hlt).1
      obtain ⟨y, hy⟩ : ∃ y, y = xs.getD k (0, 0) := ⟨_, rfl⟩
      rw [← hy] at h1 h2
      have HY := hid hy
      have HCA := hid hca
      clear hy hca
      have hk1 : (k : Int) < (xs.length : Int) := by omega
      by_cases hc : y.2 < p
      · have hst : Hid (addL xs (p, q) = xs.take (k + 1) ++ addL (xs.drop (k + 1)) (p, q)) := by
          show _ = _
          rw [HA.out, addL_take xs (p, q) k hlt (by rw [← HY.out]; exact hc), take_snoc xs k hlt]
          simp
        go_wp2_with fail
        go_region_held3 (fun w' => w'.cell? ⟨ga, oa + k * 2 + 1, none⟩ = some (.int .i64 y.2) ∧ w'.cell? ⟨w.heap.size, 0, none⟩ = some (.int .i64 p)) (go_keep) (fail)
        go_wp2_with (at_builtin; refine wpList_append_own _ rfl _ _ 47 rfl (w.heap.size + 1) 133 i0 (.agg #[.int .i64 0, .int .i64 0]) 2 16 Try.underlying47 hi hz0 hz1 hz2 rfl (by decide) _ _ _ rfl (HO.out.drew.alloc _) ⟨wr.heap.size, 0, none⟩ 1 1 (flat [y]) rfl rfl ?c1 (flat_one _) ?c3 ?c4 ?c5 ?_)
        case c1 => exact fun j u h => pair_new wr y _ j u h
        case c3 => unfold maxLen; omega
        case c4 => omega
        case c5 => simp; omega
        intro v' w1 hown1 hgr1 _
        have L1 : Hid (Below (w.heap.size + 1) wr w1) := ((Below.refl (w.heap.size + 1) wr).alloc hsz _).drew.grown hgr1 (by simp; omega) (owns_block HO.out)
        have B1 : Hid (Below w.heap.size w w1) := HB.out.trans (L1.out.mono (by omega))
        have X1 := hid (HX.out.below L1.out)
        have O1 := hid hown1
        clear hown1 hgr1
        go_wp2
        go_roundw
        case rel =>
          refine ⟨k + 1, by omega, by go_num, hst.out, ?_, X1.out, by have := L1.out.size; omega, B1.out⟩
          rw [take_snoc xs k hlt, flat_append, ← HY.out]
          exact O1.out
        case measure => simp [intOf]; omega
      · have HM : Hid (addL xs (p, q) = xs.take k ++ addM (xs.drop k) (p, q)) := by
          show _ = _
          rw [HA.out, addL_addM xs (p, q) k (fun _ => by rw [← HY.out]; exact hc)]
        have hd : decide (y.2 < p) = false := by simp; omega
        go_wp2_with fail
        go_region_held3 (fun w' => w'.cell? ⟨ga, oa + k * 2 + 1, none⟩ = some (.int .i64 y.2) ∧ w'.cell? ⟨w.heap.size, 0, none⟩ = some (.int .i64 p)) (go_keep) (fail)
        go_wp2
        go_loopw [6] (fun i wz => ∃ (k2 : Nat) (p' q' : Int), k ≤ k2 ∧ k2 ≤ xs.length ∧ i = .int .i64 k2 ∧ addL xs (p, q) = xs.take k ++ addM (xs.drop k2) (p', q') ∧ wz.ownsRow (w.heap.size + 1) 133 2 u5 k (flat (xs.take k)) ∧ XBox wz w.heap.size p' q' ∧ w.heap.size + 1 ≤ wz.heap.size ∧ Below w.heap.size w wz) (fun i _ => xs.length - (intOf i).toNat)
        case atStart => exact ⟨k, p, q, Nat.le_refl _, hk, rfl, HM.out, HO.out.drew, HX.out.below ((Below.refl _ _).drew), by simpa using hsz, HB.out.drew⟩
        case round =>
          obtain ⟨k2, p', q', hk2, hk3, rfl, hadd2, hown2, hbox2, hsz2, hbel2⟩ := hrel
          have HA2 := hid hadd2
          have HO2 := hid hown2
          have HB2 := hid hbel2
          have HX2 := hid hbox2
          have d0 := hbox2.1.1
          have d1 := hbox2.1.2
          have z0 := hbox2.2.1
          have z1 := hbox2.2.2
          have hk20 : (0 : Int) ≤ (k2 : Int) := by omega
          clear hadd2 hown2 hbel2 hbox2 HX HO HB HA HM c0
          by_cases hlt2 : k2 < xs.length
          · have h3 := (HB2.out.cell (p := ⟨ga, oa + k2 * 2, none⟩) (lt_of_cell (HCA.out k2 hlt2).1)).trans (HCA.out k2 hlt2).1
            have h4 := (HB2.out.cell (p := ⟨ga, oa + k2 * 2 + 1, none⟩) (lt_of_cell (HCA.out k2 hlt2).2)).trans (HCA.out k2 hlt2).2
            obtain ⟨y2, hy2⟩ : ∃ y2, y2 = xs.getD k2 (0, 0) := ⟨_, rfl⟩
            rw [← hy2] at h3 h4
            have HY2 := hid hy2
            have hk21 : (k2 : Int) < (xs.length : Int) := by omega
            clear hy2 h1 h2
            by_cases hc2 : y2.1 ≤ q'
            · have hst2 : Hid (addL xs (p, q) = xs.take k ++ addM (xs.drop (k2 + 1)) (min p' y2.1, max q' y2.2)) := by
                show _ = _
                rw [HA2.out, addM_take xs (p', q') k2 hlt2 (by rw [← HY2.out]; exact hc2), ← HY2.out]
              go_wp2_with fail
              go_region_held3 (fun w' => w'.cell? ⟨ga, oa + k2 * 2, none⟩ = some (.int .i64 y2.1) ∧ w'.cell? ⟨w.heap.size, 1, none⟩ = some (.int .i64 q')) (go_keep) (fail)
              go_wp2_with fail
              apply Code.wp_mono (Q := onlyNormal _ _)
              case h =>
                go_region_with (first | (go_at_call 163; refine (least_any _ _ _).mono ?_; rintro e w' ⟨rfl, rfl⟩) | (go_at_call 137; refine (most_any _ _ _).mono ?_; rintro e w' ⟨rfl, rfl⟩))
                all_goals exact ⟨rfl, rfl⟩
              case hq =>
                intro e a' w' h
                obtain ⟨rfl, rfl, rfl⟩ := onlyNormal_out h
                clear h
                go_wp2
                go_roundw
                case rel =>
                  refine ⟨k2 + 1, min p' y2.1, max q' y2.2, by omega, by omega, by go_num, hst2.out, owns_below HO2.out (fun g hg => .inl ?_), (HX2.out.set _ _).below ((Below.refl _ _).drew.drew), by simpa using hsz2, ((HB2.out.setCell (Nat.le_refl _) _).setCell (Nat.le_refl _) _).drew.drew⟩
                  show (World.heap (World.setCell _ _ _))[g]? = _
                  rw [heap_setCell_ne _ _ _ _ (by simp; omega), heap_setCell_ne _ _ _ _ (by simp; omega)]
                case measure => simp [intOf]; omega
            · have hAM : Hid (addL xs (p, q) = xs.take k ++ (p', q') :: xs.drop k2) := by
                show _ = _
                rw [HA2.out, addM_stop xs (p', q') k2 (fun _ => by rw [← HY2.out]; exact hc2)]
              have hd2 : decide (y2.1 ≤ q') = false := by simp; omega
              go_wp2_with fail
              go_region_held3 (fun w' => w'.cell? ⟨ga, oa + k2 * 2, none⟩ = some (.int .i64 y2.1) ∧ w'.cell? ⟨w.heap.size, 1, none⟩ = some (.int .i64 q')) (go_keep) (fail)
              go_wp2_with (at_builtin; refine wpList_append_own _ rfl _ _ 47 rfl (w.heap.size + 1) 133 i0 (.agg #[.int .i64 0, .int .i64 0]) 2 16 Try.underlying47 hi hz0 hz1 hz2 rfl (by decide) _ _ _ rfl (HO2.out.drew.alloc _) ⟨wr.heap.size, 0, none⟩ 1 1 (flat [(p', q')]) rfl rfl (fun j u h => pair_new wr (p', q') _ j u h) (flat_one _) (by unfold maxLen; omega) (by omega) ?c5 ?_)
              case c5 => simp; omega
              intro v3 w3 hown3 hgr3 _
              have L3 : Hid (Below (w.heap.size + 1) wr w3) := ((Below.refl (w.heap.size + 1) wr).alloc hsz2 _).drew.grown hgr3 (by simp; omega) (owns_block HO2.out)
              have B3 : Hid (Below w.heap.size w w3) := HB2.out.trans (L3.out.mono (by omega))
              have O3 : Hid (w3.ownsRow (w.heap.size + 1) 133 2 v3 (k + 1) (flat (xs.take k ++ [(p', q')]))) := by
                have := hown3
                rw [← flat_append] at this
                exact this
              obtain ⟨g3, cap3, rfl, hle3⟩ : ∃ g3 cap3, v3 = .slice (some ⟨g3, 0, none⟩) (k + 1) cap3 ∧ k + 1 ≤ cap3 := by
                rcases hown3.2 with ⟨_, h⟩ | ⟨g, cap, cur, rfl, _, _, hc, _⟩
                · omega
                · exact ⟨g, cap, rfl, hc⟩
              clear hown3 hgr3
              go_wp2_with (at_builtin; refine wpList_append_own _ rfl _ _ 47 rfl (w.heap.size + 1) 133 i0 (.agg #[.int .i64 0, .int .i64 0]) 2 16 Try.underlying47 hi hz0 hz1 hz2 rfl (by decide) _ _ _ rfl O3.out ⟨ga, oa + k2 * 2, none⟩ (xs.length - k2) (cap - k2) (flat (xs.drop k2)) rfl (by rw [length_flat]; simp) ?c1 (flat_one _) (by unfold maxLen; omega) (by omega) (by have := L3.out.size; omega) ?_)
              case c1 =>
                intro j u hj
                rw [flat_drop, List.getElem?_drop] at hj
                have := flat_cells HCA.out _ _ hj
                rw [add_lit'] at this ⊢
                rw [show oa + k2 * 2 + j = oa + (k2 * 2 + j) by omega]
                exact (B3.out.cell (p := ⟨ga, oa + (k2 * 2 + j), none⟩) (lt_of_cell this)).trans this
              intro v4 w4 hown4 hgr4 _
              have B4 : Hid (Below w.heap.size w w4) := B3.out.grown hgr4 B3.out.size (fun j hj => Nat.le_trans (by omega) (owns_block O3.out j hj))
              have O4 := hid hown4
              clear hown4 hgr4
              go_wp2
              go_ret
              refine ⟨_, rfl, ?_, B4.out⟩
              rw [hAM.out]
              refine SOwn.of_owns (n := k + 1 + (xs.length - k2)) (owns_mono (base := w.heap.size + 1) ?_ (by omega)) (by simp; omega)
              have := O4.out
              rw [← flat_append] at this
              rw [show xs.take k ++ (p', q') :: xs.drop k2 = xs.take k ++ [(p', q')] ++ xs.drop k2 by simp]
              exact this
          · obtain rfl : k2 = xs.length := by omega
            have hAM : Hid (addL xs (p, q) = xs.take k ++ (p', q') :: xs.drop xs.length) := by
              show _ = _
              rw [HA2.out, addM_stop xs (p', q') xs.length (fun h => absurd h (by omega))]
            go_wp2_with fail
            refine wp_region_any (by kernel_rfl) ?_
            change wpAny _ _ _ _ _ _ _ (World.drew _)
            refine wpAny_take (i := 0) (v := (.int .i64 xs.length)) rfl (by kernel_rfl) (by kernel_rfl) (by kernel_rfl) (fun _ _ _ h => h) (Or.inl ⟨by kernel_rfl, fun _ => by go_simp⟩) ?_
            try simp only [Act.put]
            try simp only [List.setIfInBounds_toArray]
            try simp only [List.set_cons_succ]
            try simp only [List.set_cons_zero]
            refine wpAny_ready (rs := [1]) (by kernel_rfl) (by simp) ?_
            refine AllReady.cons rfl (fun K hK => ?_) AllReady.nil
            go_simp
            refine hK _ _ ?_
            clear hK K
            refine wpAny_ready (rs := [2]) (by kernel_rfl) (by simp) ?_
            refine AllReady.cons rfl (fun K hK => ?_) AllReady.nil
            go_simp
            refine hK _ _ ?_
            clear hK K
            refine wpAny_ready (rs := [3]) (by kernel_rfl) (by simp) ?_
            refine AllReady.cons rfl (fun K hK => ?_) AllReady.nil
            go_simp
            refine hK _ _ ?_
            clear hK K
            refine wpAny_ready (rs := [4]) (by kernel_rfl) (by simp) ?_
            refine AllReady.cons rfl (fun K hK => ?_) AllReady.nil
            go_simp
            refine hK _ _ ?_
            clear hK K
            refine wpAny_take (i := 5) (v := undef) rfl (by kernel_rfl) (by kernel_rfl) (by kernel_rfl) (fun _ _ _ h => h) (Or.inr ⟨by kernel_rfl, rfl⟩) ?_
            try simp only [Act.put]
            try simp only [List.setIfInBounds_toArray]
            try simp only [List.set_cons_succ]
            try simp only [List.set_cons_zero]
            refine wpAny_take (i := 6) (v := undef) rfl (by kernel_rfl) (by kernel_rfl) (by kernel_rfl) (fun _ _ _ h => h) (Or.inr ⟨by kernel_rfl, rfl⟩) ?_
            try simp only [Act.put]
            try simp only [List.setIfInBounds_toArray]
            try simp only [List.set_cons_succ]
            try simp only [List.set_cons_zero]
            refine wpAny_take (i := 7) (v := undef) rfl (by kernel_rfl) (by kernel_rfl) (by kernel_rfl) (fun _ _ _ h => h) (Or.inr ⟨by kernel_rfl, rfl⟩) ?_
            try simp only [Act.put]
            try simp only [List.setIfInBounds_toArray]
            try simp only [List.set_cons_succ]
            try simp only [List.set_cons_zero]
            refine wpAny_take (i := 8) (v := undef) rfl (by kernel_rfl) (by kernel_rfl) (by kernel_rfl) (fun _ _ _ h => h) (Or.inr ⟨by kernel_rfl, rfl⟩) ?_
            try simp only [Act.put]
            try simp only [List.setIfInBounds_toArray]
            try simp only [List.set_cons_succ]
            try simp only [List.set_cons_zero]
            refine wpAny_take (i := 9) (v := undef) rfl (by kernel_rfl) (by kernel_rfl) (by kernel_rfl) (fun _ _ _ h => h) (Or.inr ⟨by kernel_rfl, rfl⟩) ?_
            try simp only [Act.put]
            try simp only [List.setIfInBounds_toArray]
            try simp only [List.set_cons_succ]
            try simp only [List.set_cons_zero]
            refine wpAny_take (i := 10) (v := undef) rfl (by kernel_rfl) (by kernel_rfl) (by kernel_rfl) (fun _ _ _ h => h) (Or.inr ⟨by kernel_rfl, rfl⟩) ?_
            try simp only [Act.put]
            try simp only [List.setIfInBounds_toArray]
            try simp only [List.set_cons_succ]
            try simp only [List.set_cons_zero]
            refine wpAny_take (i := 11) (v := undef) rfl (by kernel_rfl) (by kernel_rfl) (by kernel_rfl) (fun _ _ _ h => h) (Or.inr ⟨by kernel_rfl, rfl⟩) ?_
            try simp only [Act.put]
            try simp only [List.setIfInBounds_toArray]
            try simp only [List.set_cons_succ]
            try simp only [List.set_cons_zero]
            refine wpAny_take (i := 12) (v := undef) rfl (by kernel_rfl) (by kernel_rfl) (by kernel_rfl) (fun _ _ _ h => h) (Or.inr ⟨by kernel_rfl, rfl⟩) ?_
            try simp only [Act.put]
            try simp only [List.setIfInBounds_toArray]
            try simp only [List.set_cons_succ]
            try simp only [List.set_cons_zero]
            refine wpAny_ready (rs := [13]) (by kernel_rfl) (by simp) ?_
            refine AllReady.cons rfl (fun K hK => ?_) AllReady.nil
            go_simp
            refine hK _ _ ?_
            clear hK K
            refine wpAny_done (by kernel_rfl) ?_ _
            go_wp2_with (at_builtin; refine wpList_append_own _ rfl _ _ 47 rfl (w.heap.size + 1) 133 i0 (.agg #[.int .i64 0, .int .i64 0]) 2 16 Try.underlying47 hi hz0 hz1 hz2 rfl (by decide) _ _ _ rfl (HO2.out.drew.alloc _) ⟨wr.heap.size, 0, none⟩ 1 1 (flat [(p', q')]) rfl rfl (fun j u h => pair_new wr (p', q') _ j u h) (flat_one _) (by unfold maxLen; omega) (by omega) ?c5 ?_)
            case c5 => simp; omega
            intro v3 w3 hown3 hgr3 _
            have L3 : Hid (Below (w.heap.size + 1) wr w3) := ((Below.refl (w.heap.size + 1) wr).alloc hsz2 _).drew.grown hgr3 (by simp; omega) (owns_block HO2.out)
            have B3 : Hid (Below w.heap.size w w3) := HB2.out.trans (L3.out.mono (by omega))
            have O3 : Hid (w3.ownsRow (w.heap.size + 1) 133 2 v3 (k + 1) (flat (xs.take k ++ [(p', q')]))) := by
              have := hown3
              rw [← flat_append] at this
              exact this
            obtain ⟨g3, cap3, rfl, hle3⟩ : ∃ g3 cap3, v3 = .slice (some ⟨g3, 0, none⟩) (k + 1) cap3 ∧ k + 1 ≤ cap3 := by
              rcases hown3.2 with ⟨_, h⟩ | ⟨g, cap, cur, rfl, _, _, hc, _⟩
              · omega
              · exact ⟨g, cap, rfl, hc⟩
            clear hown3 hgr3
            go_wp2_with (first
              | (at_builtin; refine Lib.wpList_append_run_sl _ rfl _ _ 47 rfl _ _ rfl rfl (nothing_run hi hz1 _ _ _ _ hle3 _ _) ?_))
            all_goals
              go_ret
              refine ⟨_, rfl, ?_, B3.out⟩
              rw [hAM.out, List.drop_length]
              exact SOwn.of_owns (n := k + 1) (owns_mono O3.out (by omega)) (by simp; omega)
    · have HM : Hid (addL xs (p, q) = xs.take k ++ addM (xs.drop k) (p, q)) := by
        show _ = _
        rw [HA.out, addL_addM xs (p, q) k (fun h => absurd h hlt)]
      go_wp2_with fail
      refine wp_region_any (by kernel_rfl) ?_
      change wpAny _ _ _ _ _ _ _ (World.drew _)
      refine wpAny_take (i := 0) (v := (.int .i64 k)) rfl (by kernel_rfl) (by kernel_rfl) (by kernel_rfl) (fun _ _ _ h => h) (Or.inl ⟨by kernel_rfl, fun _ => by go_simp⟩) ?_
      try simp only [Act.put]
      try simp only [List.setIfInBounds_toArray]
      try simp only [List.set_cons_succ]
      try simp only [List.set_cons_zero]
      refine wpAny_ready (rs := [1]) (by kernel_rfl) (by simp) ?_
      refine AllReady.cons rfl (fun K hK => ?_) AllReady.nil
      go_simp
      refine hK _ _ ?_
      clear hK K
      refine wpAny_ready (rs := [2]) (by kernel_rfl) (by simp) ?_
      refine AllReady.cons rfl (fun K hK => ?_) AllReady.nil
      go_simp
      refine hK _ _ ?_
      clear hK K
      refine wpAny_ready (rs := [3]) (by kernel_rfl) (by simp) ?_
      refine AllReady.cons rfl (fun K hK => ?_) AllReady.nil
      go_simp
      refine hK _ _ ?_
      clear hK K
      refine wpAny_ready (rs := [4]) (by kernel_rfl) (by simp) ?_
      refine AllReady.cons rfl (fun K hK => ?_) AllReady.nil
      go_simp
      refine hK _ _ ?_
      clear hK K
      refine wpAny_take (i := 5) (v := undef) rfl (by kernel_rfl) (by kernel_rfl) (by kernel_rfl) (fun _ _ _ h => h) (Or.inr ⟨by kernel_rfl, rfl⟩) ?_
      try simp only [Act.put]
      try simp only [List.setIfInBounds_toArray]
      try simp only [List.set_cons_succ]
      try simp only [List.set_cons_zero]
      refine wpAny_take (i := 6) (v := undef) rfl (by kernel_rfl) (by kernel_rfl) (by kernel_rfl) (fun _ _ _ h => h) (Or.inr ⟨by kernel_rfl, rfl⟩) ?_
      try simp only [Act.put]
      try simp only [List.setIfInBounds_toArray]
      try simp only [List.set_cons_succ]
      try simp only [List.set_cons_zero]
      refine wpAny_take (i := 7) (v := undef) rfl (by kernel_rfl) (by kernel_rfl) (by kernel_rfl) (fun _ _ _ h => h) (Or.inr ⟨by kernel_rfl, rfl⟩) ?_
      try simp only [Act.put]
      try simp only [List.setIfInBounds_toArray]
      try simp only [List.set_cons_succ]
      try simp only [List.set_cons_zero]
      refine wpAny_take (i := 8) (v := undef) rfl (by kernel_rfl) (by kernel_rfl) (by kernel_rfl) (fun _ _ _ h => h) (Or.inr ⟨by kernel_rfl, rfl⟩) ?_
      try simp only [Act.put]
      try simp only [List.setIfInBounds_toArray]
      try simp only [List.set_cons_succ]
      try simp only [List.set_cons_zero]
      refine wpAny_take (i := 9) (v := undef) rfl (by kernel_rfl) (by kernel_rfl) (by kernel_rfl) (fun _ _ _ h => h) (Or.inr ⟨by kernel_rfl, rfl⟩) ?_
      try simp only [Act.put]
      try simp only [List.setIfInBounds_toArray]
      try simp only [List.set_cons_succ]
      try simp only [List.set_cons_zero]
      refine wpAny_take (i := 10) (v := undef) rfl (by kernel_rfl) (by kernel_rfl) (by kernel_rfl) (fun _ _ _ h => h) (Or.inr ⟨by kernel_rfl, rfl⟩) ?_
      try simp only [Act.put]
      try simp only [List.setIfInBounds_toArray]
      try simp only [List.set_cons_succ]
      try simp only [List.set_cons_zero]
      refine wpAny_take (i := 11) (v := undef) rfl (by kernel_rfl) (by kernel_rfl) (by kernel_rfl) (fun _ _ _ h => h) (Or.inr ⟨by kernel_rfl, rfl⟩) ?_
      try simp only [Act.put]
      try simp only [List.setIfInBounds_toArray]
      try simp only [List.set_cons_succ]
      try simp only [List.set_cons_zero]
      refine wpAny_take (i := 12) (v := undef) rfl (by kernel_rfl) (by kernel_rfl) (by kernel_rfl) (fun _ _ _ h => h) (Or.inr ⟨by kernel_rfl, rfl⟩) ?_
      try simp only [Act.put]
      try simp only [List.setIfInBounds_toArray]
      try simp only [List.set_cons_succ]
      try simp only [List.set_cons_zero]
      refine wpAny_ready (rs := [13]) (by kernel_rfl) (by simp) ?_
      refine AllReady.cons rfl (fun K hK => ?_) AllReady.nil
      go_simp
      refine hK _ _ ?_
      clear hK K
      refine wpAny_done (by kernel_rfl) ?_ _
      go_wp2
      go_loopw [6] (fun i wz => ∃ (k2 : Nat) (p' q' : Int), k ≤ k2 ∧ k2 ≤ xs.length ∧ i = .int .i64 k2 ∧ addL xs (p, q) = xs.take k ++ addM (xs.drop k2) (p', q') ∧ wz.ownsRow (w.heap.size + 1) 133 2 u5 k (flat (xs.take k)) ∧ XBox wz w.heap.size p' q' ∧ w.heap.size + 1 ≤ wz.heap.size ∧ Below w.heap.size w wz) (fun i _ => xs.length - (intOf i).toNat)
      case atStart => exact ⟨k, p, q, Nat.le_refl _, hk, rfl, HM.out, HO.out.drew, HX.out.below ((Below.refl _ _).drew), by simpa using hsz, HB.out.drew⟩
      case round =>
        obtain ⟨k2, p', q', hk2, hk3, rfl, hadd2, hown2, hbox2, hsz2, hbel2⟩ := hrel
        have HA2 := hid hadd2
        have HO2 := hid hown2
        have HB2 := hid hbel2
        have HX2 := hid hbox2
        have d0 := hbox2.1.1
        have d1 := hbox2.1.2
        have z0 := hbox2.2.1
        have z1 := hbox2.2.2
        have hk20 : (0 : Int) ≤ (k2 : Int) := by omega
        clear hadd2 hown2 hbel2 hbox2 HX HO HB HA HM c0
        obtain rfl : k2 = xs.length := by omega
        have hAM : Hid (addL xs (p, q) = xs.take k ++ (p', q') :: xs.drop xs.length) := by
          show _ = _
          rw [HA2.out, addM_stop xs (p', q') xs.length (fun h => absurd h (by omega))]
        go_wp2_with fail
        refine wp_region_any (by kernel_rfl) ?_
        change wpAny _ _ _ _ _ _ _ (World.drew _)
        refine wpAny_take (i := 0) (v := (.int .i64 xs.length)) rfl (by kernel_rfl) (by kernel_rfl) (by kernel_rfl) (fun _ _ _ h => h) (Or.inl ⟨by kernel_rfl, fun _ => by go_simp⟩) ?_
        try simp only [Act.put]
        try simp only [List.setIfInBounds_toArray]
        try simp only [List.set_cons_succ]
        try simp only [List.set_cons_zero]
        refine wpAny_ready (rs := [1]) (by kernel_rfl) (by simp) ?_
        refine AllReady.cons rfl (fun K hK => ?_) AllReady.nil
        go_simp
        refine hK _ _ ?_
        clear hK K
        refine wpAny_ready (rs := [2]) (by kernel_rfl) (by simp) ?_
        refine AllReady.cons rfl (fun K hK => ?_) AllReady.nil
        go_simp
        refine hK _ _ ?_
        clear hK K
        refine wpAny_ready (rs := [3]) (by kernel_rfl) (by simp) ?_
        refine AllReady.cons rfl (fun K hK => ?_) AllReady.nil
        go_simp
        refine hK _ _ ?_
        clear hK K
        refine wpAny_ready (rs := [4]) (by kernel_rfl) (by simp) ?_
        refine AllReady.cons rfl (fun K hK => ?_) AllReady.nil
        go_simp
        refine hK _ _ ?_
        clear hK K
        refine wpAny_take (i := 5) (v := undef) rfl (by kernel_rfl) (by kernel_rfl) (by kernel_rfl) (fun _ _ _ h => h) (Or.inr ⟨by kernel_rfl, rfl⟩) ?_
        try simp only [Act.put]
        try simp only [List.setIfInBounds_toArray]
        try simp only [List.set_cons_succ]
        try simp only [List.set_cons_zero]
        refine wpAny_take (i := 6) (v := undef) rfl (by kernel_rfl) (by kernel_rfl) (by kernel_rfl) (fun _ _ _ h => h) (Or.inr ⟨by kernel_rfl, rfl⟩) ?_
        try simp only [Act.put]
        try simp only [List.setIfInBounds_toArray]
        try simp only [List.set_cons_succ]
        try simp only [List.set_cons_zero]
        refine wpAny_take (i := 7) (v := undef) rfl (by kernel_rfl) (by kernel_rfl) (by kernel_rfl) (fun _ _ _ h => h) (Or.inr ⟨by kernel_rfl, rfl⟩) ?_
        try simp only [Act.put]
        try simp only [List.setIfInBounds_toArray]
        try simp only [List.set_cons_succ]
        try simp only [List.set_cons_zero]
        refine wpAny_take (i := 8) (v := undef) rfl (by kernel_rfl) (by kernel_rfl) (by kernel_rfl) (fun _ _ _ h => h) (Or.inr ⟨by kernel_rfl, rfl⟩) ?_
        try simp only [Act.put]
        try simp only [List.setIfInBounds_toArray]
        try simp only [List.set_cons_succ]
        try simp only [List.set_cons_zero]
        refine wpAny_take (i := 9) (v := undef) rfl (by kernel_rfl) (by kernel_rfl) (by kernel_rfl) (fun _ _ _ h => h) (Or.inr ⟨by kernel_rfl, rfl⟩) ?_
        try simp only [Act.put]
        try simp only [List.setIfInBounds_toArray]
        try simp only [List.set_cons_succ]
        try simp only [List.set_cons_zero]
        refine wpAny_take (i := 10) (v := undef) rfl (by kernel_rfl) (by kernel_rfl) (by kernel_rfl) (fun _ _ _ h => h) (Or.inr ⟨by kernel_rfl, rfl⟩) ?_
        try simp only [Act.put]
        try simp only [List.setIfInBounds_toArray]
        try simp only [List.set_cons_succ]
        try simp only [List.set_cons_zero]
        refine wpAny_take (i := 11) (v := undef) rfl (by kernel_rfl) (by kernel_rfl) (by kernel_rfl) (fun _ _ _ h => h) (Or.inr ⟨by kernel_rfl, rfl⟩) ?_
        try simp only [Act.put]
        try simp only [List.setIfInBounds_toArray]
        try simp only [List.set_cons_succ]
        try simp only [List.set_cons_zero]
        refine wpAny_take (i := 12) (v := undef) rfl (by kernel_rfl) (by kernel_rfl) (by kernel_rfl) (fun _ _ _ h => h) (Or.inr ⟨by kernel_rfl, rfl⟩) ?_
        try simp only [Act.put]
        try simp only [List.setIfInBounds_toArray]
        try simp only [List.set_cons_succ]
        try simp only [List.set_cons_zero]
        refine wpAny_ready (rs := [13]) (by kernel_rfl) (by simp) ?_
        refine AllReady.cons rfl (fun K hK => ?_) AllReady.nil
        go_simp
        refine hK _ _ ?_
        clear hK K
        refine wpAny_done (by kernel_rfl) ?_ _
        go_wp2_with (at_builtin; refine wpList_append_own _ rfl _ _ 47 rfl (w.heap.size + 1) 133 i0 (.agg #[.int .i64 0, .int .i64 0]) 2 16 Try.underlying47 hi hz0 hz1 hz2 rfl (by decide) _ _ _ rfl (HO2.out.drew.alloc _) ⟨wr.heap.size, 0, none⟩ 1 1 (flat [(p', q')]) rfl rfl (fun j u h => pair_new wr (p', q') _ j u h) (flat_one _) (by unfold maxLen; omega) (by omega) ?c5 ?_)
        case c5 => simp; omega
        intro v3 w3 hown3 hgr3 _
        have L3 : Hid (Below (w.heap.size + 1) wr w3) := ((Below.refl (w.heap.size + 1) wr).alloc hsz2 _).drew.grown hgr3 (by simp; omega) (owns_block HO2.out)
        have B3 : Hid (Below w.heap.size w w3) := HB2.out.trans (L3.out.mono (by omega))
        have O3 : Hid (w3.ownsRow (w.heap.size + 1) 133 2 v3 (k + 1) (flat (xs.take k ++ [(p', q')]))) := by
          have := hown3
          rw [← flat_append] at this
          exact this
        obtain ⟨g3, cap3, rfl, hle3⟩ : ∃ g3 cap3, v3 = .slice (some ⟨g3, 0, none⟩) (k + 1) cap3 ∧ k + 1 ≤ cap3 := by
          rcases hown3.2 with ⟨_, h⟩ | ⟨g, cap, cur, rfl, _, _, hc, _⟩
          · omega
          · exact ⟨g, cap, rfl, hc⟩
        clear hown3 hgr3
        cases a
        all_goals
          go_wp2_with (first
            | (at_builtin; refine Lib.wpList_append_run_sl _ rfl _ _ 47 rfl _ _ rfl rfl (nothing_run hi hz1 _ _ _ _ hle3 _ _) ?_))
          all_goals
            go_ret
            refine ⟨_, rfl, ?_, B3.out⟩
            rw [hAM.out, List.drop_length]
            exact SOwn.of_owns (n := k + 1) (owns_mono O3.out (by omega)) (by simp; omega)
end Go.Proofs.Ytnkpboobfkjibad
