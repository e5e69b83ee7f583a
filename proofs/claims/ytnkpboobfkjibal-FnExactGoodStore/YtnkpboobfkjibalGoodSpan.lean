/-
  impl.goodSpan: whether a span is as the document says; nothing old is written.
  impl.GoodSpans: whether spans are as the document says; nothing old is written.
-/
import Derived.Test.YtnkpboobfkjibalSpans
import Derived.Test.YtnkpboobfkjibalSpanOk
import Derived.Deep.RegionHeld3
namespace Go.Proofs.Ytnkpboobfkjibal
open Go.RowKit
set_option maxRecDepth 100000

theorem goodSpan_yes (p q : Int) (w : World) (h : spB (p, q) = true) : Calls Try.prog 47 #[.agg #[.int .i64 p, .int .i64 q]] w fun e w' => e = .returned (.bool true) ∧ Below w.heap.size w w' := by
  rw [spB_iff] at h
  simp only at h
  obtain ⟨h1, h2, h3⟩ := h
  go_enter Try.func47, Try.ntmps47
  go_wp2
  go_ret
  refine ⟨rfl, ?_⟩
  go_grown
theorem goodSpan_no (p q : Int) (w : World) (h : spB (p, q) = false) : Calls Try.prog 47 #[.agg #[.int .i64 p, .int .i64 q]] w fun e w' => e = .returned (.bool false) ∧ Below w.heap.size w w' := by
  have h' : ¬ (0 ≤ p ∧ p < q ∧ q ≤ 1000000) := fun hh => by rw [(spB_iff (p, q)).2 hh] at h; cases h
  clear h
  by_cases h1 : 0 ≤ p
  · by_cases h2 : p < q
    · have h3 : ¬ q ≤ 1000000 := by omega
      clear h'
      go_enter Try.func47, Try.ntmps47
      go_wp2
      go_ret
      refine ⟨rfl, ?_⟩
      go_grown
    · clear h'
      go_enter Try.func47, Try.ntmps47
      go_wp2
      go_ret
      refine ⟨rfl, ?_⟩
      go_grown
  · clear h'
    go_enter Try.func47, Try.ntmps47
    go_wp2
    go_ret
    refine ⟨rfl, ?_⟩
    go_grown

end Go.Proofs.Ytnkpboobfkjibal
namespace Go.Proofs.Ytnkpboobfkjibal
open Go.RowKit
set_option maxRecDepth 100000

set_option maxHeartbeats 800000 in
set_option linter.unusedSimpArgs false in
theorem igood_any (v : Value) (xs : List Sp) (w : World) (hr : SReads w v xs) :
    Calls Try.prog 41 #[v] w fun e w' => e = .returned (.bool (goodL xs)) ∧ Below w.heap.size w w' := by
  obtain ⟨a, cap, rfl, hl, hx⟩ := hr
  have HC := hid hx
  clear hx
  by_cases h20 : xs.length ≤ 20
  rotate_left
  · have hno : Hid (goodL xs = false) := by
      show _ = _
      unfold goodL
      simp [h20]
    go_enter Try.func41, Try.ntmps41
    go_wp2
    go_ret
    exact ⟨by rw [hno.out]; rfl, Below.refl _ _⟩
  go_enter Try.func41, Try.ntmps41
  go_wp2
  go_loopw [10] (fun i wr => ∃ k : Nat, k ≤ xs.length ∧ i = .int .i64 k ∧ (∀ j, j < k → okAt xs j) ∧ Below w.heap.size w wr) (fun i _ => xs.length - (intOf i).toNat)
  case atStart => exact ⟨0, Nat.zero_le _, rfl, fun j hj => absurd hj (Nat.not_lt_zero j), Below.refl _ _⟩
  case round =>
    obtain ⟨k, hk, rfl, hso, hal⟩ := hrel
    have HS := hid hso
    clear hso
    by_cases hlt : k < xs.length
    · obtain ⟨ga, oa, rfl, hca⟩ : ∃ b off, a = some ⟨b, off, none⟩ ∧ ∀ i, i < xs.length → w.cell? ⟨b, off + i * 2, none⟩ = some (.int .i64 (xs.getD i (0, 0)).1) ∧ w.cell? ⟨b, off + i * 2 + 1, none⟩ = some (.int .i64 (xs.getD i (0, 0)).2) := by
        rcases HC.out with h | h
        · subst h; simp at hlt
        · exact h
      have h1 := (hal.cell (p := ⟨ga, oa + k * 2, none⟩) (lt_of_cell (hca k hlt).1)).trans (hca k hlt).1
      have h2 := (hal.cell (p := ⟨ga, oa + k * 2 + 1, none⟩) (lt_of_cell (hca k hlt).2)).trans (hca k hlt).2
      have hga : ga < wr.heap.size := lt_of_cell h1
      have HL := hid hal
      obtain ⟨x, hx0⟩ : ∃ x, x = xs.getD k (0, 0) := ⟨_, rfl⟩
      rw [← hx0] at h1 h2
      cases hb : spB x with
      | false =>
        have hno : Hid (goodL xs = false) := by
          show _ = _
          cases hg : goodL xs with
          | false => rfl
          | true =>
            unfold goodL at hg
            rw [Bool.and_eq_true, chain_ok] at hg
            have := (hg.1 k hlt).1
            rw [← hx0, hb] at this
            cases this
        clear hca hal hx0
        go_wp2_with fail
        refine wp_region_any (by kernel_rfl) ?_
        change wpAny _ _ _ _ _ _ _ (World.drew _)
        refine wpAny_ready (rs := [0]) (by kernel_rfl) (by simp) ?_
        refine AllReady.cons rfl (fun K hK => ?_) AllReady.nil
        go_simp
        refine hK _ _ ?_
        clear hK K
        refine wpAny_ready (rs := [1]) (by kernel_rfl) (by simp) ?_
        refine AllReady.cons rfl (fun K hK => ?_) AllReady.nil
        go_simp
        go_wp2_with (go_at_call 47; refine (goodSpan_no _ _ _ hb).mono ?_; rintro e w' ⟨rfl, hb2⟩)
        refine wpAny_ready (rs := [2]) (by kernel_rfl) (by simp) ?_
        refine AllReady.cons rfl (fun K hK => ?_) AllReady.nil
        go_simp
        refine hK _ _ ?_
        clear hK K
        refine wpAny_ready (rs := [3]) (by kernel_rfl) (by simp) ?_
        refine AllReady.cons rfl (fun K hK => ?_) AllReady.nil
        go_simp
        refine hK _ _ ?_
        clear hK K
        refine wpAny_take (i := 4) (v := undef) rfl (by kernel_rfl) (by kernel_rfl) (by kernel_rfl) (fun _ _ _ h => h) (Or.inr ⟨by kernel_rfl, rfl⟩) ?_
        try simp only [Act.put]
        try simp only [List.setIfInBounds_toArray]
        try simp only [List.set_cons_succ]
        try simp only [List.set_cons_zero]
        refine wpAny_take (i := 5) (v := undef) rfl (by kernel_rfl) (by kernel_rfl) (by kernel_rfl) (fun _ _ _ h => h) (Or.inr ⟨by kernel_rfl, rfl⟩) ?_
        try simp only [Act.put]
        try simp only [List.setIfInBounds_toArray]
        try simp only [List.set_cons_succ]
        try simp only [List.set_cons_zero]
        refine wpAny_take (i := 6) (v := undef) rfl (by kernel_rfl) (by kernel_rfl) (by kernel_rfl) (fun _ _ _ h => h) (Or.inr ⟨by kernel_rfl, rfl⟩) ?_
        try simp only [Act.put]
        try simp only [List.setIfInBounds_toArray]
        try simp only [List.set_cons_succ]
        try simp only [List.set_cons_zero]
        refine wpAny_take (i := 7) (v := undef) rfl (by kernel_rfl) (by kernel_rfl) (by kernel_rfl) (fun _ _ _ h => h) (Or.inr ⟨by kernel_rfl, rfl⟩) ?_
        try simp only [Act.put]
        try simp only [List.setIfInBounds_toArray]
        try simp only [List.set_cons_succ]
        try simp only [List.set_cons_zero]
        refine wpAny_take (i := 8) (v := undef) rfl (by kernel_rfl) (by kernel_rfl) (by kernel_rfl) (fun _ _ _ h => h) (Or.inr ⟨by kernel_rfl, rfl⟩) ?_
        try simp only [Act.put]
        try simp only [List.setIfInBounds_toArray]
        try simp only [List.set_cons_succ]
        try simp only [List.set_cons_zero]
        refine wpAny_take (i := 9) (v := undef) rfl (by kernel_rfl) (by kernel_rfl) (by kernel_rfl) (fun _ _ _ h => h) (Or.inr ⟨by kernel_rfl, rfl⟩) ?_
        try simp only [Act.put]
        try simp only [List.setIfInBounds_toArray]
        try simp only [List.set_cons_succ]
        try simp only [List.set_cons_zero]
        refine wpAny_take (i := 10) (v := undef) rfl (by kernel_rfl) (by kernel_rfl) (by kernel_rfl) (fun _ _ _ h => h) (Or.inr ⟨by kernel_rfl, rfl⟩) ?_
        try simp only [Act.put]
        try simp only [List.setIfInBounds_toArray]
        try simp only [List.set_cons_succ]
        try simp only [List.set_cons_zero]
        refine wpAny_take (i := 11) (v := undef) rfl (by kernel_rfl) (by kernel_rfl) (by kernel_rfl) (fun _ _ _ h => h) (Or.inr ⟨by kernel_rfl, rfl⟩) ?_
        try simp only [Act.put]
        try simp only [List.setIfInBounds_toArray]
        try simp only [List.set_cons_succ]
        try simp only [List.set_cons_zero]
        refine wpAny_take (i := 12) (v := undef) rfl (by kernel_rfl) (by kernel_rfl) (by kernel_rfl) (fun _ _ _ h => h) (Or.inr ⟨by kernel_rfl, rfl⟩) ?_
        try simp only [Act.put]
        try simp only [List.setIfInBounds_toArray]
        try simp only [List.set_cons_succ]
        try simp only [List.set_cons_zero]
        refine wpAny_take (i := 13) (v := undef) rfl (by kernel_rfl) (by kernel_rfl) (by kernel_rfl) (fun _ _ _ h => h) (Or.inr ⟨by kernel_rfl, rfl⟩) ?_
        try simp only [Act.put]
        try simp only [List.setIfInBounds_toArray]
        try simp only [List.set_cons_succ]
        try simp only [List.set_cons_zero]
        refine wpAny_take (i := 14) (v := undef) rfl (by kernel_rfl) (by kernel_rfl) (by kernel_rfl) (fun _ _ _ h => h) (Or.inr ⟨by kernel_rfl, rfl⟩) ?_
        try simp only [Act.put]
        try simp only [List.setIfInBounds_toArray]
        try simp only [List.set_cons_succ]
        try simp only [List.set_cons_zero]
        refine wpAny_take (i := 15) (v := undef) rfl (by kernel_rfl) (by kernel_rfl) (by kernel_rfl) (fun _ _ _ h => h) (Or.inr ⟨by kernel_rfl, rfl⟩) ?_
        try simp only [Act.put]
        try simp only [List.setIfInBounds_toArray]
        try simp only [List.set_cons_succ]
        try simp only [List.set_cons_zero]
        refine wpAny_take (i := 16) (v := undef) rfl (by kernel_rfl) (by kernel_rfl) (by kernel_rfl) (fun _ _ _ h => h) (Or.inr ⟨by kernel_rfl, rfl⟩) ?_
        try simp only [Act.put]
        try simp only [List.setIfInBounds_toArray]
        try simp only [List.set_cons_succ]
        try simp only [List.set_cons_zero]
        refine wpAny_ready (rs := [17]) (by kernel_rfl) (by simp) ?_
        refine AllReady.cons rfl (fun K hK => ?_) AllReady.nil
        go_simp
        refine hK _ _ ?_
        clear hK K
        refine wpAny_done (by kernel_rfl) ?_ _
        go_wp2
        go_ret
        refine ⟨by rw [hno.out]; rfl, ?_⟩
        exact ((HL.out.alloc HL.out.size _).drew).trans (hb2.mono (by have := HL.out.size; simp; omega))
      | true =>
        rcases k with _ | k
        · have hst : Hid (∀ j, j < 0 + 1 → okAt xs j) := fun j hj => by
            obtain rfl : j = 0 := by omega
            exact ⟨by rw [← hx0]; exact hb, by simp⟩
          clear hca hal hx0
          simp only [Nat.zero_mul, Nat.add_zero] at h1 h2
          go_wp2_with fail
          refine wp_region_any (by kernel_rfl) ?_
          change wpAny _ _ _ _ _ _ _ (World.drew _)
          refine wpAny_ready (rs := [0]) (by kernel_rfl) (by simp) ?_
          refine AllReady.cons rfl (fun K hK => ?_) AllReady.nil
          go_simp
          refine hK _ _ ?_
          clear hK K
          refine wpAny_ready (rs := [1]) (by kernel_rfl) (by simp) ?_
          refine AllReady.cons rfl (fun K hK => ?_) AllReady.nil
          go_simp
          go_wp2_with (go_at_call 47; refine (goodSpan_yes _ _ _ hb).mono ?_; rintro e w' ⟨rfl, hb2⟩)
          refine wpAny_ready (rs := [2]) (by kernel_rfl) (by simp) ?_
          refine AllReady.cons rfl (fun K hK => ?_) AllReady.nil
          go_simp
          refine hK _ _ ?_
          clear hK K
          refine wpAny_ready (rs := [3]) (by kernel_rfl) (by simp) ?_
          refine AllReady.cons rfl (fun K hK => ?_) AllReady.nil
          go_simp
          refine hK _ _ ?_
          clear hK K
          refine wpAny_ready (rs := [4]) (by kernel_rfl) (by simp) ?_
          refine AllReady.cons rfl (fun K hK => ?_) AllReady.nil
          go_simp
          refine hK _ _ ?_
          clear hK K
          refine wpAny_ready (rs := [5]) (by kernel_rfl) (by simp) ?_
          refine AllReady.cons rfl (fun K hK => ?_) AllReady.nil
          go_simp
          refine hK _ _ ?_
          clear hK K
          refine wpAny_ready (rs := [6]) (by kernel_rfl) (by simp) ?_
          refine AllReady.cons rfl (fun K hK => ?_) AllReady.nil
          go_simp
          refine hK _ _ ?_
          clear hK K
          refine wpAny_take (i := 7) (v := undef) rfl (by kernel_rfl) (by kernel_rfl) (by kernel_rfl) (fun _ _ _ h => h) (Or.inr ⟨by kernel_rfl, rfl⟩) ?_
          try simp only [Act.put]
          try simp only [List.setIfInBounds_toArray]
          try simp only [List.set_cons_succ]
          try simp only [List.set_cons_zero]
          refine wpAny_take (i := 8) (v := undef) rfl (by kernel_rfl) (by kernel_rfl) (by kernel_rfl) (fun _ _ _ h => h) (Or.inr ⟨by kernel_rfl, rfl⟩) ?_
          try simp only [Act.put]
          try simp only [List.setIfInBounds_toArray]
          try simp only [List.set_cons_succ]
          try simp only [List.set_cons_zero]
          refine wpAny_take (i := 9) (v := undef) rfl (by kernel_rfl) (by kernel_rfl) (by kernel_rfl) (fun _ _ _ h => h) (Or.inr ⟨by kernel_rfl, rfl⟩) ?_
          try simp only [Act.put]
          try simp only [List.setIfInBounds_toArray]
          try simp only [List.set_cons_succ]
          try simp only [List.set_cons_zero]
          refine wpAny_take (i := 10) (v := undef) rfl (by kernel_rfl) (by kernel_rfl) (by kernel_rfl) (fun _ _ _ h => h) (Or.inr ⟨by kernel_rfl, rfl⟩) ?_
          try simp only [Act.put]
          try simp only [List.setIfInBounds_toArray]
          try simp only [List.set_cons_succ]
          try simp only [List.set_cons_zero]
          refine wpAny_take (i := 11) (v := undef) rfl (by kernel_rfl) (by kernel_rfl) (by kernel_rfl) (fun _ _ _ h => h) (Or.inr ⟨by kernel_rfl, rfl⟩) ?_
          try simp only [Act.put]
          try simp only [List.setIfInBounds_toArray]
          try simp only [List.set_cons_succ]
          try simp only [List.set_cons_zero]
          refine wpAny_take (i := 12) (v := undef) rfl (by kernel_rfl) (by kernel_rfl) (by kernel_rfl) (fun _ _ _ h => h) (Or.inr ⟨by kernel_rfl, rfl⟩) ?_
          try simp only [Act.put]
          try simp only [List.setIfInBounds_toArray]
          try simp only [List.set_cons_succ]
          try simp only [List.set_cons_zero]
          refine wpAny_take (i := 13) (v := undef) rfl (by kernel_rfl) (by kernel_rfl) (by kernel_rfl) (fun _ _ _ h => h) (Or.inr ⟨by kernel_rfl, rfl⟩) ?_
          try simp only [Act.put]
          try simp only [List.setIfInBounds_toArray]
          try simp only [List.set_cons_succ]
          try simp only [List.set_cons_zero]
          refine wpAny_take (i := 14) (v := undef) rfl (by kernel_rfl) (by kernel_rfl) (by kernel_rfl) (fun _ _ _ h => h) (Or.inr ⟨by kernel_rfl, rfl⟩) ?_
          try simp only [Act.put]
          try simp only [List.setIfInBounds_toArray]
          try simp only [List.set_cons_succ]
          try simp only [List.set_cons_zero]
          refine wpAny_take (i := 15) (v := undef) rfl (by kernel_rfl) (by kernel_rfl) (by kernel_rfl) (fun _ _ _ h => h) (Or.inr ⟨by kernel_rfl, rfl⟩) ?_
          try simp only [Act.put]
          try simp only [List.setIfInBounds_toArray]
          try simp only [List.set_cons_succ]
          try simp only [List.set_cons_zero]
          refine wpAny_ready (rs := [16]) (by kernel_rfl) (by simp) ?_
          refine AllReady.cons rfl (fun K hK => ?_) AllReady.nil
          go_simp
          refine hK _ _ ?_
          clear hK K
          refine wpAny_ready (rs := [17]) (by kernel_rfl) (by simp) ?_
          refine AllReady.cons rfl (fun K hK => ?_) AllReady.nil
          go_simp
          refine hK _ _ ?_
          clear hK K
          refine wpAny_done (by kernel_rfl) ?_ _
          go_wp2
          go_roundw
          case rel => exact ⟨0 + 1, by omega, by go_num, hst.out, ((HL.out.alloc HL.out.size _).drew).trans (hb2.mono (by have := HL.out.size; simp; omega))⟩
          case measure => simp [intOf]; omega
        · obtain ⟨m, hm⟩ : ∃ m, m = k + 1 := ⟨_, rfl⟩
          have h3 := (hal.cell (p := ⟨ga, oa + k * 2 + 1, none⟩) (lt_of_cell (hca k (by omega)).2)).trans (hca k (by omega)).2
          obtain ⟨y, hy0⟩ : ∃ y, y = (xs.getD k (0, 0)).2 := ⟨_, rfl⟩
          rw [← hy0] at h3
          rw [← hm] at h1 h2 hk hlt hx0 ⊢
          have hw : IntKind.i64.wrap ((m : Int) - 1) = (k : Int) := by rw [IntKind.wrap_i64]; omega
          have hk0 : (0 : Int) ≤ (k : Int) := by omega
          have hk1 : (k : Int) < (xs.length : Int) := by omega
          have hm0 : decide (0 < m) = true := by simp; omega
          by_cases hyx : y < x.1
          · have hst : Hid (∀ j, j < m + 1 → okAt xs j) := fun j hj => by
              by_cases e : j = m
              · subst e
                exact ⟨by rw [← hx0]; exact hb, fun _ => by rw [← hx0, hm, Nat.add_sub_cancel, ← hy0]; exact hyx⟩
              · exact HS.out j (by omega)
            have hd2 : decide (x.1 ≤ y) = false := by simp; omega
            clear hca hal hx0 hy0 hm
            go_wp2_with fail
            go_region_held3 (fun w' => w'.cell? ⟨ga, oa + k * 2 + 1, none⟩ = some (.int .i64 y) ∧ w'.cell? ⟨wr.heap.size, 0, none⟩ = some (.int .i64 x.1) ∧ w'.cell? ⟨wr.heap.size, 1, none⟩ = some (.int .i64 x.2)) (go_keep)
              (first | (go_at_call 47; refine (goodSpan_yes _ _ _ hb).mono ?_; rintro e w' ⟨rfl, hb2⟩; have q1 : w'.cell? ⟨ga, oa + k * 2 + 1, none⟩ = some (.int .i64 y) := (hb2.cell (p := ⟨ga, oa + k * 2 + 1, none⟩) (by simp; omega)).trans (by simp [*]); have q2 : w'.cell? ⟨wr.heap.size, 0, none⟩ = some (.int .i64 x.1) := (hb2.cell (p := ⟨wr.heap.size, 0, none⟩) (by simp)).trans (by simp [*]); have q3 : w'.cell? ⟨wr.heap.size, 1, none⟩ = some (.int .i64 x.2) := (hb2.cell (p := ⟨wr.heap.size, 1, none⟩) (by simp)).trans (by simp [*])))
            go_wp2
            go_roundw
            case rel => exact ⟨m + 1, by omega, by go_num, hst.out, ((HL.out.alloc HL.out.size _).drew).trans (hb2.mono (by have := HL.out.size; simp; omega))⟩
            case measure => simp [intOf]; omega
          · have hno : Hid (goodL xs = false) := by
              show _ = _
              cases hg : goodL xs with
              | false => rfl
              | true =>
                unfold goodL at hg
                rw [Bool.and_eq_true, chain_ok] at hg
                have := (hg.1 m hlt).2 (by omega)
                rw [← hx0, hm, Nat.add_sub_cancel, ← hy0] at this
                omega
            have hd2 : decide (x.1 ≤ y) = true := by simp; omega
            clear hca hal hx0 hy0 hm
            go_wp2_with fail
            go_region_held3 (fun w' => w'.cell? ⟨ga, oa + k * 2 + 1, none⟩ = some (.int .i64 y) ∧ w'.cell? ⟨wr.heap.size, 0, none⟩ = some (.int .i64 x.1) ∧ w'.cell? ⟨wr.heap.size, 1, none⟩ = some (.int .i64 x.2)) (go_keep)
              (first | (go_at_call 47; refine (goodSpan_yes _ _ _ hb).mono ?_; rintro e w' ⟨rfl, hb2⟩; have q1 : w'.cell? ⟨ga, oa + k * 2 + 1, none⟩ = some (.int .i64 y) := (hb2.cell (p := ⟨ga, oa + k * 2 + 1, none⟩) (by simp; omega)).trans (by simp [*]); have q2 : w'.cell? ⟨wr.heap.size, 0, none⟩ = some (.int .i64 x.1) := (hb2.cell (p := ⟨wr.heap.size, 0, none⟩) (by simp)).trans (by simp [*]); have q3 : w'.cell? ⟨wr.heap.size, 1, none⟩ = some (.int .i64 x.2) := (hb2.cell (p := ⟨wr.heap.size, 1, none⟩) (by simp)).trans (by simp [*])))
            go_wp2
            go_ret
            refine ⟨by rw [hno.out]; rfl, ?_⟩
            exact ((HL.out.alloc HL.out.size _).drew).trans (hb2.mono (by have := HL.out.size; simp; omega))
    · have hgo : Hid (goodL xs = decide (xs.length ≤ 20)) := by
        show _ = _
        unfold goodL
        rw [(chain_ok xs).2 (fun i hi => HS.out i (by omega)), Bool.true_and]
      go_wp2
      go_ret
      exact ⟨by rw [hgo.out]; simp [h20], hal⟩
end Go.Proofs.Ytnkpboobfkjibal
