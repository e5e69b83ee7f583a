/-
  spec.DrawWorstDelay: whatever flow and out it draws, each in memory of its own. Nothing old is written.
-/
import Derived.Test.YtcieefggijjekacDrawFlow
import Derived.Test.YtcieefggijjekacSPass
import Derived.Deep.RegionHeld3
import Derived.Deep.RegionWith
namespace Go.Proofs.Ytcieefggijjekac
open Go.RowKit

theorem spass_any (s : Int) (v : Value) (xs : List Int) (hl : xs.length ≤ 42) (w : World) (hr : KReads w v xs) :
    Calls Try.prog 27 #[v, .int .i64 s] w fun e w' => ∃ u0 u1 t, e = .returned (.tuple #[u0, u1, .bool t]) ∧ (∃ ys : List Int, ys.length ≤ 42 ∧ KOwn w.heap.size w'.heap.size w' u0 ys) ∧ (∃ zs : List Int, KOwn w.heap.size w'.heap.size w' u1 zs) ∧ Below w.heap.size w w' := by
  by_cases h : flowB xs = true ∧ (1 ≤ s ∧ s ≤ 60)
  · refine (spass_yes v xs s w hr h.1 h.2.1 h.2.2).mono ?_
    rintro e w' ⟨u0, u1, rfl, o0, o1, _, b⟩
    exact ⟨u0, u1, true, rfl, ⟨_, by rw [goL_len]; exact hl, o0⟩, ⟨_, o1⟩, b⟩
  · have hn : passB xs s = false := by
      unfold passB
      cases h1 : flowB xs
      · rfl
      · rw [Bool.true_and, decide_eq_false_iff_not]
        exact fun h2 => h ⟨h1, h2⟩
    refine (spass_no v xs s w hr hn).mono ?_
    rintro e w' ⟨u0, u1, rfl, o0, o1, _, b⟩
    exact ⟨u0, u1, false, rfl, ⟨[], by simp, o0⟩, ⟨_, o1⟩, b⟩
set_option maxRecDepth 100000 in
set_option maxHeartbeats 4000000 in
theorem drawWorst_any (v : Value) (w : World) (h : CodeOk w.heap.size w v) :
    Calls Try.prog 28 #[v] w fun e w' => ∃ u0 u1, e = .returned (.tuple #[u0, u1]) ∧ ∃ xs ys : List Int, (xs.length ≤ 42 ∧ ys.length ≤ 42) ∧ KOwn w.heap.size w'.heap.size w' u0 xs ∧ KOwn w.heap.size w'.heap.size w' u1 ys ∧ Below w.heap.size w w' := by
  have H := hid (cur_new w v h)
  obtain ⟨a, len, cap, rfl, hlen, hx⟩ := h
  clear hlen hx
  go_enter Try.func28, Try.ntmps28
  go_wp2_with fail
  refine (flow_any w.heap.size w.heap.size 0 _ H.out (by omega)).mono ?_
  rintro e w1 ⟨u1, rfl, xs, hx, o1, c1, g1⟩
  have O1 := hid (o1.mono (show w.heap.size + 1 ≤ _ by simp) (Nat.le_refl _)); have C1 := hid c1; have G1 := hid g1; have hs1 := g1.size
  rw [World.size_alloc] at hs1
  obtain ⟨ax, cx, e1, _, _⟩ := o1.reads
  subst e1
  clear o1 c1 g1 H
  go_wp2_with fail
  refine (pick_any w.heap.size w.heap.size _ 9 _ C1.out (by omega) (by omega)).mono ?_
  rintro e w2 ⟨r2, hr2, rfl, c2, g2⟩
  have hs2 := g2.size
  have O2 : Hid (KOwn (w.heap.size + 1) w1.heap.size w2 (.slice ax xs.length cx) xs) := O1.out.at fun g' h1 h2 h3 => g2.block g' h3 (by intro e; injection e with e; omega)
  have C2 := hid c2; have G2 := hid (only_trans G1.out g2)
  have hw2 : IntKind.i64.wrap (1 + (r2 : Int)) = 1 + (r2 : Int) := by rw [IntKind.wrap_i64]; omega
  clear c2 g2 O1 C1 G1
  go_wp2_with fail
  refine (spass_any (1 + (r2 : Int)) _ xs hx _ O2.out.reads).mono ?_
  rintro e w3 ⟨u0, u1, t, rfl, ⟨ys, hy, o3⟩, ⟨zs, o4⟩, b3⟩
  have hs3 := b3.size
  have O3 := hid (O2.out.below b3)
  have P3 := hid (o3.mono (show w.heap.size + 1 ≤ w2.heap.size by omega) (Nat.le_refl _))
  have C3 := hid (C2.out.below b3)
  have G3 := hid (only_then G2.out (b3.mono (by rw [World.size_alloc]; omega)))
  obtain ⟨a1, c1, e1, _, _⟩ := o4.reads
  subst e1
  have hsh := o3.2
  clear o4 b3 O2 C2 G2
  by_cases hy0 : ys.length = 0
  · obtain ⟨a0, c0, e0, _, _⟩ := o3.reads
    rw [hy0] at e0
    subst e0
    clear o3 hsh
    go_wp2
    go_ret2
    exact ⟨_, _, rfl, xs, ys, ⟨hx, hy⟩, O3.out.mono (by omega) (by omega), P3.out.mono (by omega) (by omega), ((Below.refl _ _).alloc (Nat.le_refl _) _).trans (only_below G3.out (Nat.le_refl _) (by simp))⟩
  · obtain ⟨g, cg, rfl, hg⟩ : ∃ g cg, u0 = .slice (some ⟨g, 0, none⟩) ys.length cg ∧ (w2.heap.size ≤ g ∧ g < w3.heap.size) := by
      rcases hsh with ⟨_, _, _, h⟩ | ⟨g, cg, h, h1, _⟩
      · exact absurd (by rw [h]; rfl) hy0
      · exact ⟨g, cg, h, h1.1, h1.2.1⟩
    have hpos : (0 : Int) < (ys.length : Int) := by omega
    have hposn : 0 < ys.length := by omega
    clear o3 hsh
    go_wp2_with fail
    refine (one_any w.heap.size w.heap.size _ 6 _ C3.out (by omega) (by omega)).mono ?_
    rintro e w4 ⟨t4, rfl, c4, g4⟩
    have hs4 := g4.size
    have O4 := hid (O3.out.at fun g' h1 h2 h3 => g4.block g' h3 (by intro e; injection e with e; omega))
    have P4 := hid (P3.out.at fun g' h1 h2 h3 => g4.block g' h3 (by intro e; injection e with e; omega))
    have C4 := hid c4.drew
    have G4 := hid (only_trans G3.out g4)
    clear c4 g4 O3 P3 C3 G3
    cases t4
    · go_wp2
      go_ret2
      exact ⟨_, _, rfl, xs, ys, ⟨hx, hy⟩, O4.out.mono (by omega) (by omega), P4.out.mono (by omega) (by omega), ((Below.refl _ _).alloc (Nat.le_refl _) _).trans (only_below G4.out (Nat.le_refl _) (by simp))⟩
    · have O4' : Hid (KOwn (w.heap.size + 1) w1.heap.size w4.drew (.slice ax xs.length cx) xs) := O4.out.at fun g' h1 h2 h3 => rfl
      have P4' : Hid (KOwn (w.heap.size + 1) w3.heap.size w4.drew (.slice (some ⟨g, 0, none⟩) ys.length cg) ys) := P4.out.at fun g' h1 h2 h3 => rfl
      have G4' := hid (only_drew G4.out)
      have hs4' : w4.drew.heap.size = w4.heap.size := rfl
      have HS4 := hid hs4'
      clear O4 P4 G4 hs4'
      go_wp2_with fail
      refine wp_region_any (by kernel_rfl) ?_
      change wpAny _ _ _ _ _ _ _ (World.drew _)
      refine wpAny_take (i := 0) (v := (.slice (some ⟨g, 0, none⟩) ys.length cg)) rfl (by kernel_rfl) (by kernel_rfl) (by kernel_rfl) (fun _ _ _ h => h) (Or.inl ⟨by kernel_rfl, fun _ => by go_simp⟩) ?_
      try simp only [Act.put]
      try simp only [List.setIfInBounds_toArray]
      try simp only [List.set_cons_succ]
      try simp only [List.set_cons_zero]
      refine wpAny_take (i := 1) (v := (.pointer (some ⟨w.heap.size, 0, none⟩))) rfl (by kernel_rfl) (by kernel_rfl) (by kernel_rfl) (fun _ _ _ h => h) (Or.inl ⟨by kernel_rfl, fun _ => by go_simp⟩) ?_
      try simp only [Act.put]
      try simp only [List.setIfInBounds_toArray]
      try simp only [List.set_cons_succ]
      try simp only [List.set_cons_zero]
      refine wpAny_take (i := 2) (v := (.slice (some ⟨g, 0, none⟩) ys.length cg)) rfl (by kernel_rfl) (by kernel_rfl) (by kernel_rfl) (fun _ _ _ h => h) (Or.inl ⟨by kernel_rfl, fun _ => by go_simp⟩) ?_
      try simp only [Act.put]
      try simp only [List.setIfInBounds_toArray]
      try simp only [List.set_cons_succ]
      try simp only [List.set_cons_zero]
      refine wpAny_take (i := 3) (v := (.int .i64 (ys.length : Int))) rfl (by kernel_rfl) (by kernel_rfl) (by kernel_rfl) (fun _ _ _ h => h) (Or.inl ⟨by kernel_rfl, fun _ => by go_simp⟩) ?_
      try simp only [Act.put]
      try simp only [List.setIfInBounds_toArray]
      try simp only [List.set_cons_succ]
      try simp only [List.set_cons_zero]
      refine wpAny_take (i := 7) (v := (.pointer (some ⟨w.heap.size, 0, none⟩))) rfl (by kernel_rfl) (by kernel_rfl) (by kernel_rfl) (fun _ _ _ h => h) (Or.inl ⟨by kernel_rfl, fun _ => by go_simp⟩) ?_
      try simp only [Act.put]
      try simp only [List.setIfInBounds_toArray]
      try simp only [List.set_cons_succ]
      try simp only [List.set_cons_zero]
      refine wpAny_ready (rs := [4]) (by kernel_rfl) (by simp) ?_
      refine AllReady.cons rfl (fun K hK => ?_) AllReady.nil
      go_simp
      go_wp2_with (go_at_call 43; refine (pick_any w.heap.size w.heap.size _ (ys.length : Int) _ C4.out (by omega) (by omega)).mono ?_; rintro e w5 ⟨r5, hr5, rfl, c5, g5⟩)
      have hr5n : r5 < ys.length := by omega
      have n0 : (0 : Int) ≤ (r5 : Int) := by omega
      have n1 : (r5 : Int) < (ys.length : Int) := by omega
      have hs5 : w4.heap.size ≤ w5.heap.size := g5.size
      have O5 := hid (O4'.out.at fun g' h1 h2 h3 => g5.block g' h3 (by intro e; injection e with e; omega))
      have P5 := hid (P4'.out.at fun g' h1 h2 h3 => g5.block g' h3 (by intro e; injection e with e; omega))
      have C5 := hid c5
      have G5 := hid (only_trans G4'.out g5)
      obtain ⟨y, hy1⟩ : ∃ y, y = ys.getD r5 0 := ⟨_, rfl⟩
      have HY := hid hy1
      clear hy1
      obtain ⟨_, _, fz5, y5⟩ := KOwn.set P5.out r5 0 hr5n
      replace y5 : w5.cell? ⟨g, r5, none⟩ = some (.int .i64 y) := by rw [HY.out]; exact y5
      clear c5 g5 fz5 O4' P4' G4' C4
      refine wpAny_take (i := 5) (v := (.pointer (some ⟨g, r5, none⟩))) rfl (by kernel_rfl) (by kernel_rfl) (by kernel_rfl) (fun _ _ _ h => h) (Or.inl ⟨by kernel_rfl, fun _ => by go_simp⟩) ?_
      try simp only [Act.put]
      try simp only [List.setIfInBounds_toArray]
      try simp only [List.set_cons_succ]
      try simp only [List.set_cons_zero]
      refine wpAny_ready (rs := [6, 8]) (by kernel_rfl) (by simp) ?_
      refine AllReady.cons rfl (fun K hK => ?_) (AllReady.cons rfl (fun K hK => ?_) AllReady.nil)
      · go_simp
        refine hK _ _ ?_
        clear hK K
        refine wpAny_ready (rs := [8]) (by kernel_rfl) (by simp) ?_
        refine AllReady.cons rfl (fun K hK => ?_) AllReady.nil
        go_simp
        go_wp2_with (go_at_call 43; refine (pick_any w.heap.size w.heap.size _ 3 _ C5.out (by omega) (by omega)).mono ?_; rintro e w6 ⟨r6, hr6, rfl, c6, g6⟩)
        have hs6 := g6.size
        have O6 := hid (O5.out.at fun g' h1 h2 h3 => g6.block g' h3 (by intro e; injection e with e; omega))
        have P6 := hid (P5.out.at fun g' h1 h2 h3 => g6.block g' h3 (by intro e; injection e with e; omega))
        have G6 := hid (only_trans G5.out g6)
        obtain ⟨_, _, fz6, y6⟩ := KOwn.set P6.out r5 0 hr5n
        replace y6 : w6.cell? ⟨g, r5, none⟩ = some (.int .i64 y) := by rw [HY.out]; exact y6
        replace fz6 : w6.frozen? ⟨g, r5, none⟩ = false := fz6
        obtain ⟨q, hq⟩ : ∃ q : Int, IntKind.i64.wrap ((r6 : Int) - 1) = q := ⟨_, rfl⟩
        obtain ⟨z, hz⟩ : ∃ z : Int, IntKind.i64.wrap (y + q) = z := ⟨_, rfl⟩
        clear c6 g6 P5 O5 G5
        refine wpAny_take (i := 9) (v := (.int .i64 q)) rfl (by kernel_rfl) (by kernel_rfl) (by kernel_rfl) (fun _ _ _ h => h) (Or.inl ⟨by kernel_rfl, fun _ => by go_simp⟩) ?_
        try simp only [Act.put]
        try simp only [List.setIfInBounds_toArray]
        try simp only [List.set_cons_succ]
        try simp only [List.set_cons_zero]
        refine wpAny_take (i := 10) (v := (.int .i64 z)) rfl (by kernel_rfl) (by kernel_rfl) (by kernel_rfl) (fun _ _ _ h => h) (Or.inl ⟨by kernel_rfl, fun _ => by go_simp⟩) ?_
        try simp only [Act.put]
        try simp only [List.setIfInBounds_toArray]
        try simp only [List.set_cons_succ]
        try simp only [List.set_cons_zero]
        refine wpAny_ready (rs := [11]) (by kernel_rfl) (by simp) ?_
        refine AllReady.cons rfl (fun K hK => ?_) AllReady.nil
        go_simp
        refine hK _ _ ?_
        clear hK K
        refine wpAny_ready (rs := [12]) (by kernel_rfl) (by simp) ?_
        refine AllReady.cons rfl (fun K hK => ?_) AllReady.nil
        go_simp
        refine hK _ _ ?_
        clear hK K
        refine wpAny_done (by kernel_rfl) ?_ _
        have hset := (KOwn.set P6.out r5 z hr5n).1
        have HSET := hid hset
        have OF : Hid (KOwn (w.heap.size + 1) w1.heap.size (w6.setCell ⟨g, r5, none⟩ (.int .i64 z)) (.slice ax xs.length cx) xs) := O6.out.at fun g' h1 h2 h3 => Below.heap_setCell _ _ _ _ (by show g' ≠ g; omega)
        have BF : Hid (Below w.heap.size w (w6.setCell ⟨g, r5, none⟩ (.int .i64 z))) := (((Below.refl _ _).alloc (Nat.le_refl _) _).trans (only_below G6.out (Nat.le_refl _) (by simp))).setCell (by show w.heap.size ≤ g; omega) _
        clear hset P6 O6 G6
        go_wp2
        go_ret2
        exact ⟨_, _, rfl, xs, _, ⟨hx, by rw [List.length_set]; exact hy⟩, OF.out.mono (by omega) (by rw [World.size_setCell]; omega), HSET.out.mono (by omega) (by rw [World.size_setCell]; omega), BF.out⟩
      · go_simp
        go_wp2_with (go_at_call 43; refine (pick_any w.heap.size w.heap.size _ 3 _ C5.out (by omega) (by omega)).mono ?_; rintro e w6 ⟨r6, hr6, rfl, c6, g6⟩)
        have hs6 := g6.size
        have O6 := hid (O5.out.at fun g' h1 h2 h3 => g6.block g' h3 (by intro e; injection e with e; omega))
        have P6 := hid (P5.out.at fun g' h1 h2 h3 => g6.block g' h3 (by intro e; injection e with e; omega))
        have G6 := hid (only_trans G5.out g6)
        obtain ⟨_, _, fz6, y6⟩ := KOwn.set P6.out r5 0 hr5n
        replace y6 : w6.cell? ⟨g, r5, none⟩ = some (.int .i64 y) := by rw [HY.out]; exact y6
        replace fz6 : w6.frozen? ⟨g, r5, none⟩ = false := fz6
        obtain ⟨q, hq⟩ : ∃ q : Int, IntKind.i64.wrap ((r6 : Int) - 1) = q := ⟨_, rfl⟩
        obtain ⟨z, hz⟩ : ∃ z : Int, IntKind.i64.wrap (y + q) = z := ⟨_, rfl⟩
        clear c6 g6 P5 O5 G5
        refine wpAny_take (i := 9) (v := (.int .i64 q)) rfl (by kernel_rfl) (by kernel_rfl) (by kernel_rfl) (fun _ _ _ h => h) (Or.inl ⟨by kernel_rfl, fun _ => by go_simp⟩) ?_
        try simp only [Act.put]
        try simp only [List.setIfInBounds_toArray]
        try simp only [List.set_cons_succ]
        try simp only [List.set_cons_zero]
        refine wpAny_ready (rs := [6]) (by kernel_rfl) (by simp) ?_
        refine AllReady.cons rfl (fun K hK => ?_) AllReady.nil
        go_simp
        refine hK _ _ ?_
        clear hK K
        refine wpAny_take (i := 10) (v := (.int .i64 z)) rfl (by kernel_rfl) (by kernel_rfl) (by kernel_rfl) (fun _ _ _ h => h) (Or.inl ⟨by kernel_rfl, fun _ => by go_simp⟩) ?_
        try simp only [Act.put]
        try simp only [List.setIfInBounds_toArray]
        try simp only [List.set_cons_succ]
        try simp only [List.set_cons_zero]
        refine wpAny_ready (rs := [11]) (by kernel_rfl) (by simp) ?_
        refine AllReady.cons rfl (fun K hK => ?_) AllReady.nil
        go_simp
        refine hK _ _ ?_
        clear hK K
        refine wpAny_ready (rs := [12]) (by kernel_rfl) (by simp) ?_
        refine AllReady.cons rfl (fun K hK => ?_) AllReady.nil
        go_simp
        refine hK _ _ ?_
        clear hK K
        refine wpAny_done (by kernel_rfl) ?_ _
        have hset := (KOwn.set P6.out r5 z hr5n).1
        have HSET := hid hset
        have OF : Hid (KOwn (w.heap.size + 1) w1.heap.size (w6.setCell ⟨g, r5, none⟩ (.int .i64 z)) (.slice ax xs.length cx) xs) := O6.out.at fun g' h1 h2 h3 => Below.heap_setCell _ _ _ _ (by show g' ≠ g; omega)
        have BF : Hid (Below w.heap.size w (w6.setCell ⟨g, r5, none⟩ (.int .i64 z))) := (((Below.refl _ _).alloc (Nat.le_refl _) _).trans (only_below G6.out (Nat.le_refl _) (by simp))).setCell (by show w.heap.size ≤ g; omega) _
        clear hset P6 O6 G6
        go_wp2
        go_ret2
        exact ⟨_, _, rfl, xs, _, ⟨hx, by rw [List.length_set]; exact hy⟩, OF.out.mono (by omega) (by rw [World.size_setCell]; omega), HSET.out.mono (by omega) (by rw [World.size_setCell]; omega), BF.out⟩
end Go.Proofs.Ytcieefggijjekac
