/-
  impl.NewTurns: turns with nothing waiting, in memory of their own. Nothing old is written.
-/
import Derived.Test.YtepnhbicmlfnhacInfoII
import Derived.Test.YtepnhbicmlfnhacRegFacts
import Derived.Test.YtepnhbicmlfnhacKAppd
import Derived.Test.YtepnhbicmlfnhacTurnFns
namespace Go.Proofs.Ytepnhbicmlfnhac
open Go.RowKit

/-- What the operations make. -/
def newF (n : Nat) (vv : Value) (ys : List Int) : Nat → (Nat → Value) → (Nat → Nat × Nat) → World → Prop
  | 0, σ, _, _ => σ 0 = vv
  | 1, σ, c, w => KOwn (c 1).1 (c 1).2 w (σ 1) ys ∧ ∃ a n k, σ 1 = .slice a n k
  | 2, σ, _, _ => σ 2 = .int .i64 (n : Nat)
  | 3, σ, c, w => QRow w (c 3) (σ 3) (List.replicate n []) (fun _ => ((c 3).2, (c 3).2)) ∧ ∃ a n k, σ 3 = .slice a n k
  | 4, σ, _, _ => σ 4 = .int .i64 (n : Nat)
  | 5, σ, c, w => KOwn (c 5).1 (c 5).2 w (σ 5) (List.replicate n 0) ∧ ∃ a n k, σ 5 = .slice a n k
  | 6, σ, _, _ => σ 6 = .int .i64 (n : Nat)
  | 7, σ, c, w => KOwn (c 7).1 (c 7).2 w (σ 7) (List.replicate n 0) ∧ ∃ a n k, σ 7 = .slice a n k
  | 8, σ, _, _ => σ 8 = .agg #[σ 1, σ 3, σ 5, σ 7, .int .i64 0]
  | _, _, _, _ => True
theorem newF_keep {n : Nat} {vv : Value} {ys : List Int} : ∀ j ∈ [0, 1, 2, 3, 4, 5, 6, 7, 8], ∀ σ c w w', newF n vv ys j σ c w → Below w.heap.size w w' → newF n vv ys j σ c w' := by
  intro j hj σ c w w' h hb
  simp only [List.mem_cons, List.not_mem_nil, or_false] at hj; rcases hj with rfl | rfl | rfl | rfl | rfl | rfl | rfl | rfl | rfl
  · exact h
  · exact ⟨h.1.below hb, h.2⟩
  · exact h
  · exact ⟨h.1.below hb, h.2⟩
  · exact h
  · exact ⟨h.1.below hb, h.2⟩
  · exact h
  · exact ⟨h.1.below hb, h.2⟩
  · exact h
theorem newF_loc {n : Nat} {vv : Value} {ys : List Int} {j i : Nat} {σ : Nat → Value} {c : Nat → Nat × Nat} {w : World} {v : Value} {r : Nat × Nat} (hj : j ∈ [0, 1, 2, 3, 4, 5, 6, 7, 8]) (hne : i ≠ j) (hd : (j = 8 → i ≠ 1 ∧ i ≠ 3 ∧ i ≠ 5 ∧ i ≠ 7)) (h : newF n vv ys j σ c w) : newF n vv ys j (upd σ i v) (upd c i r) w := by
  simp only [List.mem_cons, List.not_mem_nil, or_false] at hj; rcases hj with rfl | rfl | rfl | rfl | rfl | rfl | rfl | rfl | rfl
  · simp only [newF, upd_other _ _ (Ne.symm hne)] at h ⊢
    exact h
  · simp only [newF, upd_other _ _ (Ne.symm hne)] at h ⊢
    exact h
  · simp only [newF, upd_other _ _ (Ne.symm hne)] at h ⊢
    exact h
  · simp only [newF, upd_other _ _ (Ne.symm hne)] at h ⊢
    exact h
  · simp only [newF, upd_other _ _ (Ne.symm hne)] at h ⊢
    exact h
  · simp only [newF, upd_other _ _ (Ne.symm hne)] at h ⊢
    exact h
  · simp only [newF, upd_other _ _ (Ne.symm hne)] at h ⊢
    exact h
  · simp only [newF, upd_other _ _ (Ne.symm hne)] at h ⊢
    exact h
  · obtain ⟨d1, d3, d5, d7⟩ := hd rfl
    simp only [newF, upd_other _ _ (Ne.symm hne), upd_other _ _ (Ne.symm d1), upd_other _ _ (Ne.symm d3), upd_other _ _ (Ne.symm d5), upd_other _ _ (Ne.symm d7)] at h ⊢
    exact h
set_option maxRecDepth 100000 in
set_option maxHeartbeats 16000000 in
theorem inewT_yes (v : Value) (xs : List Int) (w : World) (hr : KReads w v xs) (h : newOk xs = true) :
    Calls Try.prog 46 #[v] w fun e w' => ∃ u0, e = .returned (.tuple #[u0, .bool true]) ∧ TuOwn (Iv w.heap.size w'.heap.size) w' u0 (newT xs) ∧ Below w.heap.size w w' := by
  have E1 := hid h
  unfold newOk at h
  rw [Bool.and_eq_true] at h
  have hn : 1 ≤ xs.length ∧ xs.length ≤ 4 := by have := h.1; rw [decide_eq_true_eq] at this; omega
  clear h
  have HR := hid hr
  obtain ⟨g, off, cap, rfl, hc⟩ := hr.cells 0 (by omega)
  have mkQ := run_make_row' (P := Try.prog) 53 23 (.slice none 0 0) 24 Try.underlying53 info_ints rfl .i64 .i64 xs.length (by omega) (by omega)
  have mkI := run_make_row' (P := Try.prog) 23 3 (.int .i64 0) 8 Try.underlying23 info_int rfl .i64 .i64 xs.length (by omega) (by omega)
  have PB := hid (boxL_new w [.slice none 0 0, .slice none 0 0, .slice none 0 0, .slice none 0 0, .int .i64 0] 55)
  have B : Hid (Below w.heap.size w (w.alloc (.cells #[.slice none 0 0, .slice none 0 0, .slice none 0 0, .slice none 0 0, .int .i64 0] 55))) := (Below.refl _ _).alloc (Nat.le_refl _) _
  have hsz : (w.alloc (.cells #[.slice none 0 0, .slice none 0 0, .slice none 0 0, .slice none 0 0, .int .i64 0] 55)).heap.size = w.heap.size + 1 := World.size_alloc _ _
  clear hr hc
  go_enter Try.func46, Try.ntmps46
  go_wp2_with fail
  refine (iquanta_eq _ xs true E1.out _ (HR.out.below B.out)).mono ?_
  rintro e w' ⟨rfl, hw⟩; obtain rfl := hw.symm
  go_wp2_with fail
  refine wp_region_any (by kernel_rfl) ?_
  change wpAny _ _ _ _ _ _ _ (World.drew _)
  obtain ⟨W, hW⟩ : ∃ W, W = World.drew (w.alloc (.cells #[.slice none 0 0, .slice none 0 0, .slice none 0 0, .slice none 0 0, .int .i64 0] 55)) := ⟨_, rfl⟩
  replace B : Hid (Below w.heap.size w W) := by rw [hW]; exact B.out.drew
  have hWs : W.heap.size = w.heap.size + 1 := by rw [hW]; exact hsz
  replace PB : Hid (BoxL W w.heap.size [.slice none 0 0, .slice none 0 0, .slice none 0 0, .slice none 0 0, .int .i64 0]) := by rw [hW]; exact PB.out
  rw [← hW]
  clear hW hsz
  refine wpAny_facts' 2 (Array.replicate 11 false) #[true, true, true, true, true, true, true, true, true, false, false] [0, 1, 2, 3, 4, 5, 6, 7, 8] (fun σ => #[.slice (some ⟨g, off, none⟩) xs.length cap, undef, .pointer (some ⟨w.heap.size, 0, none⟩), .bool false, .int .i64 (xs.length : Nat), .slice (some ⟨g, off, none⟩) xs.length cap, .bool true, .bool false, undef, .slice (some ⟨g, off, none⟩) xs.length cap, .int .i64 (xs.length : Nat), σ 0, σ 1, σ 2, σ 3, σ 4, σ 5, σ 6, σ 7, σ 8]) (newF xs.length (.slice (some ⟨g, off, none⟩) xs.length cap) xs) (fun _ => undef) rfl (by kernel_rfl) (by kernel_rfl) (by kernel_rfl) (by kernel_rfl) (by decide) newF_keep (fun j hj i hi σ c w v r hne hd h => newF_loc hj hne (fun e => by subst e; exact ⟨(hd 1 (by decide)).symm, (hd 3 (by decide)).symm, (hd 5 (by decide)).symm, (hd 7 (by decide)).symm⟩) h) ?_ ?_
  · intro σ c wr hb hf hin hdj
    obtain ⟨k1, a1, m1, q1, e1⟩ : newF _ _ _ 1 σ c wr := hf 1 (by decide)
    obtain ⟨k3, a3, m3, q3, e3⟩ : newF _ _ _ 3 σ c wr := hf 3 (by decide)
    obtain ⟨k5, a5, m5, q5, e5⟩ : newF _ _ _ 5 σ c wr := hf 5 (by decide)
    obtain ⟨k7, a7, m7, q7, e7⟩ : newF _ _ _ 7 σ c wr := hf 7 (by decide)
    have e8 : newF _ _ _ 8 σ c wr := hf 8 (by decide)
    simp only [newF] at e8
    rw [e1] at k1 e8
    rw [e3] at k3 e8
    rw [e5] at k5 e8
    rw [e7] at k7 e8
    have n1 := hin 1 (by decide)
    have n3 := hin 3 (by decide)
    have n5 := hin 5 (by decide)
    have n7 := hin 7 (by decide)
    have d1_3 := hdj 1 (by decide) 3 (by decide) (by decide)
    have d1_5 := hdj 1 (by decide) 5 (by decide) (by decide)
    have d1_7 := hdj 1 (by decide) 7 (by decide) (by decide)
    have d3_5 := hdj 3 (by decide) 5 (by decide) (by decide)
    have d3_7 := hdj 3 (by decide) 7 (by decide) (by decide)
    have d5_7 := hdj 5 (by decide) 7 (by decide) (by decide)
    clear hf hin hdj
    try dsimp only
    rw [e1, e3, e5, e7, e8]
    have hX := PB.out.below hb PB.out.lt
    have LF := snew_leaf (c0 := c 1) (c1 := c 3) (c2 := c 5) (c3 := c 7) hX (B.out.trans (hb.mono B.out.size)) k1 k3 k5 k7 (by omega) ⟨d1_3, d1_5, d1_7, d3_5, d3_7, d5_7⟩
    have HT := hid LF.1
    have HB := hid LF.2.1
    obtain ⟨t0, t1, t2, t3, t4⟩ := LF.2.2.five
    obtain ⟨y0, y1, y2, y3, y4⟩ := hX.five
    have x0 := (hX.cell 0 (by simp)).2
    have x1 := (hX.cell 1 (by simp)).2
    have x2 := (hX.cell 2 (by simp)).2
    have x3 := (hX.cell 3 (by simp)).2
    have x4 := (hX.cell 4 (by simp)).2
    clear LF hX k1 k3 k5 k7 n1 n3 n5 n7 d1_3 d1_5 d1_7 d3_5 d3_7 d5_7 hb PB B e1 e3 e5 e7 e8 mkQ mkI
    refine wpAny_ready (rs := [9]) (by kernel_rfl) (by simp) ?_
    refine AllReady.cons rfl (fun K hK => ?_) AllReady.nil
    go_simp
    refine hK _ _ ?_
    clear hK K
    refine wpAny_ready (rs := [10]) (by kernel_rfl) (by simp) ?_
    refine AllReady.cons rfl (fun K hK => ?_) AllReady.nil
    go_simp
    refine hK _ _ ?_
    clear hK K
    refine wpAny_done (by kernel_rfl) ?_ _
    go_wp2
    exact bodyPost_ret (v := .tuple #[.agg #[.slice a1 m1 q1, .slice a3 m3 q3, .slice a5 m5 q5, .slice a7 m7 q7, .int .i64 0], .bool true]) (by simp [results, Try.results46, go_sem, t0, t1, t2, t3, t4]) rfl ⟨_, rfl, HT.out, HB.out⟩
  · intro i hi σ c wr hb hd
    simp only [List.mem_cons, List.not_mem_nil, or_false] at hi; rcases hi with rfl | rfl | rfl | rfl | rfl | rfl | rfl | rfl | rfl
    · skip
      clear hd
      refine StepF.of (a1 := ⟨#[.slice (some ⟨g, off, none⟩) xs.length cap, undef, .pointer (some ⟨w.heap.size, 0, none⟩), .bool false, .int .i64 (xs.length : Nat), .slice (some ⟨g, off, none⟩) xs.length cap, .bool true, .bool false, undef, .slice (some ⟨g, off, none⟩) xs.length cap, .int .i64 (xs.length : Nat), σ 0, σ 1, σ 2, σ 3, σ 4, σ 5, σ 6, σ 7, σ 8], []⟩) rfl rfl (fun _ => rfl) (fun K hK => ?_)
      go_simp
      exact hK _ _ (Below.refl _ _) rfl
    · skip
      have f0 : newF _ _ _ 0 σ c wr := hd 0 (by decide) (by decide)
      simp only [newF] at f0
      clear hd
      refine StepF.of (a1 := ⟨#[.slice (some ⟨g, off, none⟩) xs.length cap, undef, .pointer (some ⟨w.heap.size, 0, none⟩), .bool false, .int .i64 (xs.length : Nat), .slice (some ⟨g, off, none⟩) xs.length cap, .bool true, .bool false, undef, .slice (some ⟨g, off, none⟩) xs.length cap, .int .i64 (xs.length : Nat), (.slice (some ⟨g, off, none⟩) xs.length cap), σ 1, σ 2, σ 3, σ 4, σ 5, σ 6, σ 7, σ 8], []⟩) (by simp only [f0]) rfl (fun _ => rfl) (fun K hK => ?_)
      go_simp
      refine (kclone_any _ xs _ (HR.out.below (B.out.trans (hb.mono B.out.size))) (by omega)).mono ?_
      rintro e w2 ⟨u, rfl, hu, _, b⟩
      exact hK u w2 b ⟨hu, hu.sform⟩
    · skip
      clear hd
      refine StepF.of (a1 := ⟨#[.slice (some ⟨g, off, none⟩) xs.length cap, undef, .pointer (some ⟨w.heap.size, 0, none⟩), .bool false, .int .i64 (xs.length : Nat), .slice (some ⟨g, off, none⟩) xs.length cap, .bool true, .bool false, undef, .slice (some ⟨g, off, none⟩) xs.length cap, .int .i64 (xs.length : Nat), σ 0, σ 1, σ 2, σ 3, σ 4, σ 5, σ 6, σ 7, σ 8], []⟩) rfl rfl (fun _ => rfl) (fun K hK => ?_)
      go_simp
      exact hK _ _ (Below.refl _ _) rfl
    · skip
      have f2 : newF _ _ _ 2 σ c wr := hd 2 (by decide) (by decide)
      simp only [newF] at f2
      clear hd
      refine StepF.of (a1 := ⟨#[.slice (some ⟨g, off, none⟩) xs.length cap, undef, .pointer (some ⟨w.heap.size, 0, none⟩), .bool false, .int .i64 (xs.length : Nat), .slice (some ⟨g, off, none⟩) xs.length cap, .bool true, .bool false, undef, .slice (some ⟨g, off, none⟩) xs.length cap, .int .i64 (xs.length : Nat), σ 0, σ 1, (.int .i64 (xs.length : Nat)), σ 3, σ 4, σ 5, σ 6, σ 7, σ 8], []⟩) (by simp only [f2]) rfl (fun _ => rfl) (fun K hK => ?_)
      have kq := qmade wr xs.length (List.replicate xs.length []) (by simp) (by omega)
      rw [qpart_nil, List.length_replicate] at kq
      go_simp
      exact hK _ _ ((Below.refl _ _).alloc (Nat.le_refl _) _) ⟨by simpa [upd] using kq, ⟨_, _, _, rfl⟩⟩
    · skip
      clear hd
      refine StepF.of (a1 := ⟨#[.slice (some ⟨g, off, none⟩) xs.length cap, undef, .pointer (some ⟨w.heap.size, 0, none⟩), .bool false, .int .i64 (xs.length : Nat), .slice (some ⟨g, off, none⟩) xs.length cap, .bool true, .bool false, undef, .slice (some ⟨g, off, none⟩) xs.length cap, .int .i64 (xs.length : Nat), σ 0, σ 1, σ 2, σ 3, σ 4, σ 5, σ 6, σ 7, σ 8], []⟩) rfl rfl (fun _ => rfl) (fun K hK => ?_)
      go_simp
      exact hK _ _ (Below.refl _ _) rfl
    · skip
      have f4 : newF _ _ _ 4 σ c wr := hd 4 (by decide) (by decide)
      simp only [newF] at f4
      clear hd
      refine StepF.of (a1 := ⟨#[.slice (some ⟨g, off, none⟩) xs.length cap, undef, .pointer (some ⟨w.heap.size, 0, none⟩), .bool false, .int .i64 (xs.length : Nat), .slice (some ⟨g, off, none⟩) xs.length cap, .bool true, .bool false, undef, .slice (some ⟨g, off, none⟩) xs.length cap, .int .i64 (xs.length : Nat), σ 0, σ 1, σ 2, σ 3, (.int .i64 (xs.length : Nat)), σ 5, σ 6, σ 7, σ 8], []⟩) (by simp only [f4]) rfl (fun _ => rfl) (fun K hK => ?_)
      have kq := (IRow.made wr xs.length (by omega)).own (by omega) (Nat.le_refl _) (Nat.lt_succ_self _)
      go_simp
      exact hK _ _ ((Below.refl _ _).alloc (Nat.le_refl _) _) ⟨by simpa [upd] using kq, ⟨_, _, _, rfl⟩⟩
    · skip
      clear hd
      refine StepF.of (a1 := ⟨#[.slice (some ⟨g, off, none⟩) xs.length cap, undef, .pointer (some ⟨w.heap.size, 0, none⟩), .bool false, .int .i64 (xs.length : Nat), .slice (some ⟨g, off, none⟩) xs.length cap, .bool true, .bool false, undef, .slice (some ⟨g, off, none⟩) xs.length cap, .int .i64 (xs.length : Nat), σ 0, σ 1, σ 2, σ 3, σ 4, σ 5, σ 6, σ 7, σ 8], []⟩) rfl rfl (fun _ => rfl) (fun K hK => ?_)
      go_simp
      exact hK _ _ (Below.refl _ _) rfl
    · skip
      have f6 : newF _ _ _ 6 σ c wr := hd 6 (by decide) (by decide)
      simp only [newF] at f6
      clear hd
      refine StepF.of (a1 := ⟨#[.slice (some ⟨g, off, none⟩) xs.length cap, undef, .pointer (some ⟨w.heap.size, 0, none⟩), .bool false, .int .i64 (xs.length : Nat), .slice (some ⟨g, off, none⟩) xs.length cap, .bool true, .bool false, undef, .slice (some ⟨g, off, none⟩) xs.length cap, .int .i64 (xs.length : Nat), σ 0, σ 1, σ 2, σ 3, σ 4, σ 5, (.int .i64 (xs.length : Nat)), σ 7, σ 8], []⟩) (by simp only [f6]) rfl (fun _ => rfl) (fun K hK => ?_)
      have kq := (IRow.made wr xs.length (by omega)).own (by omega) (Nat.le_refl _) (Nat.lt_succ_self _)
      go_simp
      exact hK _ _ ((Below.refl _ _).alloc (Nat.le_refl _) _) ⟨by simpa [upd] using kq, ⟨_, _, _, rfl⟩⟩
    · skip
      have f1 : newF _ _ _ 1 σ c wr := hd 1 (by decide) (by decide)
      obtain ⟨_, a1, m1, q1, f1⟩ := f1
      have f3 : newF _ _ _ 3 σ c wr := hd 3 (by decide) (by decide)
      obtain ⟨_, a3, m3, q3, f3⟩ := f3
      have f5 : newF _ _ _ 5 σ c wr := hd 5 (by decide) (by decide)
      obtain ⟨_, a5, m5, q5, f5⟩ := f5
      have f7 : newF _ _ _ 7 σ c wr := hd 7 (by decide) (by decide)
      obtain ⟨_, a7, m7, q7, f7⟩ := f7
      clear hd
      refine StepF.of (a1 := ⟨#[.slice (some ⟨g, off, none⟩) xs.length cap, undef, .pointer (some ⟨w.heap.size, 0, none⟩), .bool false, .int .i64 (xs.length : Nat), .slice (some ⟨g, off, none⟩) xs.length cap, .bool true, .bool false, undef, .slice (some ⟨g, off, none⟩) xs.length cap, .int .i64 (xs.length : Nat), σ 0, (.slice a1 m1 q1), σ 2, (.slice a3 m3 q3), σ 4, (.slice a5 m5 q5), σ 6, (.slice a7 m7 q7), σ 8], []⟩) (by simp only [f1, f3, f5, f7]) rfl (fun _ => rfl) (fun K hK => ?_)
      go_simp
      exact hK _ _ (Below.refl _ _) (by show _ = Value.agg #[σ 1, σ 3, σ 5, σ 7, .int .i64 0]; rw [f1, f3, f5, f7]; rfl)
set_option maxRecDepth 100000 in
set_option maxHeartbeats 16000000 in
theorem inewT_no (v : Value) (xs : List Int) (w : World) (hr : KReads w v xs) (h : newOk xs = false) :
    Calls Try.prog 46 #[v] w fun e w' => ∃ u0, e = .returned (.tuple #[u0, .bool false]) ∧ TuOwn (Iv w.heap.size w'.heap.size) w' u0 noT ∧ Below w.heap.size w w' := by
  have E1 := hid h
  have HR := hid hr
  obtain ⟨a, cap, rfl, _, _⟩ := hr
  have PB := hid (boxL_new w [.slice none 0 0, .slice none 0 0, .slice none 0 0, .slice none 0 0, .int .i64 0] 55)
  have B : Hid (Below w.heap.size w (w.alloc (.cells #[.slice none 0 0, .slice none 0 0, .slice none 0 0, .slice none 0 0, .int .i64 0] 55))) := (Below.refl _ _).alloc (Nat.le_refl _) _
  obtain ⟨y0, y1, y2, y3, y4⟩ := PB.out.five
  have x0 := (PB.out.cell 0 (by simp)).2
  have x1 := (PB.out.cell 1 (by simp)).2
  have x2 := (PB.out.cell 2 (by simp)).2
  have x3 := (PB.out.cell 3 (by simp)).2
  have x4 := (PB.out.cell 4 (by simp)).2
  clear h
  go_enter Try.func46, Try.ntmps46
  go_wp2_with fail
  refine (iquanta_eq _ xs false E1.out _ (HR.out.below B.out)).mono ?_
  rintro e w' ⟨rfl, hw⟩; obtain rfl := hw.symm
  go_wp2
  exact bodyPost_ret (v := .tuple #[.agg #[.slice none 0 0, .slice none 0 0, .slice none 0 0, .slice none 0 0, .int .i64 0], .bool false]) (by simp [results, Try.results46, go_sem, y0, y1, y2, y3, y4]) rfl ⟨_, rfl, noT_own _ _ _, B.out⟩
end Go.Proofs.Ytepnhbicmlfnhac
