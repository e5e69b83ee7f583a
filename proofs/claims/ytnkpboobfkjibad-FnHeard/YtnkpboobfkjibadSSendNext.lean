/-
  spec.SendNext: the next letter is sent, in memory of its own. Nothing old is written.
-/
import Derived.Test.YtnkpboobfkjibadKSpanConv
import Derived.Test.YtnkpboobfkjibadSOwn11
import Derived.Test.YtnkpboobfkjibadInts
namespace Go.Proofs.Ytnkpboobfkjibad
open Go.RowKit

def nextB (D : SdD) : Bool := goodSd D && decide (D.f0 ≠ 60)
def nextSd (D : SdD) : SdD := bif nextB D then ⟨D.f0 + 1, D.f1, D.f2⟩ else zeroSd
def nextN (D : SdD) : Int := bif nextB D then D.f0 else 0
theorem risU_len {l : List Int} {many : Int} : ∀ k, risU l many k = true → 0 < k → (k : Int) - 1 ≤ fl l (k - 1)
  | 0, _, h => by omega
  | 1, h, _ => by
    simp only [risU, Bool.and_eq_true, decide_eq_true_eq] at h
    have := h.2.1
    show ((1 : Nat) : Int) - 1 ≤ fl l 0
    omega
  | k + 2, h, _ => by
    have ih := risU_len (k + 1) (by simp only [risU, Bool.and_eq_true] at h ⊢; exact h.1) (by omega)
    simp only [risU, Bool.and_eq_true, Bool.or_eq_true, decide_eq_true_eq] at h
    have h1 := h.2.2
    have e1 : k + 1 - 1 = k := by omega
    rw [e1] at ih h1
    show ((k + 2 : Nat) : Int) - 1 ≤ fl l (k + 1)
    rcases h1 with h1 | h1
    · omega
    · omega
theorem goodSd_small {D : SdD} (h : goodSd D = true) : (0 ≤ D.f0 ∧ D.f0 ≤ 60) ∧ D.f1.length ≤ 20 ∧ D.f2.length ≤ 60 := by
  unfold goodSd at h
  rw [Bool.and_eq_true, Bool.and_eq_true, Bool.and_eq_true, decide_eq_true_eq] at h
  refine ⟨h.1, ?_, ?_⟩
  · have h2 := h.2.1
    unfold belB goodL at h2
    rw [Bool.and_eq_true, Bool.and_eq_true, decide_eq_true_eq] at h2
    exact h2.1.2
  · have h3 := h.2.2.1
    unfold risB at h3
    by_cases h0 : D.f2.length = 0
    · omega
    · have h4 := risU_len _ h3 (by omega)
      have h5 : fl D.f2 (D.f2.length - 1) ≤ D.f0 - 1 := by
        obtain ⟨n, hn⟩ : ∃ n, D.f2.length = n + 1 := ⟨D.f2.length - 1, by omega⟩
        rw [hn] at h3 ⊢
        simp only [risU, Bool.and_eq_true, decide_eq_true_eq] at h3
        exact h3.2.1.2
      omega
theorem SdOwn.renum {S : Nat → Prop} {w : World} {a b : Value} {z n : Int} {D : SdD} (h : SdOwn S w (.agg #[.int .i64 z, a, b]) D) : SdOwn S w (.agg #[.int .i64 n, a, b]) ⟨n, D.f1, D.f2⟩ := by
  obtain ⟨v1, v2, c1, c2, e, ha, h1, h2⟩ := h
  simp only [Value.agg.injEq, Array.mk.injEq, List.cons.injEq, and_true] at e
  obtain ⟨_, rfl, rfl⟩ := e
  exact ⟨_, _, c1, c2, rfl, ha, h1, h2⟩
set_option maxRecDepth 100000 in
set_option maxHeartbeats 16000000 in
theorem ssendNext_any (v : Value) (D : SdD) (w : World) (hr : SdReads w v D) (X : SdD) (r : Int) (t : Bool) (hX : nextSd D = X) (hN : nextN D = r) (ht : nextB D = t) :
    Calls Try.prog 42 #[v] w fun e w' => ∃ u0, e = .returned (.tuple #[u0, .int .i64 r, .bool t]) ∧ SdOwn (Iv w.heap.size w'.heap.size) w' u0 X ∧ Below w.heap.size w w' := by
  have HR := hid hr
  have HX := hid hX
  have HN := hid hN
  have HT := hid ht
  obtain ⟨v1, v2, rfl, _, _⟩ := hr
  obtain ⟨z, hz⟩ : ∃ z, z = D.f0 := ⟨_, rfl⟩
  have HZ := hid hz
  rw [← hz] at HR ⊢
  obtain ⟨t1, e1⟩ : ∃ b, goodSd D = b := ⟨_, rfl⟩
  have E1 := hid e1
  obtain ⟨PA, BA, hsA⟩ := box_three (w := w) (.int .i64 z) v1 v2 49
  obtain ⟨W0, hW0⟩ : ∃ W, W = w.alloc (.cells #[.int .i64 z, v1, v2] 49) := ⟨_, rfl⟩
  rw [← hW0] at PA BA hsA
  obtain ⟨PR, BR, hsR⟩ := box_three (w := W0) (.int .i64 0) (.slice none 0 0) (.slice none 0 0) 49
  obtain ⟨W1, hW1⟩ : ∃ W, W = W0.alloc (.cells #[.int .i64 0, .slice none 0 0, .slice none 0 0] 49) := ⟨_, rfl⟩
  rw [← hW1] at PR BR hsR
  rw [hsA] at PR hsR
  have PA := hid (PA.below BR PA.lt)
  have PR := hid PR
  have B := hid (BA.trans (BR.mono (by omega)))
  rw [hW0] at hW1
  have HW := hid hW1
  obtain ⟨q0, q1, q2⟩ := PA.out.three
  rw [HW.out] at q0 q1 q2
  clear hz BA BR hW0 hW1 hsA hX hN ht e1
  go_enter Try.func42, Try.ntmps42
  go_wp2_with fail
  rw [← HW.out]
  clear HW q0 q1 q2
  refine (sgoodSd_eq _ D t1 E1.out _ (HR.out.below B.out)).mono ?_
  rintro e w1 ⟨rfl, b1⟩
  have hs1 := b1.size
  replace B := hid (B.out.trans (b1.mono B.out.size))
  replace PA := hid (PA.out.below b1 PA.out.lt)
  replace PR := hid (PR.out.below b1 PR.out.lt)
  clear b1
  have LEAF : Hid (t = false → X = ⟨0, [], []⟩ ∧ r = 0) := fun h => by
    have h2 := HT.out
    rw [h] at h2
    refine ⟨?_, ?_⟩
    · rw [← HX.out]; unfold nextSd; rw [h2]; rfl
    · rw [← HN.out]; unfold nextN; rw [h2]; rfl
  cases t1
  · have HV : Hid (t = false) := by show _ = _; rw [← HT.out]; unfold nextB; rw [E1.out]; rfl
    have HV2 := hid (LEAF.out HV.out)
    obtain ⟨⟨y0, f0⟩, ⟨y1, f1⟩, y2, f2⟩ := PR.out.form3
    have LF := sd_leaf PR.out B.out (by omega) (sdOwn_bare (Iv (w.heap.size + 2) (w.heap.size + 2)) w1 0) (by omega) (by omega) (by omega)
    have HO := hid LF.1
    have HB := hid LF.2.1
    obtain ⟨t0, t1, t2⟩ := LF.2.2
    clear LF
    go_wp2
    exact bodyPost_ret (v := .tuple #[.agg #[.int .i64 0, .slice none 0 0, .slice none 0 0], .int .i64 0, .bool false]) (by simp [results, Try.results42, go_sem, t0, t1, t2]) rfl ⟨_, by rw [HV.out, HV2.out.2], by rw [HV2.out.1]; exact HO.out, HB.out⟩
  have SM := goodSd_small E1.out
  by_cases h60 : D.f0 = 60
  · have HV : Hid (t = false) := by show _ = _; rw [← HT.out]; unfold nextB; rw [E1.out, decide_eq_false (by simpa using h60)]; rfl
    have HV2 := hid (LEAF.out HV.out)
    have hd : (z == 60) = true := by rw [HZ.out, beq_iff_eq]; exact h60
    obtain ⟨⟨y0, f0⟩, ⟨y1, f1⟩, y2, f2⟩ := PR.out.form3
    have LF := sd_leaf PR.out B.out (by omega) (sdOwn_bare (Iv (w.heap.size + 2) (w.heap.size + 2)) w1 0) (by omega) (by omega) (by omega)
    have HO := hid LF.1
    have HB := hid LF.2.1
    obtain ⟨t0, t1, t2⟩ := LF.2.2
    obtain ⟨q0, q1, q2⟩ := PA.out.three
    clear LF h60
    go_wp2
    exact bodyPost_ret (v := .tuple #[.agg #[.int .i64 0, .slice none 0 0, .slice none 0 0], .int .i64 0, .bool false]) (by simp [results, Try.results42, go_sem, t0, t1, t2]) rfl ⟨_, by rw [HV.out, HV2.out.2], by rw [HV2.out.1]; exact HO.out, HB.out⟩
  have hd : (z == 60) = false := by rw [HZ.out, beq_eq_false_iff_ne]; exact h60
  have HV : Hid (t = true) := by show _ = _; rw [← HT.out]; unfold nextB; rw [E1.out, decide_eq_true h60]; rfl
  have HV2 : Hid (X = ⟨z + 1, D.f1, D.f2⟩) := by show _ = _; rw [← HX.out]; unfold nextSd nextB; rw [E1.out, decide_eq_true h60, HZ.out]; rfl
  have HV3 : Hid (r = z) := by show _ = _; rw [← HN.out]; unfold nextN nextB; rw [E1.out, decide_eq_true h60, HZ.out]; rfl
  have hz60 : 0 ≤ z ∧ z ≤ 60 := by rw [HZ.out]; exact SM.1
  obtain ⟨q0, q1, q2⟩ := PA.out.three
  clear h60 LEAF
  go_wp2_with fail
  refine (sown11_any _ D _ (HR.out.below B.out) (by omega) (by omega)).mono ?_
  rintro e w2 ⟨u0, rfl, o2, b2⟩
  obtain ⟨a5, m5, q5, a9, m9, q9, rfl⟩ := o2.form
  rw [← HZ.out] at o2 ⊢
  have hs2 := b2.size
  replace B := hid (B.out.trans (b2.mono B.out.size))
  replace PA := hid (PA.out.below b2 PA.out.lt)
  replace PR := hid (PR.out.below b2 PR.out.lt)
  clear b2 q0 q1 q2
  obtain ⟨P5, B5, hs5⟩ := box_three (w := w2) (.int .i64 (z + 1)) (.slice a5 m5 q5) (.slice a9 m9 q9) 49
  obtain ⟨W5, hW5⟩ : ∃ W, W = World.drew (w2.alloc (.cells #[.int .i64 (z + 1), .slice a5 m5 q5, .slice a9 m9 q9] 49)) := ⟨_, rfl⟩
  have hw1 : IntKind.i64.wrap (z + 1) = z + 1 := by rw [IntKind.wrap_i64]; omega
  replace PA : Hid (BoxL W5 w.heap.size [.int .i64 z, v1, v2]) := by rw [hW5]; exact PA.out.below B5.drew PA.out.lt
  replace PR : Hid (BoxL W5 (w.heap.size + 1) [.int .i64 0, .slice none 0 0, .slice none 0 0]) := by rw [hW5]; exact PR.out.below B5.drew PR.out.lt
  have H5 : Hid (BoxL W5 w2.heap.size [.int .i64 (z + 1), .slice a5 m5 q5, .slice a9 m9 q9]) := by rw [hW5]; exact P5
  replace B : Hid (Below w.heap.size w W5) := by rw [hW5]; exact (B.out.trans (B5.mono B.out.size)).drew
  have O : Hid (SdOwn (Iv w1.heap.size w2.heap.size) W5 (.agg #[.int .i64 (z + 1), .slice a5 m5 q5, .slice a9 m9 q9]) ⟨z + 1, D.f1, D.f2⟩) := by rw [hW5]; exact (o2.below B5).renum.at fun g _ _ => rfl
  have hs6 : W5.heap.size = w2.heap.size + 1 := by rw [hW5]; exact hs5
  have HW5 := hid hW5
  clear P5 B5 hs5 hW5 o2
  go_wp2_with fail
  refine wp_region_any (by kernel_rfl) ?_
  change wpAny _ _ _ _ _ _ _ (World.drew _)
  rw [← HW5.out]
  clear HW5 hw1
  have LF := sd_leaf PR.out B.out (by omega) O.out (by omega) (by omega) (by omega)
  have HO := hid LF.1
  have HB := hid LF.2.1
  obtain ⟨t0, t1, t2⟩ := LF.2.2
  have ON := three_only W5 (w.heap.size + 1) (.int .i64 (z + 1)) (.slice a5 m5 q5) (.slice a9 m9 q9)
  obtain ⟨p0, p1, p2⟩ := PA.out.three
  obtain ⟨p3, p4, p5⟩ := (PA.out.of_block (ON.2.1 _ (by omega))).three
  obtain ⟨x0, x1, x2⟩ := H5.out.three
  obtain ⟨⟨y0, f0⟩, ⟨y1, f1⟩, y2, f2⟩ := PR.out.form3
  clear LF ON O
  refine wpAny_take (i := 1) (v := (.pointer (some ⟨w.heap.size, 0, none⟩))) rfl (by kernel_rfl) (by kernel_rfl) (by kernel_rfl) (fun _ _ _ h => h) (Or.inl ⟨by kernel_rfl, fun _ => by go_simp⟩) ?_
  try simp only [Act.put]
  try simp only [List.setIfInBounds_toArray]
  try simp only [List.set_cons_succ]
  try simp only [List.set_cons_zero]
  refine wpAny_ready (rs := [0, 2]) (by kernel_rfl) (by simp) ?_
  refine AllReady.cons rfl (fun K hK => ?_) (AllReady.cons rfl (fun K hK => ?_) AllReady.nil)
  · go_simp
    refine hK _ _ ?_
    clear hK K
    refine wpAny_ready (rs := [2, 3]) (by kernel_rfl) (by simp) ?_
    refine AllReady.cons rfl (fun K hK => ?_) (AllReady.cons rfl (fun K hK => ?_) AllReady.nil)
    · go_simp
      refine hK _ _ ?_
      clear hK K
      refine wpAny_ready (rs := [3]) (by kernel_rfl) (by simp) ?_
      refine AllReady.cons rfl (fun K hK => ?_) AllReady.nil
      go_simp
      refine hK _ _ ?_
      clear hK K
      refine wpAny_ready (rs := [4]) (by kernel_rfl) (by simp) ?_
      refine AllReady.cons rfl (fun K hK => ?_) AllReady.nil
      go_simp
      refine hK _ _ ?_
      clear hK K
      refine wpAny_ready (rs := [5]) (by kernel_rfl) (by simp) ?_
      refine AllReady.cons rfl (fun K hK => ?_) AllReady.nil
      go_simp
      refine hK _ _ ?_
      clear hK K
      refine wpAny_done (by kernel_rfl) ?_ _
      go_wp2
      exact bodyPost_ret (v := .tuple #[.agg #[.int .i64 (z + 1), .slice a5 m5 q5, .slice a9 m9 q9], .int .i64 z, .bool true]) (by simp [results, Try.results42, go_sem, t0, t1, t2]) rfl ⟨_, by rw [HV.out, HV3.out], by rw [HV2.out]; exact HO.out, HB.out⟩
    · go_simp
      refine hK _ _ ?_
      clear hK K
      refine wpAny_ready (rs := [2]) (by kernel_rfl) (by simp) ?_
      refine AllReady.cons rfl (fun K hK => ?_) AllReady.nil
      go_simp
      refine hK _ _ ?_
      clear hK K
      refine wpAny_ready (rs := [4]) (by kernel_rfl) (by simp) ?_
      refine AllReady.cons rfl (fun K hK => ?_) AllReady.nil
      go_simp
      refine hK _ _ ?_
      clear hK K
      refine wpAny_ready (rs := [5]) (by kernel_rfl) (by simp) ?_
      refine AllReady.cons rfl (fun K hK => ?_) AllReady.nil
      go_simp
      refine hK _ _ ?_
      clear hK K
      refine wpAny_done (by kernel_rfl) ?_ _
      go_wp2
      exact bodyPost_ret (v := .tuple #[.agg #[.int .i64 (z + 1), .slice a5 m5 q5, .slice a9 m9 q9], .int .i64 z, .bool true]) (by simp [results, Try.results42, go_sem, t0, t1, t2]) rfl ⟨_, by rw [HV.out, HV3.out], by rw [HV2.out]; exact HO.out, HB.out⟩
  · go_simp
    refine hK _ _ ?_
    clear hK K
    refine wpAny_ready (rs := [0]) (by kernel_rfl) (by simp) ?_
    refine AllReady.cons rfl (fun K hK => ?_) AllReady.nil
    go_simp
    refine hK _ _ ?_
    clear hK K
    refine wpAny_ready (rs := [3]) (by kernel_rfl) (by simp) ?_
    refine AllReady.cons rfl (fun K hK => ?_) AllReady.nil
    go_simp
    refine hK _ _ ?_
    clear hK K
    refine wpAny_ready (rs := [4]) (by kernel_rfl) (by simp) ?_
    refine AllReady.cons rfl (fun K hK => ?_) AllReady.nil
    go_simp
    refine hK _ _ ?_
    clear hK K
    refine wpAny_ready (rs := [5]) (by kernel_rfl) (by simp) ?_
    refine AllReady.cons rfl (fun K hK => ?_) AllReady.nil
    go_simp
    refine hK _ _ ?_
    clear hK K
    refine wpAny_done (by kernel_rfl) ?_ _
    go_wp2
    exact bodyPost_ret (v := .tuple #[.agg #[.int .i64 (z + 1), .slice a5 m5 q5, .slice a9 m9 q9], .int .i64 z, .bool true]) (by simp [results, Try.results42, go_sem, t0, t1, t2]) rfl ⟨_, by rw [HV.out, HV3.out], by rw [HV2.out]; exact HO.out, HB.out⟩
end Go.Proofs.Ytnkpboobfkjibad
