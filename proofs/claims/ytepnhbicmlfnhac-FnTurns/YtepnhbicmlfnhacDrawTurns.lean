/-
  The cursor's turns: whatever they are; of old memory the cursor alone is written.
-/
import Derived.Test.YtepnhbicmlfnhacDrtEnd
import Derived.Test.YtepnhbicmlfnhacDrtReg
import Derived.Test.YtepnhbicmlfnhacSNewT
import Derived.Test.YtepnhbicmlfnhacSIn
import Derived.Deep.RegionWith
namespace Go.Proofs.Ytepnhbicmlfnhac
open Go.RowKit

theorem new_lens {xs : List Int} (h : newOk xs = true) : 0 < (newT xs).f2.length ∧ 0 < (newT xs).f3.length := by
  unfold newOk at h
  rw [Bool.and_eq_true, decide_eq_true_eq] at h
  show 0 < (List.replicate xs.length (0 : Int)).length ∧ 0 < (List.replicate xs.length (0 : Int)).length
  rw [List.length_replicate]
  omega
theorem one_new : newOk [20] = true := by decide
set_option maxRecDepth 100000 in
set_option maxHeartbeats 16000000 in
theorem turns_any (B b N : Nat) (w : World) (h : Cur B w b N) (hN : N ≤ 1152921504606830000) :
    Calls Try.prog 96 #[.pointer (some ⟨b, 0, none⟩)] w fun e w' => ∃ v, e = .returned v ∧ (∃ (D : TuD) (S : Nat → Prop), TuOwn S w' v D ∧ ∀ g, S g → w.heap.size ≤ g ∧ g < w'.heap.size) ∧ Cur B w' b (N + 1000) ∧ w.grownBy w' (some b) := by
  have hbw := qncur_lt h
  have hBb : B ≤ b := h.1
  have b0 : Below w.heap.size w (w.alloc (.cells #[.slice none 0 0, .slice none 0 0, .slice none 0 0, .slice none 0 0, .int .i64 0] 55)) := (Below.refl _ _).alloc (Nat.le_refl _) _
  have R0 := hid (boxL_new w [.slice none 0 0, .slice none 0 0, .slice none 0 0, .slice none 0 0, .int .i64 0] 55)
  have C0 := hid (h.below b0)
  have G0 : Hid (w.grownBy (w.alloc (.cells #[.slice none 0 0, .slice none 0 0, .slice none 0 0, .slice none 0 0, .int .i64 0] 55)) (some b)) := only_of_below b0
  clear b0 h
  go_enter Try.func96, Try.ntmps96
  go_wp2_with fail
  refine (quanta_any B b N _ C0.out (by omega)).mono ?_
  rintro e w1 ⟨qv, rfl, xs, hxs, o1, c1, g1⟩
  have hs1 : w.heap.size + 1 ≤ w1.heap.size := by have := g1.size; rw [World.size_alloc] at this; omega
  have e1 := g1.block w.heap.size (by rw [World.size_alloc]; omega) (by intro e; cases e; omega)
  have R1 := hid (R0.out.of_block e1); have O1 := hid o1.reads
  have C1 := hid c1; have G1 := hid (only_trans G0.out g1); clear c1 g1 o1 R0 C0 G0 e1
  obtain ⟨ok, hok⟩ : ∃ ok, newOk xs = ok := ⟨_, rfl⟩
  have HOK := hid hok
  clear hok
  cases ok
  case true =>
    go_wp2_with fail
    refine (snewT_yes qv xs _ O1.out HOK.out).mono ?_
    rintro e w2 ⟨u, rfl, t2, b2⟩
    have hs2 := b2.size
    have eb := b2.block w.heap.size (by omega)
    have hl2 := new_lens HOK.out
    obtain ⟨e0, f0, h0, e1, f1, h1, e2, f2, h2, e3, f3, h3, rfl⟩ := t2.form
    have T3 := hid (DrT.new (w := w) (B := B) (b := b) (N := N + 100) t2 (by omega) hl2 (R1.out.of_block eb) (C1.out.below b2) (only_trans G1.out (only_of_below b2)) hs2 ⟨hBb, hbw⟩)
    obtain ⟨D0, hD⟩ : ∃ D, newT xs = D := ⟨_, rfl⟩
    rw [hD] at T3 ⊢
    obtain ⟨p1, hp1⟩ : ∃ p : Value, p = .agg #[.slice e0 f0 h0, .slice e1 f1 h1, .slice e2 f2 h2, .slice e3 f3 h3, .int .i64 D0.f4] := ⟨_, rfl⟩
    clear hD t2 b2 eb hl2 R1 C1 G1 O1 HOK hs2
    obtain ⟨W3, hW3⟩ : ∃ W, W = w2.alloc (.cells #[.slice e0 f0 h0, .slice e1 f1 h1, .slice e2 f2 h2, .slice e3 f3 h3, .int .i64 D0.f4] 55) := ⟨_, rfl⟩
    obtain ⟨X, hX⟩ : ∃ X, X = w2.heap.size := ⟨_, rfl⟩
    rw [← hW3, ← hX] at T3
    have HW3 := hid hW3; have HX := hid hX
    clear hW3 hX p1 hp1
    go_wp2_with fail
    rw [← HW3.out, ← HX.out]
    refine (pick_any B b (N + 100) 20 _ T3.out.cur (by omega) (by omega)).mono ?_
    rintro e w4 ⟨r4, hr4, rfl, c4, g4⟩
    have T4 := hid (T3.out.step c4 g4)
    have hm : r4 ≤ 20 := by omega
    clear c4 g4 T3 HW3 HX hr4
    go_wp2
    go_loopw [5] (fun n wr => ∃ (j hi : Nat) (D : TuD) (s0 s1 s2 s3 : Value), n = .int .i64 j ∧ j ≤ r4 ∧ DrT w B b (N + 102 + 20 * (r4 - j)) wr X hi D s0 s1 s2 s3) (fun n _ => (intOf n).toNat)
    case atStart => exact ⟨r4, _, _, _, _, _, _, rfl, Nat.le_refl _, T4.out.mono (by omega)⟩
    case round =>
      obtain ⟨j, hi, D, s0, s1, s2, s3, rfl, hj, hT⟩ := hrel
      obtain ⟨M, hM⟩ : ∃ M, N + 102 + 20 * (r4 - j) = M := ⟨_, rfl⟩
      rw [hM] at hT
      obtain ⟨a0, n0, k0, a1, k1, g2, k2, g3, k3, rfl, rfl, rfl, rfl, hf1⟩ := hT.form
      have HT := hid hT
      clear hT T4
      by_cases hj0 : 0 < j
      · go_wp2_with fail
        have HTd : Hid (DrT w B b M wr.drew X hi D (.slice a0 n0 k0) (.slice a1 D.f1.length k1) (.slice (some ⟨g2, 0, none⟩) D.f2.length k2) (.slice (some ⟨g3, 0, none⟩) D.f3.length k3)) := HT.out.later (Below.refl _ _).drew
        clear HT
        refine wp_region_inv (fun l a wq => ∃ (v0 v1 v2 v3 v4 v5 v6 v7 v8 v9 v10 v11 v12 v13 v15 : Value) (u0 u1 u2 u3 : Value) (is : Bool) (D' : TuD) (S : Nat → Prop) (Y : Nat), a = { tmps := #[.pointer (some ⟨b, 0, none⟩), undef, .pointer (some ⟨w.heap.size, 0, none⟩), .pointer (some ⟨X, 0, none⟩), .bool true, .int .i64 (j : Nat), v13, v15, u8, u9, u10, (.tuple #[.agg #[.slice e0 f0 h0, .slice e1 f1 h1, .slice e2 f2 h2, .slice e3 f3 h3, .int .i64 D0.f4], .bool true]), .pointer (some ⟨b, 0, none⟩), qv, (.tuple #[.agg #[.slice e0 f0 h0, .slice e1 f1 h1, .slice e2 f2 h2, .slice e3 f3 h3, .int .i64 D0.f4], .bool true]), .agg #[.slice e0 f0 h0, .slice e1 f1 h1, .slice e2 f2 h2, .slice e3 f3 h3, .int .i64 D0.f4], .bool true, .bool true, .bool false, undef, undef, undef, undef, undef, .pointer (some ⟨b, 0, none⟩), .int .i64 (r4 : Nat), .int .i64 (j : Nat), .bool true, u28, u29, v10, v0, v1, v2, v3, v4, v5, v6, v7, v8, v9, v11, v12, u43, u44, u45, u46, u47, u48, u49, u50, u51, u52, u53, u54, u55, u56, undef, undef, undef, undef, undef, undef, undef, undef, undef, undef, undef, undef, undef, undef, undef, undef, undef, undef, undef, undef, undef], defers := [] } ∧ PI w B b M X hi D (.slice a0 n0 k0) (.slice a1 D.f1.length k1) (.slice (some ⟨g2, 0, none⟩) D.f2.length k2) (.slice (some ⟨g3, 0, none⟩) D.f3.length k3) u0 u1 u2 u3 is D' S Y l wq v0 v1 v2 v3 v4 v5 v6 v7 v8 v9 v10 v11 v12 v13 v15) (by kernel_rfl) ?_ ?_ ?_
        · exact ⟨_, _, _, _, _, _, _, _, _, _, _, _, _, _, _, _, _, _, _, _, _, _, _, rfl, PI.start HTd.out⟩
        rotate_left
        · rintro l a wq i ⟨v0, v1, v2, v3, v4, v5, v6, v7, v8, v9, v10, v11, v12, v13, v15, u0, u1, u2, u3, is, D', S, Y, rfl, H⟩ hi'
          obtain ⟨hun, o, ho, hall⟩ := mem_ready.1 hi'
          have hlt : i < 16 := (Array.getElem?_eq_some_iff.1 ho).1
          have hno : ¬ up l i := up_not hun
          clear hi' hun HTd
          have hi' : i = 0 ∨ i = 1 ∨ i = 2 ∨ i = 3 ∨ i = 4 ∨ i = 5 ∨ i = 6 ∨ i = 7 ∨ i = 8 ∨ i = 9 ∨ i = 10 ∨ i = 11 ∨ i = 12 ∨ i = 13 ∨ i = 14 ∨ i = 15 := by omega
          rcases hi' with rfl | rfl | rfl | rfl | rfl | rfl | rfl | rfl | rfl | rfl | rfl | rfl | rfl | rfl | rfl | rfl
          · have ho' : some _ = some o := ho
            injection ho' with ho'
            subst ho'
            clear hall ho hlt
            have TT : DrT w B b M wq X hi D (.slice a0 n0 k0) (.slice a1 D.f1.length k1) (.slice (some ⟨g2, 0, none⟩) D.f2.length k2) (.slice (some ⟨g3, 0, none⟩) D.f3.length k3) ∨ DrT w B b (M + 2) wq X hi D (.slice a0 n0 k0) (.slice a1 D.f1.length k1) (.slice (some ⟨g2, 0, none⟩) D.f2.length k2) (.slice (some ⟨g3, 0, none⟩) D.f3.length k3) ∨ DrT w B b (M + 4) wq X hi D (.slice a0 n0 k0) (.slice a1 D.f1.length k1) (.slice (some ⟨g2, 0, none⟩) D.f2.length k2) (.slice (some ⟨g3, 0, none⟩) D.f3.length k3) := by
              by_cases h5 : up l 5
              · by_cases h7 : up l 7
                · exact .inr (.inr (H.m9 h7))
                · exact .inr (.inl (H.m7 h5 h7))
              · exact .inl (H.m5 h5)
            have BX : BoxL wq X [.slice a0 n0 k0, .slice a1 D.f1.length k1, .slice (some ⟨g2, 0, none⟩) D.f2.length k2, .slice (some ⟨g3, 0, none⟩) D.f3.length k3, .int .i64 D.f4] := by rcases TT with h | h | h <;> exact h.box
            have hhi : hi ≤ wq.heap.size := by rcases TT with h | h | h <;> exact h.hh
            have hww : w.heap.size < wq.heap.size := by rcases TT with h | h | h <;> exact h.rb.lt
            clear TT
            obtain ⟨x0, x1, x2, x3, x4⟩ := BX.five
            clear hhi hww BX
            have HH := hid H
            clear H
            refine wpOp_step rfl (fun K hK => ?_)
            go_simp
            exact hK _ _ ⟨_, _, _, _, _, _, _, _, _, _, _, _, _, _, _, u0, u1, u2, u3, is, D', S, Y, rfl, HH.out.set0⟩
          · have ho' : some _ = some o := ho
            injection ho' with ho'
            subst ho'
            clear hall ho hlt
            have HH := hid H
            clear H
            refine wpOp_step rfl (fun K hK => ?_)
            go_simp
            exact hK _ _ ⟨_, _, _, _, _, _, _, _, _, _, _, _, _, _, _, u0, u1, u2, u3, is, D', S, Y, rfl, HH.out.set1⟩
          · have ho' : some _ = some o := ho
            injection ho' with ho'
            subst ho'
            clear hall ho hlt
            have HH := hid H
            clear H
            refine wpOp_step rfl (fun K hK => ?_)
            go_simp
            exact hK _ _ ⟨_, _, _, _, _, _, _, _, _, _, _, _, _, _, _, u0, u1, u2, u3, is, D', S, Y, rfl, HH.out.set2⟩
          · have ho' : some _ = some o := ho
            injection ho' with ho'
            subst ho'
            have u2' : up l 2 := hall ⟨2, .data⟩ (by simp) rfl
            clear hall ho hlt
            obtain rfl := H.f2 u2'
            have TT : DrT w B b M wq X hi D (.slice a0 n0 k0) (.slice a1 D.f1.length k1) (.slice (some ⟨g2, 0, none⟩) D.f2.length k2) (.slice (some ⟨g3, 0, none⟩) D.f3.length k3) ∨ DrT w B b (M + 2) wq X hi D (.slice a0 n0 k0) (.slice a1 D.f1.length k1) (.slice (some ⟨g2, 0, none⟩) D.f2.length k2) (.slice (some ⟨g3, 0, none⟩) D.f3.length k3) ∨ DrT w B b (M + 4) wq X hi D (.slice a0 n0 k0) (.slice a1 D.f1.length k1) (.slice (some ⟨g2, 0, none⟩) D.f2.length k2) (.slice (some ⟨g3, 0, none⟩) D.f3.length k3) := by
              by_cases h5 : up l 5
              · by_cases h7 : up l 7
                · exact .inr (.inr (H.m9 h7))
                · exact .inr (.inl (H.m7 h5 h7))
              · exact .inl (H.m5 h5)
            have BX : BoxL wq X [.slice a0 n0 k0, .slice a1 D.f1.length k1, .slice (some ⟨g2, 0, none⟩) D.f2.length k2, .slice (some ⟨g3, 0, none⟩) D.f3.length k3, .int .i64 D.f4] := by rcases TT with h | h | h <;> exact h.box
            have hhi : hi ≤ wq.heap.size := by rcases TT with h | h | h <;> exact h.hh
            have hww : w.heap.size < wq.heap.size := by rcases TT with h | h | h <;> exact h.rb.lt
            clear TT
            obtain ⟨x0, x1, x2, x3, x4⟩ := BX.five
            clear hhi hww BX
            have HH := hid H
            clear H
            refine wpOp_step rfl (fun K hK => ?_)
            go_simp
            exact hK _ _ ⟨_, _, _, _, _, _, _, _, _, _, _, _, _, _, _, u0, u1, u2, u3, is, D', S, Y, rfl, HH.out.set3⟩
          · have ho' : some _ = some o := ho
            injection ho' with ho'
            subst ho'
            have u3' : up l 3 := hall ⟨3, .data⟩ (by simp) rfl
            clear hall ho hlt
            obtain rfl := H.f3 u3'
            have HH := hid H
            clear H
            refine wpOp_step rfl (fun K hK => ?_)
            go_simp
            exact hK _ _ ⟨_, _, _, _, _, _, _, _, _, _, _, _, _, _, _, u0, u1, u2, u3, is, D', S, Y, rfl, HH.out.set4⟩
          · have ho' : some _ = some o := ho
            injection ho' with ho'
            subst ho'
            have u1' : up l 1 := hall ⟨1, .data⟩ (by simp) rfl
            have u4' : up l 4 := hall ⟨4, .data⟩ (by simp) rfl
            clear hall ho hlt
            obtain rfl := H.f1 u1'
            obtain rfl := H.f4 u4'
            have TM := H.m5 hno
            have HH := hid H
            clear H
            refine wpOp_step rfl (fun K hK => ?_)
            go_simp
            refine (pick_any B b M ((D.f1.length : Nat) : Int) _ TM.cur (by omega) (by omega)).mono ?_
            rintro e w5 ⟨r5, hr5, rfl, c5, g5⟩
            exact hK _ _ ⟨_, _, _, _, _, _, _, _, _, _, _, _, _, _, _, u0, u1, u2, u3, is, D', S, Y, rfl, HH.out.set5 hno (r5 : Int) TM c5 g5⟩
          · have ho' : some _ = some o := ho
            injection ho' with ho'
            subst ho'
            clear hall ho hlt
            have HH := hid H
            clear H
            refine wpOp_step rfl (fun K hK => ?_)
            go_simp
            exact hK _ _ ⟨_, _, _, _, _, _, _, _, _, _, _, _, _, _, _, u0, u1, u2, u3, is, D', S, Y, rfl, HH.out.set6⟩
          · have ho' : some _ = some o := ho
            injection ho' with ho'
            subst ho'
            have u6' : up l 6 := hall ⟨6, .data⟩ (by simp) rfl
            have u5' : up l 5 := hall ⟨5, .chain⟩ (by simp) rfl
            clear hall ho hlt
            obtain rfl := H.f6 u6'
            have TM := H.m7 u5' hno
            have HH := hid H
            clear H
            refine wpOp_step rfl (fun K hK => ?_)
            go_simp
            refine (pick_any B b (M + 2) 20 _ TM.cur (by omega) (by omega)).mono ?_
            rintro e w5 ⟨r5, hr5, rfl, c5, g5⟩
            exact hK _ _ ⟨_, _, _, _, _, _, _, _, _, _, _, _, _, _, _, u0, u1, u2, u3, is, D', S, Y, rfl, HH.out.set7 hno u5' r5 (by omega) TM c5 g5⟩
          · have ho' : some _ = some o := ho
            injection ho' with ho'
            subst ho'
            have u7' : up l 7 := hall ⟨7, .data⟩ (by simp) rfl
            clear hall ho hlt
            obtain ⟨z7, hz7, rfl⟩ := H.f7 u7'
            have HH := hid H
            clear H
            refine wpOp_step rfl (fun K hK => ?_)
            go_simp
            exact hK _ _ ⟨_, _, _, _, _, _, _, _, _, _, _, _, _, _, _, u0, u1, u2, u3, is, D', S, Y, rfl, HH.out.set8 _⟩
          · have ho' : some _ = some o := ho
            injection ho' with ho'
            subst ho'
            have u0' : up l 0 := hall ⟨0, .data⟩ (by simp) rfl
            have u5' : up l 5 := hall ⟨5, .data⟩ (by simp) rfl
            have u8' : up l 8 := hall ⟨8, .data⟩ (by simp) rfl
            have u7' : up l 7 := hall ⟨7, .chain⟩ (by simp) rfl
            clear hall ho hlt
            obtain rfl := H.f0 u0'
            obtain ⟨z5, rfl⟩ := H.f5 u5'
            obtain ⟨z8, rfl⟩ := H.f8 u8'
            have TM := H.m9 u7'
            have HH := hid H
            clear H
            refine wpOp_step rfl (fun K hK => ?_)
            go_simp
            refine (sput_case _ D z5 z8 _ TM.reads).mono ?_
            rintro e w5 ⟨u, js, E, rfl, ho5, hl5, bb⟩
            obtain ⟨b0, m0, p0, b1, m1, p1, b2, m2, p2, b3, m3, p3, rfl⟩ := ho5.form
            exact hK _ _ ⟨_, _, _, _, _, _, _, _, _, _, _, _, _, _, _, _, _, _, _, js, E, _, Y, rfl, HH.out.set9 hno u7' bb ho5 (fun h => by rw [(hl5 h).1, (hl5 h).2]; exact TM.len)⟩
          · have ho' : some _ = some o := ho
            injection ho' with ho'
            subst ho'
            have u9' : up l 9 := hall ⟨9, .data⟩ (by simp) rfl
            clear hall ho hlt
            obtain ⟨rfl, _, _⟩ := H.f9 u9'
            have HH := hid H
            clear H
            refine wpOp_step rfl (fun K hK => ?_)
            go_simp
            exact hK _ _ ⟨_, _, _, _, _, _, _, _, _, _, _, _, _, _, _, u0, u1, u2, u3, is, D', S, Y, rfl, HH.out.set10 u9'⟩
          · have ho' : some _ = some o := ho
            injection ho' with ho'
            subst ho'
            have u10' : up l 10 := hall ⟨10, .data⟩ (by simp) rfl
            clear hall ho hlt
            obtain rfl := H.f10 u10'
            have HH := hid H
            clear H
            refine wpOp_step rfl (fun K hK => ?_)
            go_simp
            exact hK _ _ ⟨_, _, _, _, _, _, _, _, _, _, _, _, _, _, _, u0, u1, u2, u3, is, D', S, Y, rfl, HH.out.set11 (HH.out.d10 u10')⟩
          · have ho' : some _ = some o := ho
            injection ho' with ho'
            subst ho'
            have u10' : up l 10 := hall ⟨10, .data⟩ (by simp) rfl
            clear hall ho hlt
            obtain rfl := H.f10 u10'
            have HH := hid H
            clear H
            refine wpOp_step rfl (fun K hK => ?_)
            go_simp
            exact hK _ _ ⟨_, _, _, _, _, _, _, _, _, _, _, _, _, _, _, u0, u1, u2, u3, is, D', S, Y, rfl, HH.out.set12 (HH.out.d10 u10')⟩
          · have ho' : some _ = some o := ho
            injection ho' with ho'
            subst ho'
            clear hall ho hlt
            have TT : DrT w B b M wq X hi D (.slice a0 n0 k0) (.slice a1 D.f1.length k1) (.slice (some ⟨g2, 0, none⟩) D.f2.length k2) (.slice (some ⟨g3, 0, none⟩) D.f3.length k3) ∨ DrT w B b (M + 2) wq X hi D (.slice a0 n0 k0) (.slice a1 D.f1.length k1) (.slice (some ⟨g2, 0, none⟩) D.f2.length k2) (.slice (some ⟨g3, 0, none⟩) D.f3.length k3) ∨ DrT w B b (M + 4) wq X hi D (.slice a0 n0 k0) (.slice a1 D.f1.length k1) (.slice (some ⟨g2, 0, none⟩) D.f2.length k2) (.slice (some ⟨g3, 0, none⟩) D.f3.length k3) := by
              by_cases h5 : up l 5
              · by_cases h7 : up l 7
                · exact .inr (.inr (H.m9 h7))
                · exact .inr (.inl (H.m7 h5 h7))
              · exact .inl (H.m5 h5)
            have BX : BoxL wq X [.slice a0 n0 k0, .slice a1 D.f1.length k1, .slice (some ⟨g2, 0, none⟩) D.f2.length k2, .slice (some ⟨g3, 0, none⟩) D.f3.length k3, .int .i64 D.f4] := by rcases TT with h | h | h <;> exact h.box
            have hhi : hi ≤ wq.heap.size := by rcases TT with h | h | h <;> exact h.hh
            have hww : w.heap.size < wq.heap.size := by rcases TT with h | h | h <;> exact h.rb.lt
            clear TT
            have hX := BX.lt
            clear BX
            have HH := hid H
            clear H
            refine wpOp_step rfl (fun K hK => ?_)
            go_simp
            have kq := boxL_new wq [.slice none 0 0, .slice none 0 0, .slice none 0 0, .slice none 0 0, .int .i64 0] 55
            exact hK _ _ ⟨_, _, _, _, _, _, _, _, _, _, _, _, _, _, _, u0, u1, u2, u3, is, D', S, _, rfl, HH.out.set13 hno ((Below.refl _ _).alloc (Nat.le_refl _) _) kq hww hX hhi⟩
          · have ho' : some _ = some o := ho
            injection ho' with ho'
            subst ho'
            have u13' : up l 13 := hall ⟨13, .data⟩ (by simp) rfl
            have u11' : up l 11 := hall ⟨11, .data⟩ (by simp) rfl
            have u9' : up l 9 := hall ⟨9, .chain⟩ (by simp) rfl
            clear hall ho hlt
            obtain ⟨rfl, _, _, _, hbx, _⟩ := H.f13 u13'
            obtain rfl := H.f11 u11'
            have BY := hbx hno
            obtain ⟨x0, x1, x2, x3, x4⟩ := BY.five
            have y0 := (BY.cell 0 (by simp)).2
            have y1 := (BY.cell 1 (by simp)).2
            have y2 := (BY.cell 2 (by simp)).2
            have y3 := (BY.cell 3 (by simp)).2
            have y4 := (BY.cell 4 (by simp)).2
            have ho9 := (H.f9 u9').2.1
            obtain ⟨b0, m0, p0, b1, m1, p1, b2, m2, p2, b3, m3, p3, e9⟩ := ho9.form
            simp only [Value.agg.injEq, Array.mk.injEq, List.cons.injEq, and_true] at e9
            obtain ⟨rfl, rfl, rfl, rfl⟩ := e9
            clear hbx BY ho9
            have HH := hid H
            clear H
            refine wpOp_step rfl (fun K hK => ?_)
            go_simp
            exact hK _ _ ⟨_, _, _, _, _, _, _, _, _, _, _, _, _, _, _, _, _, _, _, is, D', S, Y, rfl, HH.out.set14 hno u9' u13'⟩
          · have ho' : some _ = some o := ho
            injection ho' with ho'
            subst ho'
            have u12' : up l 12 := hall ⟨12, .data⟩ (by simp) rfl
            have u14' : up l 14 := hall ⟨14, .chain⟩ (by simp) rfl
            clear hall ho hlt
            obtain rfl := H.f12 u12'
            have HH := hid H
            clear H
            refine wpOp_step rfl (fun K hK => ?_)
            go_simp
            exact hK _ _ ⟨_, _, _, _, _, _, _, _, _, _, _, _, _, _, _, u0, u1, u2, u3, is, D', S, Y, rfl, HH.out.set15 (HH.out.d12 u12')⟩
        rintro l a wq ⟨v0, v1, v2, v3, v4, v5, v6, v7, v8, v9, v10, v11, v12, v13, v15, u0, u1, u2, u3, is, D', S, Y, rfl, H⟩ hrd
        have hall := up_allA hrd (H.sz.trans rfl) (by kernel_rfl)
        obtain rfl := H.f0 (hall 0 (by decide))
        obtain rfl := H.f1 (hall 1 (by decide))
        obtain rfl := H.f2 (hall 2 (by decide))
        obtain rfl := H.f3 (hall 3 (by decide))
        obtain rfl := H.f4 (hall 4 (by decide))
        obtain rfl := H.f6 (hall 6 (by decide))
        obtain rfl := H.f10 (hall 10 (by decide))
        obtain rfl := H.f11 (hall 11 (by decide))
        obtain rfl := H.f12 (hall 12 (by decide))
        obtain rfl := H.f15 (hall 15 (by decide))
        obtain ⟨z5, rfl⟩ := H.f5 (hall 5 (by decide))
        obtain ⟨z7, _, rfl⟩ := H.f7 (hall 7 (by decide))
        obtain ⟨z8, rfl⟩ := H.f8 (hall 8 (by decide))
        obtain ⟨rfl, ho9, hl9⟩ := H.f9 (hall 9 (by decide))
        obtain ⟨rfl, hY1, hY2, hY3, _, hY4⟩ := H.f13 (hall 13 (by decide))
        have BY := hid (hY4 (hall 14 (by decide)))
        have T5 := hid (H.m9 (hall 7 (by decide)))
        have HS := hid H.hS
        have HO := hid ho9
        obtain ⟨b0, m0, p0, b1, m1, p1, b2, m2, p2, b3, m3, p3, e9⟩ := ho9.form
        simp only [Value.agg.injEq, Array.mk.injEq, List.cons.injEq, and_true] at e9
        obtain ⟨rfl, rfl, rfl, rfl⟩ := e9
        clear H hrd hall ho9 hY4 HTd
        cases is
        · clear HO BY HS hl9 hY1 hY2 hY3
          obtain ⟨x0, x1, x2, x3, x4⟩ := T5.out.box.five
          go_wp2_with fail
          refine (snext_case _ D _ T5.out.reads).mono ?_
          rintro e w6 ⟨q, pp, js, E, S6, rfl, ho6, hl6, hS6, bb6⟩
          obtain ⟨c0, l0, q0, c1, l1, q1, c2, l2, q2, c3, l3, q3, rfl⟩ := ho6.form
          have T6 := hid (T5.out.later bb6)
          have hs6 := bb6.size
          have hlen6 : Hid (js = true → 0 < E.f2.length ∧ 0 < E.f3.length) := fun h => by rw [(hl6 h).1, (hl6 h).2]; exact T5.out.len
          have hw6 : ∀ g, S6 g → w.heap.size < g ∧ g < w6.heap.size ∧ g ≠ X := fun g hg => by have := hS6 g hg; have := T5.out.rb.lt; have := T5.out.box.lt; omega
          clear bb6 hl6 hS6 x0 x1 x2 x3 x4 T5
          have ba : Below w6.heap.size w6 (w6.alloc (.cells #[.slice c0 l0 q0, .slice c1 l1 q1, .slice c2 l2 q2, .slice c3 l3 q3, .int .i64 E.f4] 55)) := (Below.refl _ _).alloc (Nat.le_refl _) _
          have B7 := hid (boxL_new w6 [.slice c0 l0 q0, .slice c1 l1 q1, .slice c2 l2 q2, .slice c3 l3 q3, .int .i64 E.f4] 55)
          have T7 := hid (T6.out.later ba)
          have O7 := hid (ho6.below ba)
          have hw7 : ∀ g, S6 g → w.heap.size < g ∧ g < (w6.alloc (.cells #[.slice c0 l0 q0, .slice c1 l1 q1, .slice c2 l2 q2, .slice c3 l3 q3, .int .i64 E.f4] 55)).heap.size ∧ g ≠ X := fun g hg => by have := hw6 g hg; have := ba.size; omega
          have hX7 : X < w6.heap.size := T6.out.box.lt
          clear ba ho6 T6 hw6
          cases js
          · go_wp2
            go_roundw
            case rel => exact ⟨j - 1, _, _, _, _, _, _, by go_num, by omega, T7.out.mono (by omega)⟩
            case measure => simp [intOf]; omega
          have HL6 := hid (hlen6.out rfl)
          clear hlen6
          go_wp2_with fail
          refine (one_any B b (M + 4) 4 _ T7.out.cur (by omega) (by omega)).mono ?_
          rintro e w8 ⟨t8, rfl, c8, g8⟩
          have T8 := hid (T7.out.step c8 g8)
          have hs8 := g8.size
          have O8 := hid (O7.out.at (w' := w8) fun g hg hl => g8.block g hl (by intro e; cases e; have := hw7 b hg; omega))
          have B8 := hid (B7.out.of_block (g8.block w6.heap.size (by rw [World.size_alloc]; omega) (by intro e; cases e; have := T8.out.xr; omega)))
          have hw8 : ∀ g, S6 g → w.heap.size < g ∧ g < w8.heap.size ∧ g ≠ X := fun g hg => by have := hw7 g hg; omega
          clear c8 g8 T7 O7 B7 hw7
          cases t8
          · go_wp2
            go_roundw
            case rel => exact ⟨j - 1, _, _, _, _, _, _, by go_num, by omega, T8.out.mono (by omega)⟩
            case measure => simp [intOf]; omega
          obtain ⟨x0, x1, x2, x3, x4⟩ := T8.out.box.five
          have f0 := (T8.out.box.cell 0 (by simp)).2
          have f1 := (T8.out.box.cell 1 (by simp)).2
          have f2 := (T8.out.box.cell 2 (by simp)).2
          have f3 := (T8.out.box.cell 3 (by simp)).2
          have f4 := (T8.out.box.cell 4 (by simp)).2
          obtain ⟨y0, y1, y2, y3, y4⟩ := B8.out.five
          have T9 := hid (T8.out.put O8.out hw8 HL6.out)
          clear T8 O8 B8 hw8
          go_wp2
          go_roundw
          case rel => exact ⟨j - 1, _, _, _, _, _, _, by go_num, by omega, T9.out.mono (by omega)⟩
          case measure => simp [intOf]; omega
        obtain ⟨x0, x1, x2, x3, x4⟩ := T5.out.box.five
        have f0 := (T5.out.box.cell 0 (by simp)).2
        have f1 := (T5.out.box.cell 1 (by simp)).2
        have f2 := (T5.out.box.cell 2 (by simp)).2
        have f3 := (T5.out.box.cell 3 (by simp)).2
        have f4 := (T5.out.box.cell 4 (by simp)).2
        obtain ⟨y0, y1, y2, y3, y4⟩ := BY.out.five
        have T5b := hid (T5.out.put HO.out HS.out (hl9 rfl))
        have hq : Hid (∀ W, W = tput5 wq X (.slice b0 m0 p0) (.slice b1 m1 p1) (.slice b2 m2 p2) (.slice b3 m3 p3) (.int .i64 D'.f4) → True) := fun _ _ => trivial
        clear hq hl9 hY1 hY2 hY3 HO HS
        obtain ⟨wz, hwz⟩ : ∃ W, W = tput5 wq X (.slice b0 m0 p0) (.slice b1 m1 p1) (.slice b2 m2 p2) (.slice b3 m3 p3) (.int .i64 D'.f4) := ⟨_, rfl⟩
        rw [← hwz] at T5b
        have HZ := hid hwz
        clear T5 BY
        have g0 := T5b.out.box.five
        rw [hwz] at g0
        obtain ⟨g00, g01, g02, g03, g04⟩ := g0
        clear hwz
        go_wp2_with fail
        refine (snext_case _ D' _ (by have := T5b.out.reads; rw [HZ.out] at this; exact this)).mono ?_
        rintro e w6 ⟨q, pp, js, E, S6, rfl, ho6, hl6, hS6, bb6⟩
        obtain ⟨c0, l0, q0, c1, l1, q1, c2, l2, q2, c3, l3, q3, rfl⟩ := ho6.form
        have hz := HZ.out
        simp only [tput5] at hz
        rw [← hz] at bb6 hS6
        clear hz
        clear x0 x1 x2 x3 x4 y0 y1 y2 y3 y4 f0 f1 f2 f3 f4 g00 g01 g02 g03 g04 HZ
        have T6 := hid (T5b.out.later bb6)
        have hs6 := bb6.size
        have hlen6 : Hid (js = true → 0 < E.f2.length ∧ 0 < E.f3.length) := fun h => by rw [(hl6 h).1, (hl6 h).2]; exact T5b.out.len
        have hw6 : ∀ g, S6 g → w.heap.size < g ∧ g < w6.heap.size ∧ g ≠ X := fun g hg => by have := hS6 g hg; have := T5b.out.rb.lt; have := T5b.out.box.lt; omega
        clear bb6 hl6 hS6 T5b
        have ba : Below w6.heap.size w6 (w6.alloc (.cells #[.slice c0 l0 q0, .slice c1 l1 q1, .slice c2 l2 q2, .slice c3 l3 q3, .int .i64 E.f4] 55)) := (Below.refl _ _).alloc (Nat.le_refl _) _
        have B7 := hid (boxL_new w6 [.slice c0 l0 q0, .slice c1 l1 q1, .slice c2 l2 q2, .slice c3 l3 q3, .int .i64 E.f4] 55)
        have T7 := hid (T6.out.later ba)
        have O7 := hid (ho6.below ba)
        have hw7 : ∀ g, S6 g → w.heap.size < g ∧ g < (w6.alloc (.cells #[.slice c0 l0 q0, .slice c1 l1 q1, .slice c2 l2 q2, .slice c3 l3 q3, .int .i64 E.f4] 55)).heap.size ∧ g ≠ X := fun g hg => by have := hw6 g hg; have := ba.size; omega
        have hX7 : X < w6.heap.size := T6.out.box.lt
        clear ba ho6 T6 hw6
        cases js
        · go_wp2
          go_roundw
          case rel => exact ⟨j - 1, _, _, _, _, _, _, by go_num, by omega, T7.out.mono (by omega)⟩
          case measure => simp [intOf]; omega
        have HL6 := hid (hlen6.out rfl)
        clear hlen6
        go_wp2_with fail
        refine (one_any B b (M + 4) 4 _ T7.out.cur (by omega) (by omega)).mono ?_
        rintro e w8 ⟨t8, rfl, c8, g8⟩
        have T8 := hid (T7.out.step c8 g8)
        have hs8 := g8.size
        have O8 := hid (O7.out.at (w' := w8) fun g hg hl => g8.block g hl (by intro e; cases e; have := hw7 b hg; omega))
        have B8 := hid (B7.out.of_block (g8.block w6.heap.size (by rw [World.size_alloc]; omega) (by intro e; cases e; have := T8.out.xr; omega)))
        have hw8 : ∀ g, S6 g → w.heap.size < g ∧ g < w8.heap.size ∧ g ≠ X := fun g hg => by have := hw7 g hg; omega
        clear c8 g8 T7 O7 B7 hw7
        cases t8
        · go_wp2
          go_roundw
          case rel => exact ⟨j - 1, _, _, _, _, _, _, by go_num, by omega, T8.out.mono (by omega)⟩
          case measure => simp [intOf]; omega
        obtain ⟨x0, x1, x2, x3, x4⟩ := T8.out.box.five
        have f0 := (T8.out.box.cell 0 (by simp)).2
        have f1 := (T8.out.box.cell 1 (by simp)).2
        have f2 := (T8.out.box.cell 2 (by simp)).2
        have f3 := (T8.out.box.cell 3 (by simp)).2
        have f4 := (T8.out.box.cell 4 (by simp)).2
        obtain ⟨y0, y1, y2, y3, y4⟩ := B8.out.five
        have T9 := hid (T8.out.put O8.out hw8 HL6.out)
        clear T8 O8 B8 hw8
        go_wp2
        go_roundw
        case rel => exact ⟨j - 1, _, _, _, _, _, _, by go_num, by omega, T9.out.mono (by omega)⟩
        case measure => simp [intOf]; omega
      · obtain rfl : j = 0 := by omega
        have hMb : M ≤ N + 600 := by omega
        clear hM
        have HE : Hid (∀ (W : World) (D2 : TuD) (s0 s1 s2 s3 : Value) (N2 hi2 : Nat), DrT w B b N2 W X hi2 D2 s0 s1 s2 s3 → N2 ≤ N + 1000 → ∀ (tmps : Array Value), tmps[2]?.getD undef = .pointer (some ⟨w.heap.size, 0, none⟩) →
          bodyPost Try.prog Try.f96 (fun e w' => ∃ v, e = .returned v ∧ (∃ (D : TuD) (S : Nat → Prop), TuOwn S w' v D ∧ ∀ g, S g → w.heap.size ≤ g ∧ g < w'.heap.size) ∧ Cur B w' b (N + 1000) ∧ w.grownBy w' (some b)) .ret { tmps := tmps, defers := [] } (tput5 W w.heap.size s0 s1 s2 s3 (.int .i64 D2.f4))) := by
          intro W D2 s0 s1 s2 s3 N2 hi2 hT hN2 tmps ht
          obtain ⟨⟨S, hr⟩, hc, hg, hb⟩ := hT.told
          obtain ⟨e0, e1, e2, e3, e4⟩ := hb.five
          exact bodyPost_ret (v := .agg #[s0, s1, s2, s3, .int .i64 D2.f4]) (by simp [results, Try.results96, go_sem, ht, e0, e1, e2, e3, e4]) rfl ⟨_, rfl, ⟨D2, S, hr⟩, hc.mono hN2, hg⟩
        go_wp2_with fail
        refine (pick_any B b M 30 _ HT.out.cur (by omega) (by omega)).mono ?_
        rintro e w5 ⟨r5, _, rfl, c5, g5⟩
        have T5 := hid (HT.out.step c5 g5)
        clear c5 g5 HT
        obtain ⟨z, hz⟩ : ∃ z : Int, (r5 : Int) = z := ⟨_, rfl⟩
        rw [hz]
        clear hz
        by_cases z0 : z = 0
        · have d0 : (z == 0) = true := by simpa using z0
          clear z0
          go_wp2_with fail
          refine (pick_any B b (M + 2) 6 _ T5.out.cur (by omega) (by omega)).mono ?_
          rintro e w7 ⟨r7, hr7, rfl, c7, g7⟩
          have T7 := hid (T5.out.step c7 g7)
          clear c7 g7 T5
          obtain ⟨y, hy⟩ : ∃ y : Int, IntKind.i64.wrap ((r7 : Int) - 1) = y := ⟨_, rfl⟩
          have T8 := hid (T7.out.set4 y)
          clear hr7
          obtain ⟨x0', x1', x2', x3', x4'⟩ := T7.out.box.five
          have fz := (T7.out.box.cell 4 (by simp)).2
          obtain ⟨r0, r1, r2, r3, r5'⟩ := T8.out.rb.five
          have h0 := (T8.out.rb.cell 0 (by simp)).2
          have h1 := (T8.out.rb.cell 1 (by simp)).2
          have h2 := (T8.out.rb.cell 2 (by simp)).2
          have h3 := (T8.out.rb.cell 3 (by simp)).2
          have h4 := (T8.out.rb.cell 4 (by simp)).2
          obtain ⟨x0, x1, x2, x3, x4⟩ := T8.out.box.five
          go_wp2
          exact HE.out _ ⟨D.f0, D.f1, D.f2, D.f3, y⟩ _ _ _ _ _ _ T8.out (by omega) _ rfl
        have d0 : (z == 0) = false := by simpa using z0
        by_cases z1 : z = 1
        · have d1 : (z == 1) = true := by simpa using z1
          clear z0 z1
          obtain ⟨m0', m1', m2', m3', m4'⟩ := T5.out.box.five
          have hp2 : (0 : Int) < ((D.f2.length : Nat) : Int) := by have := T5.out.len.1; omega
          go_wp2_with fail
          go_region_with (go_at_call 73; refine (pick_any B b (M + 2) 30 _ (T5.out.later (Below.refl _ _).drew).cur (by omega) (by omega)).mono ?_; rintro e w7 ⟨r7, hr7, rfl, c7, g7⟩; have T7 := hid ((T5.out.later (Below.refl _ _).drew).step c7 g7); obtain ⟨T8', ⟨y8, hy8⟩, hf8⟩ := T7.out.set2 (r7 : Int); have T8 := hid T8'; clear T8' c7 g7 hr7; obtain ⟨x0', x1', x2', x3', x4'⟩ := T7.out.box.five)
          all_goals clear hy8 hf8 x0' x1' x2' x3' x4' m0' m1' m2' m3' m4' T7 T5 hp2 d0 d1
          all_goals obtain ⟨W8, hW8⟩ : ∃ W, W = w7.setCell ⟨g2, 0, none⟩ (.int .i64 (r7 : Int)) := ⟨_, rfl⟩
          all_goals rw [← hW8] at T8 ⊢
          all_goals clear hW8
          all_goals
            obtain ⟨r0, r1, r2, r3, r5'⟩ := T8.out.rb.five
            have h0 := (T8.out.rb.cell 0 (by simp)).2
            have h1 := (T8.out.rb.cell 1 (by simp)).2
            have h2 := (T8.out.rb.cell 2 (by simp)).2
            have h3 := (T8.out.rb.cell 3 (by simp)).2
            have h4 := (T8.out.rb.cell 4 (by simp)).2
            obtain ⟨x0, x1, x2, x3, x4⟩ := T8.out.box.five
            go_wp2
            exact HE.out _ ⟨D.f0, D.f1, D.f2.set 0 (r7 : Int), D.f3, D.f4⟩ _ _ _ _ _ _ T8.out (by omega) _ rfl
        have d1 : (z == 1) = false := by simpa using z1
        by_cases z2 : z = 2
        · have d2 : (z == 2) = true := by simpa using z2
          clear z0 z1 z2
          obtain ⟨T8', ⟨y8, hy8⟩, hf8⟩ := T5.out.set3 1000000
          have T8 := hid T8'
          clear T8'
          obtain ⟨x0', x1', x2', x3', x4'⟩ := T5.out.box.five
          have hp3 : (0 : Int) < ((D.f3.length : Nat) : Int) := by have := T5.out.len.2; omega
          obtain ⟨r0, r1, r2, r3, r5'⟩ := T8.out.rb.five
          have h0 := (T8.out.rb.cell 0 (by simp)).2
          have h1 := (T8.out.rb.cell 1 (by simp)).2
          have h2 := (T8.out.rb.cell 2 (by simp)).2
          have h3 := (T8.out.rb.cell 3 (by simp)).2
          have h4 := (T8.out.rb.cell 4 (by simp)).2
          obtain ⟨x0, x1, x2, x3, x4⟩ := T8.out.box.five
          go_wp2
          exact HE.out _ ⟨D.f0, D.f1, D.f2, D.f3.set 0 1000000, D.f4⟩ _ _ _ _ _ _ T8.out (by omega) _ rfl
        have d2 : (z == 2) = false := by simpa using z2
        clear z0 z1 z2
        obtain ⟨r0, r1, r2, r3, r5'⟩ := T5.out.rb.five
        have h0 := (T5.out.rb.cell 0 (by simp)).2
        have h1 := (T5.out.rb.cell 1 (by simp)).2
        have h2 := (T5.out.rb.cell 2 (by simp)).2
        have h3 := (T5.out.rb.cell 3 (by simp)).2
        have h4 := (T5.out.rb.cell 4 (by simp)).2
        obtain ⟨x0, x1, x2, x3, x4⟩ := T5.out.box.five
        go_wp2
        exact HE.out _ D _ _ _ _ _ _ T5.out (by omega) _ rfl
  go_wp2_with fail
  refine (snewT_no qv xs _ O1.out HOK.out).mono ?_
  rintro e w2 ⟨u, rfl, t2, b2⟩
  have hs2 := b2.size
  have eb := b2.block w.heap.size (by omega)
  obtain ⟨c0, d0, i0, c1, d1, i1, c2, d2, i2, c3, d3, i3, rfl⟩ := t2.form
  obtain ⟨zz, hzz⟩ : ∃ z : Int, (noT).f4 = z := ⟨_, rfl⟩
  rw [hzz]
  have ba : Below w2.heap.size w2 (w2.alloc (.cells #[.slice c0 d0 i0, .slice c1 d1 i1, .slice c2 d2 i2, .slice c3 d3 i3, .int .i64 zz] 55)) := (Below.refl _ _).alloc (Nat.le_refl _) _
  have hsa : (w2.alloc (.cells #[.slice c0 d0 i0, .slice c1 d1 i1, .slice c2 d2 i2, .slice c3 d3 i3, .int .i64 zz] 55)).heap.size = w2.heap.size + 1 := World.size_alloc ..
  have R2 := hid ((R1.out.of_block eb).below ba (by omega)); have C2 := hid ((C1.out.below b2).below ba); have G2 := hid (only_trans (only_trans G1.out (only_of_below b2)) (only_of_below ba))
  have K2 := hid (boxL_new w2 [.slice c0 d0 i0, .slice c1 d1 i1, .slice c2 d2 i2, .slice c3 d3 i3, .int .i64 zz] 55)
  clear hzz t2 b2 eb ba R1 C1 G1 O1 HOK
  obtain ⟨Wa, hWa⟩ : ∃ W, W = w2.alloc (.cells #[.slice c0 d0 i0, .slice c1 d1 i1, .slice c2 d2 i2, .slice c3 d3 i3, .int .i64 zz] 55) := ⟨_, rfl⟩
  obtain ⟨X, hX⟩ : ∃ X, X = w2.heap.size := ⟨_, rfl⟩
  rw [← hWa, ← hX] at hsa
  rw [← hWa] at R2 C2 G2
  rw [← hWa, ← hX] at K2
  have HWa := hid hWa; have HX := hid hX
  have hwX : w.heap.size < X := by omega
  clear hWa hX hs2
  have bl : Below Wa.heap.size Wa (Wa.alloc (.cells #[.int .i64 20] 3)) := (Below.refl _ _).alloc (Nat.le_refl _) _
  have hsl : (Wa.alloc (.cells #[.int .i64 20] 3)).heap.size = X + 2 := by rw [World.size_alloc, hsa]
  have R3 := hid (R2.out.below bl (by have := R2.out.lt; omega)); have C3 := hid (C2.out.below bl); have G3 := hid (only_trans G2.out (only_of_below bl)); have K3 := hid (K2.out.below bl K2.out.lt)
  have Q3 := hid (kreads_int Wa 20)
  clear bl R2 C2 G2 K2
  go_wp2_with fail
  rw [← HX.out, ← HWa.out]
  refine (snewT_yes _ [20] _ (by have := Q3.out; rw [hsa] at this; exact this) one_new).mono ?_
  rintro e w3 ⟨u, rfl, t3, b3⟩
  obtain ⟨e0, f0, h0, e1, f1, h1, e2, f2, h2, e3, f3, h3, rfl⟩ := t3.form
  have hs3 := b3.size
  have K4 := hid (K3.out.below b3 K3.out.lt)
  have T3 := hid (DrT.lay (w := w) (B := B) (b := b) (N := N + 100) t3 K4.out hwX (by omega) (new_lens one_new) (R3.out.below b3 R3.out.lt) (C3.out.below b3) (only_trans G3.out (only_of_below b3)) ⟨hBb, hbw⟩)
  obtain ⟨D0, hD⟩ : ∃ D, newT [20] = D := ⟨_, rfl⟩
  rw [hD] at T3 ⊢
  clear hD t3 b3 R3 C3 G3 K3 Q3 HWa HX hs3 hsl hsa
  obtain ⟨x0, x1, x2, x3, x4⟩ := K4.out.five
  have j0 := (K4.out.cell 0 (by simp)).2
  have j1 := (K4.out.cell 1 (by simp)).2
  have j2 := (K4.out.cell 2 (by simp)).2
  have j3 := (K4.out.cell 3 (by simp)).2
  have j4 := (K4.out.cell 4 (by simp)).2
  clear K4
  go_wp2_with fail
  refine (pick_any B b (N + 100) 20 _ T3.out.cur (by omega) (by omega)).mono ?_
  rintro e w4 ⟨r4, hr4, rfl, c4, g4⟩
  have T4 := hid (T3.out.step c4 g4)
  have hm : r4 ≤ 20 := by omega
  clear c4 g4 T3 hr4 x0 x1 x2 x3 x4 j0 j1 j2 j3 j4
  go_wp2
  go_loopw [5] (fun n wr => ∃ (j hi : Nat) (D : TuD) (s0 s1 s2 s3 : Value), n = .int .i64 j ∧ j ≤ r4 ∧ DrT w B b (N + 102 + 20 * (r4 - j)) wr X hi D s0 s1 s2 s3) (fun n _ => (intOf n).toNat)
  case atStart => exact ⟨r4, _, _, _, _, _, _, rfl, Nat.le_refl _, T4.out.mono (by omega)⟩
  case round =>
    obtain ⟨j, hi, D, s0, s1, s2, s3, rfl, hj, hT⟩ := hrel
    obtain ⟨M, hM⟩ : ∃ M, N + 102 + 20 * (r4 - j) = M := ⟨_, rfl⟩
    rw [hM] at hT
    obtain ⟨a0, n0, k0, a1, k1, g2, k2, g3, k3, rfl, rfl, rfl, rfl, hf1⟩ := hT.form
    have HT := hid hT
    clear hT T4
    by_cases hj0 : 0 < j
    · go_wp2_with fail
      have HTd : Hid (DrT w B b M wr.drew X hi D (.slice a0 n0 k0) (.slice a1 D.f1.length k1) (.slice (some ⟨g2, 0, none⟩) D.f2.length k2) (.slice (some ⟨g3, 0, none⟩) D.f3.length k3)) := HT.out.later (Below.refl _ _).drew
      clear HT
      refine wp_region_inv (fun l a wq => ∃ (v0 v1 v2 v3 v4 v5 v6 v7 v8 v9 v10 v11 v12 v13 v15 : Value) (u0 u1 u2 u3 : Value) (is : Bool) (D' : TuD) (S : Nat → Prop) (Y : Nat), a = { tmps := #[.pointer (some ⟨b, 0, none⟩), undef, .pointer (some ⟨w.heap.size, 0, none⟩), .pointer (some ⟨X, 0, none⟩), .bool false, .int .i64 (j : Nat), v13, v15, u8, u9, u10, (.tuple #[.agg #[.slice c0 d0 i0, .slice c1 d1 i1, .slice c2 d2 i2, .slice c3 d3 i3, .int .i64 zz], .bool false]), .pointer (some ⟨b, 0, none⟩), qv, (.tuple #[.agg #[.slice c0 d0 i0, .slice c1 d1 i1, .slice c2 d2 i2, .slice c3 d3 i3, .int .i64 zz], .bool false]), .agg #[.slice c0 d0 i0, .slice c1 d1 i1, .slice c2 d2 i2, .slice c3 d3 i3, .int .i64 zz], .bool false, .bool false, .bool true, (.tuple #[.agg #[.slice e0 f0 h0, .slice e1 f1 h1, .slice e2 f2 h2, .slice e3 f3 h3, .int .i64 D0.f4], .bool true]), .slice (some ⟨X + 1, 0, none⟩) 1 1, (.tuple #[.agg #[.slice e0 f0 h0, .slice e1 f1 h1, .slice e2 f2 h2, .slice e3 f3 h3, .int .i64 D0.f4], .bool true]), .agg #[.slice e0 f0 h0, .slice e1 f1 h1, .slice e2 f2 h2, .slice e3 f3 h3, .int .i64 D0.f4], .bool true, .pointer (some ⟨b, 0, none⟩), .int .i64 (r4 : Nat), .int .i64 (j : Nat), .bool true, u28, u29, v10, v0, v1, v2, v3, v4, v5, v6, v7, v8, v9, v11, v12, u43, u44, u45, u46, u47, u48, u49, u50, u51, u52, u53, u54, u55, u56, undef, undef, undef, undef, undef, undef, undef, undef, undef, undef, undef, undef, undef, undef, undef, undef, undef, undef, undef, undef, undef], defers := [] } ∧ PI w B b M X hi D (.slice a0 n0 k0) (.slice a1 D.f1.length k1) (.slice (some ⟨g2, 0, none⟩) D.f2.length k2) (.slice (some ⟨g3, 0, none⟩) D.f3.length k3) u0 u1 u2 u3 is D' S Y l wq v0 v1 v2 v3 v4 v5 v6 v7 v8 v9 v10 v11 v12 v13 v15) (by kernel_rfl) ?_ ?_ ?_
      · exact ⟨_, _, _, _, _, _, _, _, _, _, _, _, _, _, _, _, _, _, _, _, _, _, _, rfl, PI.start HTd.out⟩
      rotate_left
      · rintro l a wq i ⟨v0, v1, v2, v3, v4, v5, v6, v7, v8, v9, v10, v11, v12, v13, v15, u0, u1, u2, u3, is, D', S, Y, rfl, H⟩ hi'
        obtain ⟨hun, o, ho, hall⟩ := mem_ready.1 hi'
        have hlt : i < 16 := (Array.getElem?_eq_some_iff.1 ho).1
        have hno : ¬ up l i := up_not hun
        clear hi' hun HTd
        have hi' : i = 0 ∨ i = 1 ∨ i = 2 ∨ i = 3 ∨ i = 4 ∨ i = 5 ∨ i = 6 ∨ i = 7 ∨ i = 8 ∨ i = 9 ∨ i = 10 ∨ i = 11 ∨ i = 12 ∨ i = 13 ∨ i = 14 ∨ i = 15 := by omega
        rcases hi' with rfl | rfl | rfl | rfl | rfl | rfl | rfl | rfl | rfl | rfl | rfl | rfl | rfl | rfl | rfl | rfl
        · have ho' : some _ = some o := ho
          injection ho' with ho'
          subst ho'
          clear hall ho hlt
          have TT : DrT w B b M wq X hi D (.slice a0 n0 k0) (.slice a1 D.f1.length k1) (.slice (some ⟨g2, 0, none⟩) D.f2.length k2) (.slice (some ⟨g3, 0, none⟩) D.f3.length k3) ∨ DrT w B b (M + 2) wq X hi D (.slice a0 n0 k0) (.slice a1 D.f1.length k1) (.slice (some ⟨g2, 0, none⟩) D.f2.length k2) (.slice (some ⟨g3, 0, none⟩) D.f3.length k3) ∨ DrT w B b (M + 4) wq X hi D (.slice a0 n0 k0) (.slice a1 D.f1.length k1) (.slice (some ⟨g2, 0, none⟩) D.f2.length k2) (.slice (some ⟨g3, 0, none⟩) D.f3.length k3) := by
            by_cases h5 : up l 5
            · by_cases h7 : up l 7
              · exact .inr (.inr (H.m9 h7))
              · exact .inr (.inl (H.m7 h5 h7))
            · exact .inl (H.m5 h5)
          have BX : BoxL wq X [.slice a0 n0 k0, .slice a1 D.f1.length k1, .slice (some ⟨g2, 0, none⟩) D.f2.length k2, .slice (some ⟨g3, 0, none⟩) D.f3.length k3, .int .i64 D.f4] := by rcases TT with h | h | h <;> exact h.box
          have hhi : hi ≤ wq.heap.size := by rcases TT with h | h | h <;> exact h.hh
          have hww : w.heap.size < wq.heap.size := by rcases TT with h | h | h <;> exact h.rb.lt
          clear TT
          obtain ⟨x0, x1, x2, x3, x4⟩ := BX.five
          clear hhi hww BX
          have HH := hid H
          clear H
          refine wpOp_step rfl (fun K hK => ?_)
          go_simp
          exact hK _ _ ⟨_, _, _, _, _, _, _, _, _, _, _, _, _, _, _, u0, u1, u2, u3, is, D', S, Y, rfl, HH.out.set0⟩
        · have ho' : some _ = some o := ho
          injection ho' with ho'
          subst ho'
          clear hall ho hlt
          have HH := hid H
          clear H
          refine wpOp_step rfl (fun K hK => ?_)
          go_simp
          exact hK _ _ ⟨_, _, _, _, _, _, _, _, _, _, _, _, _, _, _, u0, u1, u2, u3, is, D', S, Y, rfl, HH.out.set1⟩
        · have ho' : some _ = some o := ho
          injection ho' with ho'
          subst ho'
          clear hall ho hlt
          have HH := hid H
          clear H
          refine wpOp_step rfl (fun K hK => ?_)
          go_simp
          exact hK _ _ ⟨_, _, _, _, _, _, _, _, _, _, _, _, _, _, _, u0, u1, u2, u3, is, D', S, Y, rfl, HH.out.set2⟩
        · have ho' : some _ = some o := ho
          injection ho' with ho'
          subst ho'
          have u2' : up l 2 := hall ⟨2, .data⟩ (by simp) rfl
          clear hall ho hlt
          obtain rfl := H.f2 u2'
          have TT : DrT w B b M wq X hi D (.slice a0 n0 k0) (.slice a1 D.f1.length k1) (.slice (some ⟨g2, 0, none⟩) D.f2.length k2) (.slice (some ⟨g3, 0, none⟩) D.f3.length k3) ∨ DrT w B b (M + 2) wq X hi D (.slice a0 n0 k0) (.slice a1 D.f1.length k1) (.slice (some ⟨g2, 0, none⟩) D.f2.length k2) (.slice (some ⟨g3, 0, none⟩) D.f3.length k3) ∨ DrT w B b (M + 4) wq X hi D (.slice a0 n0 k0) (.slice a1 D.f1.length k1) (.slice (some ⟨g2, 0, none⟩) D.f2.length k2) (.slice (some ⟨g3, 0, none⟩) D.f3.length k3) := by
            by_cases h5 : up l 5
            · by_cases h7 : up l 7
              · exact .inr (.inr (H.m9 h7))
              · exact .inr (.inl (H.m7 h5 h7))
            · exact .inl (H.m5 h5)
          have BX : BoxL wq X [.slice a0 n0 k0, .slice a1 D.f1.length k1, .slice (some ⟨g2, 0, none⟩) D.f2.length k2, .slice (some ⟨g3, 0, none⟩) D.f3.length k3, .int .i64 D.f4] := by rcases TT with h | h | h <;> exact h.box
          have hhi : hi ≤ wq.heap.size := by rcases TT with h | h | h <;> exact h.hh
          have hww : w.heap.size < wq.heap.size := by rcases TT with h | h | h <;> exact h.rb.lt
          clear TT
          obtain ⟨x0, x1, x2, x3, x4⟩ := BX.five
          clear hhi hww BX
          have HH := hid H
          clear H
          refine wpOp_step rfl (fun K hK => ?_)
          go_simp
          exact hK _ _ ⟨_, _, _, _, _, _, _, _, _, _, _, _, _, _, _, u0, u1, u2, u3, is, D', S, Y, rfl, HH.out.set3⟩
        · have ho' : some _ = some o := ho
          injection ho' with ho'
          subst ho'
          have u3' : up l 3 := hall ⟨3, .data⟩ (by simp) rfl
          clear hall ho hlt
          obtain rfl := H.f3 u3'
          have HH := hid H
          clear H
          refine wpOp_step rfl (fun K hK => ?_)
          go_simp
          exact hK _ _ ⟨_, _, _, _, _, _, _, _, _, _, _, _, _, _, _, u0, u1, u2, u3, is, D', S, Y, rfl, HH.out.set4⟩
        · have ho' : some _ = some o := ho
          injection ho' with ho'
          subst ho'
          have u1' : up l 1 := hall ⟨1, .data⟩ (by simp) rfl
          have u4' : up l 4 := hall ⟨4, .data⟩ (by simp) rfl
          clear hall ho hlt
          obtain rfl := H.f1 u1'
          obtain rfl := H.f4 u4'
          have TM := H.m5 hno
          have HH := hid H
          clear H
          refine wpOp_step rfl (fun K hK => ?_)
          go_simp
          refine (pick_any B b M ((D.f1.length : Nat) : Int) _ TM.cur (by omega) (by omega)).mono ?_
          rintro e w5 ⟨r5, hr5, rfl, c5, g5⟩
          exact hK _ _ ⟨_, _, _, _, _, _, _, _, _, _, _, _, _, _, _, u0, u1, u2, u3, is, D', S, Y, rfl, HH.out.set5 hno (r5 : Int) TM c5 g5⟩
        · have ho' : some _ = some o := ho
          injection ho' with ho'
          subst ho'
          clear hall ho hlt
          have HH := hid H
          clear H
          refine wpOp_step rfl (fun K hK => ?_)
          go_simp
          exact hK _ _ ⟨_, _, _, _, _, _, _, _, _, _, _, _, _, _, _, u0, u1, u2, u3, is, D', S, Y, rfl, HH.out.set6⟩
        · have ho' : some _ = some o := ho
          injection ho' with ho'
          subst ho'
          have u6' : up l 6 := hall ⟨6, .data⟩ (by simp) rfl
          have u5' : up l 5 := hall ⟨5, .chain⟩ (by simp) rfl
          clear hall ho hlt
          obtain rfl := H.f6 u6'
          have TM := H.m7 u5' hno
          have HH := hid H
          clear H
          refine wpOp_step rfl (fun K hK => ?_)
          go_simp
          refine (pick_any B b (M + 2) 20 _ TM.cur (by omega) (by omega)).mono ?_
          rintro e w5 ⟨r5, hr5, rfl, c5, g5⟩
          exact hK _ _ ⟨_, _, _, _, _, _, _, _, _, _, _, _, _, _, _, u0, u1, u2, u3, is, D', S, Y, rfl, HH.out.set7 hno u5' r5 (by omega) TM c5 g5⟩
        · have ho' : some _ = some o := ho
          injection ho' with ho'
          subst ho'
          have u7' : up l 7 := hall ⟨7, .data⟩ (by simp) rfl
          clear hall ho hlt
          obtain ⟨z7, hz7, rfl⟩ := H.f7 u7'
          have HH := hid H
          clear H
          refine wpOp_step rfl (fun K hK => ?_)
          go_simp
          exact hK _ _ ⟨_, _, _, _, _, _, _, _, _, _, _, _, _, _, _, u0, u1, u2, u3, is, D', S, Y, rfl, HH.out.set8 _⟩
        · have ho' : some _ = some o := ho
          injection ho' with ho'
          subst ho'
          have u0' : up l 0 := hall ⟨0, .data⟩ (by simp) rfl
          have u5' : up l 5 := hall ⟨5, .data⟩ (by simp) rfl
          have u8' : up l 8 := hall ⟨8, .data⟩ (by simp) rfl
          have u7' : up l 7 := hall ⟨7, .chain⟩ (by simp) rfl
          clear hall ho hlt
          obtain rfl := H.f0 u0'
          obtain ⟨z5, rfl⟩ := H.f5 u5'
          obtain ⟨z8, rfl⟩ := H.f8 u8'
          have TM := H.m9 u7'
          have HH := hid H
          clear H
          refine wpOp_step rfl (fun K hK => ?_)
          go_simp
          refine (sput_case _ D z5 z8 _ TM.reads).mono ?_
          rintro e w5 ⟨u, js, E, rfl, ho5, hl5, bb⟩
          obtain ⟨b0, m0, p0, b1, m1, p1, b2, m2, p2, b3, m3, p3, rfl⟩ := ho5.form
          exact hK _ _ ⟨_, _, _, _, _, _, _, _, _, _, _, _, _, _, _, _, _, _, _, js, E, _, Y, rfl, HH.out.set9 hno u7' bb ho5 (fun h => by rw [(hl5 h).1, (hl5 h).2]; exact TM.len)⟩
        · have ho' : some _ = some o := ho
          injection ho' with ho'
          subst ho'
          have u9' : up l 9 := hall ⟨9, .data⟩ (by simp) rfl
          clear hall ho hlt
          obtain ⟨rfl, _, _⟩ := H.f9 u9'
          have HH := hid H
          clear H
          refine wpOp_step rfl (fun K hK => ?_)
          go_simp
          exact hK _ _ ⟨_, _, _, _, _, _, _, _, _, _, _, _, _, _, _, u0, u1, u2, u3, is, D', S, Y, rfl, HH.out.set10 u9'⟩
        · have ho' : some _ = some o := ho
          injection ho' with ho'
          subst ho'
          have u10' : up l 10 := hall ⟨10, .data⟩ (by simp) rfl
          clear hall ho hlt
          obtain rfl := H.f10 u10'
          have HH := hid H
          clear H
          refine wpOp_step rfl (fun K hK => ?_)
          go_simp
          exact hK _ _ ⟨_, _, _, _, _, _, _, _, _, _, _, _, _, _, _, u0, u1, u2, u3, is, D', S, Y, rfl, HH.out.set11 (HH.out.d10 u10')⟩
        · have ho' : some _ = some o := ho
          injection ho' with ho'
          subst ho'
          have u10' : up l 10 := hall ⟨10, .data⟩ (by simp) rfl
          clear hall ho hlt
          obtain rfl := H.f10 u10'
          have HH := hid H
          clear H
          refine wpOp_step rfl (fun K hK => ?_)
          go_simp
          exact hK _ _ ⟨_, _, _, _, _, _, _, _, _, _, _, _, _, _, _, u0, u1, u2, u3, is, D', S, Y, rfl, HH.out.set12 (HH.out.d10 u10')⟩
        · have ho' : some _ = some o := ho
          injection ho' with ho'
          subst ho'
          clear hall ho hlt
          have TT : DrT w B b M wq X hi D (.slice a0 n0 k0) (.slice a1 D.f1.length k1) (.slice (some ⟨g2, 0, none⟩) D.f2.length k2) (.slice (some ⟨g3, 0, none⟩) D.f3.length k3) ∨ DrT w B b (M + 2) wq X hi D (.slice a0 n0 k0) (.slice a1 D.f1.length k1) (.slice (some ⟨g2, 0, none⟩) D.f2.length k2) (.slice (some ⟨g3, 0, none⟩) D.f3.length k3) ∨ DrT w B b (M + 4) wq X hi D (.slice a0 n0 k0) (.slice a1 D.f1.length k1) (.slice (some ⟨g2, 0, none⟩) D.f2.length k2) (.slice (some ⟨g3, 0, none⟩) D.f3.length k3) := by
            by_cases h5 : up l 5
            · by_cases h7 : up l 7
              · exact .inr (.inr (H.m9 h7))
              · exact .inr (.inl (H.m7 h5 h7))
            · exact .inl (H.m5 h5)
          have BX : BoxL wq X [.slice a0 n0 k0, .slice a1 D.f1.length k1, .slice (some ⟨g2, 0, none⟩) D.f2.length k2, .slice (some ⟨g3, 0, none⟩) D.f3.length k3, .int .i64 D.f4] := by rcases TT with h | h | h <;> exact h.box
          have hhi : hi ≤ wq.heap.size := by rcases TT with h | h | h <;> exact h.hh
          have hww : w.heap.size < wq.heap.size := by rcases TT with h | h | h <;> exact h.rb.lt
          clear TT
          have hX := BX.lt
          clear BX
          have HH := hid H
          clear H
          refine wpOp_step rfl (fun K hK => ?_)
          go_simp
          have kq := boxL_new wq [.slice none 0 0, .slice none 0 0, .slice none 0 0, .slice none 0 0, .int .i64 0] 55
          exact hK _ _ ⟨_, _, _, _, _, _, _, _, _, _, _, _, _, _, _, u0, u1, u2, u3, is, D', S, _, rfl, HH.out.set13 hno ((Below.refl _ _).alloc (Nat.le_refl _) _) kq hww hX hhi⟩
        · have ho' : some _ = some o := ho
          injection ho' with ho'
          subst ho'
          have u13' : up l 13 := hall ⟨13, .data⟩ (by simp) rfl
          have u11' : up l 11 := hall ⟨11, .data⟩ (by simp) rfl
          have u9' : up l 9 := hall ⟨9, .chain⟩ (by simp) rfl
          clear hall ho hlt
          obtain ⟨rfl, _, _, _, hbx, _⟩ := H.f13 u13'
          obtain rfl := H.f11 u11'
          have BY := hbx hno
          obtain ⟨x0, x1, x2, x3, x4⟩ := BY.five
          have y0 := (BY.cell 0 (by simp)).2
          have y1 := (BY.cell 1 (by simp)).2
          have y2 := (BY.cell 2 (by simp)).2
          have y3 := (BY.cell 3 (by simp)).2
          have y4 := (BY.cell 4 (by simp)).2
          have ho9 := (H.f9 u9').2.1
          obtain ⟨b0, m0, p0, b1, m1, p1, b2, m2, p2, b3, m3, p3, e9⟩ := ho9.form
          simp only [Value.agg.injEq, Array.mk.injEq, List.cons.injEq, and_true] at e9
          obtain ⟨rfl, rfl, rfl, rfl⟩ := e9
          clear hbx BY ho9
          have HH := hid H
          clear H
          refine wpOp_step rfl (fun K hK => ?_)
          go_simp
          exact hK _ _ ⟨_, _, _, _, _, _, _, _, _, _, _, _, _, _, _, _, _, _, _, is, D', S, Y, rfl, HH.out.set14 hno u9' u13'⟩
        · have ho' : some _ = some o := ho
          injection ho' with ho'
          subst ho'
          have u12' : up l 12 := hall ⟨12, .data⟩ (by simp) rfl
          have u14' : up l 14 := hall ⟨14, .chain⟩ (by simp) rfl
          clear hall ho hlt
          obtain rfl := H.f12 u12'
          have HH := hid H
          clear H
          refine wpOp_step rfl (fun K hK => ?_)
          go_simp
          exact hK _ _ ⟨_, _, _, _, _, _, _, _, _, _, _, _, _, _, _, u0, u1, u2, u3, is, D', S, Y, rfl, HH.out.set15 (HH.out.d12 u12')⟩
      rintro l a wq ⟨v0, v1, v2, v3, v4, v5, v6, v7, v8, v9, v10, v11, v12, v13, v15, u0, u1, u2, u3, is, D', S, Y, rfl, H⟩ hrd
      have hall := up_allA hrd (H.sz.trans rfl) (by kernel_rfl)
      obtain rfl := H.f0 (hall 0 (by decide))
      obtain rfl := H.f1 (hall 1 (by decide))
      obtain rfl := H.f2 (hall 2 (by decide))
      obtain rfl := H.f3 (hall 3 (by decide))
      obtain rfl := H.f4 (hall 4 (by decide))
      obtain rfl := H.f6 (hall 6 (by decide))
      obtain rfl := H.f10 (hall 10 (by decide))
      obtain rfl := H.f11 (hall 11 (by decide))
      obtain rfl := H.f12 (hall 12 (by decide))
      obtain rfl := H.f15 (hall 15 (by decide))
      obtain ⟨z5, rfl⟩ := H.f5 (hall 5 (by decide))
      obtain ⟨z7, _, rfl⟩ := H.f7 (hall 7 (by decide))
      obtain ⟨z8, rfl⟩ := H.f8 (hall 8 (by decide))
      obtain ⟨rfl, ho9, hl9⟩ := H.f9 (hall 9 (by decide))
      obtain ⟨rfl, hY1, hY2, hY3, _, hY4⟩ := H.f13 (hall 13 (by decide))
      have BY := hid (hY4 (hall 14 (by decide)))
      have T5 := hid (H.m9 (hall 7 (by decide)))
      have HS := hid H.hS
      have HO := hid ho9
      obtain ⟨b0, m0, p0, b1, m1, p1, b2, m2, p2, b3, m3, p3, e9⟩ := ho9.form
      simp only [Value.agg.injEq, Array.mk.injEq, List.cons.injEq, and_true] at e9
      obtain ⟨rfl, rfl, rfl, rfl⟩ := e9
      clear H hrd hall ho9 hY4 HTd
      cases is
      · clear HO BY HS hl9 hY1 hY2 hY3
        obtain ⟨x0, x1, x2, x3, x4⟩ := T5.out.box.five
        go_wp2_with fail
        refine (snext_case _ D _ T5.out.reads).mono ?_
        rintro e w6 ⟨q, pp, js, E, S6, rfl, ho6, hl6, hS6, bb6⟩
        obtain ⟨c0, l0, q0, c1, l1, q1, c2, l2, q2, c3, l3, q3, rfl⟩ := ho6.form
        have T6 := hid (T5.out.later bb6)
        have hs6 := bb6.size
        have hlen6 : Hid (js = true → 0 < E.f2.length ∧ 0 < E.f3.length) := fun h => by rw [(hl6 h).1, (hl6 h).2]; exact T5.out.len
        have hw6 : ∀ g, S6 g → w.heap.size < g ∧ g < w6.heap.size ∧ g ≠ X := fun g hg => by have := hS6 g hg; have := T5.out.rb.lt; have := T5.out.box.lt; omega
        clear bb6 hl6 hS6 x0 x1 x2 x3 x4 T5
        have ba : Below w6.heap.size w6 (w6.alloc (.cells #[.slice c0 l0 q0, .slice c1 l1 q1, .slice c2 l2 q2, .slice c3 l3 q3, .int .i64 E.f4] 55)) := (Below.refl _ _).alloc (Nat.le_refl _) _
        have B7 := hid (boxL_new w6 [.slice c0 l0 q0, .slice c1 l1 q1, .slice c2 l2 q2, .slice c3 l3 q3, .int .i64 E.f4] 55)
        have T7 := hid (T6.out.later ba)
        have O7 := hid (ho6.below ba)
        have hw7 : ∀ g, S6 g → w.heap.size < g ∧ g < (w6.alloc (.cells #[.slice c0 l0 q0, .slice c1 l1 q1, .slice c2 l2 q2, .slice c3 l3 q3, .int .i64 E.f4] 55)).heap.size ∧ g ≠ X := fun g hg => by have := hw6 g hg; have := ba.size; omega
        have hX7 : X < w6.heap.size := T6.out.box.lt
        clear ba ho6 T6 hw6
        cases js
        · go_wp2
          go_roundw
          case rel => exact ⟨j - 1, _, _, _, _, _, _, by go_num, by omega, T7.out.mono (by omega)⟩
          case measure => simp [intOf]; omega
        have HL6 := hid (hlen6.out rfl)
        clear hlen6
        go_wp2_with fail
        refine (one_any B b (M + 4) 4 _ T7.out.cur (by omega) (by omega)).mono ?_
        rintro e w8 ⟨t8, rfl, c8, g8⟩
        have T8 := hid (T7.out.step c8 g8)
        have hs8 := g8.size
        have O8 := hid (O7.out.at (w' := w8) fun g hg hl => g8.block g hl (by intro e; cases e; have := hw7 b hg; omega))
        have B8 := hid (B7.out.of_block (g8.block w6.heap.size (by rw [World.size_alloc]; omega) (by intro e; cases e; have := T8.out.xr; omega)))
        have hw8 : ∀ g, S6 g → w.heap.size < g ∧ g < w8.heap.size ∧ g ≠ X := fun g hg => by have := hw7 g hg; omega
        clear c8 g8 T7 O7 B7 hw7
        cases t8
        · go_wp2
          go_roundw
          case rel => exact ⟨j - 1, _, _, _, _, _, _, by go_num, by omega, T8.out.mono (by omega)⟩
          case measure => simp [intOf]; omega
        obtain ⟨x0, x1, x2, x3, x4⟩ := T8.out.box.five
        have f0 := (T8.out.box.cell 0 (by simp)).2
        have f1 := (T8.out.box.cell 1 (by simp)).2
        have f2 := (T8.out.box.cell 2 (by simp)).2
        have f3 := (T8.out.box.cell 3 (by simp)).2
        have f4 := (T8.out.box.cell 4 (by simp)).2
        obtain ⟨y0, y1, y2, y3, y4⟩ := B8.out.five
        have T9 := hid (T8.out.put O8.out hw8 HL6.out)
        clear T8 O8 B8 hw8
        go_wp2
        go_roundw
        case rel => exact ⟨j - 1, _, _, _, _, _, _, by go_num, by omega, T9.out.mono (by omega)⟩
        case measure => simp [intOf]; omega
      obtain ⟨x0, x1, x2, x3, x4⟩ := T5.out.box.five
      have f0 := (T5.out.box.cell 0 (by simp)).2
      have f1 := (T5.out.box.cell 1 (by simp)).2
      have f2 := (T5.out.box.cell 2 (by simp)).2
      have f3 := (T5.out.box.cell 3 (by simp)).2
      have f4 := (T5.out.box.cell 4 (by simp)).2
      obtain ⟨y0, y1, y2, y3, y4⟩ := BY.out.five
      have T5b := hid (T5.out.put HO.out HS.out (hl9 rfl))
      have hq : Hid (∀ W, W = tput5 wq X (.slice b0 m0 p0) (.slice b1 m1 p1) (.slice b2 m2 p2) (.slice b3 m3 p3) (.int .i64 D'.f4) → True) := fun _ _ => trivial
      clear hq hl9 hY1 hY2 hY3 HO HS
      obtain ⟨wz, hwz⟩ : ∃ W, W = tput5 wq X (.slice b0 m0 p0) (.slice b1 m1 p1) (.slice b2 m2 p2) (.slice b3 m3 p3) (.int .i64 D'.f4) := ⟨_, rfl⟩
      rw [← hwz] at T5b
      have HZ := hid hwz
      clear T5 BY
      have g0 := T5b.out.box.five
      rw [hwz] at g0
      obtain ⟨g00, g01, g02, g03, g04⟩ := g0
      clear hwz
      go_wp2_with fail
      refine (snext_case _ D' _ (by have := T5b.out.reads; rw [HZ.out] at this; exact this)).mono ?_
      rintro e w6 ⟨q, pp, js, E, S6, rfl, ho6, hl6, hS6, bb6⟩
      obtain ⟨c0, l0, q0, c1, l1, q1, c2, l2, q2, c3, l3, q3, rfl⟩ := ho6.form
      have hz := HZ.out
      simp only [tput5] at hz
      rw [← hz] at bb6 hS6
      clear hz
      clear x0 x1 x2 x3 x4 y0 y1 y2 y3 y4 f0 f1 f2 f3 f4 g00 g01 g02 g03 g04 HZ
      have T6 := hid (T5b.out.later bb6)
      have hs6 := bb6.size
      have hlen6 : Hid (js = true → 0 < E.f2.length ∧ 0 < E.f3.length) := fun h => by rw [(hl6 h).1, (hl6 h).2]; exact T5b.out.len
      have hw6 : ∀ g, S6 g → w.heap.size < g ∧ g < w6.heap.size ∧ g ≠ X := fun g hg => by have := hS6 g hg; have := T5b.out.rb.lt; have := T5b.out.box.lt; omega
      clear bb6 hl6 hS6 T5b
      have ba : Below w6.heap.size w6 (w6.alloc (.cells #[.slice c0 l0 q0, .slice c1 l1 q1, .slice c2 l2 q2, .slice c3 l3 q3, .int .i64 E.f4] 55)) := (Below.refl _ _).alloc (Nat.le_refl _) _
      have B7 := hid (boxL_new w6 [.slice c0 l0 q0, .slice c1 l1 q1, .slice c2 l2 q2, .slice c3 l3 q3, .int .i64 E.f4] 55)
      have T7 := hid (T6.out.later ba)
      have O7 := hid (ho6.below ba)
      have hw7 : ∀ g, S6 g → w.heap.size < g ∧ g < (w6.alloc (.cells #[.slice c0 l0 q0, .slice c1 l1 q1, .slice c2 l2 q2, .slice c3 l3 q3, .int .i64 E.f4] 55)).heap.size ∧ g ≠ X := fun g hg => by have := hw6 g hg; have := ba.size; omega
      have hX7 : X < w6.heap.size := T6.out.box.lt
      clear ba ho6 T6 hw6
      cases js
      · go_wp2
        go_roundw
        case rel => exact ⟨j - 1, _, _, _, _, _, _, by go_num, by omega, T7.out.mono (by omega)⟩
        case measure => simp [intOf]; omega
      have HL6 := hid (hlen6.out rfl)
      clear hlen6
      go_wp2_with fail
      refine (one_any B b (M + 4) 4 _ T7.out.cur (by omega) (by omega)).mono ?_
      rintro e w8 ⟨t8, rfl, c8, g8⟩
      have T8 := hid (T7.out.step c8 g8)
      have hs8 := g8.size
      have O8 := hid (O7.out.at (w' := w8) fun g hg hl => g8.block g hl (by intro e; cases e; have := hw7 b hg; omega))
      have B8 := hid (B7.out.of_block (g8.block w6.heap.size (by rw [World.size_alloc]; omega) (by intro e; cases e; have := T8.out.xr; omega)))
      have hw8 : ∀ g, S6 g → w.heap.size < g ∧ g < w8.heap.size ∧ g ≠ X := fun g hg => by have := hw7 g hg; omega
      clear c8 g8 T7 O7 B7 hw7
      cases t8
      · go_wp2
        go_roundw
        case rel => exact ⟨j - 1, _, _, _, _, _, _, by go_num, by omega, T8.out.mono (by omega)⟩
        case measure => simp [intOf]; omega
      obtain ⟨x0, x1, x2, x3, x4⟩ := T8.out.box.five
      have f0 := (T8.out.box.cell 0 (by simp)).2
      have f1 := (T8.out.box.cell 1 (by simp)).2
      have f2 := (T8.out.box.cell 2 (by simp)).2
      have f3 := (T8.out.box.cell 3 (by simp)).2
      have f4 := (T8.out.box.cell 4 (by simp)).2
      obtain ⟨y0, y1, y2, y3, y4⟩ := B8.out.five
      have T9 := hid (T8.out.put O8.out hw8 HL6.out)
      clear T8 O8 B8 hw8
      go_wp2
      go_roundw
      case rel => exact ⟨j - 1, _, _, _, _, _, _, by go_num, by omega, T9.out.mono (by omega)⟩
      case measure => simp [intOf]; omega
    · obtain rfl : j = 0 := by omega
      have hMb : M ≤ N + 600 := by omega
      clear hM
      have HE : Hid (∀ (W : World) (D2 : TuD) (s0 s1 s2 s3 : Value) (N2 hi2 : Nat), DrT w B b N2 W X hi2 D2 s0 s1 s2 s3 → N2 ≤ N + 1000 → ∀ (tmps : Array Value), tmps[2]?.getD undef = .pointer (some ⟨w.heap.size, 0, none⟩) →
        bodyPost Try.prog Try.f96 (fun e w' => ∃ v, e = .returned v ∧ (∃ (D : TuD) (S : Nat → Prop), TuOwn S w' v D ∧ ∀ g, S g → w.heap.size ≤ g ∧ g < w'.heap.size) ∧ Cur B w' b (N + 1000) ∧ w.grownBy w' (some b)) .ret { tmps := tmps, defers := [] } (tput5 W w.heap.size s0 s1 s2 s3 (.int .i64 D2.f4))) := by
        intro W D2 s0 s1 s2 s3 N2 hi2 hT hN2 tmps ht
        obtain ⟨⟨S, hr⟩, hc, hg, hb⟩ := hT.told
        obtain ⟨e0, e1, e2, e3, e4⟩ := hb.five
        exact bodyPost_ret (v := .agg #[s0, s1, s2, s3, .int .i64 D2.f4]) (by simp [results, Try.results96, go_sem, ht, e0, e1, e2, e3, e4]) rfl ⟨_, rfl, ⟨D2, S, hr⟩, hc.mono hN2, hg⟩
      go_wp2_with fail
      refine (pick_any B b M 30 _ HT.out.cur (by omega) (by omega)).mono ?_
      rintro e w5 ⟨r5, _, rfl, c5, g5⟩
      have T5 := hid (HT.out.step c5 g5)
      clear c5 g5 HT
      obtain ⟨z, hz⟩ : ∃ z : Int, (r5 : Int) = z := ⟨_, rfl⟩
      rw [hz]
      clear hz
      by_cases z0 : z = 0
      · have d0 : (z == 0) = true := by simpa using z0
        clear z0
        go_wp2_with fail
        refine (pick_any B b (M + 2) 6 _ T5.out.cur (by omega) (by omega)).mono ?_
        rintro e w7 ⟨r7, hr7, rfl, c7, g7⟩
        have T7 := hid (T5.out.step c7 g7)
        clear c7 g7 T5
        obtain ⟨y, hy⟩ : ∃ y : Int, IntKind.i64.wrap ((r7 : Int) - 1) = y := ⟨_, rfl⟩
        have T8 := hid (T7.out.set4 y)
        clear hr7
        obtain ⟨x0', x1', x2', x3', x4'⟩ := T7.out.box.five
        have fz := (T7.out.box.cell 4 (by simp)).2
        obtain ⟨r0, r1, r2, r3, r5'⟩ := T8.out.rb.five
        have h0 := (T8.out.rb.cell 0 (by simp)).2
        have h1 := (T8.out.rb.cell 1 (by simp)).2
        have h2 := (T8.out.rb.cell 2 (by simp)).2
        have h3 := (T8.out.rb.cell 3 (by simp)).2
        have h4 := (T8.out.rb.cell 4 (by simp)).2
        obtain ⟨x0, x1, x2, x3, x4⟩ := T8.out.box.five
        go_wp2
        exact HE.out _ ⟨D.f0, D.f1, D.f2, D.f3, y⟩ _ _ _ _ _ _ T8.out (by omega) _ rfl
      have d0 : (z == 0) = false := by simpa using z0
      by_cases z1 : z = 1
      · have d1 : (z == 1) = true := by simpa using z1
        clear z0 z1
        obtain ⟨m0', m1', m2', m3', m4'⟩ := T5.out.box.five
        have hp2 : (0 : Int) < ((D.f2.length : Nat) : Int) := by have := T5.out.len.1; omega
        go_wp2_with fail
        go_region_with (go_at_call 73; refine (pick_any B b (M + 2) 30 _ (T5.out.later (Below.refl _ _).drew).cur (by omega) (by omega)).mono ?_; rintro e w7 ⟨r7, hr7, rfl, c7, g7⟩; have T7 := hid ((T5.out.later (Below.refl _ _).drew).step c7 g7); obtain ⟨T8', ⟨y8, hy8⟩, hf8⟩ := T7.out.set2 (r7 : Int); have T8 := hid T8'; clear T8' c7 g7 hr7; obtain ⟨x0', x1', x2', x3', x4'⟩ := T7.out.box.five)
        all_goals clear hy8 hf8 x0' x1' x2' x3' x4' m0' m1' m2' m3' m4' T7 T5 hp2 d0 d1
        all_goals obtain ⟨W8, hW8⟩ : ∃ W, W = w7.setCell ⟨g2, 0, none⟩ (.int .i64 (r7 : Int)) := ⟨_, rfl⟩
        all_goals rw [← hW8] at T8 ⊢
        all_goals clear hW8
        all_goals
          obtain ⟨r0, r1, r2, r3, r5'⟩ := T8.out.rb.five
          have h0 := (T8.out.rb.cell 0 (by simp)).2
          have h1 := (T8.out.rb.cell 1 (by simp)).2
          have h2 := (T8.out.rb.cell 2 (by simp)).2
          have h3 := (T8.out.rb.cell 3 (by simp)).2
          have h4 := (T8.out.rb.cell 4 (by simp)).2
          obtain ⟨x0, x1, x2, x3, x4⟩ := T8.out.box.five
          go_wp2
          exact HE.out _ ⟨D.f0, D.f1, D.f2.set 0 (r7 : Int), D.f3, D.f4⟩ _ _ _ _ _ _ T8.out (by omega) _ rfl
      have d1 : (z == 1) = false := by simpa using z1
      by_cases z2 : z = 2
      · have d2 : (z == 2) = true := by simpa using z2
        clear z0 z1 z2
        obtain ⟨T8', ⟨y8, hy8⟩, hf8⟩ := T5.out.set3 1000000
        have T8 := hid T8'
        clear T8'
        obtain ⟨x0', x1', x2', x3', x4'⟩ := T5.out.box.five
        have hp3 : (0 : Int) < ((D.f3.length : Nat) : Int) := by have := T5.out.len.2; omega
        obtain ⟨r0, r1, r2, r3, r5'⟩ := T8.out.rb.five
        have h0 := (T8.out.rb.cell 0 (by simp)).2
        have h1 := (T8.out.rb.cell 1 (by simp)).2
        have h2 := (T8.out.rb.cell 2 (by simp)).2
        have h3 := (T8.out.rb.cell 3 (by simp)).2
        have h4 := (T8.out.rb.cell 4 (by simp)).2
        obtain ⟨x0, x1, x2, x3, x4⟩ := T8.out.box.five
        go_wp2
        exact HE.out _ ⟨D.f0, D.f1, D.f2, D.f3.set 0 1000000, D.f4⟩ _ _ _ _ _ _ T8.out (by omega) _ rfl
      have d2 : (z == 2) = false := by simpa using z2
      clear z0 z1 z2
      obtain ⟨r0, r1, r2, r3, r5'⟩ := T5.out.rb.five
      have h0 := (T5.out.rb.cell 0 (by simp)).2
      have h1 := (T5.out.rb.cell 1 (by simp)).2
      have h2 := (T5.out.rb.cell 2 (by simp)).2
      have h3 := (T5.out.rb.cell 3 (by simp)).2
      have h4 := (T5.out.rb.cell 4 (by simp)).2
      obtain ⟨x0, x1, x2, x3, x4⟩ := T5.out.box.five
      go_wp2
      exact HE.out _ D _ _ _ _ _ _ T5.out (by omega) _ rfl
end Go.Proofs.Ytepnhbicmlfnhac
