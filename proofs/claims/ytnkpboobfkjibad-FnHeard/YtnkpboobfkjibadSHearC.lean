/-
  spec.l11Hear: what is heard of, new and lost. Nothing old is written.
-/
import Derived.Test.YtnkpboobfkjibadSmallSd
import Derived.Test.YtnkpboobfkjibadITell2
import Derived.Test.YtnkpboobfkjibadKSpanConv
import Derived.Test.YtnkpboobfkjibadSHas1
import Derived.Test.YtnkpboobfkjibadSdBox
import Derived.Test.YtnkpboobfkjibadKOne
import Derived.Test.YtnkpboobfkjibadRegFacts
import Derived.Test.YtnkpboobfkjibadStepApp
namespace Go.Proofs.Ytnkpboobfkjibad
open Go.RowKit
/-- What the operations make. -/
def hcF (A : Nat) (v1 vl : Value) (J : List Sp) (z : Int) : Nat → (Nat → Value) → (Nat → Nat × Nat) → World → Prop
  | 0, σ, _, _ => σ 0 = .pointer (some ⟨A, 0, none⟩)
  | 1, σ, _, _ => σ 1 = .int .i64 z
  | 2, σ, _, _ => σ 2 = .pointer (some ⟨A, 1, none⟩)
  | 3, σ, _, _ => σ 3 = v1
  | 4, σ, _, _ => σ 4 = vl
  | 5, σ, c, w => SpOwn (c 5).1 (c 5).2 w (σ 5) J ∧ ∃ a k q, σ 5 = .slice a k q
  | 6, σ, _, _ => σ 6 = .agg #[σ 1, σ 5, .slice none 0 0]
  | 7, σ, c, w => ∃ b, σ 7 = .pointer (some ⟨b, 0, none⟩) ∧ ((c 7).1 ≤ b ∧ b < (c 7).2) ∧ BoxL w b [.int .i64 0, .slice none 0 0, .slice none 0 0]
  | _, _, _, _ => True
theorem hcF_keep {A : Nat} {v1 vl : Value} {J : List Sp} {z : Int} : ∀ j ∈ [0, 1, 2, 3, 4, 5, 6, 7], ∀ σ c w w', hcF A v1 vl J z j σ c w → Below w.heap.size w w' → hcF A v1 vl J z j σ c w' := by
  intro j hj σ c w w' h hb
  simp only [List.mem_cons, List.not_mem_nil, or_false] at hj; rcases hj with rfl | rfl | rfl | rfl | rfl | rfl | rfl | rfl
  · exact h
  · exact h
  · exact h
  · exact h
  · exact h
  · exact ⟨h.1.below hb, h.2⟩
  · exact h
  · exact by obtain ⟨b, e, hb', hx⟩ := h; exact ⟨b, e, hb', hx.below hb hx.lt⟩
theorem hcF_loc {A : Nat} {v1 vl : Value} {J : List Sp} {z : Int} {j i : Nat} {σ : Nat → Value} {c : Nat → Nat × Nat} {w : World} {v : Value} {r : Nat × Nat} (hj : j ∈ [0, 1, 2, 3, 4, 5, 6, 7]) (hne : i ≠ j) (hd : (j = 6 → i ≠ 1 ∧ i ≠ 5)) (h : hcF A v1 vl J z j σ c w) : hcF A v1 vl J z j (upd σ i v) (upd c i r) w := by
  simp only [List.mem_cons, List.not_mem_nil, or_false] at hj; rcases hj with rfl | rfl | rfl | rfl | rfl | rfl | rfl | rfl
  · simp only [hcF, upd_other _ _ (Ne.symm hne)] at h ⊢
    exact h
  · simp only [hcF, upd_other _ _ (Ne.symm hne)] at h ⊢
    exact h
  · simp only [hcF, upd_other _ _ (Ne.symm hne)] at h ⊢
    exact h
  · simp only [hcF, upd_other _ _ (Ne.symm hne)] at h ⊢
    exact h
  · simp only [hcF, upd_other _ _ (Ne.symm hne)] at h ⊢
    exact h
  · simp only [hcF, upd_other _ _ (Ne.symm hne)] at h ⊢
    exact h
  · obtain ⟨d1, d5⟩ := hd rfl
    simp only [hcF, upd_other _ _ (Ne.symm hne), upd_other _ _ (Ne.symm d1), upd_other _ _ (Ne.symm d5)] at h ⊢
    exact h
  · simp only [hcF, upd_other _ _ (Ne.symm hne)] at h ⊢
    exact h
set_option maxRecDepth 100000 in
set_option maxHeartbeats 8000000 in
theorem shearc_any (v vl : Value) (D : SdD) (l : List Sp) (n : Nat) (w : World) (hr : SdReads w v D) (hl : SpReads w vl l) (hn : D.f0 = (n : Int)) (hn60 : n ≤ 60) (g1 : chainB (-1) D.f1 = true) (g2 : chainB (-1) l = true) :
    Calls Try.prog 126 #[v, vl] w fun e w' => ∃ u0 u1 u2, e = .returned (.tuple #[u0, u1, u2, .bool (decide ((joinL D.f1 l).length ≤ 20))]) ∧ ∃ c1 c2, SdNew w.heap.size w' u0 ⟨(n : Int), joinL D.f1 l, selU (lostF (joinL D.f1 l) D.f2) n⟩ ∧ KOwn c1.1 c1.2 w' u1 (selU (freshF (joinL D.f1 l) D.f1) n) ∧ KOwn c2.1 c2.2 w' u2 (selU (lateF (joinL D.f1 l) D.f2) n) ∧ (Dj c1 c2 ∧ w.heap.size ≤ c1.1 ∧ c1.2 ≤ w'.heap.size ∧ w.heap.size ≤ c2.1 ∧ c2.2 ≤ w'.heap.size) ∧ Below w.heap.size w w' := by
  have RL := hid hl
  have HN := hid hn
  obtain ⟨v1, v2, rfl, r1, r2⟩ := hr
  have R1 := hid r1
  have R2 := hid r2
  obtain ⟨a1, p1, rfl, _, _⟩ := r1
  obtain ⟨a2, p2, rfl, _, _⟩ := r2
  obtain ⟨al, pl, rfl, _, _⟩ := hl
  rw [hn]
  obtain ⟨PA, BA, hsA⟩ := box_three (w := w) (.int .i64 (n : Nat)) (.slice a1 D.f1.length p1) (.slice a2 D.f2.length p2) 49
  obtain ⟨W0, hW0⟩ : ∃ W, W = w.alloc (.cells #[.int .i64 (n : Nat), .slice a1 D.f1.length p1, .slice a2 D.f2.length p2] 49) := ⟨_, rfl⟩
  rw [← hW0] at PA BA hsA
  obtain ⟨PR, BR, hsR⟩ := box_three (w := W0) (.int .i64 0) (.slice none 0 0) (.slice none 0 0) 49
  obtain ⟨W1, hW1⟩ : ∃ W, W = W0.alloc (.cells #[.int .i64 0, .slice none 0 0, .slice none 0 0] 49) := ⟨_, rfl⟩
  rw [← hW1] at PR BR hsR
  rw [hsA] at PR hsR
  have PA := hid (PA.below BR PA.lt)
  have PR := hid PR
  have B := hid (BA.trans (BR.mono (by omega)))
  rw [hW0] at hW1
  have HW := hid hW1
  have G1 := hid g1
  have G2 := hid g2
  clear hn BA BR hW0 hW1 hsA g1 g2
  go_enter Try.func126, Try.ntmps126
  go_wp2_with fail
  rw [← HW.out]
  clear HW
  refine wp_region_any (by kernel_rfl) ?_
  change wpAny _ _ _ _ _ _ _ (World.drew _)
  obtain ⟨W2, hW2⟩ : ∃ X, X = World.drew W1 := ⟨_, rfl⟩
  replace PA : Hid (BoxL W2 w.heap.size [.int .i64 (n : Nat), .slice a1 D.f1.length p1, .slice a2 D.f2.length p2]) := by rw [hW2]; exact PA.out
  replace PR : Hid (BoxL W2 (w.heap.size + 1) [.int .i64 0, .slice none 0 0, .slice none 0 0]) := by rw [hW2]; exact PR.out
  replace B : Hid (Below w.heap.size w W2) := by rw [hW2]; exact B.out.drew
  have hs2 : W2.heap.size = w.heap.size + 2 := by rw [hW2]; exact hsR
  rw [← hW2]
  clear hW2 hsR
  refine wpAny_facts' 1 (Array.replicate 9 false) #[true, true, true, true, true, true, true, true, false] [0, 1, 2, 3, 4, 5, 6, 7] (fun σ => #[.agg #[.int .i64 (n : Nat), .slice a1 D.f1.length p1, .slice a2 D.f2.length p2], .slice al l.length pl, .pointer (some ⟨w.heap.size, 0, none⟩), undef, .pointer (some ⟨w.heap.size + 1, 0, none⟩), .slice none 0 0, .slice none 0 0, .bool false, σ 7, undef, undef, undef, undef, undef, undef, undef, σ 0, σ 1, σ 2, σ 3, σ 4, σ 5, σ 6, undef, undef, undef, undef, undef, undef, undef, undef, undef, undef, undef, undef, undef, undef, undef, undef, undef, undef, undef, undef, undef, undef, undef, undef, undef, undef, undef, undef, undef, undef, undef, undef, undef, undef, undef, undef, undef, undef, undef, undef, undef, undef, undef, undef, undef, undef, undef, undef, undef, undef, undef, undef, undef, undef, undef, undef, undef, undef, undef, undef, undef, undef, undef, undef, undef, undef, undef, undef, undef, undef, undef, undef, undef, undef, undef, undef, undef, undef, undef, undef]) (hcF w.heap.size (.slice a1 D.f1.length p1) (.slice al l.length pl) (joinL D.f1 l) (n : Int)) (fun _ => undef) rfl (by kernel_rfl) (by kernel_rfl) (by kernel_rfl) (by kernel_rfl) (by decide) hcF_keep (fun j hj i hi σ c w v r hne hd h => hcF_loc hj hne (fun e => by subst e; exact ⟨(hd 1 (by decide)).symm, (hd 5 (by decide)).symm⟩) h) ?_ ?_
  · intro σ c wr' hb hf hin hdj
    have e0 : hcF _ _ _ _ _ 0 σ c wr' := hf 0 (by decide)
    have e1 : hcF _ _ _ _ _ 1 σ c wr' := hf 1 (by decide)
    have e2 : hcF _ _ _ _ _ 2 σ c wr' := hf 2 (by decide)
    have e3 : hcF _ _ _ _ _ 3 σ c wr' := hf 3 (by decide)
    have e4 : hcF _ _ _ _ _ 4 σ c wr' := hf 4 (by decide)
    obtain ⟨k5, aj, nj, pj, e5⟩ : hcF _ _ _ _ _ 5 σ c wr' := hf 5 (by decide)
    have e6 : hcF _ _ _ _ _ 6 σ c wr' := hf 6 (by decide)
    obtain ⟨b, e7, hbb, hbx⟩ : hcF _ _ _ _ _ 7 σ c wr' := hf 7 (by decide)
    simp only [hcF] at e0 e1 e2 e3 e4 e6
    rw [e5] at k5
    rw [e1, e5] at e6
    have n5 := hin 5 (by decide)
    have n7 := hin 7 (by decide)
    have d57 := hdj 5 (by decide) 7 (by decide) (by decide)
    clear hf hin hdj
    try dsimp only
    rw [e0, e1, e2, e3, e4, e5, e6, e7]
    obtain ⟨jl, hjl⟩ : ∃ x, x = (c 5).1 := ⟨_, rfl⟩
    obtain ⟨jh, hjh⟩ : ∃ x, x = (c 5).2 := ⟨_, rfl⟩
    rw [← hjl, ← hjh] at k5
    have hbj : (jh ≤ b ∨ b < jl) ∧ w.heap.size + 2 ≤ b ∧ b < wr'.heap.size ∧ jl ≤ jh ∧ w.heap.size + 2 ≤ jl ∧ jh ≤ wr'.heap.size := by
      unfold Dj at d57
      omega
    obtain ⟨⟨y0, y3⟩, ⟨y1, y4⟩, y2, y5⟩ := hbx.form3
    have HB0 := hid (B.out.trans (hb.mono B.out.size))
    have PA3 := hid (PA.out.below hb PA.out.lt)
    have PR3 := hid (PR.out.below hb PR.out.lt)
    have K5 := hid k5
    have BX := hid hbx
    clear hb k5 hbx n5 n7 d57 e0 e1 e2 e3 e4 e5 e6 e7 hjl hjh hbb PA PR B hs2
    refine wpAny_ready (rs := [8]) (by kernel_rfl) (by simp) ?_
    refine AllReady.cons rfl (fun K hK => ?_) AllReady.nil
    go_simp
    refine hK _ _ ?_
    clear hK K
    refine wpAny_done (by kernel_rfl) ?_ _
    have o := three_only wr' b (.int .i64 (n : Nat)) (.slice aj nj pj) (.slice none 0 0)
    obtain ⟨W, hW⟩ : ∃ W, W = ((wr'.setCell ⟨b, 0, none⟩ (.int .i64 (n : Nat))).setCell ⟨b, 1, none⟩ (.slice aj nj pj)).setCell ⟨b, 2, none⟩ (.slice none 0 0) := ⟨_, rfl⟩
    have XB : Hid (BoxL W b [.int .i64 (n : Nat), .slice aj nj pj, .slice none 0 0]) := by rw [hW]; exact three_put BX.out _ _ _
    rw [← hW] at o
    have hsW : W.heap.size = wr'.heap.size := o.1
    have OB := hid o.2.1
    have PA : Hid (BoxL W w.heap.size [.int .i64 (n : Nat), .slice a1 D.f1.length p1, .slice a2 D.f2.length p2]) := PA3.out.of_block (OB.out _ (by omega))
    have PR : Hid (BoxL W (w.heap.size + 1) [.int .i64 0, .slice none 0 0, .slice none 0 0]) := PR3.out.of_block (OB.out _ (by omega))
    have OJ : Hid (SpOwn jl jh W (.slice aj nj pj) (joinL D.f1 l)) := K5.out.at fun k h1 h2 h3 => OB.out k (by omega)
    have B : Hid (Below w.heap.size w W) := by rw [hW]; exact HB0.out.trans (three_below wr' _ _ _ (by omega))
    rw [hsW.symm] at hbj
    clear o OB PA3 PR3 K5 BX HB0 y0 y1 y2 y3 y4 y5 hsW
    try rw [← hW]
    clear hW
    go_wp2
    go_loopw [9, 11] (fun lv nv wr => ∃ k : Nat, k ≤ n ∧ nv = .int .i64 (k : Nat) ∧ wr.ownsRow W.heap.size 3 1 lv (selU (freshF (joinL D.f1 l) D.f1) k).length (kflat (selU (freshF (joinL D.f1 l) D.f1) k)) ∧ Below W.heap.size W wr) (fun _ nv _ => n - (intOf nv).toNat)
    case atStart => exact ⟨0, Nat.zero_le _, rfl, World.ownsRow_nil _ _ _ _, Below.refl _ _⟩
    case round =>
      obtain ⟨k, hk, rfl, hown, hbel⟩ := hrel
      have HO := hid hown
      have HL := hid hbel
      have hsz := hbel.size
      clear hown hbel
      obtain ⟨x0, x1, x2⟩ := (XB.out.below HL.out XB.out.lt).three
      obtain ⟨q0, q1, q2⟩ := (PA.out.below HL.out PA.out.lt).three
      by_cases hlt : k < n
      · have hltd : (k : Int) < (n : Int) := by omega
        obtain ⟨b1, hb1⟩ : ∃ b, hasL (joinL D.f1 l) (k : Int) = b := ⟨_, rfl⟩
        obtain ⟨b2, hb2⟩ : ∃ b, hasL D.f1 (k : Int) = b := ⟨_, rfl⟩
        have HB1 := hid hb1
        have HB2 := hid hb2
        have HN2 : Hid (selU (freshF (joinL D.f1 l) D.f1) (k + 1) = selU (freshF (joinL D.f1 l) D.f1) k ++ (bif b1 && !b2 then [(k : Int)] else [])) := by rw [← hb1, ← hb2]; exact rfl
        have hlen := selU_len (freshF (joinL D.f1 l) D.f1) k
        obtain ⟨ys, hys⟩ : ∃ ys, selU (freshF (joinL D.f1 l) D.f1) k = ys := ⟨_, rfl⟩
        rw [hys] at HN2 HO hlen
        clear hb1 hb2 hys
        go_wp2_with fail
        refine (shas_any _ (joinL D.f1 l) (k : Int) _ (OJ.out.below HL.out).reads.s).mono ?_
        rintro e w2 ⟨rfl, b5⟩
        rw [HB1.out]
        have HL2 := hid (HL.out.trans (b5.mono hsz))
        have HO2 := hid (owns_stay HO.out fun g e => b5.block g (HO.out.lt g e).2)
        have hs2 := b5.size
        clear b5 q0 q1 q2 x0 x1 x2 HO
        obtain ⟨q0, q1, q2⟩ := (PA.out.below HL2.out PA.out.lt).three
        cases b1
        · go_wp2
          go_roundw
          case rel => exact ⟨k + 1, by omega, by go_num, by rw [HN2.out]; simpa using HO2.out, HL2.out⟩
          case measure => simp [intOf]; omega
        · go_wp2_with fail
          refine (shas_any _ D.f1 (k : Int) _ (R1.out.below (B.out.trans (HL2.out.mono B.out.size))).s).mono ?_
          rintro e w3 ⟨rfl, b6⟩
          rw [HB2.out]
          have HL3 := hid (HL2.out.trans (b6.mono (by omega)))
          have HO3 := hid (owns_stay HO2.out fun g e => b6.block g (HO2.out.lt g e).2)
          have hs3 := b6.size
          clear b6 q0 q1 q2 HO2
          cases b2
          rotate_left
          · go_wp2
            go_roundw
            case rel => exact ⟨k + 1, by omega, by go_num, by rw [HN2.out]; simpa using HO3.out, HL3.out⟩
            case measure => simp [intOf]; omega
          · go_wp2_with (at_builtin; refine wpList_append_reads _ rfl _ _ rfl W.heap.size _ _ _ rfl (HO3.out.alloc _) _ [(k : Int)] rfl (kreads_int _ _) (by simp; omega) (by simp; omega) ?_)
            intro v' w4 hown' hgrow _
            have HO4 : Hid (w4.ownsRow W.heap.size 3 1 v' (selU (freshF (joinL D.f1 l) D.f1) (k + 1)).length (kflat (selU (freshF (joinL D.f1 l) D.f1) (k + 1)))) := by
              show World.ownsRow _ _ _ _ _ _ _
              rw [HN2.out]
              simpa using hown'
            have HL4 : Hid (Below W.heap.size W w4) := (HL3.out.alloc (by omega) _).grown hgrow (by simp; omega) (by intro g hg; exact (HO3.out.lt g hg).1)
            clear hown' hgrow
            go_wp2
            go_roundw
            case rel => exact ⟨k + 1, by omega, by go_num, HO4.out, HL4.out⟩
            case measure => simp [intOf]; omega
      · obtain rfl : k = n := by omega
        have hge : ¬ (k : Int) < (k : Int) := by omega
        have FR := hid (KOwn.of_owns HO.out (by have := selU_len (freshF (joinL D.f1 l) D.f1) k; omega))
        have hOJ := OJ.out.below HL.out
        obtain ⟨tz, htz⟩ : ∃ tz, topH (joinL D.f1 l) = tz := ⟨_, rfl⟩
        have HTZ := hid htz
        obtain ⟨a', c', ee, hJl, hJc⟩ := hOJ.reads
        injection ee with ee1 ee2 ee3
        subst ee1 ee2 ee3
        have hch := joinL_chain G1.out G2.out
        have htb : -1 ≤ tz ∧ tz ≤ 10000000 := by
          rw [← htz]
          unfold topH
          by_cases h0 : (joinL D.f1 l).length = 0
          · rw [decide_eq_true h0]; exact ⟨by show (-1 : Int) ≤ -1; omega, by show (-1 : Int) ≤ 10000000; omega⟩
          · rw [decide_eq_false h0]
            have h1 := chain_spot hch ((joinL D.f1 l).length - 1) (by omega)
            have h2 := (spB_iff _).1 h1.1.2
            show -1 ≤ lastTo (joinL D.f1 l) - 1 ∧ lastTo (joinL D.f1 l) - 1 ≤ 10000000
            unfold lastTo
            omega
        clear HO
        have hbel2 := HL.out
        obtain ⟨wa, hwa⟩ : ∃ wa, wa = wr := ⟨_, rfl⟩
        rw [← hwa] at hbel2 FR hOJ
        have BWA := hid (B.out.trans (hbel2.mono B.out.size))
        have hsa := hbel2.size
        have XA := hid (XB.out.below hbel2 XB.out.lt)
        have PAA := hid (PA.out.below hbel2 PA.out.lt)
        have PRA := hid (PR.out.below hbel2 PR.out.lt)
        have OJA := hid hOJ
        have HWA := hid hwa
        clear hOJ hwa hbel2 XB PA PR OJ
        by_cases h0 : (joinL D.f1 l).length = 0
        case' pos =>
          have hz0 : ¬ (0 : Int) < ((joinL D.f1 l).length : Int) := by omega
          have hv : (-1 : Int) = tz := by rw [← htz]; unfold topH; rw [decide_eq_true h0]; rfl
          have H0 := hid h0
          clear h0 hJc htz
          go_wp2
          clear hv q0 q1 q2 x0 x1 x2
        case' neg =>
          obtain ⟨jb, jo, rfl, hjc⟩ : ∃ b off, aj = some ⟨b, off, none⟩ ∧ ∀ i, i < (joinL D.f1 l).length → SpCells wr b (off + i * 2) ((joinL D.f1 l).getD i (0, 0)) := hJc.resolve_left (fun e => h0 (by rw [e]; rfl))
          have hcl := (hjc ((joinL D.f1 l).length - 1) (by omega)).2
          have hz0 : (0 : Int) < ((joinL D.f1 l).length : Int) := by omega
          obtain ⟨m, hm⟩ : ∃ m, (joinL D.f1 l).length - 1 = m := ⟨_, rfl⟩
          have hv : lastTo (joinL D.f1 l) - 1 = tz := by rw [← htz]; unfold topH; rw [decide_eq_false h0]; rfl
          have hcl2 : wr.cell? ⟨jb, jo + m * 2 + 1, none⟩ = some (.int .i64 (lastTo (joinL D.f1 l))) := by rw [← hm]; exact hcl
          obtain ⟨lt, hlt'⟩ : ∃ lt, lastTo (joinL D.f1 l) = lt := ⟨_, rfl⟩
          rw [hlt'] at hv hcl2
          have hw1 : IntKind.i64.wrap (lt - 1) = tz := by rw [IntKind.wrap_i64]; omega
          have hm1 : ((joinL D.f1 l).length : Int) - 1 = (m : Nat) := by omega
          have hm2 : IntKind.i64.wrap (m : Int) = (m : Nat) := by rw [IntKind.wrap_i64]; omega
          have hm3 : (m : Int) < ((joinL D.f1 l).length : Int) := by omega
          have HM := hid hm
          have H0 := hid h0
          clear h0 hJc htz hjc hcl hm hlt' hv
          go_wp2
          clear hw1 hcl2 hm1 hm2 hm3 HM q0 q1 q2 x0 x1 x2
          generalize (some (⟨jb, jo, none⟩ : Addr)) = aj at *
        all_goals
          go_loopw [10, 14] (fun lv nv wr => ∃ (j : Nat) (vo : Value), j ≤ k ∧ nv = .int .i64 (j : Nat) ∧ BoxL wr b [.int .i64 (k : Nat), .slice aj (joinL D.f1 l).length pj, vo] ∧ wr.ownsRow wa.heap.size 3 1 vo (selU (lostF (joinL D.f1 l) D.f2) j).length (kflat (selU (lostF (joinL D.f1 l) D.f2) j)) ∧ wr.ownsRow wa.heap.size 3 1 lv (selU (lateF (joinL D.f1 l) D.f2) j).length (kflat (selU (lateF (joinL D.f1 l) D.f2) j)) ∧ (∀ g, vo.ownBlock = some g → lv.ownBlock ≠ some g) ∧ But (fun g => g = b) wa wr) (fun _ nv _ => k - (intOf nv).toNat)
          case atStart => exact ⟨0, .slice none 0 0, Nat.zero_le _, rfl, by rw [← HWA.out]; exact XA.out, World.ownsRow_nil _ _ _ _, World.ownsRow_nil _ _ _ _, (fun g h => by cases h), by rw [← HWA.out]; exact But.refl _ _⟩
          case round =>
            obtain ⟨j, vo, hj, rfl, hbx, hov, hol, hne, hbut⟩ := hrel
            obtain ⟨oa, op, rfl⟩ := sform_of_owns hov
            have hbb : b < wa.heap.size := by have := XA.out.lt; exact this
            have hswr := hbut.size
            have BWR := hid (BWA.out.trans (hbut.to (B := w.heap.size) BWA.out.size (fun q hq e => by omega)))
            have PAR := hid (PAA.out.of_block (hbut.2 _ PAA.out.lt (by omega)))
            have PRR := hid (PRA.out.of_block (hbut.2 _ PRA.out.lt (by omega)))
            have OJR : Hid (SpOwn jl jh wr (.slice aj (joinL D.f1 l).length pj) (joinL D.f1 l)) := OJA.out.at fun q h1 h2 h3 => hbut.2 q h3 (by omega)
            have HOV := hid hov
            have HOL := hid hol
            have HNE := hid hne
            have HBT := hid hbut
            have HBX := hid hbx
            obtain ⟨⟨x0, x3⟩, ⟨x1, x4⟩, x2, x5⟩ := hbx.form3
            obtain ⟨q0, q1, q2⟩ := PAR.out.three
            clear hov hol hne hbut hbx
            by_cases hlt : j < k
            · have hltd : (j : Int) < (k : Int) := by omega
              obtain ⟨b1, hb1⟩ : ∃ b, hasL (joinL D.f1 l) (j : Int) = b := ⟨_, rfl⟩
              obtain ⟨b2, hb2⟩ : ∃ b, D.f2.contains (j : Int) = b := ⟨_, rfl⟩
              obtain ⟨b3, hb3⟩ : ∃ b, decide ((j : Int) + 3 ≤ tz) = b := ⟨_, rfl⟩
              have HB1 := hid hb1
              have HB2 := hid hb2
              have HS1 : Hid (selU (lostF (joinL D.f1 l) D.f2) (j + 1) = selU (lostF (joinL D.f1 l) D.f2) j ++ (bif !b1 && (b2 || b3) then [(j : Int)] else [])) := by
                rw [← hb1, ← hb2, ← hb3, ← HTZ.out]; exact rfl
              have HS2 : Hid (selU (lateF (joinL D.f1 l) D.f2) (j + 1) = selU (lateF (joinL D.f1 l) D.f2) j ++ (bif !b1 && (!b2 && b3) then [(j : Int)] else [])) := by
                rw [← hb1, ← hb2, ← hb3, ← HTZ.out]; exact rfl
              have hln1 := selU_len (lostF (joinL D.f1 l) D.f2) j
              have hln2 := selU_len (lateF (joinL D.f1 l) D.f2) j
              obtain ⟨LO, hLO⟩ : ∃ X, selU (lostF (joinL D.f1 l) D.f2) j = X := ⟨_, rfl⟩
              obtain ⟨LA, hLA⟩ : ∃ X, selU (lateF (joinL D.f1 l) D.f2) j = X := ⟨_, rfl⟩
              rw [hLO] at HS1 HOV hln1 HNE HBX x2
              rw [hLA] at HS2 HOL hln2
              have ej : IntKind.i64.wrap ((j : Int) + 3) = (j : Int) + 3 := by rw [IntKind.wrap_i64]; omega
              have HB3 := hid hb3
              clear hb1 hb2 hb3 hLO hLA
              go_wp2_with fail
              refine (shas_any _ (joinL D.f1 l) (j : Int) _ OJR.out.reads.s).mono ?_
              rintro e w2 ⟨rfl, b5⟩
              rw [HB1.out]
              have hs2 := b5.size
              have BT2 := hid (HBT.out.trans (But.of b5))
              have BX2 := hid (HBX.out.below b5 HBX.out.lt)
              have OV2 := hid (owns_stay HOV.out fun g e => b5.block g (HOV.out.lt g e).2)
              have OL2 := hid (owns_stay HOL.out fun g e => b5.block g (HOL.out.lt g e).2)
              have PA2 := hid (PAR.out.below b5 PAR.out.lt)
              have BW2 := hid (BWR.out.trans (b5.mono BWR.out.size))
              clear b5 q0 q1 q2 x0 x1 x2 x3 x4 x5 HBT HBX HOV HOL PAR BWR OJR
              cases b1
              rotate_left
              · go_wp2
                go_roundw
                case rel => exact ⟨j + 1, .slice oa LO.length op, by omega, by go_num, BX2.out, by rw [HS1.out]; simpa using OV2.out, by rw [HS2.out]; simpa using OL2.out, HNE.out, BT2.out⟩
                case measure => simp [intOf]; omega
              obtain ⟨q0, q1, q2⟩ := PA2.out.three
              go_wp2_with fail
              refine (l1Has_eq _ D.f2 (j : Int) b2 HB2.out _ (R2.out.below BW2.out)).mono ?_
              rintro e w' ⟨rfl, hw⟩; obtain rfl := hw.symm
              clear q0 q1 q2
              cases b2
              rotate_left
              · have HVS : Hid True := trivial
                obtain ⟨⟨x0, x3⟩, ⟨x1, x4⟩, x2, x5⟩ := BX2.out.form3
                go_wp2_with (at_builtin; refine wpList_append_reads _ rfl _ _ rfl wa.heap.size _ _ _ rfl (OV2.out.alloc _) _ [(j : Int)] rfl (kreads_int _ _) (by simp; omega) (by simp; omega) ?_)
                intro v' w4 hown' hgrow hwh
                replace hown' : w4.ownsRow wa.heap.size 3 1 v' (LO.length + 1) (kflat (LO ++ [(j : Int)])) := hown'
                obtain ⟨na, np, rfl⟩ := sform_of_owns hown'
                have hs4 : w2.heap.size + 1 ≤ w4.heap.size := by have := hgrow.size; simpa using this
                have hba : ∀ q, (Value.slice oa LO.length op).ownBlock = some q → wa.heap.size ≤ q ∧ q < w2.heap.size := fun q e => OV2.out.lt q e
                have hbl : ∀ q, u10.ownBlock = some q → wa.heap.size ≤ q ∧ q < w2.heap.size := fun q e => OL2.out.lt q e
                have hal : ∀ q, q < w2.heap.size → (w2.alloc (.cells #[.int .i64 (j : Nat)] 3)).heap[q]? = w2.heap[q]? := fun q hq => Below.heap_alloc _ _ _ hq
                have BT4 : But (fun g => g = b) wa w4 := (BT2.out.alloc _).and ((But.refl (fun q => (Value.slice oa LO.length op).ownBlock = some q) _).grown hgrow (fun q e => e)) (fun q hq e => by have := (hba q e).1; omega)
                have blk : ∀ q, q < w2.heap.size → (Value.slice oa LO.length op).ownBlock ≠ some q → w4.heap[q]? = w2.heap[q]? := fun q hq hn => (hgrow.block q (by simp; omega) (fun e => hn e.symm)).trans (hal q hq)
                have BX4 := BX2.out.of_block (blk b (by omega) (fun e => by have := (hba b e).1; omega))
                obtain ⟨_, _, x6, x7⟩ := BX4.form3
                have BX5 := hid (BX4.set 2 (by simp) (.slice na (LO.length + 1) np))
                have OV5 : Hid ((w4.setCell ⟨b, 2, none⟩ (.slice na (LO.length + 1) np)).ownsRow wa.heap.size 3 1 (.slice na (LO.length + 1) np) (LO.length + 1) (kflat (LO ++ [(j : Int)]))) := owns_stay hown' fun g e => Below.heap_setCell _ _ _ _ (by have := (hown'.lt g e).1; show g ≠ b; omega)
                have OL5 : Hid ((w4.setCell ⟨b, 2, none⟩ (.slice na (LO.length + 1) np)).ownsRow wa.heap.size 3 1 u10 LA.length (kflat LA)) := owns_stay OL2.out fun g e => (Below.heap_setCell _ _ _ _ (by have := (hbl g e).1; show g ≠ b; omega)).trans (blk g (hbl g e).2 (fun e' => HNE.out g e' e))
                have HNE5 : Hid (∀ g, (Value.slice na (LO.length + 1) np).ownBlock = some g → u10.ownBlock ≠ some g) := fun g e e2 => by
                  rcases hwh with h | h
                  · exact HNE.out g (h ▸ e) e2
                  · have e3 := h.symm.trans e
                    have := (hbl g e2).2
                    simp at e3
                    omega
                have BT5 := hid (BT4.setCell (p := ⟨b, 2, none⟩) rfl (.slice na (LO.length + 1) np))
                have hs5 : w2.heap.size + 1 ≤ (w4.setCell ⟨b, 2, none⟩ (.slice na (LO.length + 1) np)).heap.size := by simpa [World.setCell] using hs4
                clear hown' hgrow hwh hba hbl hal BT4 blk BX4 x0 x1 x2 x3 x4 x5
                go_wp2
                go_roundw
                case rel => exact ⟨j + 1, .slice na (LO.length + 1) np, by omega, by go_num, BX5.out, by rw [HS1.out]; simpa using OV5.out, by rw [HS2.out]; simpa using OL5.out, HNE5.out, BT5.out⟩
                case measure => simp [intOf]; omega
              cases b3
              · have d3 : decide ((j : Int) + 3 ≤ tz) = false := HB3.out
                have d3' : ¬ (j : Int) + 3 ≤ tz := of_decide_eq_false d3
                clear d3
                go_wp2
                go_roundw
                case rel => exact ⟨j + 1, .slice oa LO.length op, by omega, by go_num, BX2.out, by rw [HS1.out]; simpa using OV2.out, by rw [HS2.out]; simpa using OL2.out, HNE.out, BT2.out⟩
                case measure => simp [intOf]; omega
              have d3 : (j : Int) + 3 ≤ tz := of_decide_eq_true HB3.out
              obtain ⟨⟨x0, x3⟩, ⟨x1, x4⟩, x2, x5⟩ := BX2.out.form3
              go_wp2_with (at_builtin; refine wpList_append_reads _ rfl _ _ rfl wa.heap.size _ _ _ rfl (OV2.out.alloc _) _ [(j : Int)] rfl (kreads_int _ _) (by simp; omega) (by simp; omega) ?_)
              intro v' w4 hown' hgrow hwh
              replace hown' : w4.ownsRow wa.heap.size 3 1 v' (LO.length + 1) (kflat (LO ++ [(j : Int)])) := hown'
              obtain ⟨na, np, rfl⟩ := sform_of_owns hown'
              have hs4 : w2.heap.size + 1 ≤ w4.heap.size := by have := hgrow.size; simpa using this
              have hba : ∀ q, (Value.slice oa LO.length op).ownBlock = some q → wa.heap.size ≤ q ∧ q < w2.heap.size := fun q e => OV2.out.lt q e
              have hbl : ∀ q, u10.ownBlock = some q → wa.heap.size ≤ q ∧ q < w2.heap.size := fun q e => OL2.out.lt q e
              have hal : ∀ q, q < w2.heap.size → (w2.alloc (.cells #[.int .i64 (j : Nat)] 3)).heap[q]? = w2.heap[q]? := fun q hq => Below.heap_alloc _ _ _ hq
              have BT4 : But (fun g => g = b) wa w4 := (BT2.out.alloc _).and ((But.refl (fun q => (Value.slice oa LO.length op).ownBlock = some q) _).grown hgrow (fun q e => e)) (fun q hq e => by have := (hba q e).1; omega)
              have blk : ∀ q, q < w2.heap.size → (Value.slice oa LO.length op).ownBlock ≠ some q → w4.heap[q]? = w2.heap[q]? := fun q hq hn => (hgrow.block q (by simp; omega) (fun e => hn e.symm)).trans (hal q hq)
              have BX4 := BX2.out.of_block (blk b (by omega) (fun e => by have := (hba b e).1; omega))
              obtain ⟨_, _, x6, x7⟩ := BX4.form3
              have BX5 := hid (BX4.set 2 (by simp) (.slice na (LO.length + 1) np))
              have OV5 : Hid ((w4.setCell ⟨b, 2, none⟩ (.slice na (LO.length + 1) np)).ownsRow wa.heap.size 3 1 (.slice na (LO.length + 1) np) (LO.length + 1) (kflat (LO ++ [(j : Int)]))) := owns_stay hown' fun g e => Below.heap_setCell _ _ _ _ (by have := (hown'.lt g e).1; show g ≠ b; omega)
              have OL5 : Hid ((w4.setCell ⟨b, 2, none⟩ (.slice na (LO.length + 1) np)).ownsRow wa.heap.size 3 1 u10 LA.length (kflat LA)) := owns_stay OL2.out fun g e => (Below.heap_setCell _ _ _ _ (by have := (hbl g e).1; show g ≠ b; omega)).trans (blk g (hbl g e).2 (fun e' => HNE.out g e' e))
              have HNE5 : Hid (∀ g, (Value.slice na (LO.length + 1) np).ownBlock = some g → u10.ownBlock ≠ some g) := fun g e e2 => by
                rcases hwh with h | h
                · exact HNE.out g (h ▸ e) e2
                · have e3 := h.symm.trans e
                  have := (hbl g e2).2
                  simp at e3
                  omega
              have BT5 := hid (BT4.setCell (p := ⟨b, 2, none⟩) rfl (.slice na (LO.length + 1) np))
              have hs5 : w2.heap.size + 1 ≤ (w4.setCell ⟨b, 2, none⟩ (.slice na (LO.length + 1) np)).heap.size := by simpa [World.setCell] using hs4
              clear hown' hgrow hwh hba hbl hal BT4 blk BX4 x0 x1 x2 x3 x4 x5
              have RD5 : Hid (KReads ((w4.setCell ⟨b, 2, none⟩ (.slice na (LO.length + 1) np)).alloc (.cells #[.int .i64 (j : Nat)] 3)) (.slice (some ⟨w4.heap.size, 0, none⟩) 1 1) [(j : Int)]) := by
                have h := kreads_int (w4.setCell ⟨b, 2, none⟩ (.slice na (LO.length + 1) np)) (j : Int)
                rw [show (w4.setCell ⟨b, 2, none⟩ (.slice na (LO.length + 1) np)).heap.size = w4.heap.size by simp [World.setCell]] at h
                exact h
              go_wp2_with (at_builtin; refine wpList_append_reads _ rfl _ _ rfl wa.heap.size _ _ _ rfl (OL5.out.alloc _) _ [(j : Int)] rfl RD5.out (by simp; omega) (by simp; omega) ?_)
              obtain ⟨w5, hw5⟩ : ∃ w5, w5 = w4.setCell ⟨b, 2, none⟩ (.slice na (LO.length + 1) np) := ⟨_, rfl⟩
              rw [← hw5] at BX5 OV5 OL5 BT5 hs5 ⊢
              have H54 : Hid (w5.heap.size = w4.heap.size) := by show _ = _; rw [hw5]; simp [World.setCell]
              clear hw5 RD5
              intro v7 w7 hown7 hgrow7 hwh7
              have hbv : ∀ q, (Value.slice na (LO.length + 1) np).ownBlock = some q → wa.heap.size ≤ q ∧ q < w5.heap.size := fun q e => OV5.out.lt q e
              have hbl : ∀ q, u10.ownBlock = some q → wa.heap.size ≤ q ∧ q < w5.heap.size := fun q e => OL5.out.lt q e
              have hal : ∀ q, q < w5.heap.size → (w5.alloc (.cells #[.int .i64 (j : Nat)] 3)).heap[q]? = w5.heap[q]? := fun q hq => Below.heap_alloc _ _ _ hq
              have blk : ∀ q, q < w5.heap.size → u10.ownBlock ≠ some q → w7.heap[q]? = w5.heap[q]? := fun q hq hn => (hgrow7.block q (by simp; omega) (fun e => hn e.symm)).trans (hal q hq)
              have BT7 := hid ((BT5.out.alloc (.cells #[.int .i64 (j : Nat)] 3)).and ((But.refl (fun q => u10.ownBlock = some q) _).grown hgrow7 (fun q e => e)) (fun q hq e => by have := (hbl q e).1; omega))
              have BX7 := hid (BX5.out.of_block (blk b (by omega) (fun e => by have := (hbl b e).1; omega)))
              have OV7 := hid (owns_stay OV5.out fun g e => blk g (hbv g e).2 (HNE5.out g e))
              have OL7 := hid hown7
              have HNE7 : Hid (∀ g, (Value.slice na (LO.length + 1) np).ownBlock = some g → v7.ownBlock ≠ some g) := fun g e e2 => by
                rcases hwh7 with h | h
                · exact HNE5.out g e (h ▸ e2)
                · have e3 := h.symm.trans e2
                  have := (hbv g e).2
                  have := H54.out
                  simp at e3
                  omega
              clear hown7 hgrow7 hwh7 hbv hbl hal blk
              go_wp2
              go_roundw
              case rel => exact ⟨j + 1, .slice na (LO.length + 1) np, by omega, by go_num, BX7.out, by rw [HS1.out]; simpa using OV7.out, by rw [HS2.out]; simpa using OL7.out, HNE7.out, BT7.out⟩
              case measure => simp [intOf]; omega
            · obtain rfl : j = k := by omega
              have hge : ¬ (j : Int) < (j : Int) := by omega
              have hge' : ¬ j < j := by omega
              have KO := hid (KOwn.of_owns HOV.out (by have := selU_len (lostF (joinL D.f1 l) D.f2) j; omega))
              have KL := hid (KOwn.of_owns HOL.out (by have := selU_len (lateF (joinL D.f1 l) D.f2) j; omega))
              have FRR := hid (FR.out.at (w' := wr) fun q h1 h2 h3 => HBT.out.2 q h3 (by omega))
              obtain ⟨⟨y0, y3⟩, ⟨y1, y4⟩, y2, y5⟩ := PRR.out.form3
              have PUT := three_put (V := wr) (b := w.heap.size + 1) PRR.out (.int .i64 (j : Nat)) (.slice aj (joinL D.f1 l).length pj) (.slice oa (selU (lostF (joinL D.f1 l) D.f2) j).length op)
              obtain ⟨t0, t1, t2⟩ := PUT.three
              have o := three_only wr (w.heap.size + 1) (.int .i64 (j : Nat)) (.slice aj (joinL D.f1 l).length pj) (.slice oa (selU (lostF (joinL D.f1 l) D.f2) j).length op)
              have BLW := three_below (lo := w.heap.size) (b := w.heap.size + 1) wr (.int .i64 (j : Nat)) (.slice aj (joinL D.f1 l).length pj) (.slice oa (selU (lostF (joinL D.f1 l) D.f2) j).length op) (by omega)
              obtain ⟨WZ, hWZ⟩ : ∃ WZ, WZ = ((wr.setCell ⟨w.heap.size + 1, 0, none⟩ (.int .i64 (j : Nat))).setCell ⟨w.heap.size + 1, 1, none⟩ (.slice aj (joinL D.f1 l).length pj)).setCell ⟨w.heap.size + 1, 2, none⟩ (.slice oa (selU (lostF (joinL D.f1 l) D.f2) j).length op) := ⟨_, rfl⟩
              rw [← hWZ] at t0 t1 t2 o BLW
              have hsz : WZ.heap.size = wr.heap.size := o.1
              replace t0 : WZ.drew.cell? ⟨w.heap.size + 1, 0, none⟩ = some (.int .i64 (j : Nat)) := t0
              replace t1 : WZ.drew.cell? ⟨w.heap.size + 1, 1, none⟩ = some (.slice aj (joinL D.f1 l).length pj) := t1
              replace t2 : WZ.drew.cell? ⟨w.heap.size + 1, 2, none⟩ = some (.slice oa (selU (lostF (joinL D.f1 l) D.f2) j).length op) := t2
              have HRD : Hid (SdNew w.heap.size WZ.drew (.agg #[.int .i64 (j : Nat), .slice aj (joinL D.f1 l).length pj, .slice oa (selU (lostF (joinL D.f1 l) D.f2) j).length op]) ⟨(j : Int), joinL D.f1 l, selU (lostF (joinL D.f1 l) D.f2) j⟩) :=
                ⟨_, _, (jl, jh), (wa.heap.size, wr.heap.size), rfl, (OJR.out.at (w' := WZ.drew) fun q h1 h2 h3 => o.2.1 q (by omega)), (KO.out.at (w' := WZ.drew) fun q h1 h2 h3 => o.2.1 q (by omega)), (by show w.heap.size ≤ jl; omega), BWA.out.size⟩
              have HF1 := hid (FRR.out.at (w' := WZ.drew) fun q h1 h2 h3 => o.2.1 q (by omega))
              have HF2 := hid (KL.out.at (w' := WZ.drew) fun q h1 h2 h3 => o.2.1 q (by omega))
              have HBZ : Hid (Below w.heap.size w WZ.drew) := (BWR.out.trans BLW).drew
              have HSZ := hid hsz
              have HWZ := hid hWZ
              obtain ⟨bt, hbt⟩ : ∃ bt, decide ((joinL D.f1 l).length ≤ 20) = bt := ⟨_, rfl⟩
              have hbt2 : decide (((joinL D.f1 l).length : Int) ≤ 20) = bt := by rw [← hbt, decide_eq_decide]; omega
              have HBTT := hid hbt
              clear o BLW PUT hWZ hbt hsz KO KL FRR OJR HOV HOL HNE HBX HBT
              generalize (selU (lostF (joinL D.f1 l) D.f2) j).length = nlo at *
              go_wp2_with fail
              go_region
              all_goals go_wp2
              all_goals
                rw [← HWZ.out]
                refine bodyPost_ret (v := .tuple #[.agg #[.int .i64 (j : Nat), .slice aj (joinL D.f1 l).length pj, .slice oa nlo op], u9, u10, .bool bt]) (by simp [results, Try.results126, go_sem, t0, t1, t2]) rfl ⟨_, _, _, by rw [HBTT.out], (W.heap.size, wa.heap.size), (wa.heap.size, wr.heap.size), HRD.out, HF1.out, HF2.out, ⟨.inl (Nat.le_refl _), ?_, ?_, ?_, ?_⟩, HBZ.out⟩
                all_goals (have := HSZ.out; have := BWA.out.size; have := B.out.size; (first | exact B.out.size | (show wa.heap.size ≤ _; omega) | (show w.heap.size ≤ wa.heap.size; omega) | (show wr.heap.size ≤ WZ.heap.size; omega) | (show wa.heap.size ≤ WZ.heap.size; omega)))
  · intro i hi σ c wr' hb hd
    simp only [List.mem_cons, List.not_mem_nil, or_false] at hi; rcases hi with rfl | rfl | rfl | rfl | rfl | rfl | rfl | rfl
    · skip
      clear hd
      refine StepF.of (a1 := ⟨#[.agg #[.int .i64 (n : Nat), .slice a1 D.f1.length p1, .slice a2 D.f2.length p2], .slice al l.length pl, .pointer (some ⟨w.heap.size, 0, none⟩), undef, .pointer (some ⟨w.heap.size + 1, 0, none⟩), .slice none 0 0, .slice none 0 0, .bool false, σ 7, undef, undef, undef, undef, undef, undef, undef, σ 0, σ 1, σ 2, σ 3, σ 4, σ 5, σ 6, undef, undef, undef, undef, undef, undef, undef, undef, undef, undef, undef, undef, undef, undef, undef, undef, undef, undef, undef, undef, undef, undef, undef, undef, undef, undef, undef, undef, undef, undef, undef, undef, undef, undef, undef, undef, undef, undef, undef, undef, undef, undef, undef, undef, undef, undef, undef, undef, undef, undef, undef, undef, undef, undef, undef, undef, undef, undef, undef, undef, undef, undef, undef, undef, undef, undef, undef, undef, undef, undef, undef, undef, undef, undef, undef, undef, undef, undef, undef, undef], []⟩) rfl rfl (fun _ => rfl) (fun K hK => ?_)
      go_simp
      exact hK _ _ (Below.refl _ _) rfl
    · skip
      have f0 : hcF _ _ _ _ _ 0 σ c wr' := hd 0 (by decide) (by decide)
      simp only [hcF] at f0
      clear hd
      refine StepF.of (a1 := ⟨#[.agg #[.int .i64 (n : Nat), .slice a1 D.f1.length p1, .slice a2 D.f2.length p2], .slice al l.length pl, .pointer (some ⟨w.heap.size, 0, none⟩), undef, .pointer (some ⟨w.heap.size + 1, 0, none⟩), .slice none 0 0, .slice none 0 0, .bool false, σ 7, undef, undef, undef, undef, undef, undef, undef, (.pointer (some ⟨w.heap.size, 0, none⟩)), σ 1, σ 2, σ 3, σ 4, σ 5, σ 6, undef, undef, undef, undef, undef, undef, undef, undef, undef, undef, undef, undef, undef, undef, undef, undef, undef, undef, undef, undef, undef, undef, undef, undef, undef, undef, undef, undef, undef, undef, undef, undef, undef, undef, undef, undef, undef, undef, undef, undef, undef, undef, undef, undef, undef, undef, undef, undef, undef, undef, undef, undef, undef, undef, undef, undef, undef, undef, undef, undef, undef, undef, undef, undef, undef, undef, undef, undef, undef, undef, undef, undef, undef, undef, undef, undef, undef, undef, undef, undef], []⟩) (by simp only [f0]) rfl (fun _ => rfl) (fun K hK => ?_)
      obtain ⟨c0, c1, c2⟩ := (PA.out.below hb PA.out.lt).three
      go_simp
      exact hK _ _ (Below.refl _ _) rfl
    · skip
      clear hd
      refine StepF.of (a1 := ⟨#[.agg #[.int .i64 (n : Nat), .slice a1 D.f1.length p1, .slice a2 D.f2.length p2], .slice al l.length pl, .pointer (some ⟨w.heap.size, 0, none⟩), undef, .pointer (some ⟨w.heap.size + 1, 0, none⟩), .slice none 0 0, .slice none 0 0, .bool false, σ 7, undef, undef, undef, undef, undef, undef, undef, σ 0, σ 1, σ 2, σ 3, σ 4, σ 5, σ 6, undef, undef, undef, undef, undef, undef, undef, undef, undef, undef, undef, undef, undef, undef, undef, undef, undef, undef, undef, undef, undef, undef, undef, undef, undef, undef, undef, undef, undef, undef, undef, undef, undef, undef, undef, undef, undef, undef, undef, undef, undef, undef, undef, undef, undef, undef, undef, undef, undef, undef, undef, undef, undef, undef, undef, undef, undef, undef, undef, undef, undef, undef, undef, undef, undef, undef, undef, undef, undef, undef, undef, undef, undef, undef, undef, undef, undef, undef, undef, undef], []⟩) rfl rfl (fun _ => rfl) (fun K hK => ?_)
      go_simp
      exact hK _ _ (Below.refl _ _) rfl
    · skip
      have f2 : hcF _ _ _ _ _ 2 σ c wr' := hd 2 (by decide) (by decide)
      simp only [hcF] at f2
      clear hd
      refine StepF.of (a1 := ⟨#[.agg #[.int .i64 (n : Nat), .slice a1 D.f1.length p1, .slice a2 D.f2.length p2], .slice al l.length pl, .pointer (some ⟨w.heap.size, 0, none⟩), undef, .pointer (some ⟨w.heap.size + 1, 0, none⟩), .slice none 0 0, .slice none 0 0, .bool false, σ 7, undef, undef, undef, undef, undef, undef, undef, σ 0, σ 1, (.pointer (some ⟨w.heap.size, 1, none⟩)), σ 3, σ 4, σ 5, σ 6, undef, undef, undef, undef, undef, undef, undef, undef, undef, undef, undef, undef, undef, undef, undef, undef, undef, undef, undef, undef, undef, undef, undef, undef, undef, undef, undef, undef, undef, undef, undef, undef, undef, undef, undef, undef, undef, undef, undef, undef, undef, undef, undef, undef, undef, undef, undef, undef, undef, undef, undef, undef, undef, undef, undef, undef, undef, undef, undef, undef, undef, undef, undef, undef, undef, undef, undef, undef, undef, undef, undef, undef, undef, undef, undef, undef, undef, undef, undef, undef], []⟩) (by simp only [f2]) rfl (fun _ => rfl) (fun K hK => ?_)
      obtain ⟨c0, c1, c2⟩ := (PA.out.below hb PA.out.lt).three
      go_simp
      exact hK _ _ (Below.refl _ _) rfl
    · skip
      clear hd
      refine StepF.of (a1 := ⟨#[.agg #[.int .i64 (n : Nat), .slice a1 D.f1.length p1, .slice a2 D.f2.length p2], .slice al l.length pl, .pointer (some ⟨w.heap.size, 0, none⟩), undef, .pointer (some ⟨w.heap.size + 1, 0, none⟩), .slice none 0 0, .slice none 0 0, .bool false, σ 7, undef, undef, undef, undef, undef, undef, undef, σ 0, σ 1, σ 2, σ 3, σ 4, σ 5, σ 6, undef, undef, undef, undef, undef, undef, undef, undef, undef, undef, undef, undef, undef, undef, undef, undef, undef, undef, undef, undef, undef, undef, undef, undef, undef, undef, undef, undef, undef, undef, undef, undef, undef, undef, undef, undef, undef, undef, undef, undef, undef, undef, undef, undef, undef, undef, undef, undef, undef, undef, undef, undef, undef, undef, undef, undef, undef, undef, undef, undef, undef, undef, undef, undef, undef, undef, undef, undef, undef, undef, undef, undef, undef, undef, undef, undef, undef, undef, undef, undef], []⟩) rfl rfl (fun _ => rfl) (fun K hK => ?_)
      go_simp
      exact hK _ _ (Below.refl _ _) rfl
    · skip
      have f3 : hcF _ _ _ _ _ 3 σ c wr' := hd 3 (by decide) (by decide)
      simp only [hcF] at f3
      have f4 : hcF _ _ _ _ _ 4 σ c wr' := hd 4 (by decide) (by decide)
      simp only [hcF] at f4
      clear hd
      refine StepF.of (a1 := ⟨#[.agg #[.int .i64 (n : Nat), .slice a1 D.f1.length p1, .slice a2 D.f2.length p2], .slice al l.length pl, .pointer (some ⟨w.heap.size, 0, none⟩), undef, .pointer (some ⟨w.heap.size + 1, 0, none⟩), .slice none 0 0, .slice none 0 0, .bool false, σ 7, undef, undef, undef, undef, undef, undef, undef, σ 0, σ 1, σ 2, (.slice a1 D.f1.length p1), (.slice al l.length pl), σ 5, σ 6, undef, undef, undef, undef, undef, undef, undef, undef, undef, undef, undef, undef, undef, undef, undef, undef, undef, undef, undef, undef, undef, undef, undef, undef, undef, undef, undef, undef, undef, undef, undef, undef, undef, undef, undef, undef, undef, undef, undef, undef, undef, undef, undef, undef, undef, undef, undef, undef, undef, undef, undef, undef, undef, undef, undef, undef, undef, undef, undef, undef, undef, undef, undef, undef, undef, undef, undef, undef, undef, undef, undef, undef, undef, undef, undef, undef, undef, undef, undef, undef], []⟩) (by simp only [f3, f4]) rfl (fun _ => rfl) (fun K hK => ?_)
      go_simp
      refine (sjoin_chain _ _ D.f1 l _ (R1.out.below (B.out.trans (hb.mono B.out.size))).s (RL.out.below (B.out.trans (hb.mono B.out.size))).s G1.out G2.out).mono ?_
      rintro e w2 ⟨u, rfl, ho, b⟩
      exact hK u w2 b ⟨ho.k, ho.k.sform⟩
    · skip
      have f1 : hcF _ _ _ _ _ 1 σ c wr' := hd 1 (by decide) (by decide)
      simp only [hcF] at f1
      have f5 : hcF _ _ _ _ _ 5 σ c wr' := hd 5 (by decide) (by decide)
      obtain ⟨_, a5, m5, q5, f5⟩ := f5
      clear hd
      refine StepF.of (a1 := ⟨#[.agg #[.int .i64 (n : Nat), .slice a1 D.f1.length p1, .slice a2 D.f2.length p2], .slice al l.length pl, .pointer (some ⟨w.heap.size, 0, none⟩), undef, .pointer (some ⟨w.heap.size + 1, 0, none⟩), .slice none 0 0, .slice none 0 0, .bool false, σ 7, undef, undef, undef, undef, undef, undef, undef, σ 0, (.int .i64 (n : Nat)), σ 2, σ 3, σ 4, (.slice a5 m5 q5), σ 6, undef, undef, undef, undef, undef, undef, undef, undef, undef, undef, undef, undef, undef, undef, undef, undef, undef, undef, undef, undef, undef, undef, undef, undef, undef, undef, undef, undef, undef, undef, undef, undef, undef, undef, undef, undef, undef, undef, undef, undef, undef, undef, undef, undef, undef, undef, undef, undef, undef, undef, undef, undef, undef, undef, undef, undef, undef, undef, undef, undef, undef, undef, undef, undef, undef, undef, undef, undef, undef, undef, undef, undef, undef, undef, undef, undef, undef, undef, undef, undef], []⟩) (by simp only [f1, f5]) rfl (fun _ => rfl) (fun K hK => ?_)
      go_simp
      exact hK _ _ (Below.refl _ _) (by show _ = Value.agg #[σ 1, σ 5, .slice none 0 0]; rw [f1, f5]; rfl)
    · skip
      clear hd
      refine StepF.of (a1 := ⟨#[.agg #[.int .i64 (n : Nat), .slice a1 D.f1.length p1, .slice a2 D.f2.length p2], .slice al l.length pl, .pointer (some ⟨w.heap.size, 0, none⟩), undef, .pointer (some ⟨w.heap.size + 1, 0, none⟩), .slice none 0 0, .slice none 0 0, .bool false, σ 7, undef, undef, undef, undef, undef, undef, undef, σ 0, σ 1, σ 2, σ 3, σ 4, σ 5, σ 6, undef, undef, undef, undef, undef, undef, undef, undef, undef, undef, undef, undef, undef, undef, undef, undef, undef, undef, undef, undef, undef, undef, undef, undef, undef, undef, undef, undef, undef, undef, undef, undef, undef, undef, undef, undef, undef, undef, undef, undef, undef, undef, undef, undef, undef, undef, undef, undef, undef, undef, undef, undef, undef, undef, undef, undef, undef, undef, undef, undef, undef, undef, undef, undef, undef, undef, undef, undef, undef, undef, undef, undef, undef, undef, undef, undef, undef, undef, undef, undef], []⟩) rfl rfl (fun _ => rfl) (fun K hK => ?_)
      go_simp
      exact hK _ _ ((Below.refl _ _).alloc (Nat.le_refl _) _) ⟨_, rfl, ⟨Nat.le_refl _, by show _ < (World.alloc _ _).heap.size; rw [World.size_alloc]; omega⟩, (box_three _ _ _ _).1⟩
end Go.Proofs.Ytnkpboobfkjibad
