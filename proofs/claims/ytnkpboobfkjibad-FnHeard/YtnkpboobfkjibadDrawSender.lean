/-
  The cursor's sender: whatever it is, in memory of its own; of old memory the cursor alone is written.
-/
import Derived.Test.YtnkpboobfkjibadDrawOrd11
import Derived.Test.YtnkpboobfkjibadSHear
import Derived.Test.YtnkpboobfkjibadSIn
import Derived.Test.YtnkpboobfkjibadKOwnS
import Derived.Test.YtnkpboobfkjibadRegFacts3
import Derived.Test.YtnkpboobfkjibadStepApp
namespace Go.Proofs.Ytnkpboobfkjibad
open Go.RowKit

/-- What the operations make. -/
def dnF (g A : Nat) (v2 : Value) : Nat → (Nat → Value) → (Nat → Nat × Nat) → World → Prop
  | 0, σ, _, _ => σ 0 = .pointer (some ⟨A, 2, none⟩)
  | 1, σ, _, _ => σ 1 = v2
  | 2, σ, _, _ => σ 2 = .pointer (some ⟨g, 0, none⟩)
  | 3, σ, _, _ => ∃ r : Nat, r ≤ 19 ∧ σ 3 = .int .i64 (r : Nat)
  | 4, σ, c, w => ∃ bb r : Nat, (g < bb ∧ (c 4).1 ≤ bb) ∧ σ 4 = .slice (some ⟨bb, 0, none⟩) 1 1 ∧ w.cell? ⟨bb, 0, none⟩ = some (.int .i64 (r : Nat))
  | _, _, _, _ => True
theorem dnF_keep {g A : Nat} {v2 : Value} : ∀ j ∈ [0, 1, 2, 3, 4], ∀ σ c w w', dnF g A v2 j σ c w → w.grownBy w' (some g) → dnF g A v2 j σ c w' := by
  intro j hj σ c w w' h hb
  simp only [List.mem_cons, List.not_mem_nil, or_false] at hj; rcases hj with rfl | rfl | rfl | rfl | rfl
  · exact h
  · exact h
  · exact h
  · exact h
  · exact by obtain ⟨bb, r, h1, e, hc⟩ := h; exact ⟨bb, r, h1, e, hb.cell hc (by simp; omega)⟩
theorem dnF_loc {g A : Nat} {v2 : Value} {j i : Nat} {σ : Nat → Value} {c : Nat → Nat × Nat} {w : World} {v : Value} {r : Nat × Nat} (hj : j ∈ [0, 1, 2, 3, 4]) (hne : i ≠ j) (_hd : True) (h : dnF g A v2 j σ c w) : dnF g A v2 j (upd σ i v) (upd c i r) w := by
  simp only [List.mem_cons, List.not_mem_nil, or_false] at hj; rcases hj with rfl | rfl | rfl | rfl | rfl
  · simp only [dnF, upd_other _ _ (Ne.symm hne)] at h ⊢
    exact h
  · simp only [dnF, upd_other _ _ (Ne.symm hne)] at h ⊢
    exact h
  · simp only [dnF, upd_other _ _ (Ne.symm hne)] at h ⊢
    exact h
  · simp only [dnF, upd_other _ _ (Ne.symm hne)] at h ⊢
    exact h
  · simp only [dnF, upd_other _ _ (Ne.symm hne)] at h ⊢
    exact h
set_option maxRecDepth 100000 in
set_option maxHeartbeats 8000000 in
theorem sender_any (B b N : Nat) (w : World) (h : Cur B w b N) (hN : N ≤ 1152921504606000000) :
    Calls Try.prog 111 #[.pointer (some ⟨b, 0, none⟩)] w fun e w' => ∃ v, e = .returned v ∧ ∃ D : SdD, SdNew w.heap.size w' v D ∧ (0 ≤ D.f0 ∧ D.f0 ≤ 60) ∧ Cur B w' b (N + 2000) ∧ w.grownBy w' (some b) := by
  have hbw := rtcur_lt h
  have hBb : B ≤ b := h.1
  have hBw : B ≤ w.heap.size := h.2.1
  obtain ⟨PR, BR, hsR⟩ := box_three (w := w) (.int .i64 0) (.slice none 0 0) (.slice none 0 0) 49
  obtain ⟨W0, hW0⟩ : ∃ W, W = w.alloc (.cells #[.int .i64 0, .slice none 0 0, .slice none 0 0] 49) := ⟨_, rfl⟩
  rw [← hW0] at PR BR hsR
  have C0 := hid (h.below BR)
  have G0 : Hid (w.grownBy W0 (some b)) := only_of_below BR
  have HPR := hid PR
  have HW0 := hid hW0
  clear h PR BR hW0
  go_enter Try.func111, Try.ntmps111
  go_wp2_with fail
  rw [← HW0.out]
  clear HW0
  refine (pick_any B b _ 16 _ C0.out (by omega) (by omega)).mono ?_
  rintro e w1 ⟨n, hn, rfl, c1, g1⟩
  have P1 := hid (HPR.out.of_block (g1.block w.heap.size (by omega) (by intro e; cases e; omega)))
  have C1 := hid c1; have G1 := hid (only_trans G0.out g1); have hs1 := g1.size; clear c1 g1 C0 G0 HPR
  have hn15 : n ≤ 15 := by omega
  obtain ⟨D0, hD0⟩ : ∃ D, newSd (n : Int) = D := ⟨_, rfl⟩
  have hnb : newSdB (n : Int) = true := by unfold newSdB; rw [decide_eq_true_eq]; omega
  have HD0 := hid hD0
  have HNB := hid hnb
  clear hD0 hnb hn
  go_wp2_with fail
  refine (snewSd_app (n : Int) _ D0 true HD0.out HNB.out).mono ?_
  rintro e w2 ⟨u0, rfl, o2, b2⟩
  obtain rfl : D0 = ⟨(n : Int), [], []⟩ := by rw [← HD0.out]; unfold newSd; rw [HNB.out]; rfl
  obtain ⟨a1, n1, k1, a2, n2, k2, rfl⟩ := o2.form
  have hs2 := b2.size
  obtain ⟨PX, BX, hsX⟩ := box_three (w := w2) (.int .i64 (n : Nat)) (.slice a1 n1 k1) (.slice a2 n2 k2) 49
  obtain ⟨W3, hW3⟩ : ∃ W, W = w2.alloc (.cells #[.int .i64 (n : Nat), .slice a1 n1 k1, .slice a2 n2 k2] 49) := ⟨_, rfl⟩
  rw [← hW3] at PX BX hsX
  have b3 := b2.trans (BX.mono b2.size)
  have HPX := hid PX
  have P3 := hid (P1.out.below b3 P1.out.lt)
  have C3 := hid (C1.out.below b3)
  have G3 : Hid (w.grownBy W3 (some b)) := only_trans G1.out (only_of_below b3)
  have O3 := hid ((o2.below BX).mono (S' := fun g => w1.heap.size ≤ g ∧ g < w2.heap.size) fun g hg => hg)
  have HW3 := hid hW3
  clear o2 b2 PX BX hW3 b3 P1 C1 G1
  obtain ⟨bx, hbx⟩ : ∃ bx, bx = w2.heap.size := ⟨_, rfl⟩
  go_wp2_with fail
  rw [← HW3.out]
  clear HW3
  refine (order11_any B b _ n _ C3.out (by omega) (by omega)).mono ?_
  rintro e w4 ⟨vo, rfl, xs, ⟨hxl, hxz⟩, o4, c4, g4⟩
  obtain ⟨oa, oc, rfl⟩ : ∃ a c, vo = .slice a xs.length c := by obtain ⟨a, c, e, _⟩ := o4.reads; exact ⟨a, c, e⟩
  have hs4 := g4.size
  rw [hsX] at hs4
  rw [← hbx] at HPX hs4 hsX O3 ⊢
  have hbw2 : w.heap.size < bx := by omega
  have RO := hid o4
  have P4 := hid (P3.out.of_block (g4.block w.heap.size (by omega) (by intro e; cases e; omega)))
  have X4 := hid (HPX.out.of_block (g4.block bx (by omega) (by intro e; cases e; omega)))
  have O4 := hid (O3.out.at (w' := w4) fun g hg hl => g4.block g hl (by intro e; cases e; omega))
  have C4 := hid (c4.mono (show _ ≤ N + 400 by omega)); have G4 := hid (only_trans G3.out g4)
  rw [hsX] at RO
  have hxl2 : xs.length ≤ 15 := by omega
  have hw1w : w.heap.size + 1 ≤ w1.heap.size := by omega
  have hw12 : w1.heap.size ≤ bx := by omega
  clear o4 c4 g4 P3 HPX O3 C3 G3 hxl hbx hsX hs2 hs1 hsR
  go_wp2
  obtain ⟨q, hq⟩ : ∃ q, w4.heap.size = q := ⟨_, rfl⟩
  rw [hq] at RO
  have hq4 : q ≤ w4.heap.size := by omega
  go_loopw [23] (fun i wr => ∃ (k : Nat) (D : SdD) (p1 : Option Addr) (q1 r1 : Nat) (p2 : Option Addr) (q2 r2 : Nat), k ≤ xs.length ∧ i = .int .i64 (k : Nat) ∧ (D.f0 = (n : Int) ∧ D.f2.length ≤ 60) ∧ BoxL wr bx [.int .i64 (n : Nat), .slice p1 q1 r1, .slice p2 q2 r2] ∧ SdOwnA (fun g => w.heap.size < g ∧ g ≠ bx) wr (.agg #[.int .i64 (n : Nat), .slice p1 q1 r1, .slice p2 q2 r2]) D ∧ BoxL wr w.heap.size [.int .i64 0, .slice none 0 0, .slice none 0 0] ∧ KOwn (bx + 1) q wr (.slice oa xs.length oc) xs ∧ Cur B wr b (N + 400 + 2 * k) ∧ w.grownBy wr (some b) ∧ q ≤ wr.heap.size) (fun i _ => xs.length - (intOf i).toNat)
  case atStart => exact ⟨0, ⟨(n : Int), [], []⟩, a1, n1, k1, a2, n2, k2, Nat.zero_le _, rfl, ⟨rfl, by simp⟩, X4.out, O4.out.mono fun g hg => ⟨by omega, by omega⟩, P4.out, RO.out, C4.out, G4.out, hq4⟩
  case round =>
    clear X4 O4 P4 RO C4 G4 hq4 hq
    obtain ⟨k, D, p1, q1, r1, p2, q2, r2, hk, rfl, ⟨hf0, hf2⟩, hbx, hso, hpr, hro, hcu, hgr, hqw⟩ := hrel
    have PX := hid hbx
    have SO := hid hso
    have PR := hid hpr
    have RO := hid hro
    have HC := hid hcu
    have HG := hid hgr
    have HF0 := hid hf0
    have hsw := hgr.size
    have hbxw := hbx.lt
    clear hbx hso hpr hro hcu hgr hf0
    by_cases hlt : k < xs.length
    · obtain ⟨g, o, cap', e, hc⟩ := RO.out.reads.cells k hlt
      cases e
      have hgb : bx < g := by
        rcases RO.out.2 with ⟨_, _, e, e0⟩ | ⟨g', cap', e, hg', _⟩
        · rw [e0] at hlt; simp at hlt
        · cases e; omega
      obtain ⟨x, hx⟩ : ∃ x, xs.getD k 0 = x := ⟨_, rfl⟩
      have cx : wr.cell? ⟨g, o + k, none⟩ = some (.int .i64 x) := by rw [← hx]; exact hc k hlt
      have n0 : (0 : Int) ≤ (k : Int) := by omega
      have m1 : (k : Int) < (xs.length : Int) := by omega
      clear hc hx
      go_wp2_with fail
      refine (one_any B b _ 3 _ HC.out (by omega) (by omega)).mono ?_
      rintro e w5 ⟨t5, rfl, c5, g5⟩
      have hs5 := g5.size
      have PX5 := hid (PX.out.of_block (g5.block bx (by omega) (by intro e; cases e; omega)))
      have SO5 := hid (SO.out.at (w' := w5) fun j hj hl => g5.block j hl (by intro e; cases e; omega))
      have PR5 := hid (PR.out.of_block (g5.block w.heap.size (by omega) (by intro e; cases e; omega)))
      have RO5 := hid (RO.out.at (w' := w5) fun j h1 h2 h3 => g5.block j h3 (by intro e; cases e; omega))
      have C5 := hid (c5.mono (show N + 400 + 2 * k + 2 ≤ N + 400 + 2 * (k + 1) by omega)); have G5 := hid (only_trans HG.out g5)
      clear c5 g5 PX SO PR RO HC HG cx
      have hq5 : q ≤ w5.heap.size := by omega
      cases t5
      rotate_left
      · go_wp2
        go_roundw
        case rel => exact ⟨k + 1, D, p1, q1, r1, p2, q2, r2, by omega, by go_num, ⟨HF0.out, hf2⟩, PX5.out, SO5.out, PR5.out, RO5.out, C5.out, G5.out, hq5⟩
        case measure => simp [intOf]; omega
      by_cases hx0 : x < 0
      · go_wp2
        go_roundw
        case rel => exact ⟨k + 1, D, p1, q1, r1, p2, q2, r2, by omega, by go_num, ⟨HF0.out, hf2⟩, PX5.out, SO5.out, PR5.out, RO5.out, C5.out, G5.out, hq5⟩
        case measure => simp [intOf]; omega
      by_cases hxn : (n : Int) ≤ x
      · go_wp2
        go_roundw
        case rel => exact ⟨k + 1, D, p1, q1, r1, p2, q2, r2, by omega, by go_num, ⟨HF0.out, hf2⟩, PX5.out, SO5.out, PR5.out, RO5.out, C5.out, G5.out, hq5⟩
        case measure => simp [intOf]; omega
      obtain ⟨y, hy⟩ : ∃ y, y = x + 1 := ⟨_, rfl⟩
      have HOL : Hid (oneL x = [(x, y)]) := by show _ = _; rw [hy]; rfl
      have hw1 : IntKind.i64.wrap (x + 1) = y := by rw [hy, IntKind.wrap_i64]; omega
      obtain ⟨X, hX⟩ : ∃ X, hearSd D (oneL x) = X := ⟨_, rfl⟩
      obtain ⟨FR, hFR⟩ : ∃ X, hearFr D (oneL x) = X := ⟨_, rfl⟩
      obtain ⟨LA, hLA⟩ : ∃ X, hearLa D (oneL x) = X := ⟨_, rfl⟩
      obtain ⟨tb, htb⟩ : ∃ b, hearB D (oneL x) = b := ⟨_, rfl⟩
      have HX := hid hX
      have HFR := hid hFR
      have HLA := hid hLA
      have HTB := hid htb
      obtain ⟨z0, z1, z2⟩ := PX5.out.three
      have AB : Hid (Below w5.heap.size w5 (w5.alloc (.cells #[.int .i64 x, .int .i64 y] 133))) := (Below.refl _ _).alloc (Nat.le_refl _) _
      have hxd0 : decide (x < 0) = false := by rw [decide_eq_false_iff_not]; exact hx0
      clear hy hX hFR hLA htb
      go_wp2_with fail
      refine (shear_app _ _ D (oneL x) _ (SO5.out.own.reads.below AB.out) (by rw [HOL.out]; exact spreads_one _ _ _ _) X FR LA tb HX.out HFR.out HLA.out HTB.out).mono ?_
      rintro e w6 ⟨u0, u1, u2, S0, S1, S2, rfl, o0, _, _, _, hin, b6⟩
      obtain ⟨s1, t1, v1, s2, t2, v2, rfl⟩ := o0.form
      have b6' := AB.out.trans (b6.mono AB.out.size)
      have hs6 : w5.heap.size + 1 ≤ w6.heap.size := by have := b6.size; rw [World.size_alloc] at this; exact this
      obtain ⟨PN, BN, hsN⟩ := box_three (w := w6) (.int .i64 X.f0) (.slice s1 t1 v1) (.slice s2 t2 v2) 49
      have b7 := b6'.trans (BN.mono b6'.size)
      have PX7 := PX5.out.below b7 PX5.out.lt
      have SO7 := hid (SO5.out.below b7)
      have SN7 := hid ((o0.below BN).mono (S' := fun g => w.heap.size < g ∧ g ≠ bx) fun g hg => by have := hin g (.inl hg); rw [World.size_alloc] at this; omega)
      have PR7 := hid (PR5.out.below b7 PR5.out.lt)
      have RO7 := hid (RO5.out.below b7)
      have C7 := hid (C5.out.below b7)
      have G7 := hid (only_trans G5.out (only_of_below b7))
      obtain ⟨W7, hW7⟩ : ∃ W, W = w6.alloc (.cells #[.int .i64 X.f0, .slice s1 t1 v1, .slice s2 t2 v2] 49) := ⟨_, rfl⟩
      have hq7 : q ≤ (w6.alloc (.cells #[.int .i64 X.f0, .slice s1 t1 v1, .slice s2 t2 v2] 49)).heap.size := by rw [hsN]; omega
      clear b6 b6' b7 BN o0 hin PX5 SO5 PR5 RO5 C5 G5 AB z0 z1 z2
      cases tb
      · have PX8 := hid PX7
        have HW7 := hid hW7
        rw [← hW7] at SO7 PR7 RO7 C7 G7 hq7 PX8
        clear PN PX7 hW7 hsN SN7
        go_wp2
        rw [← HW7.out]
        go_roundw
        case rel => exact ⟨k + 1, D, p1, q1, r1, p2, q2, r2, by omega, by go_num, ⟨HF0.out, hf2⟩, PX8.out, SO7.out, PR7.out, RO7.out, C7.out, G7.out, hq7⟩
        case measure => simp [intOf]; omega
      have hXf : X.f0 = (n : Int) := by rw [← HX.out, (goodSd_hear HTB.out).2]; exact HF0.out
      have HXf := hid hXf
      rw [hXf] at PN PX7 SN7 SO7 PR7 RO7 C7 G7 hq7
      rw [hXf]
      clear hXf hW7 hsN SO7
      obtain ⟨c0, c1', c2'⟩ := PN.three
      obtain ⟨⟨y0, f0⟩, ⟨y1, f1⟩, y2, f2⟩ := PX7.form3
      have PUT := three_put PX7 (.int .i64 (n : Nat)) (.slice s1 t1 v1) (.slice s2 t2 v2)
      have OO := three_only (w6.alloc (.cells #[.int .i64 (n : Nat), .slice s1 t1 v1, .slice s2 t2 v2] 49)) bx (.int .i64 (n : Nat)) (.slice s1 t1 v1) (.slice s2 t2 v2)
      have BLW := three_below (lo := w.heap.size) (b := bx) (w6.alloc (.cells #[.int .i64 (n : Nat), .slice s1 t1 v1, .slice s2 t2 v2] 49)) (.int .i64 (n : Nat)) (.slice s1 t1 v1) (.slice s2 t2 v2) (by omega)
      obtain ⟨WZ, hWZ⟩ : ∃ WZ, WZ = (((w6.alloc (.cells #[.int .i64 (n : Nat), .slice s1 t1 v1, .slice s2 t2 v2] 49)).setCell ⟨bx, 0, none⟩ (.int .i64 (n : Nat))).setCell ⟨bx, 1, none⟩ (.slice s1 t1 v1)).setCell ⟨bx, 2, none⟩ (.slice s2 t2 v2) := ⟨_, rfl⟩
      rw [← hWZ] at PUT OO BLW
      have PZ := hid PUT
      have SZ := hid (SN7.out.at (w' := WZ) fun j hj _ => OO.2.1 j hj.2)
      have PRZ := hid (PR7.out.of_block (OO.2.1 w.heap.size (by omega)))
      have ROZ := hid (RO7.out.at (w' := WZ) fun j h1 h2 h3 => OO.2.1 j (by omega))
      have CZ := hid (C7.out.under hbw hBw BLW)
      have GZ := hid (only_then G7.out BLW)
      have hqZ : q ≤ WZ.heap.size := by rw [OO.1]; exact hq7
      have HWZ := hid hWZ
      clear PN PX7 PUT OO BLW hWZ SN7 PR7 RO7 C7 G7 hq7
      go_wp2
      rw [← HWZ.out]
      go_roundw
      case rel => exact ⟨k + 1, X, s1, t1, v1, s2, t2, v2, by omega, by go_num, ⟨HXf.out, by rw [← HX.out]; exact (goodSd_few (goodSd_hear HTB.out).1).2.2⟩, PZ.out, SZ.out, PRZ.out, ROZ.out, CZ.out, GZ.out, hqZ⟩
      case measure => simp [intOf]; omega
    · obtain rfl : k = xs.length := by omega
      have hge : ¬ (xs.length : Int) < (xs.length : Int) := by omega
      have HE : Hid (∀ (W : World) (E : SdD) (e1 e2 : Value), E.f0 = (n : Int) → BoxL W w.heap.size [.int .i64 0, .slice none 0 0, .slice none 0 0] → SdNew (w.heap.size + 1) W (.agg #[.int .i64 (n : Nat), e1, e2]) E → Cur B W b (N + 2000) → w.grownBy W (some b) → ∀ (tmps : Array Value), tmps[2]?.getD undef = .pointer (some ⟨w.heap.size, 0, none⟩) →
          bodyPost Try.prog Try.f111 (fun e w' => ∃ v, e = .returned v ∧ ∃ D : SdD, SdNew w.heap.size w' v D ∧ (0 ≤ D.f0 ∧ D.f0 ≤ 60) ∧ Cur B w' b (N + 2000) ∧ w.grownBy w' (some b)) .ret { tmps := tmps, defers := [] } (((W.setCell ⟨w.heap.size, 0, none⟩ (.int .i64 (n : Nat))).setCell ⟨w.heap.size, 1, none⟩ e1).setCell ⟨w.heap.size, 2, none⟩ e2)) := by
        intro W E e1 e2 hE hP hS hc hg tmps ht
        obtain ⟨x0, x1, x2⟩ := (three_put hP (.int .i64 (n : Nat)) e1 e2).three
        have OO := three_only W w.heap.size (.int .i64 (n : Nat)) e1 e2
        have BL := three_below (lo := w.heap.size) (b := w.heap.size) W (.int .i64 (n : Nat)) e1 e2 (Nat.le_refl _)
        refine bodyPost_ret (v := .agg #[.int .i64 (n : Nat), e1, e2]) ?_ rfl ⟨_, rfl, E, ((hS.at fun j hj _ => OO.2.1 j (by omega)).mono (by omega)), ⟨by omega, by omega⟩, hc.under hbw hBw BL, only_then hg BL⟩
        simp [results, Try.results111, go_sem, ht, x0, x1, x2]
      clear RO
      go_wp2_with fail
      refine (one_any B b _ 20 _ HC.out (by omega) (by omega)).mono ?_
      rintro e w5 ⟨t5, rfl, c5, g5⟩
      have hs5 := g5.size
      have PX5 := hid (PX.out.of_block (g5.block bx (by omega) (by intro e; cases e; omega)))
      have SO5 := hid (SO.out.at (w' := w5) fun j hj hl => g5.block j hl (by intro e; cases e; omega))
      have PR5 := hid (PR.out.of_block (g5.block w.heap.size (by omega) (by intro e; cases e; omega)))
      have C5 := hid (c5.mono (show _ ≤ N + 500 by omega)); have G5 := hid (only_trans HG.out g5)
      clear c5 g5 PX SO PR HC HG
      cases t5
      · obtain ⟨z0, z1, z2⟩ := PX5.out.three
        obtain ⟨⟨y0, f0⟩, ⟨y1, f1⟩, y2, f2⟩ := PR5.out.form3
        go_wp2
        exact HE.out _ D _ _ HF0.out PR5.out (SdNew.of_own SO5.out.own fun g hg => by omega) (C5.out.mono (by omega)) G5.out _ rfl
      -- region 12
      go_wp2_with fail
      refine wp_region_any (by kernel_rfl) ?_
      change wpAny _ _ _ _ _ _ _ (World.drew _)
      obtain ⟨W2, hW2⟩ : ∃ X, X = World.drew w5 := ⟨_, rfl⟩
      have PXW : Hid (BoxL W2 bx [.int .i64 (n : Nat), .slice p1 q1 r1, .slice p2 q2 r2]) := by rw [hW2]; exact PX5.out
      have SOW : Hid (SdOwnA (fun g => w.heap.size < g ∧ g ≠ bx) W2 (.agg #[.int .i64 (n : Nat), .slice p1 q1 r1, .slice p2 q2 r2]) D) := by rw [hW2]; exact SO5.out.below (Below.refl _ _).drew
      have PRW : Hid (BoxL W2 w.heap.size [.int .i64 0, .slice none 0 0, .slice none 0 0]) := by rw [hW2]; exact PR5.out
      have CW : Hid (Cur B W2 b (N + 500)) := by rw [hW2]; exact C5.out.below (Below.refl _ _).drew
      have GW : Hid (w.grownBy W2 (some b)) := by rw [hW2]; exact only_trans G5.out (only_of_below (Below.refl _ _).drew)
      have hsW : W2.heap.size = w5.heap.size := by rw [hW2]; rfl
      rw [← hW2]
      clear hW2 PX5 SO5 PR5 C5 G5
      have hbW : bx < W2.heap.size := PXW.out.lt
      refine wpAny_facts3' 3 (Array.replicate 8 false) #[true, true, true, true, true, false, false, false] [0, 1, 2, 3, 4] [3] b (fun k wz => Cur B wz b (N + 500 + 2 * k)) (fun σ => #[.pointer (some ⟨b, 0, none⟩), undef, .pointer (some ⟨w.heap.size, 0, none⟩), .int .i64 (n : Nat), .pointer (some ⟨bx, 0, none⟩), .bool true, undef, u7, u8, u9, u10, u11, .pointer (some ⟨b, 0, none⟩), .int .i64 (n : Nat), .tuple #[.agg #[.int .i64 (n : Nat), .slice a1 n1 k1, .slice a2 n2 k2], .bool true], .int .i64 (n : Nat), .tuple #[.agg #[.int .i64 (n : Nat), .slice a1 n1 k1, .slice a2 n2 k2], .bool true], .agg #[.int .i64 (n : Nat), .slice a1 n1 k1, .slice a2 n2 k2], .bool true, .pointer (some ⟨b, 0, none⟩), .int .i64 (n : Nat), .slice oa xs.length oc, .int .i64 (xs.length : Nat), .int .i64 (xs.length : Nat), .bool false, u25, u26, u27, u28, u29, u30, u31, u32, u33, u34, u35, u36, u37, u38, u39, u40, u41, u42, u43, u44, u45, u46, u47, u48, u49, u50, u51, u52, .pointer (some ⟨b, 0, none⟩), .bool true, σ 0, σ 1, σ 2, σ 3, σ 4, undef, undef, undef]) (dnF b bx (.slice p2 q2 r2)) (fun _ => undef) rfl (by kernel_rfl) (by kernel_rfl) (by kernel_rfl) (by kernel_rfl) (by decide) (by kernel_rfl) dnF_keep (fun k wz wz' h hb => h.below hb) CW.out (fun j hj i hi σ c w v r hne hd h => dnF_loc hj hne trivial h) ?_ ?_ ?_
      · intro σ c wr' hb hr hf hin hdj
        have e0 : dnF _ _ _ 0 σ c wr' := hf 0 (by decide)
        have e1 : dnF _ _ _ 1 σ c wr' := hf 1 (by decide)
        have e2 : dnF _ _ _ 2 σ c wr' := hf 2 (by decide)
        obtain ⟨r3, q3, e3⟩ : dnF _ _ _ 3 σ c wr' := hf 3 (by decide)
        obtain ⟨b4, r4, h4, e4, k4⟩ : dnF _ _ _ 4 σ c wr' := hf 4 (by decide)
        simp only [dnF] at e0 e1 e2
        have n4 := hin 4 (by decide)
        clear hf hin hdj
        try dsimp only
        rw [e0, e1, e2, e3, e4]
        have hsr := hb.size
        have PX6 := hid (PXW.out.of_block (hb.block bx PXW.out.lt (by simp; omega)))
        have SO6 := hid (SOW.out.at (w' := wr') fun j hj hl => hb.block j hl (by simp; omega))
        have PR6 := hid (PRW.out.of_block (hb.block w.heap.size PRW.out.lt (by simp; omega)))
        have G6 := hid (only_trans GW.out hb)
        have C6 := hid hr
        have KR := hid (kreads_cell k4)
        clear hb hr e0 e1 e2 e3 e4 k4 PXW SOW PRW GW CW
        obtain ⟨v1', v2', c1, c2, ev, ha, h1, h2, h3⟩ := SO6.out
        simp at ev
        obtain ⟨hnf, rfl, rfl⟩ := ev
        clear hnf
        have i1 := ha.inn 0 (by omega)
        have i2 := ha.inn 1 (by omega)
        have dj : Dj c1 c2 := ha.dj 0 1 (by omega) (by omega) (by omega)
        have i1' : ∀ g, c1.1 ≤ g → g < c1.2 → w.heap.size < g ∧ g ≠ bx := i1.2
        have i2' : ∀ g, c2.1 ≤ g → g < c2.2 → w.heap.size < g ∧ g ≠ bx := i2.2
        have H1 := hid h1
        have H2 := hid h2
        clear ha h1 h2 SO6 i1 i2
        refine wpAny_ready (rs := [5]) (by kernel_rfl) (by simp) ?_
        refine AllReady.cons rfl (fun K hK => ?_) AllReady.nil
        refine step_append_app (by rfl) _ _ (by rfl) c2.1 c2.2 _ D.f2 (by rfl) h3 _ [(r4 : Int)] (by rfl) KR.out (by simp; omega) (by simp) ?_
        intro v' w6 hown hWr
        refine hK _ _ ?_
        clear hK K h3
        obtain ⟨Wr, hgr, hw1', hw2'⟩ := hWr
        obtain ⟨na, np, rfl⟩ := sform_of_owns hown
        have hs6 := hgr.size
        have nWr : ∀ j, (j ≤ w.heap.size ∨ j = bx) → Wr ≠ some j := fun j hj e => by have h := hw1' j e; have h' := i2' j h.1 h.2; omega
        have ob' : ∀ j, (Value.slice na (D.f2.length + 1) np).ownBlock = some j → w.heap.size < j ∧ j ≠ bx := fun j hj => by
          rcases hw2' j hj with h | h
          · have h := hw1' j h
            exact i2' j h.1 h.2
          · omega
        have PX7 := PX6.out.of_block (hgr.block bx PX6.out.lt (fun e => nWr bx (.inr rfl) e.symm))
        have PR7 := PR6.out.of_block (hgr.block w.heap.size PR6.out.lt (fun e => nWr _ (.inl (Nat.le_refl _)) e.symm))
        have h1' := H1.out.at (w' := w6) fun j g1 g2 g3 => hgr.block j g3 (fun e => by have h := hw1' j e.symm; unfold Dj at dj; omega)
        obtain ⟨_, _, x6, x7⟩ := PX7.form3
        have PX8 := hid (PX7.set 2 (by simp) (.slice na (D.f2.length + 1) np))
        have OO := onlyP_set w6 bx 2 (.slice na (D.f2.length + 1) np)
        have PR8 := hid (PR7.of_block (OO.2.1 w.heap.size (by omega)))
        have h1'' := h1'.at (w' := w6.setCell ⟨bx, 2, none⟩ (.slice na (D.f2.length + 1) np)) fun j g1 g2 _ => OO.2.1 j (i1' j g1 g2).2
        have ow8 := owns_stay (w' := w6.setCell ⟨bx, 2, none⟩ (.slice na (D.f2.length + 1) np)) (owns_raise (base' := w.heap.size + 1) hown fun j hj => (ob' j hj).1) (fun j hj => OO.2.1 j (ob' j hj).2)
        have ko8 : KOwn (w.heap.size + 1) (w6.setCell ⟨bx, 2, none⟩ (.slice na (D.f2.length + 1) np)).heap.size (w6.setCell ⟨bx, 2, none⟩ (.slice na (D.f2.length + 1) np)) (.slice na (D.f2.length + 1) np) (D.f2 ++ [(r4 : Int)]) := KOwn.of_owns ow8 (by simp; omega)
        have SD8 : Hid (SdNew (w.heap.size + 1) (w6.setCell ⟨bx, 2, none⟩ (.slice na (D.f2.length + 1) np)) (.agg #[.int .i64 (n : Nat), .slice p1 q1 r1, .slice na (D.f2.length + 1) np]) ⟨(n : Int), D.f1, D.f2 ++ [(r4 : Int)]⟩) := by
          have f1 : SpOwn (max (w.heap.size + 1) c1.1) c1.2 (w6.setCell ⟨bx, 2, none⟩ (.slice na (D.f2.length + 1) np)) (.slice p1 q1 r1) D.f1 := by
            rcases h1''.2 with h | ⟨g, cap, e, hg, hr⟩
            · exact ⟨h1''.1, .inl h⟩
            · exact ⟨h1''.1, .inr ⟨g, cap, e, ⟨by have := (i1' g hg.1 hg.2.1).1; omega, hg.2⟩, hr⟩⟩
          exact ⟨_, _, (max (w.heap.size + 1) c1.1, c1.2), (w.heap.size + 1, _), rfl, f1, ko8, by show w.heap.size + 1 ≤ max (w.heap.size + 1) c1.1; omega, Nat.le_refl _⟩
        have BQ : Below w.heap.size wr' (w6.setCell ⟨bx, 2, none⟩ (.slice na (D.f2.length + 1) np)) := ((Below.refl w.heap.size wr').grown hgr (by omega) (fun j e => by have h := hw1' j e; have := (i2' j h.1 h.2).1; omega)).setCell (by show w.heap.size ≤ bx; omega) _
        have C8 := hid ((C6.out.mono (show _ ≤ N + 2000 by simp)).under hbw hBw BQ)
        have G8 := hid (only_then G6.out BQ)
        obtain ⟨W8, hW8⟩ : ∃ W, W = w6.setCell ⟨bx, 2, none⟩ (.slice na (D.f2.length + 1) np) := ⟨_, rfl⟩
        rw [← hW8] at PX8 PR8 SD8 C8 G8
        have HW8 := hid hW8
        clear hgr hw1' hw2' nWr ob' PX7 PR7 h1' h1'' OO ow8 ko8 BQ hown hW8 H1 H2 PX6 PR6 C6 G6 KR dj i1' i2'
        refine wpAny_ready (rs := [6]) (by kernel_rfl) (by simp) ?_
        refine AllReady.cons rfl (fun K hK => ?_) AllReady.nil
        go_simp
        refine hK _ _ ?_
        clear hK K
        refine wpAny_ready (rs := [7]) (by kernel_rfl) (by simp) ?_
        refine AllReady.cons rfl (fun K hK => ?_) AllReady.nil
        go_simp
        refine hK _ _ ?_
        clear hK K
        refine wpAny_done (by kernel_rfl) ?_ _
        rw [← HW8.out]
        clear HW8 x6 x7
        obtain ⟨z0, z1, z2⟩ := PX8.out.three
        obtain ⟨⟨y0, f0⟩, ⟨y1, f1⟩, y2, f2⟩ := PR8.out.form3
        go_wp2
        refine HE.out _ ⟨(n : Int), D.f1, D.f2 ++ [(r4 : Int)]⟩ _ _ rfl PR8.out SD8.out C8.out G8.out _ ?_
        rfl
      · intro m hm σ c wr' hb hr hd
        obtain rfl : m = 0 := by simpa using hm
        · skip
          have f2 : dnF _ _ _ 2 σ c wr' := hd 2 (by decide) (by decide)
          simp only [dnF] at f2
          clear hd
          refine StepH.of (a1 := ⟨#[.pointer (some ⟨b, 0, none⟩), undef, .pointer (some ⟨w.heap.size, 0, none⟩), .int .i64 (n : Nat), .pointer (some ⟨bx, 0, none⟩), .bool true, undef, u7, u8, u9, u10, u11, .pointer (some ⟨b, 0, none⟩), .int .i64 (n : Nat), .tuple #[.agg #[.int .i64 (n : Nat), .slice a1 n1 k1, .slice a2 n2 k2], .bool true], .int .i64 (n : Nat), .tuple #[.agg #[.int .i64 (n : Nat), .slice a1 n1 k1, .slice a2 n2 k2], .bool true], .agg #[.int .i64 (n : Nat), .slice a1 n1 k1, .slice a2 n2 k2], .bool true, .pointer (some ⟨b, 0, none⟩), .int .i64 (n : Nat), .slice oa xs.length oc, .int .i64 (xs.length : Nat), .int .i64 (xs.length : Nat), .bool false, u25, u26, u27, u28, u29, u30, u31, u32, u33, u34, u35, u36, u37, u38, u39, u40, u41, u42, u43, u44, u45, u46, u47, u48, u49, u50, u51, u52, .pointer (some ⟨b, 0, none⟩), .bool true, σ 0, σ 1, (.pointer (some ⟨b, 0, none⟩)), σ 3, σ 4, undef, undef, undef], []⟩) (by simp only [f2]) rfl (fun _ => rfl) (fun K hK => ?_)
          go_simp
          refine (pick_any B b _ 20 _ hr (by omega) (by omega)).mono ?_
          rintro e w2 ⟨r, hr', rfl, c2, g2⟩
          exact hK _ w2 g2 c2 ⟨r, by omega, rfl⟩
      · intro i hi hne σ c wr' hb hd
        simp only [List.mem_cons, List.not_mem_nil, or_false] at hi; rcases hi with rfl | rfl | rfl | rfl | rfl
        · skip
          clear hd
          refine StepF.of (a1 := ⟨#[.pointer (some ⟨b, 0, none⟩), undef, .pointer (some ⟨w.heap.size, 0, none⟩), .int .i64 (n : Nat), .pointer (some ⟨bx, 0, none⟩), .bool true, undef, u7, u8, u9, u10, u11, .pointer (some ⟨b, 0, none⟩), .int .i64 (n : Nat), .tuple #[.agg #[.int .i64 (n : Nat), .slice a1 n1 k1, .slice a2 n2 k2], .bool true], .int .i64 (n : Nat), .tuple #[.agg #[.int .i64 (n : Nat), .slice a1 n1 k1, .slice a2 n2 k2], .bool true], .agg #[.int .i64 (n : Nat), .slice a1 n1 k1, .slice a2 n2 k2], .bool true, .pointer (some ⟨b, 0, none⟩), .int .i64 (n : Nat), .slice oa xs.length oc, .int .i64 (xs.length : Nat), .int .i64 (xs.length : Nat), .bool false, u25, u26, u27, u28, u29, u30, u31, u32, u33, u34, u35, u36, u37, u38, u39, u40, u41, u42, u43, u44, u45, u46, u47, u48, u49, u50, u51, u52, .pointer (some ⟨b, 0, none⟩), .bool true, σ 0, σ 1, σ 2, σ 3, σ 4, undef, undef, undef], []⟩) rfl rfl (fun _ => rfl) (fun K hK => ?_)
          go_simp
          exact hK _ _ (Below.refl _ _) rfl
        · skip
          have f0 : dnF _ _ _ 0 σ c wr' := hd 0 (by decide) (by decide)
          simp only [dnF] at f0
          clear hd
          refine StepF.of (a1 := ⟨#[.pointer (some ⟨b, 0, none⟩), undef, .pointer (some ⟨w.heap.size, 0, none⟩), .int .i64 (n : Nat), .pointer (some ⟨bx, 0, none⟩), .bool true, undef, u7, u8, u9, u10, u11, .pointer (some ⟨b, 0, none⟩), .int .i64 (n : Nat), .tuple #[.agg #[.int .i64 (n : Nat), .slice a1 n1 k1, .slice a2 n2 k2], .bool true], .int .i64 (n : Nat), .tuple #[.agg #[.int .i64 (n : Nat), .slice a1 n1 k1, .slice a2 n2 k2], .bool true], .agg #[.int .i64 (n : Nat), .slice a1 n1 k1, .slice a2 n2 k2], .bool true, .pointer (some ⟨b, 0, none⟩), .int .i64 (n : Nat), .slice oa xs.length oc, .int .i64 (xs.length : Nat), .int .i64 (xs.length : Nat), .bool false, u25, u26, u27, u28, u29, u30, u31, u32, u33, u34, u35, u36, u37, u38, u39, u40, u41, u42, u43, u44, u45, u46, u47, u48, u49, u50, u51, u52, .pointer (some ⟨b, 0, none⟩), .bool true, (.pointer (some ⟨bx, 2, none⟩)), σ 1, σ 2, σ 3, σ 4, undef, undef, undef], []⟩) (by simp only [f0]) rfl (fun _ => rfl) (fun K hK => ?_)
          obtain ⟨y0, y1, y2⟩ := (PXW.out.of_block (hb.block bx PXW.out.lt (by simp; omega))).three
          go_simp
          exact hK _ _ (Below.refl _ _) rfl
        · skip
          clear hd
          refine StepF.of (a1 := ⟨#[.pointer (some ⟨b, 0, none⟩), undef, .pointer (some ⟨w.heap.size, 0, none⟩), .int .i64 (n : Nat), .pointer (some ⟨bx, 0, none⟩), .bool true, undef, u7, u8, u9, u10, u11, .pointer (some ⟨b, 0, none⟩), .int .i64 (n : Nat), .tuple #[.agg #[.int .i64 (n : Nat), .slice a1 n1 k1, .slice a2 n2 k2], .bool true], .int .i64 (n : Nat), .tuple #[.agg #[.int .i64 (n : Nat), .slice a1 n1 k1, .slice a2 n2 k2], .bool true], .agg #[.int .i64 (n : Nat), .slice a1 n1 k1, .slice a2 n2 k2], .bool true, .pointer (some ⟨b, 0, none⟩), .int .i64 (n : Nat), .slice oa xs.length oc, .int .i64 (xs.length : Nat), .int .i64 (xs.length : Nat), .bool false, u25, u26, u27, u28, u29, u30, u31, u32, u33, u34, u35, u36, u37, u38, u39, u40, u41, u42, u43, u44, u45, u46, u47, u48, u49, u50, u51, u52, .pointer (some ⟨b, 0, none⟩), .bool true, σ 0, σ 1, σ 2, σ 3, σ 4, undef, undef, undef], []⟩) rfl rfl (fun _ => rfl) (fun K hK => ?_)
          go_simp
          exact hK _ _ (Below.refl _ _) rfl
        · exact absurd (by decide) hne
        · skip
          have f3 : dnF _ _ _ 3 σ c wr' := hd 3 (by decide) (by decide)
          obtain ⟨r3, h3, f3⟩ := f3
          clear hd
          refine StepF.of (a1 := ⟨#[.pointer (some ⟨b, 0, none⟩), undef, .pointer (some ⟨w.heap.size, 0, none⟩), .int .i64 (n : Nat), .pointer (some ⟨bx, 0, none⟩), .bool true, undef, u7, u8, u9, u10, u11, .pointer (some ⟨b, 0, none⟩), .int .i64 (n : Nat), .tuple #[.agg #[.int .i64 (n : Nat), .slice a1 n1 k1, .slice a2 n2 k2], .bool true], .int .i64 (n : Nat), .tuple #[.agg #[.int .i64 (n : Nat), .slice a1 n1 k1, .slice a2 n2 k2], .bool true], .agg #[.int .i64 (n : Nat), .slice a1 n1 k1, .slice a2 n2 k2], .bool true, .pointer (some ⟨b, 0, none⟩), .int .i64 (n : Nat), .slice oa xs.length oc, .int .i64 (xs.length : Nat), .int .i64 (xs.length : Nat), .bool false, u25, u26, u27, u28, u29, u30, u31, u32, u33, u34, u35, u36, u37, u38, u39, u40, u41, u42, u43, u44, u45, u46, u47, u48, u49, u50, u51, u52, .pointer (some ⟨b, 0, none⟩), .bool true, σ 0, σ 1, σ 2, (.int .i64 (r3 : Nat)), σ 4, undef, undef, undef], []⟩) (by simp only [f3]) rfl (fun _ => rfl) (fun K hK => ?_)
          have hsz := hb.size
          go_simp
          exact hK _ _ ((Below.refl _ _).alloc (Nat.le_refl _) _) ⟨wr'.heap.size, r3, ⟨by omega, Nat.le_refl _⟩, rfl, by simp⟩
end Go.Proofs.Ytnkpboobfkjibad
