/-
  spec.ShapeFlow: what a bucket lets go and what waits, in memory of their own. Nothing old is written.
-/
import Derived.Test.YtcieefggijjekazSNewB
import Derived.Test.YtcieefggijjekazSTick
import Derived.Test.YtcieefggijjekazSLeast7
import Derived.Test.YtcieefggijjekazSFlow7
import Derived.Test.YtcieefggijjekazKApart
import Derived.Test.YtcieefggijjekazKOne
namespace Go.Proofs.Ytcieefggijjekaz
open Go.RowKit

theorem wait_in {xs : List Int} (h : flowB xs = true) {r d : Int} (hr : 0 ≤ r) (hd : 0 ≤ d) (t : Nat) : 0 ≤ (sh r d (fl xs) t).2 ∧ (sh r d (fl xs) t).2 ≤ 60 * t := by
  have h1 := goes_sum (rate := r) (depth := d) (f := fl xs) t
  have h2 := psum_in (f := fl xs) (b := 60) (flowB_in h) t
  have h3 := psum_mono (f := goes r d (fl xs)) (fun i => (goes_in hr hd (fun j => (flowB_in h j).1) i).1) (a := 0) t (Nat.zero_le _)
  have h4 := (sh_in hr hd (fun j => (flowB_in h j).1) t).2
  have h5 : psum (goes r d (fl xs)) 0 = 0 := rfl
  omega
set_option maxHeartbeats 4000000 in
theorem sshape_no (r d : Int) (v : Value) (xs : List Int) (w : World) (hr : KReads w v xs) (hn : (rateB r d && flowB xs) = false) :
    Calls Try.prog 12 #[.int .i64 r, .int .i64 d, v] w fun e w' => ∃ u0 u1, e = .returned (.tuple #[u0, u1, .bool false]) ∧ KOwn w.heap.size w'.heap.size w' u0 [] ∧ KOwn w.heap.size w'.heap.size w' u1 [] ∧ Apart7 u0 u1 ∧ Below w.heap.size w w' := by
  have HR := hid hr
  obtain ⟨b, hb⟩ : ∃ b, rateB r d = b := ⟨_, rfl⟩
  have HF := hid hb
  cases b
  · clear hr hb hn
    go_enter Try.func12, Try.ntmps12
    go_wp2_with fail
    refine (snew_no r d HF.out _).mono ?_
    rintro e w1 ⟨rfl, b1⟩
    have B1 := hid b1
    clear b1
    go_wp2
    go_ret3
    exact ⟨_, _, rfl, kown_nil _ _ _ _ _, kown_nil _ _ _ _ _, fun g h => by simp [Value.ownBlock] at h, B1.out.alloc B1.out.size _⟩
  · have HN : Hid (flowB xs = false) := by rw [hb, Bool.true_and] at hn; exact hn
    clear hr hb hn
    go_enter Try.func12, Try.ntmps12
    go_wp2_with fail
    refine (snew_yes r d HF.out _).mono ?_
    rintro e w1 ⟨rfl, b1⟩
    have B1 := hid b1
    clear b1
    go_wp2_with fail
    refine (sflow_eq _ xs false HN.out _ (HR.out.below (B1.out.alloc B1.out.size _))).mono ?_
    rintro e w' ⟨rfl, hw⟩; obtain rfl := hw.symm
    go_wp2
    go_ret3
    exact ⟨_, _, rfl, kown_nil _ _ _ _ _, kown_nil _ _ _ _ _, fun g h => by simp [Value.ownBlock] at h, B1.out.alloc B1.out.size _⟩
set_option maxRecDepth 100000 in
set_option maxHeartbeats 16000000 in
theorem sshape_yes (r d : Int) (v : Value) (xs : List Int) (w : World) (hr : KReads w v xs) (hb : rateB r d = true) (hf : flowB xs = true) :
    Calls Try.prog 12 #[.int .i64 r, .int .i64 d, v] w fun e w' => ∃ u0 u1, e = .returned (.tuple #[u0, u1, .bool true]) ∧ KOwn w.heap.size w'.heap.size w' u0 (goL (goes r d (fl xs)) xs.length) ∧ KOwn w.heap.size w'.heap.size w' u1 (goL (fun t => (sh r d (fl xs) (t + 1)).2) xs.length) ∧ Apart7 u0 u1 ∧ Below w.heap.size w w' := by
  have HR := hid hr
  have HRb := hid hb
  have HF := hid hf
  have hlen := flowB_len hf
  have hrd := rateB_in hb
  obtain ⟨a, cap, rfl, _, _⟩ := hr
  clear hb hf
  go_enter Try.func12, Try.ntmps12
  go_wp2_with fail
  refine (snew_yes r d HRb.out _).mono ?_
  rintro e w1 ⟨rfl, b1⟩
  have B1 := hid b1
  have hs1 := b1.size
  have hc0 := balloc3 w1 (r, d, d)
  have X0 := hid hc0.1
  have F0 := hid hc0.2
  have B1' : Hid (Below w.heap.size w (w1.alloc (.cells #[.int .i64 r, .int .i64 d, .int .i64 d] 24))) := b1.alloc hs1 _
  clear b1 hc0
  go_wp2_with fail
  refine (sflow_eq _ xs true HF.out _ (HR.out.below B1'.out)).mono ?_
  rintro e w' ⟨rfl, hw⟩; obtain rfl := hw.symm
  go_wp2
  go_loopw [11, 12, 13, 32] (fun o ws wt i wr => ∃ k : Nat, k ≤ xs.length ∧ i = .int .i64 k ∧ wt = .int .i64 (sh r d (fl xs) k).2 ∧ BkCells wr w1.heap.size 0 (r, d, (sh r d (fl xs) k).1) ∧ BkFree wr w1.heap.size 0 ∧ wr.ownsRow (w1.heap.size + 1) 3 1 o k (kflat (goL (goes r d (fl xs)) k)) ∧ wr.ownsRow (w1.heap.size + 1) 3 1 ws k (kflat (goL (fun t => (sh r d (fl xs) (t + 1)).2) k)) ∧ Apart7 o ws ∧ Below w.heap.size w wr) (fun _ _ _ i _ => xs.length - (intOf i).toNat)
  case atStart => exact ⟨0, Nat.zero_le _, rfl, rfl, X0.out, F0.out, World.ownsRow_nil _ _ _ _, World.ownsRow_nil _ _ _ _, fun g h => by simp [Value.ownBlock] at h, B1'.out⟩
  case round =>
    obtain ⟨k, hk, rfl, rfl, hcx, hcf, ho, hws, hap, hbel⟩ := hrel
    have HX := hid hcx
    have HFr := hid hcf
    have HO := hid ho
    have HW := hid hws
    have HAP := hid hap
    have HB := hid hbel
    have hsz := hbel.size
    clear hcx hcf ho hws hap hbel X0 F0
    by_cases hlt : k < xs.length
    · obtain ⟨g, o, cap', e, hc⟩ := (HR.out.below HB.out).cells k hlt
      cases e
      have hgw : g < w.heap.size := by obtain ⟨_, _, _, e, h⟩ := HR.out.cells k hlt; cases e; exact (h k hlt).lt
      have hpw := wait_in HF.out (r := r) (d := d) (by omega) (by omega) k
      have hsh := (sh_in (rate := r) (depth := d) (f := fl xs) (by omega) (by omega) (fun j => (flowB_in HF.out j).1) k).1
      have hfi := flowB_in HF.out k
      have hgi := goes_in (rate := r) (depth := d) (f := fl xs) (by omega) (by omega) (fun j => (flowB_in HF.out j).1) k
      have hgo := (lst7_le ((sh r d (fl xs) k).2 + fl xs k) (hasB r d (fl xs) k))
      have hhb := hasB_le r d (fl xs) k
      have HS := hid (sh_succ r d (fl xs) k)
      have HG1 := hid (goL_succ (goes r d (fl xs)) k)
      have HG2 := hid (goL_succ (fun t => (sh r d (fl xs) (t + 1)).2) k)
      have HP : Hid (lst7 ((sh r d (fl xs) k).2 + fl xs k) (hasB r d (fl xs) k) = goes r d (fl xs) k) := rfl
      rw [HP.out] at hgo
      have HHB : Hid (hasB r d (fl xs) k = if k = 0 then (sh r d (fl xs) k).1 else lst7 d ((sh r d (fl xs) k).1 + r)) := rfl
      obtain ⟨x, hx⟩ : ∃ x, x = fl xs k := ⟨_, rfl⟩
      have cx : wr.cell? ⟨g, o + k, none⟩ = some (.int .i64 x) := by rw [hx]; exact hc k hlt
      obtain ⟨wt, hwt⟩ : ∃ wt, wt = (sh r d (fl xs) k).2 := ⟨_, rfl⟩
      obtain ⟨hh, hhh⟩ : ∃ hh, hh = (sh r d (fl xs) k).1 := ⟨_, rfl⟩
      obtain ⟨H, hH⟩ : ∃ H, H = hasB r d (fl xs) k := ⟨_, rfl⟩
      obtain ⟨sm, hsm⟩ : ∃ sm, sm = goes r d (fl xs) k := ⟨_, rfl⟩
      rw [← hx, ← hwt, ← hsm, ← hH] at HP HS
      rw [← hH, ← hhh] at HHB
      rw [← hhh] at hsh HX
      rw [← hwt] at hpw ⊢
      rw [← hwt, ← hx, ← hH, ← hsm] at hgo
      rw [← hH] at hhb
      rw [← hx] at hfi
      rw [← hsm] at hgi HG1
      have HS1 : Hid ((sh r d (fl xs) (k + 1)).1 = H - sm) := by show _ = _; rw [HS.out]
      have HS2 : Hid ((sh r d (fl xs) (k + 1)).2 = wt + x - sm) := by show _ = _; rw [HS.out]
      have HBk : Hid (bktB (r, d, hh) = true) := by show (rateB r d && decide (0 ≤ hh ∧ hh ≤ d)) = true; rw [HRb.out, decide_eq_true (by omega)]; rfl
      have hw1 : IntKind.i64.wrap (wt + x) = wt + x := by rw [IntKind.wrap_i64]; omega
      have hw2 : IntKind.i64.wrap (wt + x - sm) = wt + x - sm := by rw [IntKind.wrap_i64]; omega
      have hw3 : IntKind.i64.wrap (H - sm) = H - sm := by rw [IntKind.wrap_i64]; omega
      clear hc hx hwt hsm hH hhh HS
      by_cases hk0 : k = 0
      · have HE : Hid (H = hh) := by show _ = _; rw [HHB.out, if_pos hk0]
        have dk : ¬ ((0 : Int) < (k : Int)) := by omega
        have dk1 : ¬ (0 < k) := by omega
        have dk2 : decide (0 < k) = false := by rw [decide_eq_false_iff_not]; omega
        rw [← HE.out] at HX
        obtain ⟨y0, y1, y2⟩ := HX.out
        obtain ⟨g0, g1, g2⟩ := HFr.out
        clear hk0 HHB
        go_wp2_with fail
        refine (least7_any (wt + x) H _).mono ?_
        rintro e w' ⟨rfl, hw⟩; obtain rfl := hw.symm
        rw [HP.out]
        obtain ⟨z0, z1, z2⟩ := HX.out
        obtain ⟨f0, f1, f2⟩ := HFr.out
        have HX5 : Hid (BkCells (wr.setCell ⟨w1.heap.size, 2, none⟩ (.int .i64 (H - sm))) w1.heap.size 0 (r, d, H - sm)) := ⟨by show World.cell? _ _ = _; rw [World.cell?_setCell_other _ _ _ _ (by simp)]; exact z0, by show World.cell? _ _ = _; rw [World.cell?_setCell_other _ _ _ _ (by simp)]; exact z1, World.cell?_setCell_same _ _ _ (u := .int .i64 H) z2⟩
        have HF5 : Hid (BkFree (wr.setCell ⟨w1.heap.size, 2, none⟩ (.int .i64 (H - sm))) w1.heap.size 0) := ⟨by simpa using f0, by simpa using f1, by simpa using f2⟩
        have HO5 : Hid ((wr.setCell ⟨w1.heap.size, 2, none⟩ (.int .i64 (H - sm))).ownsRow (w1.heap.size + 1) 3 1 u11 k (kflat (goL (goes r d (fl xs)) k))) := owns_only HO.out ((But.refl _ _).setCell (P := fun j => j = w1.heap.size) (p := ⟨w1.heap.size, 2, none⟩) rfl _) (by omega)
        have HW5 : Hid ((wr.setCell ⟨w1.heap.size, 2, none⟩ (.int .i64 (H - sm))).ownsRow (w1.heap.size + 1) 3 1 u12 k (kflat (goL (fun t => (sh r d (fl xs) (t + 1)).2) k))) := owns_only HW.out ((But.refl _ _).setCell (P := fun j => j = w1.heap.size) (p := ⟨w1.heap.size, 2, none⟩) rfl _) (by omega)
        have HB5 : Hid (Below w.heap.size w (wr.setCell ⟨w1.heap.size, 2, none⟩ (.int .i64 (H - sm)))) := HB.out.setCell (by show w.heap.size ≤ w1.heap.size; exact hs1) _
        have KI5 : Hid (KReads ((wr.setCell ⟨w1.heap.size, 2, none⟩ (.int .i64 (H - sm))).alloc (.cells #[.int .i64 sm] 3)) (.slice (some ⟨wr.heap.size, 0, none⟩) 1 1) [sm]) := by
          have := kreads_int (wr.setCell ⟨w1.heap.size, 2, none⟩ (.int .i64 (H - sm))) sm
          rw [World.size_setCell] at this
          exact this
        have hsV : w1.heap.size + 1 ≤ (wr.setCell ⟨w1.heap.size, 2, none⟩ (.int .i64 (H - sm))).heap.size := by have := HX5.out.lt; omega
        have HsV := hid hsV
        clear HX HFr HO HW HB hsV
        go_wp2_with (at_builtin; refine wpList_append_reads _ rfl _ _ rfl (w1.heap.size + 1) _ _ _ rfl (HO5.out.alloc _) _ [sm] rfl KI5.out (by simp; omega) (by have := HsV.out; rw [World.size_alloc]; omega) ?_)
        intro v3 w3 hown3 hgr3 hat3
        have O3 : Hid (w3.ownsRow (w1.heap.size + 1) 3 1 v3 (k + 1) (kflat (goL (goes r d (fl xs)) (k + 1)))) := by show World.ownsRow _ _ _ _ _ _ _; rw [HG1.out]; exact hown3
        have W3 : Hid (w3.ownsRow (w1.heap.size + 1) 3 1 u12 k (kflat (goL (fun t => (sh r d (fl xs) (t + 1)).2) k))) := owns_rest7 (HW5.out.alloc _) hgr3 (fun g h1 h2 => HAP.out g h2 h1)
        have hsV := HsV.out
        have B3 : Hid (Below w.heap.size w w3) := (HB5.out.alloc HB5.out.size _).grown hgr3 (by rw [World.size_alloc]; have := HB5.out.size; omega) (fun m hm => by have := HO5.out.lt m hm; omega)
        have X3 : Hid (BkCells w3 w1.heap.size 0 (r, d, H - sm)) := (HX5.out.below ((Below.refl _ _).alloc (Nat.le_refl _) _) HX5.out.lt).of_block (hgr3.block _ (by rw [World.size_alloc]; omega) (fun e => by have := HO5.out.lt _ e.symm; omega))
        have F3 : Hid (BkFree w3 w1.heap.size 0) := (HF5.out.below ((Below.refl _ _).alloc (Nat.le_refl _) _) HX5.out.lt).of_block (hgr3.block _ (by rw [World.size_alloc]; omega) (fun e => by have := HO5.out.lt _ e.symm; omega))
        have AP3 : Hid (Apart7 v3 u12) := by
          intro g' h1 h2
          have hl8 := HW5.out.lt g' h2
          rw [h1] at hat3
          rcases hat3 with h | h
          · exact HAP.out g' h.symm h2
          · injection h with h
            rw [World.size_setCell] at hl8
            first | omega | (simp at h; omega)
        have hs3 := B3.out.size
        have hs3' : w1.heap.size + 1 ≤ w3.heap.size := by have := X3.out.lt; omega
        clear hown3 hgr3 hat3
        go_wp2_with (at_builtin; refine wpList_append_reads _ rfl _ _ rfl (w1.heap.size + 1) _ _ _ rfl (W3.out.alloc _) _ [wt + x - sm] rfl (kreads_int _ _) (by simp; omega) (by simp; omega) ?_)
        intro v4 w4 hown4 hgr4 hat4
        have W4 : Hid (w4.ownsRow (w1.heap.size + 1) 3 1 v4 (k + 1) (kflat (goL (fun t => (sh r d (fl xs) (t + 1)).2) (k + 1)))) := by show World.ownsRow _ _ _ _ _ _ _; rw [HG2.out, HS2.out]; exact hown4
        have O4 : Hid (w4.ownsRow (w1.heap.size + 1) 3 1 v3 (k + 1) (kflat (goL (goes r d (fl xs)) (k + 1)))) := owns_rest7 (O3.out.alloc _) hgr4 (fun g h1 h2 => AP3.out g h1 h2)
        have B4 : Hid (Below w.heap.size w w4) := (B3.out.alloc hs3 _).grown hgr4 (by simp; omega) (fun m hm => by have := W3.out.lt m hm; omega)
        have X4 : Hid (BkCells w4 w1.heap.size 0 (r, d, H - sm)) := (X3.out.below ((Below.refl _ _).alloc (Nat.le_refl _) _) X3.out.lt).of_block (hgr4.block _ (by simp; omega) (fun e => by have := W3.out.lt _ e.symm; omega))
        have F4 : Hid (BkFree w4 w1.heap.size 0) := (F3.out.below ((Below.refl _ _).alloc (Nat.le_refl _) _) X3.out.lt).of_block (hgr4.block _ (by simp; omega) (fun e => by have := W3.out.lt _ e.symm; omega))
        have AP4 : Hid (Apart7 v3 v4) := by
          intro g' h1 h2
          have hl3 := O3.out.lt g' h1
          rw [h2] at hat4
          rcases hat4 with h | h
          · exact AP3.out g' h1 h.symm
          · injection h with h
            first | omega | (rw [World.size_alloc] at h; omega)
        clear hown4 hgr4 hat4
        go_wp2
        go_roundw
        case rel => exact ⟨k + 1, by omega, by go_num, by rw [HS2.out], by rw [HS1.out]; exact X4.out, F4.out, O4.out, W4.out, AP4.out, B4.out⟩
        case measure => simp [intOf]; omega
      · have HE : Hid (tickK (r, d, hh) = (r, d, H)) := by show (r, d, lst7 d (hh + r)) = (r, d, H); rw [HHB.out, if_neg hk0]
        have dk : (0 : Int) < (k : Int) := by omega
        have dk1 : 0 < k := by omega
        have dk2 : decide (0 < k) = true := by rw [decide_eq_true_eq]; omega
        obtain ⟨y0, y1, y2⟩ := HX.out
        obtain ⟨g0, g1, g2⟩ := HFr.out
        clear hk0 HHB
        go_wp2_with fail
        refine (stick_any (r, d, hh) HBk.out _).mono ?_
        rintro e w2 ⟨rfl, b2⟩
        rw [HE.out]
        have hx2 := HX.out.below b2 HX.out.lt
        have hf2 := HFr.out.below b2 HX.out.lt
        have HO2 : Hid (w2.ownsRow (w1.heap.size + 1) 3 1 u11 k (kflat (goL (goes r d (fl xs)) k))) := owns_stay HO.out fun g hg => b2.block g (HO.out.lt g hg).2
        have HW2 : Hid (w2.ownsRow (w1.heap.size + 1) 3 1 u12 k (kflat (goL (fun t => (sh r d (fl xs) (t + 1)).2) k))) := owns_stay HW.out fun g hg => b2.block g (HW.out.lt g hg).2
        have HB2 : Hid (Below w.heap.size w w2) := HB.out.trans (b2.mono hsz)
        obtain ⟨q0, q1, q2⟩ := hx2
        obtain ⟨p0, p1, p2⟩ := hf2
        obtain ⟨w5, hw5⟩ : ∃ w5, w5 = bput3 w2 w1.heap.size 0 (r, d, H) := ⟨_, rfl⟩
        replace HX : Hid (BkCells w5 w1.heap.size 0 (r, d, H)) := by rw [hw5]; exact bput3_same (⟨q0, q1, q2⟩ : BkCells w2 w1.heap.size 0 (r, d, hh)) (r, d, H)
        replace HFr : Hid (BkFree w5 w1.heap.size 0) := by rw [hw5]; exact ⟨by simpa using p0, by simpa using p1, by simpa using p2⟩
        have hbt : But (fun j => j = w1.heap.size) w2 w5 := by rw [hw5]; exact (((But.refl _ _).setCell (P := fun j => j = w1.heap.size) (p := ⟨w1.heap.size, 0, none⟩) rfl _).setCell (p := ⟨w1.heap.size, 0 + 1, none⟩) rfl _).setCell (p := ⟨w1.heap.size, 0 + 2, none⟩) rfl _
        replace HO : Hid (w5.ownsRow (w1.heap.size + 1) 3 1 u11 k (kflat (goL (goes r d (fl xs)) k))) := owns_only HO2.out hbt (by omega)
        replace HW : Hid (w5.ownsRow (w1.heap.size + 1) 3 1 u12 k (kflat (goL (fun t => (sh r d (fl xs) (t + 1)).2) k))) := owns_only HW2.out hbt (by omega)
        replace HB : Hid (Below w.heap.size w w5) := by rw [hw5]; exact bbelow_put3 HB2.out hs1 0 (r, d, H)
        have HWz := hid hw5
        clear b2 hbt hw5 HO2 HW2 HB2
        go_wp2_with fail
        refine (least7_any (wt + x) H _).mono ?_
        rintro e w' ⟨rfl, hw⟩; obtain rfl := hw.symm
        rw [HP.out]
        rw [show (((w2.setCell ⟨w1.heap.size, 0, none⟩ (.int .i64 r)).setCell ⟨w1.heap.size, 1, none⟩ (.int .i64 d)).setCell ⟨w1.heap.size, 2, none⟩ (.int .i64 H)) = w5 from HWz.out.symm]
        clear HWz q0 q1 q2 p0 p1 p2 y0 y1 y2 g0 g1 g2
        obtain ⟨z0, z1, z2⟩ := HX.out
        obtain ⟨f0, f1, f2⟩ := HFr.out
        have HX5 : Hid (BkCells (w5.setCell ⟨w1.heap.size, 2, none⟩ (.int .i64 (H - sm))) w1.heap.size 0 (r, d, H - sm)) := ⟨by show World.cell? _ _ = _; rw [World.cell?_setCell_other _ _ _ _ (by simp)]; exact z0, by show World.cell? _ _ = _; rw [World.cell?_setCell_other _ _ _ _ (by simp)]; exact z1, World.cell?_setCell_same _ _ _ (u := .int .i64 H) z2⟩
        have HF5 : Hid (BkFree (w5.setCell ⟨w1.heap.size, 2, none⟩ (.int .i64 (H - sm))) w1.heap.size 0) := ⟨by simpa using f0, by simpa using f1, by simpa using f2⟩
        have HO5 : Hid ((w5.setCell ⟨w1.heap.size, 2, none⟩ (.int .i64 (H - sm))).ownsRow (w1.heap.size + 1) 3 1 u11 k (kflat (goL (goes r d (fl xs)) k))) := owns_only HO.out ((But.refl _ _).setCell (P := fun j => j = w1.heap.size) (p := ⟨w1.heap.size, 2, none⟩) rfl _) (by omega)
        have HW5 : Hid ((w5.setCell ⟨w1.heap.size, 2, none⟩ (.int .i64 (H - sm))).ownsRow (w1.heap.size + 1) 3 1 u12 k (kflat (goL (fun t => (sh r d (fl xs) (t + 1)).2) k))) := owns_only HW.out ((But.refl _ _).setCell (P := fun j => j = w1.heap.size) (p := ⟨w1.heap.size, 2, none⟩) rfl _) (by omega)
        have HB5 : Hid (Below w.heap.size w (w5.setCell ⟨w1.heap.size, 2, none⟩ (.int .i64 (H - sm)))) := HB.out.setCell (by show w.heap.size ≤ w1.heap.size; exact hs1) _
        have KI5 : Hid (KReads ((w5.setCell ⟨w1.heap.size, 2, none⟩ (.int .i64 (H - sm))).alloc (.cells #[.int .i64 sm] 3)) (.slice (some ⟨w5.heap.size, 0, none⟩) 1 1) [sm]) := by
          have := kreads_int (w5.setCell ⟨w1.heap.size, 2, none⟩ (.int .i64 (H - sm))) sm
          rw [World.size_setCell] at this
          exact this
        have hsV : w1.heap.size + 1 ≤ (w5.setCell ⟨w1.heap.size, 2, none⟩ (.int .i64 (H - sm))).heap.size := by have := HX5.out.lt; omega
        have HsV := hid hsV
        clear HX HFr HO HW HB hsV
        go_wp2_with (at_builtin; refine wpList_append_reads _ rfl _ _ rfl (w1.heap.size + 1) _ _ _ rfl (HO5.out.alloc _) _ [sm] rfl KI5.out (by simp; omega) (by have := HsV.out; rw [World.size_alloc]; omega) ?_)
        intro v3 w3 hown3 hgr3 hat3
        have O3 : Hid (w3.ownsRow (w1.heap.size + 1) 3 1 v3 (k + 1) (kflat (goL (goes r d (fl xs)) (k + 1)))) := by show World.ownsRow _ _ _ _ _ _ _; rw [HG1.out]; exact hown3
        have W3 : Hid (w3.ownsRow (w1.heap.size + 1) 3 1 u12 k (kflat (goL (fun t => (sh r d (fl xs) (t + 1)).2) k))) := owns_rest7 (HW5.out.alloc _) hgr3 (fun g h1 h2 => HAP.out g h2 h1)
        have hsV := HsV.out
        have B3 : Hid (Below w.heap.size w w3) := (HB5.out.alloc HB5.out.size _).grown hgr3 (by rw [World.size_alloc]; have := HB5.out.size; omega) (fun m hm => by have := HO5.out.lt m hm; omega)
        have X3 : Hid (BkCells w3 w1.heap.size 0 (r, d, H - sm)) := (HX5.out.below ((Below.refl _ _).alloc (Nat.le_refl _) _) HX5.out.lt).of_block (hgr3.block _ (by rw [World.size_alloc]; omega) (fun e => by have := HO5.out.lt _ e.symm; omega))
        have F3 : Hid (BkFree w3 w1.heap.size 0) := (HF5.out.below ((Below.refl _ _).alloc (Nat.le_refl _) _) HX5.out.lt).of_block (hgr3.block _ (by rw [World.size_alloc]; omega) (fun e => by have := HO5.out.lt _ e.symm; omega))
        have AP3 : Hid (Apart7 v3 u12) := by
          intro g' h1 h2
          have hl8 := HW5.out.lt g' h2
          rw [h1] at hat3
          rcases hat3 with h | h
          · exact HAP.out g' h.symm h2
          · injection h with h
            rw [World.size_setCell] at hl8
            first | omega | (simp at h; omega)
        have hs3 := B3.out.size
        have hs3' : w1.heap.size + 1 ≤ w3.heap.size := by have := X3.out.lt; omega
        clear hown3 hgr3 hat3
        go_wp2_with (at_builtin; refine wpList_append_reads _ rfl _ _ rfl (w1.heap.size + 1) _ _ _ rfl (W3.out.alloc _) _ [wt + x - sm] rfl (kreads_int _ _) (by simp; omega) (by simp; omega) ?_)
        intro v4 w4 hown4 hgr4 hat4
        have W4 : Hid (w4.ownsRow (w1.heap.size + 1) 3 1 v4 (k + 1) (kflat (goL (fun t => (sh r d (fl xs) (t + 1)).2) (k + 1)))) := by show World.ownsRow _ _ _ _ _ _ _; rw [HG2.out, HS2.out]; exact hown4
        have O4 : Hid (w4.ownsRow (w1.heap.size + 1) 3 1 v3 (k + 1) (kflat (goL (goes r d (fl xs)) (k + 1)))) := owns_rest7 (O3.out.alloc _) hgr4 (fun g h1 h2 => AP3.out g h1 h2)
        have B4 : Hid (Below w.heap.size w w4) := (B3.out.alloc hs3 _).grown hgr4 (by simp; omega) (fun m hm => by have := W3.out.lt m hm; omega)
        have X4 : Hid (BkCells w4 w1.heap.size 0 (r, d, H - sm)) := (X3.out.below ((Below.refl _ _).alloc (Nat.le_refl _) _) X3.out.lt).of_block (hgr4.block _ (by simp; omega) (fun e => by have := W3.out.lt _ e.symm; omega))
        have F4 : Hid (BkFree w4 w1.heap.size 0) := (F3.out.below ((Below.refl _ _).alloc (Nat.le_refl _) _) X3.out.lt).of_block (hgr4.block _ (by simp; omega) (fun e => by have := W3.out.lt _ e.symm; omega))
        have AP4 : Hid (Apart7 v3 v4) := by
          intro g' h1 h2
          have hl3 := O3.out.lt g' h1
          rw [h2] at hat4
          rcases hat4 with h | h
          · exact AP3.out g' h1 h.symm
          · injection h with h
            first | omega | (rw [World.size_alloc] at h; omega)
        clear hown4 hgr4 hat4
        go_wp2
        go_roundw
        case rel => exact ⟨k + 1, by omega, by go_num, by rw [HS2.out], by rw [HS1.out]; exact X4.out, F4.out, O4.out, W4.out, AP4.out, B4.out⟩
        case measure => simp [intOf]; omega
    · obtain rfl : k = xs.length := by omega
      go_wp2
      go_ret3
      exact ⟨_, _, rfl, (KOwn.of_owns HO.out (by rw [goL_len]; omega)).mono (by omega) (Nat.le_refl _), (KOwn.of_owns HW.out (by rw [goL_len]; omega)).mono (by omega) (Nat.le_refl _), HAP.out, HB.out⟩
end Go.Proofs.Ytcieefggijjekaz
