/-
  impl.ArriveAll: each letter to the way on which it arrives first. Nothing old is written.
-/
import Derived.Test.YtflhlinkolbbiaeIChoiceA
import Derived.Test.YtflhlinkolbbiaeILastA
import Derived.Test.YtflhlinkolbbiaeIRows
import Derived.Laws.EntriesVeiled
import Derived.Lib.QuietBelow
namespace Go.Proofs.Ytflhlinkolbbiae
open Go.RowKit Go.Sort

set_option maxHeartbeats 2000000 in
theorem icostA_eq (c1 c2 g n : Nat) (a : Option Addr) (p0 : Nat) (xs : List WyEl) (cs : List Nat) (hg : GWays xs) (hc : Counts xs cs) (hn : n = xs.length) (w : World) (k : Nat) (hk : k < n) (r : Nat) (hr : arrW xs k (cs.getD k 0) = r)
    (b1 : w.cell? ⟨c1, 0, none⟩ = some (.slice a n p0)) (b2 : w.cell? ⟨c2, 0, none⟩ = some (.slice (some ⟨g, 0, none⟩) n n)) (h0 : WyReads w (.slice a n p0) xs) (h1 : IRow w g n n (ofN cs)) :
    Calls Try.prog 91 #[.int .i64 (k : Nat), .pointer (some ⟨c1, 0, none⟩), .pointer (some ⟨c2, 0, none⟩)] w fun e w' => e = .returned (.int .i64 (r : Nat)) ∧ Below w.heap.size w w' := by
  obtain ⟨g0, o0, q0, e0, y0⟩ := h0.cells k (by omega)
  rw [← hn] at e0
  cases e0
  obtain ⟨c, hcd⟩ : ∃ c, c = cs.getD k 0 := ⟨_, rfl⟩
  obtain ⟨p, hp⟩ : ∃ p, p = (xs.getD k (0, 0)).1 := ⟨_, rfl⟩
  obtain ⟨q, hq⟩ : ∃ q, q = (xs.getD k (0, 0)).2 := ⟨_, rfl⟩
  have hcb : c ≤ 40 := by rw [hcd]; exact hc.small k (by omega)
  obtain ⟨hz1, hz2⟩ := arrW_int hg (k := k) (c := c) (by omega) (by omega)
  rw [← hq] at hz1 hz2
  rw [← hp, hcd, hr, ← hcd] at hz2
  have xc : w.cell? ⟨g, k, none⟩ = some (.int .i64 (c : Nat)) := by have := h1.cell (i := k) hk; rw [ofN_atW, ← hcd] at this; exact this
  obtain ⟨x0, x2⟩ := y0 k (by omega)
  rw [← hp] at x0
  rw [← hq] at x2
  have Z1 := hid hz1
  have Z2 := hid hz2
  have n0 : (0 : Int) ≤ (k : Int) := by omega
  have n1 : (k : Int) < (n : Int) := by omega
  clear y0 hcd hp hq hz1 hz2 hr h0 h1 hc hg hn
  go_enter Try.func91, Try.ntmps91
  go_wp2_with fail
  have j1 := cell_regrown b1
  have j2 := cell_regrown b2
  have j3 := cell_regrown x0
  have j4 := cell_regrown x2
  have j5 := cell_regrown xc
  have cA : ∀ dd os, Calls Try.prog 92 #[.agg #[.int .i64 p, .int .i64 q], .int .i64 (c : Nat)] (grow (redrawn w dd) os) fun e w'' => e = .returned (.int .i64 (r : Nat)) ∧ ∃ p : Regrown, w'' = grow (redrawn w p.d) p.os := fun dd os => Calls.regrown_of (iarr_eq p q _ c r _ Z1.out Z2.out)
  clear b1 b2 x0 x2 xc
  refine wp_region_quiet_below (by kernel_rfl) (by kernel_rfl) ?_
  repeat (go_big_quiet_step (exact cA _ _))
  refine wpQuiet_nil ?_
  intro _ hw'
  obtain ⟨⟨dq, osq⟩, hw''⟩ := hw'
  subst hw''
  have BQ := hid (below_regrown w dq osq)
  go_wp2
  go_ret
  exact ⟨rfl, BQ.out⟩
set_option maxHeartbeats 4000000 in
theorem iarrive_no (v : Value) (xs : List WyEl) (m : Int) (w : World) (h0 : WyReads w v xs) (hn : aaB xs m = false) :
    Calls Try.prog 39 #[v, .int .i64 m] w fun e w' => ∃ u0, e = .returned (.tuple #[u0, .int .i64 0, .bool false]) ∧ KOwn w.heap.size w'.heap.size w' u0 [] ∧ Below w.heap.size w w' := by
  have R0 := hid h0
  obtain ⟨a0, p0, rfl, _, _⟩ := h0
  obtain ⟨b1, hb1⟩ : ∃ b, wyB xs = b := ⟨_, rfl⟩
  unfold aaB at hn
  rw [hb1] at hn
  have HB1 := hid hb1
  have HNo := hid hn
  have BW : Hid (Below w.heap.size w (w.alloc (.cells #[.slice a0 xs.length p0] 58))) := (Below.refl _ _).alloc (Nat.le_refl _) _
  have C0 := hid ((boxL_new w [.slice a0 xs.length p0] 58).cell 0 (by simp)).1
  clear hb1 hn
  go_enter Try.func39, Try.ntmps39
  go_wp2_with fail
  refine (iways_eq _ xs b1 HB1.out _ (R0.out.below BW.out)).mono ?_
  rintro e w1 ⟨rfl, hb⟩
  have B1 : Hid (Below w.heap.size w w1) := BW.out.trans (hb.mono BW.out.size)
  clear hb
  cases b1
  · go_wp2
    go_ret3
    exact ⟨_, rfl, kown_nil _ _ _ _ _, B1.out⟩
  have hm : ¬ (0 ≤ m ∧ m ≤ 40) := by have := HNo.out; simpa using this
  by_cases h1 : m < 0
  · have d1 : decide (m < 0) = true := by simpa using h1
    go_wp2
    go_ret3
    exact ⟨_, rfl, kown_nil _ _ _ _ _, B1.out⟩
  · have d1 : decide (m < 0) = false := by simpa using h1
    have d2 : decide (40 < m) = true := by rw [decide_eq_true_eq]; omega
    clear hm
    go_wp2
    go_ret3
    exact ⟨_, rfl, kown_nil _ _ _ _ _, B1.out⟩
set_option maxRecDepth 100000 in
set_option maxHeartbeats 16000000 in
theorem iarrive_yes (v : Value) (xs : List WyEl) (m : Nat) (w : World) (h0 : WyReads w v xs) (hw : wyB xs = true) (hm : m ≤ 40) :
    Calls Try.prog 39 #[v, .int .i64 (m : Nat)] w fun e w' => ∃ u0, e = .returned (.tuple #[u0, .int .i64 (laN xs (arrP (arrW xs) xs.length m) : Nat), .bool true]) ∧ KOwn w.heap.size w'.heap.size w' u0 (ofN (arrP (arrW xs) xs.length m)) ∧ Below w.heap.size w w' := by
  have R0 := hid h0
  have HG := hid (gways_of hw)
  have HB1 := hid hw
  have HM := hid hm
  obtain ⟨i0, hi, hz0, hz1, hz2⟩ := info_parts info_int
  obtain ⟨a0, p0, rfl, _, _⟩ := h0
  obtain ⟨r, hr⟩ : ∃ r, laN xs (arrP (arrW xs) xs.length m) = r := ⟨_, rfl⟩
  have HR := hid hr
  rw [hr]
  obtain ⟨n, hn⟩ : ∃ n, n = xs.length := ⟨_, rfl⟩
  rw [← hn] at R0 ⊢
  have HN := hid hn
  have hn4 : n ≤ 4 := by rw [hn]; exact HG.out.len.2
  have hn1 : 1 ≤ n := by rw [hn]; exact HG.out.len.1
  have N4 := hid hn4
  have N1 := hid hn1
  have BW : Hid (Below w.heap.size w (w.alloc (.cells #[.slice a0 n p0] 58))) := (Below.refl _ _).alloc (Nat.le_refl _) _
  have C0 : Hid ((w.alloc (.cells #[.slice a0 n p0] 58)).cell? ⟨w.heap.size, 0, none⟩ = some (.slice a0 n p0)) := ((boxL_new w [.slice a0 n p0] 58).cell 0 (by simp)).1
  clear hn hr hn4 hn1 hw
  have dm0 : decide ((m : Int) < 0) = false := by rw [decide_eq_false_iff_not]; omega
  have dm4 : decide ((40 : Int) < (m : Int)) = false := by rw [decide_eq_false_iff_not]; omega
  go_enter Try.func39, Try.ntmps39
  go_wp2_with fail
  refine (iways_eq _ xs true HB1.out _ (R0.out.below BW.out)).mono ?_
  rintro e w1 ⟨rfl, hb⟩
  have B1 : Hid (Below w.heap.size w w1) := BW.out.trans (hb.mono BW.out.size)
  have c1 : w1.cell? ⟨w.heap.size, 0, none⟩ = some (.slice a0 n p0) := (hb.cell (p := ⟨w.heap.size, 0, none⟩) (by simp)).trans C0.out
  have hs1 := hb.size
  rw [World.size_alloc] at hs1
  have C1 := hid c1
  have HS1 : Hid (w.heap.size + 1 ≤ w1.heap.size) := hs1
  clear hb
  obtain ⟨wB, hwB⟩ : ∃ wB : World, wB = ((w1.alloc (.cells (madeCells #[.int .i64 0] n) 3)).alloc (.cells #[.slice (some ⟨w1.heap.size, 0, none⟩) n n] 48)) := ⟨_, rfl⟩
  have hsz : wB.heap.size = w1.heap.size + 1 + 1 := by rw [hwB]; simp only [World.size_alloc]
  have c2 : wB.cell? ⟨w.heap.size, 0, none⟩ = some (.slice a0 n p0) := by
    rw [hwB]
    exact ((((Below.refl w1.heap.size w1).alloc (Nat.le_refl _) _).alloc (by simp) _).cell (p := ⟨w.heap.size, 0, none⟩) (by show w.heap.size < _; omega)).trans C1.out
  have P3 : Hid (BoxL (wB.alloc (.cells #[.int .i64 (n : Nat), .func (.func 91) #[] #[.pointer (some ⟨w.heap.size, 0, none⟩), .pointer (some ⟨w1.heap.size + 1, 0, none⟩)]] 110)) (w1.heap.size + 1 + 1) [.int .i64 (n : Nat), .func (.func 91) #[] #[.pointer (some ⟨w.heap.size, 0, none⟩), .pointer (some ⟨w1.heap.size + 1, 0, none⟩)]]) := by
    have := boxL_new wB [.int .i64 (n : Nat), .func (.func 91) #[] #[.pointer (some ⟨w.heap.size, 0, none⟩), .pointer (some ⟨w1.heap.size + 1, 0, none⟩)]] 110
    rw [hsz] at this
    exact this
  subst hwB
  have O1 : Hid (IRow (w1.alloc (.cells (madeCells #[.int .i64 0] n) 3)) w1.heap.size n n (ofN (arrP (arrW xs) n 0))) := by
    show IRow _ _ _ _ (ofN (List.replicate n 0))
    rw [show ofN (List.replicate n 0) = List.replicate n 0 by simp [ofN]]
    exact IRow.made w1 _ (by have := N4.out; omega)
  have O2 : Hid (BoxL ((w1.alloc (.cells (madeCells #[.int .i64 0] n) 3)).alloc (.cells #[.slice (some ⟨w1.heap.size, 0, none⟩) n n] 48)) (w1.heap.size + 1) [.slice (some ⟨w1.heap.size, 0, none⟩) n n]) := by
    have := boxL_new (w1.alloc (.cells (madeCells #[.int .i64 0] n) 3)) [.slice (some ⟨w1.heap.size, 0, none⟩) n n] 48
    rw [World.size_alloc] at this
    exact this
  have BD : Hid (Below w1.heap.size w1 (((w1.alloc (.cells (madeCells #[.int .i64 0] n) 3)).alloc (.cells #[.slice (some ⟨w1.heap.size, 0, none⟩) n n] 48)).alloc (.cells #[.int .i64 (n : Nat), .func (.func 91) #[] #[.pointer (some ⟨w.heap.size, 0, none⟩), .pointer (some ⟨w1.heap.size + 1, 0, none⟩)]] 110))) := (((Below.refl _ _).alloc (Nat.le_refl _) _).alloc (by simp) _).alloc (by simp <;> omega) _
  clear hsz
  go_wp2_with (at_make; refine wpList_make_row _ rfl _ _ 48 rfl 3 i0 (.int .i64 0) Try.underlying48 hi hz0 hz1 rfl .i64 .i64 n rfl rfl (by rw [hz2]; have := N4.out; omega) (by have := N4.out; omega) ?_)
  go_loopw [30] (fun i wr => ∃ k : Nat, k ≤ m ∧ i = .int .i64 k ∧ wr.cell? ⟨w.heap.size, 0, none⟩ = some (.slice a0 n p0) ∧ IRow wr w1.heap.size n n (ofN (arrP (arrW xs) n k)) ∧ BoxL wr (w1.heap.size + 1) [.slice (some ⟨w1.heap.size, 0, none⟩) n n] ∧ BoxL wr (w1.heap.size + 1 + 1) [.int .i64 (n : Nat), .func (.func 91) #[] #[.pointer (some ⟨w.heap.size, 0, none⟩), .pointer (some ⟨w1.heap.size + 1, 0, none⟩)]] ∧ Below w.heap.size w wr) (fun i _ => m - (intOf i).toNat)
  case atStart =>
    refine ⟨0, by omega, rfl, ?_, O1.out.below (B := w1.heap.size + 1) (((Below.refl _ _).alloc (by simp) _).alloc (by simp) _) (by omega), O2.out.below (B := w1.heap.size + 1 + 1) ((Below.refl _ _).alloc (by simp) _) (by omega), P3.out, B1.out.trans (BD.out.mono B1.out.size)⟩
    exact (BD.out.cell (p := ⟨w.heap.size, 0, none⟩) (by have := HS1.out; show w.heap.size < _; omega)).trans C1.out
  case round =>
    obtain ⟨k, hk, rfl, hb0, hr1, hb2, hb3, hbel⟩ := hrel
    have A0 := hid hb0
    have A1 := hid hr1
    have A2 := hid hb2
    have A3 := hid hb3
    have HB := hid hbel
    clear hb0 hr1 hb2 hb3 hbel O1 O2 P3 c1 c2 hs1
    have hs1 := HS1.out
    by_cases hlt : k < m
    · obtain ⟨S, hS⟩ : ∃ S, S = arrP (arrW xs) n k := ⟨_, rfl⟩
      have hsl : S.length = n := by rw [hS]; exact arrP_len _ _ _
      have hm4 := HM.out
      have hcs : Counts xs S := by rw [hS, HN.out]; exact arr_counts HG.out (by omega)
      rw [← hS] at A1
      obtain ⟨q0, q1⟩ := A3.out.two
      have HCost : Hid (CostA wr (.pointer (some ⟨w.heap.size, 0, none⟩)) (.pointer (some ⟨w1.heap.size + 1, 0, none⟩)) (fun j => arrW xs j (S.getD j 0)) n) := by
        intro W hW j hj
        exact icostA_eq _ _ w1.heap.size n a0 p0 xs S HG.out hcs HN.out W j hj _ rfl ((hW.cell (p := ⟨w.heap.size, 0, none⟩) (lt_of_cell A0.out)).trans A0.out) ((A2.out.below hW A2.out.lt).cell 0 (by simp)).1 ((R0.out.below HB.out).below hW) (A1.out.whole hW)
      obtain ⟨b, hb⟩ : ∃ b, b = bestN (fun j => arrW xs j (S.getD j 0)) n := ⟨_, rfl⟩
      have hbn : b < n := by rw [hb]; exact bestN_lt _ n N1.out
      have hst : arrP (arrW xs) n (k + 1) = addAt S b 1 := by
        show addAt (arrP (arrW xs) n k) (bestN (fun j => arrW xs j ((arrP (arrW xs) n k).getD j 0)) n) 1 = _
        rw [← hS, ← hb]
      have HST := hid hst
      have HBb := hid hb
      obtain ⟨s, hs⟩ : ∃ s, s = S.getD b 0 := ⟨_, rfl⟩
      have hs40 : s ≤ 40 := by rw [hs]; exact hcs.small b (by rw [← HN.out]; exact hbn)
      obtain ⟨t, ht⟩ : ∃ t, t = s + 1 := ⟨_, rfl⟩
      have wr1 : IntKind.i64.wrap ((s : Int) + 1) = (t : Int) := by rw [IntKind.wrap_i64]; omega
      have HSs := hid hs
      have HTt := hid ht
      have n4 : (0 : Int) ≤ (b : Int) := by omega
      have n5 : (b : Int) < (n : Int) := by omega
      clear hS hst hb hs ht hcs
      go_wp2_with fail
      refine (ibestA_any _ _ (fun j => arrW xs j (S.getD j 0)) n N1.out (by have := N4.out; omega) _ HCost.out).mono ?_
      rintro e w2 ⟨rfl, hbw⟩
      rw [← HBb.out]
      have B2 : Hid (Below w.heap.size w w2) := HB.out.trans (hbw.mono HB.out.size)
      have D0 : Hid (w2.cell? ⟨w.heap.size, 0, none⟩ = some (.slice a0 n p0)) := (hbw.cell (p := ⟨w.heap.size, 0, none⟩) (lt_of_cell A0.out)).trans A0.out
      have D1 := hid (A1.out.whole hbw)
      have D2 := hid (A2.out.below hbw A2.out.lt)
      have D3 := hid (A3.out.below hbw A3.out.lt)
      clear A0 A1 A2 A3 HB q0 q1 HCost hbw
      have x2 := (D2.out.cell 0 (by simp)).1
      have xs' : w2.cell? ⟨w1.heap.size, b, none⟩ = some (.int .i64 (s : Nat)) := by have := D1.out.cell (i := b) hbn; rw [ofN_atW, ← HSs.out] at this; exact this
      have fs : w2.frozen? ⟨w1.heap.size, b, none⟩ = false := D1.out.free b
      have E1 : Hid (IRow (w2.setCell ⟨w1.heap.size, b, none⟩ (.int .i64 (t : Nat))) w1.heap.size n n (ofN (addAt S b 1))) := by
        have := D1.out.set b (t : Nat)
        rw [ofN_setW, HTt.out, HSs.out] at this
        rw [HTt.out, HSs.out]
        exact this
      have E0 : Hid ((w2.setCell ⟨w1.heap.size, b, none⟩ (.int .i64 (t : Nat))).cell? ⟨w.heap.size, 0, none⟩ = some (.slice a0 n p0)) := (World.cell?_setCell_other _ _ _ _ (by simp <;> omega)).trans D0.out
      have E2 : Hid (BoxL (w2.setCell ⟨w1.heap.size, b, none⟩ (.int .i64 (t : Nat))) (w1.heap.size + 1) [.slice (some ⟨w1.heap.size, 0, none⟩) n n]) := D2.out.of_block (Below.heap_setCell _ _ _ _ (by simp))
      have E3 := hid (D3.out.of_block (Below.heap_setCell w2 ⟨w1.heap.size, b, none⟩ (.int .i64 (t : Nat)) _ (by simp <;> omega)))
      have B3 : Hid (Below w.heap.size w (w2.setCell ⟨w1.heap.size, b, none⟩ (.int .i64 (t : Nat)))) := B2.out.setCell (by show w.heap.size ≤ w1.heap.size; omega) _
      clear D0 D1 D2 D3 B2
      go_wp2
      go_roundw
      case rel => exact ⟨k + 1, by omega, by go_num, E0.out, by rw [HST.out]; exact E1.out, E2.out, E3.out, B3.out⟩
      case measure => simp [intOf]; omega
    · have heq : k = m := by omega
      rw [heq] at A1
      have hcs : Counts xs (arrP (arrW xs) n m) := by rw [HN.out]; exact arr_counts HG.out HM.out
      have HCs := hid hcs
      have x2 := (A2.out.cell 0 (by simp)).1
      have x0 := A0.out
      have HRr : Hid (laN xs (arrP (arrW xs) n m) = r) := by rw [HN.out]; exact HR.out
      have HE := hid heq
      have dk : decide ((k : Int) < (m : Int)) = false := by rw [decide_eq_false_iff_not]; omega
      have KR : Hid (KReads wr (.slice (some ⟨w1.heap.size, 0, none⟩) n n) (ofN (arrP (arrW xs) n m))) := A1.out.reads (by have := N4.out; omega)
      clear heq hcs
      have j1 := cell_regrown x0
      have j2 := cell_regrown x2
      have hszw := HB.out.size
      have cL : ∀ dd os, Calls Try.prog 88 #[.slice a0 n p0, .slice (some ⟨w1.heap.size, 0, none⟩) n n] (grow (redrawn wr dd) os) fun e w'' => e = .returned (.int .i64 (r : Nat)) ∧ ∃ p : Regrown, w'' = grow (redrawn wr p.d) p.os := fun dd os => Calls.regrown_of ((ilast_eq _ _ xs (arrP (arrW xs) n m) HG.out HCs.out _ ((R0.out.below HB.out).below (below_regrown wr dd os)) (KR.out.below (below_regrown wr dd os))).mono fun e w' h => by rw [HRr.out] at h; exact h)
      clear x0 x2
      go_wp2_with fail
      refine wp_region_quiet_below (by kernel_rfl) (by kernel_rfl) ?_
      repeat (go_big_quiet_step (exact cL _ _))
      refine wpQuiet_nil ?_
      intro _ hw'
      obtain ⟨⟨dq, osq⟩, hw''⟩ := hw'
      subst hw''
      have BQ : Hid (Below w.heap.size w (grow (redrawn wr dq) osq)) := HB.out.trans ((below_regrown wr dq osq).mono hszw)
      have OQ : Hid (KOwn w.heap.size (grow (redrawn wr dq) osq).heap.size (grow (redrawn wr dq) osq) (.slice (some ⟨w1.heap.size, 0, none⟩) n n) (ofN (arrP (arrW xs) n m))) := ((A1.out.own (by have := N4.out; omega) (by omega) A1.out.caps.2.2).below (below_regrown wr dq osq)).mono (Nat.le_refl _) (below_regrown wr dq osq).size
      rw [HN.out] at OQ
      go_wp2
      go_ret3
      exact ⟨_, rfl, by first | exact OQ.out | (have := OQ.out; rwa [← HN.out] at this), BQ.out⟩
theorem iarriveFn_any (v : Value) (xs : List WyEl) (m : Int) (w : World) (h0 : WyReads w v xs) :
    Calls Try.prog 39 #[v, .int .i64 m] w fun e w' => ∃ u0, e = .returned (.tuple #[u0, .int .i64 (aaZ xs m), .bool (aaB xs m)]) ∧ KOwn w.heap.size w'.heap.size w' u0 (aaL xs m) ∧ Below w.heap.size w w' := by
  cases hg : aaB xs m with
  | false => rw [aaZ_no hg, aaL_no hg]; exact iarrive_no v xs m w h0 hg
  | true =>
    obtain ⟨k, rfl, hk, hw, _⟩ := aa_of hg
    rw [aaZ_yes hg, aaL_yes hg]
    exact iarrive_yes v xs k w h0 hw hk
end Go.Proofs.Ytflhlinkolbbiae
