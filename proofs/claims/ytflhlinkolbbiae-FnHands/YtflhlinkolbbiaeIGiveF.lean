/-
  impl.givenToFree: each chore to the hand with the least so far. Nothing old is written.
-/
import Derived.Test.YtflhlinkolbbiaeLeastAt
import Derived.Test.YtflhlinkolbbiaeHandFns
import Derived.Test.YtflhlinkolbbiaeIRows
import Derived.Deep.QuietTactic
import Derived.BigQuiet
import Derived.Laws.EntriesVeiled
namespace Go.Proofs.Ytflhlinkolbbiae
open Go.RowKit

theorem icostG_eq (c g H : Nat) (s : List Nat) (w : World) (k : Nat) (hk : k < H) (hs : s.length = H) (hbox : w.cell? ⟨c, 0, none⟩ = some (.slice (some ⟨g, 0, none⟩) H H)) (hrow : IRow w g H H (ofN s)) :
    Calls Try.prog 110 #[.int .i64 (k : Nat), .pointer (some ⟨c, 0, none⟩)] w fun e w' => e = .returned (.int .i64 (s.getD k 0 : Nat)) ∧ w' = w := by
  have xs : w.cell? ⟨g, k, none⟩ = some (.int .i64 (s.getD k 0 : Nat)) := by have := hrow.cell (i := k) hk; rw [ofN_at] at this; exact this
  generalize s.getD k 0 = x at xs ⊢
  have n0 : (0 : Int) ≤ (k : Int) := by omega
  have n1 : (k : Int) < (H : Int) := by omega
  clear hrow hs
  go_enter Try.func110, Try.ntmps110
  go_wp2
  go_ret
  exact ⟨rfl, rfl⟩
set_option maxRecDepth 100000 in
set_option maxHeartbeats 8000000 in
theorem igiveF_any (v vo : Value) (ls ks : List Nat) (H : Nat) (hc : Chores ls H) (hk : ∀ k, k ∈ ks → k < ls.length) (hkl : ks.length ≤ 8) (w : World) (h0 : KReads w v (ofN ls)) (h1 : KReads w vo (ofN ks)) :
    Calls Try.prog 77 #[v, .int .i64 (H : Nat), vo] w fun e w' => ∃ u, e = .returned u ∧ KOwn w.heap.size w'.heap.size w' u (ofN (giveP ls H ks ks.length).2) ∧ Below w.heap.size w w' := by
  have R0 := hid h0
  have R1 := hid h1
  have HC := hid hc
  have HK := hid hk
  have HKL := hid hkl
  have H4 := hid hc.h4
  obtain ⟨i0, hi, hz0, hz1, hz2⟩ := info_parts info_int
  obtain ⟨a0, p0, rfl, _, _⟩ := h0
  obtain ⟨a1, p1, rfl, _, _⟩ := h1
  have hl0 : (ofN ls).length = ls.length := List.length_map ..
  have hl1 : (ofN ks).length = ks.length := List.length_map ..
  have HL0 := hid hl0
  have HL1 := hid hl1
  rw [hl0, hl1]
  obtain ⟨n, hn⟩ : ∃ n, n = ls.length := ⟨_, rfl⟩
  rw [← hn] at HL0 ⊢
  have HN := hid hn
  have h8 : Hid (n ≤ 8) := by show _ ≤ _; rw [hn]; exact hc.few
  clear hc hk hkl hl0 hl1 hn
  go_enter Try.func77, Try.ntmps77
  obtain ⟨wB, hwB⟩ : ∃ wB : World, wB = (((w.alloc (.cells (madeCells #[.int .i64 0] n) 3)).alloc (.cells (madeCells #[.int .i64 0] H) 3)).alloc (.cells #[.slice (some ⟨w.heap.size + 1, 0, none⟩) H H] 48)) := ⟨_, rfl⟩
  have hsz : wB.heap.size = w.heap.size + 1 + 1 + 1 := by rw [hwB]; simp only [World.size_alloc]
  have P3 : Hid (BoxL (wB.alloc (.cells #[.int .i64 (H : Nat), .func (.func 110) #[] #[.pointer (some ⟨w.heap.size + 1 + 1, 0, none⟩)]] 110)) (w.heap.size + 1 + 1 + 1) [.int .i64 (H : Nat), .func (.func 110) #[] #[.pointer (some ⟨w.heap.size + 1 + 1, 0, none⟩)]]) := by
    have := boxL_new wB [.int .i64 (H : Nat), .func (.func 110) #[] #[.pointer (some ⟨w.heap.size + 1 + 1, 0, none⟩)]] 110
    rw [hsz] at this
    exact this
  subst hwB
  have O0 : Hid (IRow (w.alloc (.cells (madeCells #[.int .i64 0] n) 3)) w.heap.size n n (ofN (giveP ls H ks 0).2)) := by
    show IRow _ _ _ _ (ofN (List.replicate ls.length 0))
    rw [show ofN (List.replicate ls.length 0) = List.replicate n 0 by rw [HN.out]; simp [ofN]]
    exact IRow.made w _ (by have := h8.out; omega)
  have O1 : Hid (IRow ((w.alloc (.cells (madeCells #[.int .i64 0] n) 3)).alloc (.cells (madeCells #[.int .i64 0] H) 3)) (w.heap.size + 1) H H (ofN (giveP ls H ks 0).1)) := by
    show IRow _ _ _ _ (ofN (List.replicate H 0))
    rw [show ofN (List.replicate H 0) = List.replicate H 0 by simp [ofN]]
    have := IRow.made (w.alloc (.cells (madeCells #[.int .i64 0] n) 3)) H (by have := H4.out; omega)
    rw [World.size_alloc] at this
    exact this
  have O2 : Hid (BoxL (((w.alloc (.cells (madeCells #[.int .i64 0] n) 3)).alloc (.cells (madeCells #[.int .i64 0] H) 3)).alloc (.cells #[.slice (some ⟨w.heap.size + 1, 0, none⟩) H H] 48)) (w.heap.size + 1 + 1) [.slice (some ⟨w.heap.size + 1, 0, none⟩) H H]) := by
    have := boxL_new ((w.alloc (.cells (madeCells #[.int .i64 0] n) 3)).alloc (.cells (madeCells #[.int .i64 0] H) 3)) [.slice (some ⟨w.heap.size + 1, 0, none⟩) H H] 48
    rw [World.size_alloc, World.size_alloc] at this
    exact this
  go_wp2_with (at_make; first | (refine wpList_make_row _ rfl _ _ 48 rfl 3 i0 (.int .i64 0) Try.underlying48 hi hz0 hz1 rfl .i64 .i64 n rfl rfl (by rw [hz2]; have := h8.out; omega) (by have := h8.out; omega) ?_) | (refine wpList_make_row _ rfl _ _ 48 rfl 3 i0 (.int .i64 0) Try.underlying48 hi hz0 hz1 rfl .i64 .i64 H rfl rfl (by rw [hz2]; have := H4.out; omega) (by have := H4.out; omega) ?_))
  go_loopw [24] (fun i wr => ∃ k : Nat, k ≤ ks.length ∧ i = .int .i64 k ∧ IRow wr w.heap.size n n (ofN (giveP ls H ks k).2) ∧ IRow wr (w.heap.size + 1) H H (ofN (giveP ls H ks k).1) ∧ BoxL wr (w.heap.size + 1 + 1) [.slice (some ⟨w.heap.size + 1, 0, none⟩) H H] ∧ BoxL wr (w.heap.size + 1 + 1 + 1) [.int .i64 (H : Nat), .func (.func 110) #[] #[.pointer (some ⟨w.heap.size + 1 + 1, 0, none⟩)]] ∧ Below w.heap.size w wr) (fun i _ => ks.length - (intOf i).toNat)
  case atStart =>
    refine ⟨0, by omega, rfl, O0.out.below (B := w.heap.size + 1) ((((Below.refl _ _).alloc (by simp) _).alloc (by simp) _).alloc (by simp) _) (by omega), O1.out.below (B := w.heap.size + 1 + 1) (((Below.refl _ _).alloc (by simp) _).alloc (by simp) _) (by omega), O2.out.below (B := w.heap.size + 1 + 1 + 1) ((Below.refl _ _).alloc (by simp) _) (by omega), P3.out, ?_⟩
    exact ((((Below.refl _ _).alloc (Nat.le_refl _) _).alloc (by simp) _).alloc (by simp <;> omega) _).alloc (by simp <;> omega) _
  case round =>
    obtain ⟨k, hk, rfl, hr0, hr1, hb2, hb3, hbel⟩ := hrel
    have A0 := hid hr0
    have A1 := hid hr1
    have A2 := hid hb2
    have A3 := hid hb3
    have HB := hid hbel
    clear hr0 hr1 hb2 hb3 hbel O0 O1 O2 P3 hsz
    by_cases hlt : k < ks.length
    · obtain ⟨g1, o1, c1, e1, y1⟩ := (R1.out.below HB.out).cells k (by rw [HL1.out]; exact hlt)
      rw [HL1.out] at e1
      cases e1
      obtain ⟨c, hcd⟩ : ∃ c, c = ks.getD k 0 := ⟨_, rfl⟩
      have x1 : wr.cell? ⟨g1, o1 + k, none⟩ = some (.int .i64 (c : Nat)) := by have := y1 k (by rw [HL1.out]; exact hlt); rw [ofN_at, ← hcd] at this; exact this
      have hcn : c < n := by rw [HN.out, hcd]; exact HK.out _ (by rw [List.getD_eq_getElem?_getD, List.getElem?_eq_getElem hlt]; exact List.getElem_mem hlt)
      obtain ⟨S, hS⟩ : ∃ S, S = (giveP ls H ks k).1 := ⟨_, rfl⟩
      obtain ⟨O, hO⟩ : ∃ O, O = (giveP ls H ks k).2 := ⟨_, rfl⟩
      have hsl : S.length = H := by rw [hS]; exact giveP_len1 ls H ks k
      rw [← hS] at A1
      rw [← hO] at A0
      obtain ⟨q0, q1⟩ := A3.out.two
      have HCost : Hid (CostG wr (.pointer (some ⟨w.heap.size + 1 + 1, 0, none⟩)) (fun h => S.getD h 0) H) := by
        intro W hW j hj
        refine (icostG_eq _ (w.heap.size + 1) H S W j hj hsl ((A2.out.below hW A2.out.lt).cell 0 (by simp)).1 (A1.out.whole hW)).mono ?_
        rintro e w' ⟨rfl, hw⟩
        exact ⟨rfl, by rw [hw]; exact Below.refl _ _⟩
      have hH0 := HC.out.h0
      have H0 := hid hH0
      obtain ⟨b, hb⟩ : ∃ b, b = bestN (fun h => S.getD h 0) H := ⟨_, rfl⟩
      have hbH : b < H := by rw [hb]; exact bestN_lt _ H hH0
      have hst : (giveP ls H ks (k + 1)) = (addAt S b (ls.getD c 0), O.set c b) := by
        show giveStep ls (giveP ls H ks k) (ks.getD k 0) = _
        unfold giveStep
        rw [← hS, ← hO, ← hcd, hsl, ← hb]
      have HST := hid hst
      have HBb := hid hb
      have hs1 : S.getD b 0 ≤ 50 * k := by rw [hS]; exact give_small HC.out ks HK.out k hk b
      have hs2 := (HC.out.size c (by rw [← HN.out]; exact hcn)).2
      have h8k := HKL.out
      obtain ⟨s, hs⟩ : ∃ s, s = S.getD b 0 := ⟨_, rfl⟩
      obtain ⟨p, hp⟩ : ∃ p, p = ls.getD c 0 := ⟨_, rfl⟩
      rw [← hs] at hs1
      rw [← hp] at hs2 HST
      obtain ⟨t, ht⟩ : ∃ t, t = s + p := ⟨_, rfl⟩
      have wr1 : IntKind.i64.wrap ((s : Int) + (p : Int)) = (t : Int) := by rw [IntKind.wrap_i64]; omega
      have HSs := hid hs
      have HPp := hid hp
      have HTt := hid ht
      have n0 : (0 : Int) ≤ (k : Int) := by omega
      have n1 : (k : Int) < (ks.length : Int) := by omega
      have n2 : (0 : Int) ≤ (c : Int) := by omega
      have n3 : (c : Int) < (n : Int) := by omega
      have n4 : (0 : Int) ≤ (b : Int) := by omega
      have n5 : (b : Int) < (H : Int) := by omega
      clear y1 hcd hS hO hst hb hs1 hs2 hs hp ht
      go_wp2_with fail
      refine (ibestG_any _ (fun h => S.getD h 0) H H0.out (by have := H4.out; omega) _ HCost.out).mono ?_
      rintro e w1 ⟨rfl, hbw⟩
      rw [← HBb.out]
      have B1 : Hid (Below w.heap.size w w1) := HB.out.trans (hbw.mono HB.out.size)
      have D0 := hid (A0.out.whole hbw)
      have D1 := hid (A1.out.whole hbw)
      have D2 := hid (A2.out.below hbw A2.out.lt)
      have D3 := hid (A3.out.below hbw A3.out.lt)
      clear A0 A1 A2 A3 HB q0 q1 x1 HCost hbw
      have z0 : w1.cell? ⟨w.heap.size, c, none⟩ = some (.int .i64 (O.getD c 0 : Nat)) := by have := D0.out.cell (i := c) hcn; rw [ofN_at] at this; exact this
      have zf0 : w1.frozen? ⟨w.heap.size, c, none⟩ = false := D0.out.free c
      have E0 : Hid (IRow (w1.setCell ⟨w.heap.size, c, none⟩ (.int .i64 (b : Nat))) w.heap.size n n (ofN (O.set c b))) := by have := D0.out.set c (b : Nat); rw [ofN_setI] at this; exact this
      have bb : Below (w.heap.size + 1) (w1.setCell ⟨w.heap.size, c, none⟩ (.int .i64 (b : Nat))) (w1.setCell ⟨w.heap.size, c, none⟩ (.int .i64 (b : Nat))) := Below.refl _ _
      have E1 : Hid (IRow (w1.setCell ⟨w.heap.size, c, none⟩ (.int .i64 (b : Nat))) (w.heap.size + 1) H H (ofN S)) := D1.out.at (Below.heap_setCell _ _ _ _ (by simp))
      have E2 : Hid (BoxL (w1.setCell ⟨w.heap.size, c, none⟩ (.int .i64 (b : Nat))) (w.heap.size + 1 + 1) [.slice (some ⟨w.heap.size + 1, 0, none⟩) H H]) := D2.out.of_block (Below.heap_setCell _ _ _ _ (by simp <;> omega))
      have E3 : Hid (BoxL (w1.setCell ⟨w.heap.size, c, none⟩ (.int .i64 (b : Nat))) (w.heap.size + 1 + 1 + 1) [.int .i64 (H : Nat), .func (.func 110) #[] #[.pointer (some ⟨w.heap.size + 1 + 1, 0, none⟩)]]) := D3.out.of_block (Below.heap_setCell _ _ _ _ (by simp <;> omega))
      have B2 : Hid (Below w.heap.size w (w1.setCell ⟨w.heap.size, c, none⟩ (.int .i64 (b : Nat)))) := B1.out.setCell (Nat.le_refl _) _
      obtain ⟨g0, o0, c0, e0, y0⟩ := (R0.out.below B2.out).cells c (by rw [HL0.out]; exact hcn)
      rw [HL0.out] at e0
      cases e0
      have x0 : (w1.setCell ⟨w.heap.size, c, none⟩ (.int .i64 (b : Nat))).cell? ⟨g0, o0 + c, none⟩ = some (.int .i64 (p : Nat)) := by have := y0 c (by rw [HL0.out]; exact hcn); rw [ofN_at, ← HPp.out] at this; exact this
      have xs : (w1.setCell ⟨w.heap.size, c, none⟩ (.int .i64 (b : Nat))).cell? ⟨w.heap.size + 1, b, none⟩ = some (.int .i64 (s : Nat)) := by have := E1.out.cell (i := b) hbH; rw [ofN_at, ← HSs.out] at this; exact this
      have fs : (w1.setCell ⟨w.heap.size, c, none⟩ (.int .i64 (b : Nat))).frozen? ⟨w.heap.size + 1, b, none⟩ = false := E1.out.free b
      have x2 := (E2.out.cell 0 (by simp)).1
      have G1 : Hid (IRow ((w1.setCell ⟨w.heap.size, c, none⟩ (.int .i64 (b : Nat))).setCell ⟨w.heap.size + 1, b, none⟩ (.int .i64 (t : Nat))) (w.heap.size + 1) H H (ofN (addAt S b p))) := by
        have := E1.out.set b (t : Nat)
        rw [ofN_setI, HTt.out, HSs.out] at this
        rw [HTt.out, HSs.out]
        exact this
      have G0 : Hid (IRow ((w1.setCell ⟨w.heap.size, c, none⟩ (.int .i64 (b : Nat))).setCell ⟨w.heap.size + 1, b, none⟩ (.int .i64 (t : Nat))) w.heap.size n n (ofN (O.set c b))) := E0.out.at (Below.heap_setCell _ _ _ _ (by simp))
      have G2 := hid (E2.out.of_block (Below.heap_setCell (w1.setCell ⟨w.heap.size, c, none⟩ (.int .i64 (b : Nat))) ⟨w.heap.size + 1, b, none⟩ (.int .i64 (t : Nat)) _ (by simp)))
      have G3 := hid (E3.out.of_block (Below.heap_setCell (w1.setCell ⟨w.heap.size, c, none⟩ (.int .i64 (b : Nat))) ⟨w.heap.size + 1, b, none⟩ (.int .i64 (t : Nat)) _ (by simp <;> omega)))
      have B3 : Hid (Below w.heap.size w ((w1.setCell ⟨w.heap.size, c, none⟩ (.int .i64 (b : Nat))).setCell ⟨w.heap.size + 1, b, none⟩ (.int .i64 (t : Nat)))) := B2.out.setCell (by show w.heap.size ≤ w.heap.size + 1; omega) _
      clear D0 D1 D2 D3 E0 E1 E2 E3 B1 B2 bb y0
      go_wp2_with fail
      go_big_region
      go_wp2
      go_roundw
      case rel => exact ⟨k + 1, by omega, by go_num, by rw [HST.out]; exact G0.out.at rfl, by rw [HST.out]; exact G1.out.at rfl, G2.out.of_block rfl, G3.out.of_block rfl, B3.out.drew⟩
      case measure => simp [intOf]; omega
    · obtain rfl : k = ks.length := by omega
      go_wp2
      go_ret
      exact ⟨_, rfl, A0.out.own (by have := h8.out; omega) (Nat.le_refl _) A0.out.caps.2.2, HB.out⟩
end Go.Proofs.Ytflhlinkolbbiae
