/-
  spec.l14Give: each chore to the hand with the least so far. Nothing old is written.
-/
import Derived.Test.YtflhlinkolbbiaeHandFns
import Derived.Test.YtflhlinkolbbiaeIRows
import Derived.Deep.QuietTactic
import Derived.BigQuiet
namespace Go.Proofs.Ytflhlinkolbbiae
open Go.RowKit

set_option maxRecDepth 100000 in
set_option maxHeartbeats 8000000 in
theorem sgive14_any (v vo : Value) (ls ks : List Nat) (H : Nat) (hc : Chores ls H) (hk : ∀ k, k ∈ ks → k < ls.length) (hkl : ks.length ≤ 8) (w : World) (h0 : KReads w v (ofN ls)) (h1 : KReads w vo (ofN ks)) :
    Calls Try.prog 79 #[v, .int .i64 (H : Nat), vo] w fun e w' => ∃ u, e = .returned u ∧ KOwn w.heap.size w'.heap.size w' u (ofN (giveP ls H ks ks.length).2) ∧ Below w.heap.size w w' := by
  have R0 := hid h0
  have R1 := hid h1
  have HC := hid hc
  have HK := hid hk
  have HKL := hid hkl
  have H4 := hid hc.h4
  obtain ⟨i0, hi, hz0, hz1, hz2⟩ := info_parts info_int
  obtain ⟨a0, p0, rfl, _, _⟩ := h0
  obtain ⟨a1, p1, rfl, _, _⟩ := h1
  have hl0 : (ofN ls).length = ls.length := List.length_map ..
  have hl1 : (ofN ks).length = ks.length := List.length_map ..
  have HL0 := hid hl0
  have HL1 := hid hl1
  rw [hl0, hl1]
  obtain ⟨n, hn⟩ : ∃ n, n = ls.length := ⟨_, rfl⟩
  rw [← hn] at HL0 ⊢
  have HN := hid hn
  have h8 : Hid (n ≤ 8) := by show _ ≤ _; rw [hn]; exact hc.few
  clear hc hk hkl hl0 hl1 hn
  have O1 : Hid (IRow (w.alloc (.cells (madeCells #[.int .i64 0] H) 3)) w.heap.size H H (ofN (giveP ls H ks 0).1)) := by
    show IRow _ _ _ _ (ofN (List.replicate H 0))
    rw [show ofN (List.replicate H 0) = List.replicate H 0 by simp [ofN]]
    exact IRow.made w _ (by have := H4.out; omega)
  have O0 : Hid (IRow ((w.alloc (.cells (madeCells #[.int .i64 0] H) 3)).alloc (.cells (madeCells #[.int .i64 0] n) 3)) (w.heap.size + 1) n n (ofN (giveP ls H ks 0).2)) := by
    show IRow _ _ _ _ (ofN (List.replicate ls.length 0))
    rw [show ofN (List.replicate ls.length 0) = List.replicate n 0 by rw [HN.out]; simp [ofN]]
    have := IRow.made (w.alloc (.cells (madeCells #[.int .i64 0] H) 3)) n (by have := h8.out; omega)
    rw [World.size_alloc] at this
    exact this
  go_enter Try.func79, Try.ntmps79
  go_wp2_with (at_make; first | (refine wpList_make_row _ rfl _ _ 48 rfl 3 i0 (.int .i64 0) Try.underlying48 hi hz0 hz1 rfl .i64 .i64 H rfl rfl (by rw [hz2]; have := H4.out; omega) (by have := H4.out; omega) ?_) | (refine wpList_make_row _ rfl _ _ 48 rfl 3 i0 (.int .i64 0) Try.underlying48 hi hz0 hz1 rfl .i64 .i64 n rfl rfl (by rw [hz2]; have := h8.out; omega) (by have := h8.out; omega) ?_))
  go_loopw [20] (fun i wr => ∃ k : Nat, k ≤ ks.length ∧ i = .int .i64 k ∧ IRow wr (w.heap.size + 1) n n (ofN (giveP ls H ks k).2) ∧ IRow wr w.heap.size H H (ofN (giveP ls H ks k).1) ∧ Below w.heap.size w wr) (fun i _ => ks.length - (intOf i).toNat)
  case atStart =>
    exact ⟨0, by omega, rfl, O0.out, O1.out.below (B := w.heap.size + 1) ((Below.refl _ _).alloc (by simp) _) (by omega), ((Below.refl _ _).alloc (Nat.le_refl _) _).alloc (by simp) _⟩
  case round =>
    obtain ⟨k, hk, rfl, hr0, hr1, hbel⟩ := hrel
    have A0 := hid hr0
    have A1 := hid hr1
    have HB := hid hbel
    clear hr0 hr1 hbel O0 O1
    by_cases hlt : k < ks.length
    · obtain ⟨g1, o1, c1, e1, y1⟩ := (R1.out.below HB.out).cells k (by rw [HL1.out]; exact hlt)
      rw [HL1.out] at e1
      cases e1
      obtain ⟨c, hcd⟩ : ∃ c, c = ks.getD k 0 := ⟨_, rfl⟩
      have x1 : wr.cell? ⟨g1, o1 + k, none⟩ = some (.int .i64 (c : Nat)) := by have := y1 k (by rw [HL1.out]; exact hlt); rw [ofN_at, ← hcd] at this; exact this
      have hcn : c < n := by rw [HN.out, hcd]; exact HK.out _ (by rw [List.getD_eq_getElem?_getD, List.getElem?_eq_getElem hlt]; exact List.getElem_mem hlt)
      obtain ⟨S, hS⟩ : ∃ S, S = (giveP ls H ks k).1 := ⟨_, rfl⟩
      obtain ⟨O, hO⟩ : ∃ O, O = (giveP ls H ks k).2 := ⟨_, rfl⟩
      have hsl : S.length = H := by rw [hS]; exact giveP_len1 ls H ks k
      rw [← hS] at A1
      rw [← hO] at A0
      have hH0 := HC.out.h0
      have H0 := hid hH0
      have hsb : ∀ h, S.getD h 0 ≤ 50 * k := by rw [hS]; exact give_small HC.out ks HK.out k hk
      have HSB := hid hsb
      have hst : ∀ b, b = bestN (fun h => S.getD h 0) H → (giveP ls H ks (k + 1)) = (addAt S b (ls.getD c 0), O.set c b) := by
        intro b hb
        show giveStep ls (giveP ls H ks k) (ks.getD k 0) = _
        unfold giveStep
        rw [← hS, ← hO, ← hcd, hsl, ← hb]
      have HST := hid hst
      have HCN := hid hcn
      have HLT := hid hlt
      have HKK := hid hk
      clear y1 hcd hS hO hst hsb hcn hsl hH0
      go_wp2
      go_loopw [11, 26] (fun b j w2 => ∃ t : Nat, t ≤ H ∧ j = .int .i64 t ∧ b = .int .i64 (bestN (fun h => S.getD h 0) t : Nat) ∧ IRow w2 (w.heap.size + 1) n n (ofN O) ∧ IRow w2 w.heap.size H H (ofN S) ∧ Below w.heap.size w w2) (fun _ j _ => H - (intOf j).toNat)
      case atStart => exact ⟨0, by omega, rfl, rfl, A0.out, A1.out, HB.out⟩
      case round =>
        obtain ⟨t, ht, rfl, rfl, hq0, hq1, hbel2⟩ := hrel
        have D0 := hid hq0
        have D1 := hid hq1
        have HB2 := hid hbel2
        clear hq0 hq1 hbel2 A0 A1 HB x1
        by_cases hth : t < H
        · have hs : bestN (fun h => S.getD h 0) (t + 1) = if (fun h => S.getD h 0) t < (fun h => S.getD h 0) (bestN (fun h => S.getD h 0) t) then t else bestN (fun h => S.getD h 0) t := rfl
          have hbt : bestN (fun h => S.getD h 0) t < H := by
            rcases Nat.eq_zero_or_pos t with e | e
            · rw [e]; exact H0.out
            · exact Nat.lt_of_lt_of_le (bestN_lt _ t e) ht
          obtain ⟨b, hb⟩ : ∃ b, b = bestN (fun h => S.getD h 0) t := ⟨_, rfl⟩
          rw [← hb] at hs hbt ⊢
          obtain ⟨x, hx⟩ : ∃ x, x = S.getD t 0 := ⟨_, rfl⟩
          obtain ⟨y, hy⟩ : ∃ y, y = S.getD b 0 := ⟨_, rfl⟩
          have HS : Hid (bestN (fun h => S.getD h 0) (t + 1) = if x < y then t else b) := by show _ = _; rw [hs, hx, hy]
          have cx : wr.cell? ⟨w.heap.size, t, none⟩ = some (.int .i64 (x : Nat)) := by have := D1.out.cell (i := t) hth; rw [ofN_at, ← hx] at this; exact this
          have cy : wr.cell? ⟨w.heap.size, b, none⟩ = some (.int .i64 (y : Nat)) := by have := D1.out.cell (i := b) hbt; rw [ofN_at, ← hy] at this; exact this
          have n0 : (0 : Int) ≤ (t : Int) := by omega
          have n1 : (t : Int) < (H : Int) := by omega
          have n2 : (0 : Int) ≤ (b : Int) := by omega
          have n3 : (b : Int) < (H : Int) := by omega
          have h4 := H4.out
          clear hs hx hy hb
          by_cases hcc : x < y
          · have d1 : decide ((x : Int) < (y : Int)) = true := by simpa using hcc
            have HN1 : Hid (bestN (fun h => S.getD h 0) (t + 1) = t) := by show _ = _; rw [HS.out, if_pos hcc]
            go_wp2_with fail
            go_quiet (fail)
            go_wp2
            go_roundw
            case rel => exact ⟨t + 1, by omega, by go_num, by rw [HN1.out], D0.out.at rfl, D1.out.at rfl, HB2.out.trans ⟨rfl, rfl, rfl, Nat.le_refl _, fun _ _ => rfl⟩⟩
            case measure => simp [intOf]; omega
          · have d1 : decide ((x : Int) < (y : Int)) = false := by simpa using hcc
            have HN1 : Hid (bestN (fun h => S.getD h 0) (t + 1) = b) := by show _ = _; rw [HS.out, if_neg hcc]
            go_wp2_with fail
            go_quiet (fail)
            go_wp2
            go_roundw
            case rel => exact ⟨t + 1, by omega, by go_num, by rw [HN1.out], D0.out.at rfl, D1.out.at rfl, HB2.out.trans ⟨rfl, rfl, rfl, Nat.le_refl _, fun _ _ => rfl⟩⟩
            case measure => simp [intOf]; omega
        · have heq : t = H := by omega
          have HE : Hid (t = H) := heq
          clear heq
          obtain ⟨b, hb⟩ : ∃ b, b = bestN (fun h => S.getD h 0) t := ⟨_, rfl⟩
          rw [← hb]
          have hbH : b < H := by rw [hb, HE.out]; exact bestN_lt _ H H0.out
          have hst := HST.out b (by rw [hb, HE.out])
          have hs1 := HSB.out b
          have hs2 := (HC.out.size c (by rw [← HN.out]; exact HCN.out)).2
          have h8k := HKL.out
          have hkk := HKK.out
          obtain ⟨s, hs⟩ : ∃ s, s = S.getD b 0 := ⟨_, rfl⟩
          obtain ⟨p, hp⟩ : ∃ p, p = ls.getD c 0 := ⟨_, rfl⟩
          rw [← hs] at hs1
          rw [← hp] at hs2 hst
          obtain ⟨u, hu⟩ : ∃ u, u = s + p := ⟨_, rfl⟩
          have wr1 : IntKind.i64.wrap ((s : Int) + (p : Int)) = (u : Int) := by rw [IntKind.wrap_i64]; omega
          have hcn := HCN.out
          have hlt := HLT.out
          obtain ⟨g0, o0, c0, e0, y0⟩ := (R0.out.below HB2.out).cells c (by rw [HL0.out]; exact hcn)
          rw [HL0.out] at e0
          cases e0
          have x0 : wr.cell? ⟨g0, o0 + c, none⟩ = some (.int .i64 (p : Nat)) := by have := y0 c (by rw [HL0.out]; exact hcn); rw [ofN_at, ← hp] at this; exact this
          have xs : wr.cell? ⟨w.heap.size, b, none⟩ = some (.int .i64 (s : Nat)) := by have := D1.out.cell (i := b) hbH; rw [ofN_at, ← hs] at this; exact this
          have fs : wr.frozen? ⟨w.heap.size, b, none⟩ = false := D1.out.free b
          have E1 : Hid (IRow (wr.setCell ⟨w.heap.size, b, none⟩ (.int .i64 (u : Nat))) w.heap.size H H (ofN (addAt S b p))) := by
            have := D1.out.set b (u : Nat)
            rw [ofN_setI, hu, hs] at this
            rw [hu, hs]
            exact this
          have E0 : Hid (IRow (wr.setCell ⟨w.heap.size, b, none⟩ (.int .i64 (u : Nat))) (w.heap.size + 1) n n (ofN O)) := D0.out.at (Below.heap_setCell _ _ _ _ (by simp <;> omega))
          have B2 : Hid (Below w.heap.size w (wr.setCell ⟨w.heap.size, b, none⟩ (.int .i64 (u : Nat)))) := HB2.out.setCell (Nat.le_refl _) _
          have z0 : (wr.setCell ⟨w.heap.size, b, none⟩ (.int .i64 (u : Nat))).cell? ⟨w.heap.size + 1, c, none⟩ = some (.int .i64 (O.getD c 0 : Nat)) := by have := E0.out.cell (i := c) hcn; rw [ofN_at] at this; exact this
          have zf : (wr.setCell ⟨w.heap.size, b, none⟩ (.int .i64 (u : Nat))).frozen? ⟨w.heap.size + 1, c, none⟩ = false := E0.out.free c
          generalize O.getD c 0 = oc at z0
          have HST2 := hid hst
          have n0 : (0 : Int) ≤ (k : Int) := by omega
          have n1 : (k : Int) < (ks.length : Int) := by omega
          have n2 : (0 : Int) ≤ (c : Int) := by omega
          have n3 : (c : Int) < (n : Int) := by omega
          have n4 : (0 : Int) ≤ (b : Int) := by omega
          have n5 : (b : Int) < (H : Int) := by omega
          have dth : decide ((t : Int) < (H : Int)) = false := by have := HE.out; simp; omega
          clear y0 hb hst hs1 hs2 hs hp hu ht
          go_wp2_with fail
          go_big_region
          go_wp2
          go_roundw
          case rel =>
            refine ⟨k + 1, by omega, by go_num, ?_, ?_, (B2.out.drew.setCell (by show w.heap.size ≤ w.heap.size + 1; omega) _)⟩
            · rw [HST2.out]
              have := (E0.out.set c (b : Nat))
              rw [ofN_setI] at this
              exact this.at rfl
            · rw [HST2.out]
              exact E1.out.at (Below.heap_setCell _ _ _ _ (by simp))
          case measure => simp [intOf]; omega
    · obtain rfl : k = ks.length := by omega
      go_wp2
      go_ret
      exact ⟨_, rfl, A0.out.own (by have := h8.out; omega) (by omega) A0.out.caps.2.2, HB.out⟩
end Go.Proofs.Ytflhlinkolbbiae
