/-
  spec.GiveLongest: from the longest chore on to the hand with the least so far. Nothing old is written.
-/
import Derived.Test.YtflhlinkolbbiaeSIn
import Derived.Test.YtflhlinkolbbiaeSGive14
import Derived.Test.YtflhlinkolbbiaeSSpan14
import Derived.Test.YtflhlinkolbbiaeKAppN
import Derived.Test.YtflhlinkolbbiaeGiveFns
import Derived.OwnWalk
import Derived.Deep.Onto
namespace Go.Proofs.Ytflhlinkolbbiae
open Go.RowKit

theorem ofN_ins (e : Nat → Int) (k j : Nat) (h : placeE e (e k) (byEnd e k) = j) : ofN (byEnd e (k + 1)) = [] ++ ofN ((byEnd e k).take j) ++ [(k : Int)] ++ ofN ((byEnd e k).drop j) := by
  show ofN (insE e (byEnd e k) k) = _
  unfold insE
  rw [h]
  simp [ofN]
theorem kreads_front {w : World} {g cap n j : Nat} {P : List Nat} (h : KReads w (.slice (some ⟨g, 0, none⟩) n cap) (ofN P)) (hj : j ≤ n) (hl : P.length = n) (hc : n ≤ cap) : KReads w (.slice (some ⟨g, 0, none⟩) j cap) (ofN (P.take j)) := by
  have hlen : (ofN (P.take j)).length = j := by rw [ofN, List.length_map, List.length_take]; omega
  obtain ⟨a, cap', e, hb, hx⟩ := h
  have hPl : (ofN P).length = n := by rw [ofN, List.length_map]; exact hl
  refine ⟨some ⟨g, 0, none⟩, cap, by rw [hlen], by rw [hlen]; omega, .inr ⟨g, 0, rfl, fun i hi => ?_⟩⟩
  rw [hlen] at hi
  rcases hx with hx | ⟨b, off, rfl, hc'⟩
  · rw [hx] at hPl; simp at hPl; omega
  · cases e
    have := hc' i (by omega)
    have e1 : (ofN (P.take j)).getD i 0 = (ofN P).getD i 0 := by simp [ofN, List.getD_eq_getElem?_getD, hi]
    rw [e1]
    exact this
theorem kreads_back {w : World} {g cap n j : Nat} {P : List Nat} (h : KReads w (.slice (some ⟨g, 0, none⟩) n cap) (ofN P)) (hj : j ≤ n) (hl : P.length = n) (hc : n ≤ cap) : KReads w (.slice (some ⟨g, j, none⟩) (n - j) (cap - j)) (ofN (P.drop j)) := by
  have hlen : (ofN (P.drop j)).length = n - j := by rw [ofN, List.length_map, List.length_drop]; omega
  obtain ⟨a, cap', e, hb, hx⟩ := h
  have hPl : (ofN P).length = n := by rw [ofN, List.length_map]; exact hl
  refine ⟨some ⟨g, j, none⟩, cap - j, by rw [hlen], by rw [hlen]; omega, .inr ⟨g, j, rfl, fun i hi => ?_⟩⟩
  rw [hlen] at hi
  rcases hx with hx | ⟨b, off, rfl, hc'⟩
  · rw [hx] at hPl; simp at hPl; omega
  · cases e
    have := hc' (j + i) (by omega)
    rw [Nat.zero_add] at this
    have e1 : (ofN (P.drop j)).getD i 0 = (ofN P).getD (j + i) 0 := by simp [ofN, List.getD_eq_getElem?_getD]
    rw [e1]
    exact this
theorem append_none {w : World} {base n : Nat} {v : Value} {xs : List Int} (hown : w.ownsRow base 3 1 v n (kflat xs)) (a : Option Addr) (c : Nat) : (Builtin.append_ #[48, 48] 48 #[v, .slice a 0 c]).run Try.prog w = .ok v w := by
  obtain ⟨i0, hi, hz0, hz1, hz2⟩ := info_parts info_int
  rcases hown.2 with ⟨rfl, _⟩ | ⟨g, cap', cur, rfl, _, _, hle, _⟩
  · exact knothing hi hz1 _ _ _ _ (Nat.le_refl _) _ _
  · exact knothing hi hz1 _ _ _ _ hle _ _
set_option maxHeartbeats 2000000 in
theorem sgiveL_no (v : Value) (xs : List Int) (h : Int) (w : World) (h0 : KReads w v xs) (hn : chB xs h = false) :
    Calls Try.prog 28 #[v, .int .i64 h] w fun e w' => ∃ u0, e = .returned (.tuple #[u0, .int .i64 0, .bool false]) ∧ KOwn w.heap.size w'.heap.size w' u0 [] ∧ Below w.heap.size w w' := by
  have R0 := hid h0
  have HNo := hid hn
  clear h0 hn
  go_enter Try.func28, Try.ntmps28
  go_wp2_with fail
  refine (sgoodCh_eq _ xs h false HNo.out _ R0.out).mono ?_
  rintro e w' ⟨rfl, hw⟩; obtain rfl := hw.symm
  go_wp2
  go_ret3
  exact ⟨_, rfl, kown_nil _ _ _ _ _, Below.refl _ _⟩
set_option maxRecDepth 100000 in
set_option maxHeartbeats 8000000 in
theorem sgiveL_yes (v : Value) (ls : List Nat) (H : Nat) (hc : Chores ls H) (w : World) (h0 : KReads w v (ofN ls)) :
    Calls Try.prog 28 #[v, .int .i64 (H : Nat)] w fun e w' => ∃ u0, e = .returned (.tuple #[u0, .int .i64 ((spanN ls (givesN ls H (longK ls)) H : Nat) : Int), .bool true]) ∧ KOwn w.heap.size w'.heap.size w' u0 (ofN (givesN ls H (longK ls))) ∧ Below w.heap.size w w' := by
  have R0 := hid h0
  have HC := hid hc
  have HG := hid (chores_good hc)
  have h8 := hc.few
  obtain ⟨a0, p0, rfl, _, _⟩ := h0
  have hl0 : (ofN ls).length = ls.length := List.length_map ..
  rw [hl0] at R0 ⊢
  have HL0 := hid hl0
  obtain ⟨r, hr⟩ : ∃ r, spanN ls (givesN ls H (longK ls)) H = r := ⟨_, rfl⟩
  rw [hr]
  have HR := hid hr
  clear hc hl0 hr
  go_enter Try.func28, Try.ntmps28
  go_wp2_with fail
  refine (sgoodCh_eq _ (ofN ls) H true HG.out _ R0.out).mono ?_
  rintro e w' ⟨rfl, hw⟩; obtain rfl := hw.symm
  go_wp2
  go_loopw [7, 19] (fun o i wr => ∃ k : Nat, k ≤ ls.length ∧ i = .int .i64 k ∧ wr.ownsRow w.heap.size 3 1 o k (kflat (ofN (byEnd (keyL ls) k))) ∧ (k = 0 → o = .slice none 0 0) ∧ Below w.heap.size w wr) (fun _ i _ => ls.length - (intOf i).toNat)
  case atStart => exact ⟨0, Nat.zero_le _, rfl, World.ownsRow_nil _ _ _ _, fun _ => rfl, Below.refl _ _⟩
  case round =>
    obtain ⟨k, hk, rfl, hrow, hnil, hbel⟩ := hrel
    have HRow := hid hrow
    have HNil := hid hnil
    have HB := hid hbel
    have hsz := hbel.size
    clear hrow hnil hbel
    by_cases hlt : k < ls.length
    · have hbl : Hid ((byEnd (keyL ls) k).length = k) := byEnd_len _ _
      obtain ⟨gl, ol, cap', e, hc⟩ := (R0.out.below HB.out).cells k (by rw [HL0.out]; exact hlt)
      rw [HL0.out] at e
      cases e
      have hglw : gl < wr.heap.size := lt_of_cell (hc k (by rw [HL0.out]; exact hlt))
      obtain ⟨p, hp⟩ : ∃ p, p = ls.getD k 0 := ⟨_, rfl⟩
      have c0 : wr.cell? ⟨gl, ol + k, none⟩ = some (.int .i64 (p : Nat)) := by have := hc k (by rw [HL0.out]; exact hlt); rw [ofN_at, ← hp] at this; exact this
      have HCE : Hid (∀ y, y < ls.length → wr.cell? ⟨gl, ol + y, none⟩ = some (.int .i64 (ls.getD y 0 : Nat))) := fun y hy => by have := hc y (by rw [HL0.out]; exact hy); rw [ofN_at] at this; exact this
      have HQ : Hid (keyL ls k = -(p : Int)) := by show _ = _; rw [hp]; rfl
      clear hc hp
      obtain ⟨wo, hwo⟩ : ∃ wo, wo = wr := ⟨_, rfl⟩
      subst hwo
      rcases Nat.eq_zero_or_pos k with hk0 | hk0
      · obtain rfl := HNil.out hk0
        have HE : Hid (ofN (byEnd (keyL ls) (k + 1)) = [] ++ [(k : Int)]) := by show _ = _; rw [hk0]; rfl
        have HK1 : Hid (k + 1 = 1) := by show _ = _; omega
        clear HRow HNil hk0
        go_wp2
        go_loopw [10] (fun jv wr => jv = .int .i64 0 ∧ wo = wr) (fun jv _ => 0)
        case atStart => exact ⟨rfl, rfl⟩
        case round =>
          obtain ⟨rfl, rfl⟩ := hrel
          have HY : Hid ((wo.alloc (.cells #[] 3)).ownsRow wo.heap.size 3 1 (.slice (some ⟨wo.heap.size, 0, none⟩) 0 0) 0 (kflat [])) := World.ownsRow_made wo #[] 0 (Nat.le_refl _) (by unfold maxLen; omega) rfl
          have X1 : Hid (Below wo.heap.size wo (wo.alloc (.cells #[] 3))) := (Below.refl wo.heap.size wo).alloc (Nat.le_refl _) _
          go_wp2_with (at_builtin; refine wpList_append_reads _ rfl _ _ rfl wo.heap.size _ 0 [] rfl HY.out _ [] rfl (kreads_nil _ _ _) (by simp) (by simp) ?_)
          intro v1 x1 hown1 hgr1 _
          have Y1 : Hid (Below wo.heap.size wo x1) := X1.out.grown hgr1 (by simp) (by intro m hm; simp [Value.ownBlock] at hm; omega)
          have hy1 := Y1.out.size
          have HO1 := hid hown1
          clear hown1 hgr1
          go_wp2_with (at_builtin; refine wpList_append_reads _ rfl _ _ rfl wo.heap.size v1 _ _ rfl (HO1.out.alloc _) _ [(k : Int)] rfl (kreads_int _ _) (by simp) (by simp; omega) ?_)
          intro v2 x2 hown2 hgr2 _
          have X2 : Hid (Below wo.heap.size wo x2) := (Y1.out.alloc hy1 _).grown hgr2 (by simp; omega) (fun m hm => (HO1.out.lt m hm).1)
          have O3 : Hid (x2.ownsRow w.heap.size 3 1 v2 (k + 1) (kflat (ofN (byEnd (keyL ls) (k + 1))))) := by
            show World.ownsRow _ _ _ _ _ _ _
            rw [HE.out, HK1.out]
            exact World.ownsRow.mono (base := wo.heap.size) hown2 (by omega)
          have B3 : Hid (Below w.heap.size w x2) := HB.out.trans (X2.out.mono (by omega))
          have hrun3 : ∀ a c, (Builtin.append_ #[48, 48] 48 #[v2, .slice a 0 c]).run Try.prog x2 = .ok v2 x2 := fun a c => append_none hown2 a c
          clear hown2 hgr2
          go_wp2_with (at_builtin; refine Lib.wpList_append_run_sl _ rfl _ _ 48 rfl _ _ rfl rfl (hrun3 _ _) ?_)
          go_roundw
          case rel => exact ⟨k + 1, by omega, by go_num, O3.out, fun h => absurd h (by omega), B3.out⟩
          case measure => simp [intOf]; omega
      · obtain ⟨g, capg, hform, hcapg, hgb, hgw⟩ : ∃ g capg, u7 = .slice (some ⟨g, 0, none⟩) k capg ∧ k ≤ capg ∧ w.heap.size ≤ g ∧ g < wo.heap.size := by
          have hl := HRow.out.lt
          rcases HRow.out.2 with ⟨_, h⟩ | ⟨g, c, _, h, _, _, hc, _⟩
          · omega
          · have := hl g (by rw [h]; rfl)
            exact ⟨g, c, h, hc, this.1, this.2⟩
        subst hform
        have HRW0 : Hid (KReads wo (.slice (some ⟨g, 0, none⟩) k capg) (ofN (byEnd (keyL ls) k))) := (KOwn.of_owns HRow.out (by rw [ofN, List.length_map, hbl.out]; omega)).reads
        have HCG : Hid (∀ m, m < k → wo.cell? ⟨g, m, none⟩ = some (.int .i64 ((byEnd (keyL ls) k).getD m 0 : Nat))) := fun m hm => by
          have := HRow.out.cellAt m (by omega)
          rw [this, kflat_get _ _ (by rw [ofN, List.length_map, hbl.out]; exact hm)]
          simp [ofN, List.getD_eq_getElem?_getD, hbl.out, hm]
        have HIn : Hid (∀ m, m < k → (byEnd (keyL ls) k).getD m 0 < ls.length) := fun m hm => by
          have := byEnd_lt (keyL ls) k (k := (byEnd (keyL ls) k).getD m 0) (by rw [List.getD_eq_getElem?_getD, List.getElem?_eq_getElem (by rw [hbl.out]; exact hm)]; exact List.getElem_mem _)
          omega
        go_wp2
        go_loopw [10] (fun jv wr => ∃ j : Nat, j ≤ k ∧ jv = .int .i64 j ∧ (∀ m, m < j → keyL ls ((byEnd (keyL ls) k).getD m 0) ≤ keyL ls k) ∧ wo = wr) (fun jv _ => k - (intOf jv).toNat)
        case atStart => exact ⟨0, Nat.zero_le _, rfl, fun m h => absurd h (by omega), rfl⟩
        case round =>
          obtain ⟨j, hj, rfl, hle, rfl⟩ := hrel
          have HLe := hid hle
          clear hle
          by_cases hjk : j < k
          · obtain ⟨y, hy⟩ : ∃ y, y = (byEnd (keyL ls) k).getD j 0 := ⟨_, rfl⟩
            have hyn : y < ls.length := by rw [hy]; exact HIn.out j hjk
            obtain ⟨z, hz⟩ : ∃ z, z = ls.getD y 0 := ⟨_, rfl⟩
            have cy : wo.cell? ⟨g, j, none⟩ = some (.int .i64 (y : Nat)) := by rw [hy]; exact HCG.out j hjk
            have cz : wo.cell? ⟨gl, ol + y, none⟩ = some (.int .i64 (z : Nat)) := by rw [hz]; exact HCE.out y hyn
            have dj : decide ((j : Int) < (k : Int)) = true := by rw [decide_eq_true_eq]; omega
            have n0 : (0 : Int) ≤ (j : Int) := by omega
            have n1 : (j : Int) < (k : Int) := by omega
            have n2 : (0 : Int) ≤ (y : Int) := by omega
            have n3 : (y : Int) < (ls.length : Int) := by omega
            have HYZ : Hid (keyL ls ((byEnd (keyL ls) k).getD j 0) = -(z : Int)) := by show _ = _; rw [← hy, hz]; rfl
            clear hy hz
            by_cases hzq : p ≤ z
            · have dz : decide ((p : Int) ≤ (z : Int)) = true := by simpa using hzq
              go_wp2
              go_roundw
              case rel =>
                refine ⟨j + 1, by omega, by go_num, fun m hm => ?_, by first | rfl | trivial⟩
                by_cases e : m = j
                · rw [e, HYZ.out, HQ.out]; omega
                · exact HLe.out m (by omega)
              case measure => simp [intOf]; omega
            · have dz : decide ((p : Int) ≤ (z : Int)) = false := by simpa using hzq
              have HPl : Hid (placeE (keyL ls) (keyL ls k) (byEnd (keyL ls) k) = j) := placeE_eq (by rw [hbl.out]; exact hj) (fun m hm => HLe.out m hm) (fun _ => by rw [HQ.out, HYZ.out]; omega)
              have HRW : Hid (KReads wo (.slice (some ⟨g, 0, none⟩) k capg) (ofN (byEnd (keyL ls) k))) := HRW0.out
              have HRZ : Hid (KReads (wo.alloc (.cells #[] 3)) (.slice (some ⟨g, 0, none⟩) k capg) (ofN (byEnd (keyL ls) k))) := HRW.out.below ((Below.refl _ _).alloc (Nat.le_refl _) _)
              have HBZ : Hid (Below w.heap.size w wo) := HB.out
              have k1 : (0 : Int) ≤ (j : Int) := by omega
              have k2 : (j : Int) ≤ (k : Int) := by omega
              have k3 : (k : Int) ≤ (capg : Int) := by omega
              have k4 : (j : Int) ≤ (capg : Int) := by omega
              have k5 : j ≤ capg := by omega
              have HY : Hid ((wo.alloc (.cells #[] 3)).ownsRow wo.heap.size 3 1 (.slice (some ⟨wo.heap.size, 0, none⟩) 0 0) 0 (kflat [])) := World.ownsRow_made wo #[] 0 (Nat.le_refl _) (by unfold maxLen; omega) rfl
              have RA : Hid (KReads (wo.alloc (.cells #[] 3)) (.slice (some ⟨g, 0, none⟩) j capg) (ofN ((byEnd (keyL ls) k).take j))) := kreads_front HRZ.out hj hbl.out hcapg
              obtain ⟨v1, x1, hrun1, hown1, hgr1, hat1⟩ := append_reads (wo.alloc (.cells #[] 3)) wo.heap.size _ 0 [] HY.out _ _ RA.out (by rw [ofN, List.length_map, List.length_take, hbl.out]; omega) (by simp) 48
              have X1 : Hid (Below wo.heap.size wo x1) := ((Below.refl wo.heap.size wo).alloc (Nat.le_refl _) _).grown hgr1 (by simp) (by intro m hm; simp [Value.ownBlock] at hm; omega)
              have hx1 := X1.out.size
              obtain ⟨v2, x2, hrun2, hown2, hgr2, hat2⟩ := append_reads (x1.alloc (.cells #[.int .i64 (k : Int)] 3)) wo.heap.size v1 _ _ (hown1.alloc _) _ [(k : Int)] (kreads_int _ _) (by rw [ofN, List.length_map, List.length_take, hbl.out]; simp; omega) (by simp; omega) 48
              have X2 : Hid (Below wo.heap.size wo x2) := (X1.out.alloc hx1 _).grown hgr2 (by simp; omega) (fun m hm => (hown1.lt m hm).1)
              have hx2 := X2.out.size
              have HRX : Hid (KReads x2 (.slice (some ⟨g, 0, none⟩) k capg) (ofN (byEnd (keyL ls) k))) := HRW.out.below X2.out
              have hb3 : ∀ a c, KReads x2 (.slice a (k - j) c) (ofN ((byEnd (keyL ls) k).drop j)) → ∃ v3 x3, (Builtin.append_ #[48, 48] 48 #[v2, .slice a (k - j) c]).run Try.prog x2 = .ok v3 x3 ∧ x3.ownsRow w.heap.size 3 1 v3 (k + 1) (kflat (ofN (byEnd (keyL ls) (k + 1)))) ∧ Below w.heap.size w x3 := fun a c hrd => by
                obtain ⟨v3, x3, h1, h2, h3, _⟩ := append_reads x2 wo.heap.size v2 _ _ hown2 _ _ hrd (by rw [ofN, ofN, List.length_map, List.length_map, List.length_take, List.length_drop, hbl.out]; simp; omega) hx2 48
                refine ⟨v3, x3, h1, ?_, ?_⟩
                · rw [ofN_ins (keyL ls) k j HPl.out]
                  refine World.ownsRow.mono (base := wo.heap.size) ?_ (by omega)
                  have e : k + 1 = 0 + (ofN (List.take j (byEnd (keyL ls) k))).length + [(k : Int)].length + (ofN (List.drop j (byEnd (keyL ls) k))).length := by
                    rw [ofN, ofN, List.length_map, List.length_map, List.length_take, List.length_drop, hbl.out]; simp; omega
                  rw [e]
                  exact h2
                · exact (HBZ.out.trans (X2.out.mono (by omega))).grown h3 (by omega) (fun m hm => by have := hown2.lt m hm; omega)
              have hjl : j < capg := by omega
              have hjl2 : (j : Int) < (capg : Int) := by omega
              obtain ⟨v3, x3, hrun3, O3, B3⟩ := hb3 (some ⟨g, j, none⟩) (capg - j) (kreads_back HRX.out hj hbl.out hcapg)
              have O3 := hid O3
              have B3 := hid B3
              clear hown1 hgr1 hat1 hown2 hgr2 hat2 hb3
              go_wp2_with (at_builtin; first | refine Lib.wpList_append_run_sl _ rfl _ _ 48 rfl _ _ rfl rfl hrun1 ?_ | refine Lib.wpList_append_run_sl _ rfl _ _ 48 rfl _ _ rfl rfl hrun2 ?_ | refine Lib.wpList_append_run_sl _ rfl _ _ 48 rfl _ _ rfl rfl hrun3 ?_)
              go_roundw
              case rel => exact ⟨k + 1, by omega, by go_num, O3.out, fun h => absurd h (by omega), B3.out⟩
              case measure => simp [intOf]; omega
          · obtain rfl : k = j := by omega
            have dj : decide ((k : Int) < (k : Int)) = false := by rw [decide_eq_false_iff_not]; omega
            have HPl : Hid (placeE (keyL ls) (keyL ls k) (byEnd (keyL ls) k) = k) := placeE_eq (by rw [hbl.out]; exact Nat.le_refl _) (fun m hm => HLe.out m hm) (fun h => absurd h (by rw [hbl.out]; omega))
            have HRW : Hid (KReads wo (.slice (some ⟨g, 0, none⟩) k capg) (ofN (byEnd (keyL ls) k))) := HRW0.out
            have HRZ : Hid (KReads (wo.alloc (.cells #[] 3)) (.slice (some ⟨g, 0, none⟩) k capg) (ofN (byEnd (keyL ls) k))) := HRW.out.below ((Below.refl _ _).alloc (Nat.le_refl _) _)
            have HBZ : Hid (Below w.heap.size w wo) := HB.out
            have k3 : (k : Int) ≤ (capg : Int) := by omega
            have k1 : (0 : Int) ≤ (k : Int) := by omega
            have HY : Hid ((wo.alloc (.cells #[] 3)).ownsRow wo.heap.size 3 1 (.slice (some ⟨wo.heap.size, 0, none⟩) 0 0) 0 (kflat [])) := World.ownsRow_made wo #[] 0 (Nat.le_refl _) (by unfold maxLen; omega) rfl
            obtain ⟨v1, x1, hrun1, hown1, hgr1, hat1⟩ := append_reads (wo.alloc (.cells #[] 3)) wo.heap.size _ 0 [] HY.out _ _ HRZ.out (by rw [ofN, List.length_map, hbl.out]; omega) (by simp) 48
            have X1 : Hid (Below wo.heap.size wo x1) := ((Below.refl wo.heap.size wo).alloc (Nat.le_refl _) _).grown hgr1 (by simp) (by intro m hm; simp [Value.ownBlock] at hm; omega)
            have hx1 := X1.out.size
            obtain ⟨v2, x2, hrun2, hown2, hgr2, hat2⟩ := append_reads (x1.alloc (.cells #[.int .i64 (k : Int)] 3)) wo.heap.size v1 _ _ (hown1.alloc _) _ [(k : Int)] (kreads_int _ _) (by rw [ofN, List.length_map, hbl.out]; simp; omega) (by simp; omega) 48
            have X2 : Hid (Below wo.heap.size wo x2) := (X1.out.alloc hx1 _).grown hgr2 (by simp; omega) (fun m hm => (hown1.lt m hm).1)
            have O3 : Hid (x2.ownsRow w.heap.size 3 1 v2 (k + 1) (kflat (ofN (byEnd (keyL ls) (k + 1))))) := by
              show World.ownsRow _ _ _ _ _ _ _
              rw [ofN_ins (keyL ls) k k HPl.out, List.take_of_length_le (by rw [hbl.out]; exact Nat.le_refl _), List.drop_eq_nil_of_le (by rw [hbl.out]; exact Nat.le_refl _)]
              refine World.ownsRow.mono (base := wo.heap.size) ?_ (by omega)
              have e : k + 1 = 0 + (ofN (byEnd (keyL ls) k)).length + [(k : Int)].length := by rw [ofN, List.length_map, hbl.out]; simp
              rw [e]
              simp only [List.map_nil, List.append_nil]
              exact hown2
            have B3 : Hid (Below w.heap.size w x2) := HBZ.out.trans (X2.out.mono (by omega))
            have hrun3 : ∀ a c, (Builtin.append_ #[48, 48] 48 #[v2, .slice a 0 c]).run Try.prog x2 = .ok v2 x2 := fun a c => append_none hown2 a c
            clear hown1 hgr1 hat1 hown2 hgr2 hat2
            by_cases hjc : k = capg
            case' pos => subst hjc
            case' neg =>
              have hjl : k < capg := by omega
              have hjl2 : (k : Int) < (capg : Int) := by omega
            all_goals
              go_wp2_with (at_builtin; first | refine Lib.wpList_append_run_sl _ rfl _ _ 48 rfl _ _ rfl rfl hrun1 ?_ | refine Lib.wpList_append_run_sl _ rfl _ _ 48 rfl _ _ rfl rfl hrun2 ?_ | refine Lib.wpList_append_run_sl _ rfl _ _ 48 rfl _ _ rfl rfl (hrun3 _ _) ?_)
              go_roundw
              case rel => exact ⟨k + 1, by omega, by go_num, O3.out, fun h => absurd h (by omega), B3.out⟩
              case measure => simp [intOf]; omega
    · obtain rfl : k = ls.length := by omega
      have HOR : Hid (KReads wr u7 (ofN (longK ls))) := (KOwn.of_owns HRow.out (by rw [ofN, List.length_map, byEnd_len]; omega)).reads
      go_wp2_with fail
      refine (sgive14_any _ _ ls (longK ls) H HC.out (longK_lt _) (by rw [longK_len]; exact h8) _ (R0.out.below HB.out) HOR.out).mono ?_
      rintro e wg ⟨ug, rfl, hog, hbg⟩
      have BG : Hid (Below w.heap.size w wg) := HB.out.trans (hbg.mono HB.out.size)
      have OG := hid hog
      have RG := hid hog.reads
      have hwg := HB.out.size
      clear hog
      go_wp2_with fail
      refine (sspan14_eq _ _ ls (givesN ls H (longK ls)) H r HR.out HC.out (gives_given ls HC.out.h0 _) _ (R0.out.below BG.out) RG.out).mono ?_
      rintro e ws ⟨rfl, hbs⟩
      have BS : Hid (Below w.heap.size w ws) := BG.out.trans (hbs.mono BG.out.size)
      have OS : Hid (KOwn w.heap.size ws.heap.size ws ug (ofN (givesN ls H (longK ls)))) := (OG.out.below hbs).mono hwg hbs.size
      clear hbg hbs
      go_wp2
      go_ret3
      exact ⟨_, rfl, OS.out, BS.out⟩
theorem sgiveL_any (v : Value) (xs : List Int) (h : Int) (w : World) (h0 : KReads w v xs) :
    Calls Try.prog 28 #[v, .int .i64 h] w fun e w' => ∃ u0, e = .returned (.tuple #[u0, .int .i64 (giN longK xs h), .bool (chB xs h)]) ∧ KOwn w.heap.size w'.heap.size w' u0 (giL longK xs h) ∧ Below w.heap.size w w' := by
  cases hg : chB xs h with
  | false =>
    rw [giN_no _ hg, giL_no _ hg]
    exact sgiveL_no v xs h w h0 hg
  | true =>
    obtain ⟨ls, H, rfl, rfl, hc⟩ := chores_of hg
    rw [giN_yes _ hc, giL_yes _ hc]
    exact sgiveL_yes v ls H hc w h0
end Go.Proofs.Ytflhlinkolbbiae
