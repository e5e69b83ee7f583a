/-
  spec.ByRate: the numbers of tasks by how often they come, in memory of its own. Nothing old is written.
-/
import Derived.Test.YtmcmkobdkkibkabSAgain
import Derived.Test.YtmcmkobdkkibkabKOne
import Derived.Deep.QuietTactic
import Derived.BigQuiet
import Derived.Deep.Onto
namespace Go.Proofs.Ytmcmkobdkkibkab
open Go.RowKit

theorem ofN_ins (e : Nat → Int) (k j : Nat) (h : placeE e (e k) (byEnd e k) = j) : ofN (byEnd e (k + 1)) = [] ++ ofN ((byEnd e k).take j) ++ [(k : Int)] ++ ofN ((byEnd e k).drop j) := by
  show ofN (insE e (byEnd e k) k) = _
  unfold insE
  rw [h]
  simp [ofN]
theorem kreads_front {w : World} {g cap n j : Nat} {P : List Nat} (h : KReads w (.slice (some ⟨g, 0, none⟩) n cap) (ofN P)) (hj : j ≤ n) (hl : P.length = n) (hc : n ≤ cap) : KReads w (.slice (some ⟨g, 0, none⟩) j cap) (ofN (P.take j)) := by
  have hlen : (ofN (P.take j)).length = j := by rw [ofN, List.length_map, List.length_take]; omega
  obtain ⟨a, cap', e, hb, hx⟩ := h
  have hPl : (ofN P).length = n := by rw [ofN, List.length_map]; exact hl
  refine ⟨some ⟨g, 0, none⟩, cap, by rw [hlen], by rw [hlen]; omega, .inr ⟨g, 0, rfl, fun i hi => ?_⟩⟩
  rw [hlen] at hi
  rcases hx with hx | ⟨b, off, rfl, hc'⟩
  · rw [hx] at hPl; simp at hPl; omega
  · cases e
    have := hc' i (by omega)
    have e1 : (ofN (P.take j)).getD i 0 = (ofN P).getD i 0 := by simp [ofN, List.getD_eq_getElem?_getD, hi]
    rw [e1]
    exact this
theorem kreads_back {w : World} {g cap n j : Nat} {P : List Nat} (h : KReads w (.slice (some ⟨g, 0, none⟩) n cap) (ofN P)) (hj : j ≤ n) (hl : P.length = n) (hc : n ≤ cap) : KReads w (.slice (some ⟨g, j, none⟩) (n - j) (cap - j)) (ofN (P.drop j)) := by
  have hlen : (ofN (P.drop j)).length = n - j := by rw [ofN, List.length_map, List.length_drop]; omega
  obtain ⟨a, cap', e, hb, hx⟩ := h
  have hPl : (ofN P).length = n := by rw [ofN, List.length_map]; exact hl
  refine ⟨some ⟨g, j, none⟩, cap - j, by rw [hlen], by rw [hlen]; omega, .inr ⟨g, j, rfl, fun i hi => ?_⟩⟩
  rw [hlen] at hi
  rcases hx with hx | ⟨b, off, rfl, hc'⟩
  · rw [hx] at hPl; simp at hPl; omega
  · cases e
    have := hc' (j + i) (by omega)
    rw [Nat.zero_add] at this
    have e1 : (ofN (P.drop j)).getD i 0 = (ofN P).getD (j + i) 0 := by simp [ofN, List.getD_eq_getElem?_getD]
    rw [e1]
    exact this
theorem append_none {w : World} {base n : Nat} {v : Value} {xs : List Int} (hown : w.ownsRow base 3 1 v n (kflat xs)) (a : Option Addr) (c : Nat) : (Builtin.append_ #[42, 42] 42 #[v, .slice a 0 c]).run Try.prog w = .ok v w := by
  obtain ⟨i0, hi, hz0, hz1, hz2⟩ := info_parts info_int
  rcases hown.2 with ⟨rfl, _⟩ | ⟨g, cap', cur, rfl, _, _, hle, _⟩
  · exact knothing hi hz1 _ _ _ _ (Nat.le_refl _) _ _
  · exact knothing hi hz1 _ _ _ _ hle _ _
set_option maxHeartbeats 1000000 in
theorem sbyrate_no (v : Value) (xs : List AgEl) (w : World) (hr : AgReads w v xs) (hg : goodA xs = false) :
    Calls Try.prog 50 #[v] w fun e w' => ∃ u0, e = .returned (.tuple #[u0, .bool false]) ∧ KOwn w.heap.size w'.heap.size w' u0 [] ∧ Below w.heap.size w w' := by
  have HR := hid hr
  clear hr
  go_enter Try.func50, Try.ntmps50
  go_wp2_with fail
  refine (sgoodAgain_eq _ xs false hg _ HR.out).mono ?_
  rintro e w1 ⟨rfl, b1⟩
  have B1 := hid b1
  clear b1
  go_wp2
  go_ret2
  exact ⟨_, rfl, kown_nil _ _ _ _ _, B1.out⟩
set_option maxRecDepth 100000 in
set_option maxHeartbeats 16000000 in
theorem sbyrate_yes (v : Value) (xs : List AgEl) (w : World) (hr : AgReads w v xs) (hg : goodA xs = true) :
    Calls Try.prog 50 #[v] w fun e w' => ∃ u0, e = .returned (.tuple #[u0, .bool true]) ∧ KOwn w.heap.size w'.heap.size w' u0 (ofN (byRateL xs)) ∧ Below w.heap.size w w' := by
  have HR := hid hr
  have HG := hid hg
  have hlen := goodA_len hg
  obtain ⟨a, cap, rfl, _, _⟩ := hr
  clear hg
  go_enter Try.func50, Try.ntmps50
  go_wp2_with fail
  refine (sgoodAgain_eq _ xs true HG.out _ HR.out).mono ?_
  rintro e w1 ⟨rfl, b1⟩
  have B1 := hid b1
  have hs1 := b1.size
  clear b1
  go_wp2
  go_loopw [4, 14] (fun o i wr => ∃ k : Nat, k ≤ xs.length ∧ i = .int .i64 k ∧ wr.ownsRow w1.heap.size 3 1 o k (kflat (ofN (byEnd (everyA xs) k))) ∧ (k = 0 → o = .slice none 0 0) ∧ Below w1.heap.size w1 wr) (fun _ i _ => xs.length - (intOf i).toNat)
  case atStart => exact ⟨0, Nat.zero_le _, rfl, World.ownsRow_nil _ _ _ _, fun _ => rfl, Below.refl _ _⟩
  case round =>
    obtain ⟨k, hk, rfl, hrow, hnil, hbel⟩ := hrel
    have HRow := hid hrow
    have HNil := hid hnil
    have HB := hid hbel
    have hsz := hbel.size
    clear hrow hnil hbel
    by_cases hlt : k < xs.length
    · have hbl : Hid ((byEnd (everyA xs) k).length = k) := byEnd_len _ _
      obtain ⟨gl, ol, cap', e, hc⟩ := (HR.out.below (B1.out.trans (HB.out.mono hs1))).cells k hlt
      cases e
      have hglw : gl < wr.heap.size := (hc k hlt).1 |> lt_of_cell
      obtain ⟨p, hp⟩ : ∃ p, p = needA xs k := ⟨_, rfl⟩
      obtain ⟨q, hq⟩ : ∃ q, q = everyA xs k := ⟨_, rfl⟩
      have c0 : wr.cell? ⟨gl, ol + k * 2, none⟩ = some (.int .i64 p) := by rw [hp]; exact (hc k hlt).1
      have c1 : wr.cell? ⟨gl, ol + k * 2 + 1, none⟩ = some (.int .i64 q) := by rw [hq]; exact (hc k hlt).2
      have HCE : Hid (∀ y, y < xs.length → wr.cell? ⟨gl, ol + y * 2 + 1, none⟩ = some (.int .i64 (everyA xs y))) := fun y hy => (hc y hy).2
      have HQ := hid hq
      clear hc hp hq
      obtain ⟨wo, hwo⟩ : ∃ wo, wo = wr := ⟨_, rfl⟩
      subst hwo
      have AX : Hid (Below wo.heap.size wo (wo.alloc (.cells #[.int .i64 p, .int .i64 q] 64))) := (Below.refl _ _).alloc (Nat.le_refl _) _
      have CB : Hid ((wo.alloc (.cells #[.int .i64 p, .int .i64 q] 64)).cell? ⟨wo.heap.size, 1, none⟩ = some (.int .i64 q)) := cell_of_row _ _ _ _ _ (0, 0) (heap_alloc_new wo _)
      rcases Nat.eq_zero_or_pos k with hk0 | hk0
      · obtain rfl := HNil.out hk0
        have HE : Hid (ofN (byEnd (everyA xs) (k + 1)) = [] ++ [(k : Int)]) := by show _ = _; rw [hk0]; rfl
        have HK1 : Hid (k + 1 = 1) := by show _ = _; omega
        clear HRow HNil hk0
        go_wp2
        go_loopw [7] (fun jv wr => jv = .int .i64 0 ∧ ∃ d, wr = (wo.alloc (.cells #[.int .i64 p, .int .i64 q] 64)).drewN d) (fun jv _ => 0)
        case atStart => exact ⟨rfl, 0, rfl⟩
        case round =>
          obtain ⟨rfl, d, hwr⟩ := hrel
          have BWR : Hid (Below wo.heap.size wo wr) := by rw [hwr]; exact AX.out.trans ⟨rfl, rfl, rfl, Nat.le_refl _, fun _ _ => rfl⟩
          clear hwr
          go_wp2_with fail
          go_big_region
          have BZ0 : Hid (Below wo.heap.size wo wr.drew) := BWR.out.drew
          generalize wr.drew = wz at BZ0 ⊢
          have hzw := BZ0.out.size
          have HBZ : Hid (Below w1.heap.size w1 wz) := HB.out.trans (BZ0.out.mono hsz)
          have HY : Hid ((wz.alloc (.cells #[] 3)).ownsRow wz.heap.size 3 1 (.slice (some ⟨wz.heap.size, 0, none⟩) 0 0) 0 (kflat [])) := World.ownsRow_made wz #[] 0 (Nat.le_refl _) (by unfold maxLen; omega) rfl
          have X1 : Hid (Below wz.heap.size wz (wz.alloc (.cells #[] 3))) := (Below.refl wz.heap.size wz).alloc (Nat.le_refl _) _
          go_wp2_with (at_builtin; refine wpList_append_reads _ rfl _ _ rfl wz.heap.size _ 0 [] rfl HY.out _ [] rfl (kreads_nil _ _ _) (by simp) (by simp) ?_)
          intro v1 x1 hown1 hgr1 _
          have Y1 : Hid (Below wz.heap.size wz x1) := X1.out.grown hgr1 (by simp) (by intro m hm; simp [Value.ownBlock] at hm; omega)
          have hy1 := Y1.out.size
          have HO1 := hid hown1
          clear hown1 hgr1
          go_wp2_with (at_builtin; refine wpList_append_reads _ rfl _ _ rfl wz.heap.size v1 _ _ rfl (HO1.out.alloc _) _ [(k : Int)] rfl (kreads_int _ _) (by simp) (by simp; omega) ?_)
          intro v2 x2 hown2 hgr2 _
          have X2 : Hid (Below wz.heap.size wz x2) := (Y1.out.alloc hy1 _).grown hgr2 (by simp; omega) (fun m hm => (HO1.out.lt m hm).1)
          have O3 : Hid (x2.ownsRow w1.heap.size 3 1 v2 (k + 1) (kflat (ofN (byEnd (everyA xs) (k + 1))))) := by
            show World.ownsRow _ _ _ _ _ _ _
            rw [HE.out, HK1.out]
            exact World.ownsRow.mono (base := wz.heap.size) hown2 (by omega)
          have B3 : Hid (Below w1.heap.size w1 x2) := HBZ.out.trans (X2.out.mono (by omega))
          have hrun3 : ∀ a c, (Builtin.append_ #[42, 42] 42 #[v2, .slice a 0 c]).run Try.prog x2 = .ok v2 x2 := fun a c => append_none hown2 a c
          clear hown2 hgr2
          go_wp2_with (at_builtin; refine Lib.wpList_append_run_sl _ rfl _ _ 42 rfl _ _ rfl rfl (hrun3 _ _) ?_)
          go_roundw
          case rel => exact ⟨k + 1, by omega, by go_num, O3.out, fun h => absurd h (by omega), B3.out⟩
          case measure => simp [intOf]; omega
      · obtain ⟨g, capg, hform, hcapg, hgb, hgw⟩ : ∃ g capg, u4 = .slice (some ⟨g, 0, none⟩) k capg ∧ k ≤ capg ∧ w1.heap.size ≤ g ∧ g < wo.heap.size := by
          have hl := HRow.out.lt
          rcases HRow.out.2 with ⟨_, h⟩ | ⟨g, c, _, h, _, _, hc, _⟩
          · omega
          · have := hl g (by rw [h]; rfl)
            exact ⟨g, c, h, hc, this.1, this.2⟩
        subst hform
        have HRW0 : Hid (KReads wo (.slice (some ⟨g, 0, none⟩) k capg) (ofN (byEnd (everyA xs) k))) := (KOwn.of_owns HRow.out (by rw [ofN, List.length_map, hbl.out]; omega)).reads
        have HCG : Hid (∀ m, m < k → wo.cell? ⟨g, m, none⟩ = some (.int .i64 ((byEnd (everyA xs) k).getD m 0 : Nat))) := fun m hm => by
          have := HRow.out.cellAt m (by omega)
          rw [this, kflat_get _ _ (by rw [ofN, List.length_map, hbl.out]; exact hm)]
          simp [ofN, List.getD_eq_getElem?_getD, hbl.out, hm]
        have HIn : Hid (∀ m, m < k → (byEnd (everyA xs) k).getD m 0 < xs.length) := fun m hm => by
          have := byEnd_lt (everyA xs) k (k := (byEnd (everyA xs) k).getD m 0) (by rw [List.getD_eq_getElem?_getD, List.getElem?_eq_getElem (by rw [hbl.out]; exact hm)]; exact List.getElem_mem _)
          omega
        go_wp2
        go_loopw [7] (fun jv wr => ∃ j : Nat, j ≤ k ∧ jv = .int .i64 j ∧ (∀ m, m < j → everyA xs ((byEnd (everyA xs) k).getD m 0) ≤ q) ∧ ∃ d, wr = (wo.alloc (.cells #[.int .i64 p, .int .i64 q] 64)).drewN d) (fun jv _ => k - (intOf jv).toNat)
        case atStart => exact ⟨0, Nat.zero_le _, rfl, fun m h => absurd h (by omega), 0, rfl⟩
        case round =>
          obtain ⟨j, hj, rfl, hle, d, hwr⟩ := hrel
          have HLe := hid hle
          have HWR := hid hwr
          have BWR : Hid (Below wo.heap.size wo wr) := by rw [hwr]; exact AX.out.trans ⟨rfl, rfl, rfl, Nat.le_refl _, fun _ _ => rfl⟩
          have cb : wr.cell? ⟨wo.heap.size, 1, none⟩ = some (.int .i64 q) := by rw [hwr]; exact CB.out
          have hswr := BWR.out.size
          clear hle hwr
          by_cases hjk : j < k
          · obtain ⟨y, hy⟩ : ∃ y, y = (byEnd (everyA xs) k).getD j 0 := ⟨_, rfl⟩
            have hyn : y < xs.length := by rw [hy]; exact HIn.out j hjk
            obtain ⟨z, hz⟩ : ∃ z, z = everyA xs y := ⟨_, rfl⟩
            have cy : wr.cell? ⟨g, j, none⟩ = some (.int .i64 (y : Nat)) := by rw [hy]; exact (BWR.out.cell (p := ⟨g, j, none⟩) hgw).trans (HCG.out j hjk)
            have cz : wr.cell? ⟨gl, ol + y * 2 + 1, none⟩ = some (.int .i64 z) := by rw [hz]; exact (BWR.out.cell (p := ⟨gl, ol + y * 2 + 1, none⟩) hglw).trans (HCE.out y hyn)
            have dj : decide ((j : Int) < (k : Int)) = true := by rw [decide_eq_true_eq]; omega
            have n0 : (0 : Int) ≤ (j : Int) := by omega
            have n1 : (j : Int) < (k : Int) := by omega
            have n2 : (0 : Int) ≤ (y : Int) := by omega
            have n3 : (y : Int) < (xs.length : Int) := by omega
            have HYZ : Hid (everyA xs ((byEnd (everyA xs) k).getD j 0) = z) := by show _ = _; rw [← hy, hz]
            clear hy hz
            by_cases hzq : z ≤ q
            · have dz : decide (z ≤ q) = true := by simpa using hzq
              go_wp2_with fail
              go_big_region
              go_wp2
              go_roundw
              case rel =>
                refine ⟨j + 1, by omega, by go_num, fun m hm => ?_, d + 1, by rw [HWR.out]; rfl⟩
                by_cases e : m = j
                · rw [e, HYZ.out]; exact hzq
                · exact HLe.out m (by omega)
              case measure => simp [intOf]; omega
            · have dz : decide (z ≤ q) = false := by simpa using hzq
              have HPl : Hid (placeE (everyA xs) (everyA xs k) (byEnd (everyA xs) k) = j) := placeE_eq (by rw [hbl.out]; exact hj) (fun m hm => by rw [← HQ.out]; exact HLe.out m hm) (fun _ => by rw [← HQ.out, HYZ.out]; omega)
              go_wp2_with fail
              go_big_region
              have BZ0 : Hid (Below wo.heap.size wo wr.drew) := BWR.out.drew
              generalize wr.drew = wz at BZ0 ⊢
              have hzw := BZ0.out.size
              have HRW : Hid (KReads wz (.slice (some ⟨g, 0, none⟩) k capg) (ofN (byEnd (everyA xs) k))) := HRW0.out.below BZ0.out
              have HRZ : Hid (KReads (wz.alloc (.cells #[] 3)) (.slice (some ⟨g, 0, none⟩) k capg) (ofN (byEnd (everyA xs) k))) := HRW.out.below ((Below.refl _ _).alloc (Nat.le_refl _) _)
              have HBZ : Hid (Below w1.heap.size w1 wz) := HB.out.trans (BZ0.out.mono hsz)
              have k1 : (0 : Int) ≤ (j : Int) := by omega
              have k2 : (j : Int) ≤ (k : Int) := by omega
              have k3 : (k : Int) ≤ (capg : Int) := by omega
              have k4 : (j : Int) ≤ (capg : Int) := by omega
              have k5 : j ≤ capg := by omega
              have HY : Hid ((wz.alloc (.cells #[] 3)).ownsRow wz.heap.size 3 1 (.slice (some ⟨wz.heap.size, 0, none⟩) 0 0) 0 (kflat [])) := World.ownsRow_made wz #[] 0 (Nat.le_refl _) (by unfold maxLen; omega) rfl
              have RA : Hid (KReads (wz.alloc (.cells #[] 3)) (.slice (some ⟨g, 0, none⟩) j capg) (ofN ((byEnd (everyA xs) k).take j))) := kreads_front HRZ.out hj hbl.out hcapg
              obtain ⟨v1, x1, hrun1, hown1, hgr1, hat1⟩ := append_reads (wz.alloc (.cells #[] 3)) wz.heap.size _ 0 [] HY.out _ _ RA.out (by rw [ofN, List.length_map, List.length_take, hbl.out]; omega) (by simp) 42
              have X1 : Hid (Below wz.heap.size wz x1) := ((Below.refl wz.heap.size wz).alloc (Nat.le_refl _) _).grown hgr1 (by simp) (by intro m hm; simp [Value.ownBlock] at hm; omega)
              have hx1 := X1.out.size
              obtain ⟨v2, x2, hrun2, hown2, hgr2, hat2⟩ := append_reads (x1.alloc (.cells #[.int .i64 (k : Int)] 3)) wz.heap.size v1 _ _ (hown1.alloc _) _ [(k : Int)] (kreads_int _ _) (by rw [ofN, List.length_map, List.length_take, hbl.out]; simp; omega) (by simp; omega) 42
              have X2 : Hid (Below wz.heap.size wz x2) := (X1.out.alloc hx1 _).grown hgr2 (by simp; omega) (fun m hm => (hown1.lt m hm).1)
              have hx2 := X2.out.size
              have HRX : Hid (KReads x2 (.slice (some ⟨g, 0, none⟩) k capg) (ofN (byEnd (everyA xs) k))) := HRW.out.below X2.out
              have hb3 : ∀ a c, KReads x2 (.slice a (k - j) c) (ofN ((byEnd (everyA xs) k).drop j)) → ∃ v3 x3, (Builtin.append_ #[42, 42] 42 #[v2, .slice a (k - j) c]).run Try.prog x2 = .ok v3 x3 ∧ x3.ownsRow w1.heap.size 3 1 v3 (k + 1) (kflat (ofN (byEnd (everyA xs) (k + 1)))) ∧ Below w1.heap.size w1 x3 := fun a c hrd => by
                obtain ⟨v3, x3, h1, h2, h3, _⟩ := append_reads x2 wz.heap.size v2 _ _ hown2 _ _ hrd (by rw [ofN, ofN, List.length_map, List.length_map, List.length_take, List.length_drop, hbl.out]; simp; omega) hx2 42
                refine ⟨v3, x3, h1, ?_, ?_⟩
                · rw [ofN_ins (everyA xs) k j HPl.out]
                  refine World.ownsRow.mono (base := wz.heap.size) ?_ (by omega)
                  have e : k + 1 = 0 + (ofN (List.take j (byEnd (everyA xs) k))).length + [(k : Int)].length + (ofN (List.drop j (byEnd (everyA xs) k))).length := by
                    rw [ofN, ofN, List.length_map, List.length_map, List.length_take, List.length_drop, hbl.out]; simp; omega
                  rw [e]
                  exact h2
                · exact (HBZ.out.trans (X2.out.mono (by omega))).grown h3 (by omega) (fun m hm => by have := hown2.lt m hm; omega)
              have hjl : j < capg := by omega
              have hjl2 : (j : Int) < (capg : Int) := by omega
              obtain ⟨v3, x3, hrun3, O3, B3⟩ := hb3 (some ⟨g, j, none⟩) (capg - j) (kreads_back HRX.out hj hbl.out hcapg)
              have O3 := hid O3
              have B3 := hid B3
              clear hown1 hgr1 hat1 hown2 hgr2 hat2 hb3
              go_wp2_with (at_builtin; first | refine Lib.wpList_append_run_sl _ rfl _ _ 42 rfl _ _ rfl rfl hrun1 ?_ | refine Lib.wpList_append_run_sl _ rfl _ _ 42 rfl _ _ rfl rfl hrun2 ?_ | refine Lib.wpList_append_run_sl _ rfl _ _ 42 rfl _ _ rfl rfl hrun3 ?_)
              go_roundw
              case rel => exact ⟨k + 1, by omega, by go_num, O3.out, fun h => absurd h (by omega), B3.out⟩
              case measure => simp [intOf]; omega
          · obtain rfl : k = j := by omega
            have dj : decide ((k : Int) < (k : Int)) = false := by rw [decide_eq_false_iff_not]; omega
            have HPl : Hid (placeE (everyA xs) (everyA xs k) (byEnd (everyA xs) k) = k) := placeE_eq (by rw [hbl.out]; exact Nat.le_refl _) (fun m hm => by rw [← HQ.out]; exact HLe.out m hm) (fun h => absurd h (by rw [hbl.out]; omega))
            go_wp2_with fail
            go_big_region
            have BZ0 : Hid (Below wo.heap.size wo wr.drew) := BWR.out.drew
            generalize wr.drew = wz at BZ0 ⊢
            have hzw := BZ0.out.size
            have HRW : Hid (KReads wz (.slice (some ⟨g, 0, none⟩) k capg) (ofN (byEnd (everyA xs) k))) := HRW0.out.below BZ0.out
            have HRZ : Hid (KReads (wz.alloc (.cells #[] 3)) (.slice (some ⟨g, 0, none⟩) k capg) (ofN (byEnd (everyA xs) k))) := HRW.out.below ((Below.refl _ _).alloc (Nat.le_refl _) _)
            have HBZ : Hid (Below w1.heap.size w1 wz) := HB.out.trans (BZ0.out.mono hsz)
            have k3 : (k : Int) ≤ (capg : Int) := by omega
            have k1 : (0 : Int) ≤ (k : Int) := by omega
            have HY : Hid ((wz.alloc (.cells #[] 3)).ownsRow wz.heap.size 3 1 (.slice (some ⟨wz.heap.size, 0, none⟩) 0 0) 0 (kflat [])) := World.ownsRow_made wz #[] 0 (Nat.le_refl _) (by unfold maxLen; omega) rfl
            obtain ⟨v1, x1, hrun1, hown1, hgr1, hat1⟩ := append_reads (wz.alloc (.cells #[] 3)) wz.heap.size _ 0 [] HY.out _ _ HRZ.out (by rw [ofN, List.length_map, hbl.out]; omega) (by simp) 42
            have X1 : Hid (Below wz.heap.size wz x1) := ((Below.refl wz.heap.size wz).alloc (Nat.le_refl _) _).grown hgr1 (by simp) (by intro m hm; simp [Value.ownBlock] at hm; omega)
            have hx1 := X1.out.size
            obtain ⟨v2, x2, hrun2, hown2, hgr2, hat2⟩ := append_reads (x1.alloc (.cells #[.int .i64 (k : Int)] 3)) wz.heap.size v1 _ _ (hown1.alloc _) _ [(k : Int)] (kreads_int _ _) (by rw [ofN, List.length_map, hbl.out]; simp; omega) (by simp; omega) 42
            have X2 : Hid (Below wz.heap.size wz x2) := (X1.out.alloc hx1 _).grown hgr2 (by simp; omega) (fun m hm => (hown1.lt m hm).1)
            have O3 : Hid (x2.ownsRow w1.heap.size 3 1 v2 (k + 1) (kflat (ofN (byEnd (everyA xs) (k + 1))))) := by
              show World.ownsRow _ _ _ _ _ _ _
              rw [ofN_ins (everyA xs) k k HPl.out, List.take_of_length_le (by rw [hbl.out]; exact Nat.le_refl _), List.drop_eq_nil_of_le (by rw [hbl.out]; exact Nat.le_refl _)]
              refine World.ownsRow.mono (base := wz.heap.size) ?_ (by omega)
              have e : k + 1 = 0 + (ofN (byEnd (everyA xs) k)).length + [(k : Int)].length := by rw [ofN, List.length_map, hbl.out]; simp
              rw [e]
              simp only [List.map_nil, List.append_nil]
              exact hown2
            have B3 : Hid (Below w1.heap.size w1 x2) := HBZ.out.trans (X2.out.mono (by omega))
            have hrun3 : ∀ a c, (Builtin.append_ #[42, 42] 42 #[v2, .slice a 0 c]).run Try.prog x2 = .ok v2 x2 := fun a c => append_none hown2 a c
            clear hown1 hgr1 hat1 hown2 hgr2 hat2
            by_cases hjc : k = capg
            case' pos => subst hjc
            case' neg =>
              have hjl : k < capg := by omega
              have hjl2 : (k : Int) < (capg : Int) := by omega
            all_goals
              go_wp2_with (at_builtin; first | refine Lib.wpList_append_run_sl _ rfl _ _ 42 rfl _ _ rfl rfl hrun1 ?_ | refine Lib.wpList_append_run_sl _ rfl _ _ 42 rfl _ _ rfl rfl hrun2 ?_ | refine Lib.wpList_append_run_sl _ rfl _ _ 42 rfl _ _ rfl rfl (hrun3 _ _) ?_)
              go_roundw
              case rel => exact ⟨k + 1, by omega, by go_num, O3.out, fun h => absurd h (by omega), B3.out⟩
              case measure => simp [intOf]; omega
    · obtain rfl : k = xs.length := by omega
      have BE : Hid (Below w.heap.size w wr) := B1.out.trans (HB.out.mono hs1)
      have HE : Hid (KOwn w.heap.size wr.heap.size wr u4 (ofN (byRateL xs))) := (KOwn.of_owns HRow.out (by rw [ofN, List.length_map, byEnd_len]; omega)).mono hs1 (Nat.le_refl _)
      go_wp2
      go_ret2
      exact ⟨_, rfl, HE.out, BE.out⟩
end Go.Proofs.Ytmcmkobdkkibkab
