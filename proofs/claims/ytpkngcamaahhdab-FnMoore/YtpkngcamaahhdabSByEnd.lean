/-
  spec.l5ByEnd: the tasks' numbers by their ends, in memory of its own. Nothing old is written.
-/
import Derived.Test.YtpkngcamaahhdabDoneMath
import Derived.Test.YtpkngcamaahhdabKIntRows
import Derived.Test.YtpkngcamaahhdabOwnsSame
import Derived.Deep.RegionHeld3
import Derived.Test.YtpkngcamaahhdabKAppN
namespace Go.Proofs.Ytpkngcamaahhdab
open Go.RowKit

theorem owns_mono5 {w : World} {base base' : Nat} {t : TypeId} {size n : Nat} {v : Value} {cs : List Value} (h : w.ownsRow base t size v n cs) (hb : base' ≤ base) : w.ownsRow base' t size v n cs := by
  obtain ⟨h1, h2⟩ := h
  refine ⟨h1, ?_⟩
  rcases h2 with h | ⟨g, cap, cur, hv, hg, h⟩
  · exact .inl h
  · exact .inr ⟨g, cap, cur, hv, by omega, h⟩
theorem kcells_of {w : World} {g cap n : Nat} {ys : List Int} (h : KReads w (.slice (some ⟨g, 0, none⟩) n cap) ys) : n = ys.length ∧ ∀ i, i < ys.length → KCells w g i (ys.getD i 0) := by
  obtain ⟨a, cap', e, _, hc⟩ := h
  injection e with e1 e2 e3
  refine ⟨e2, ?_⟩
  rcases hc with rfl | ⟨b, off, e, hc⟩
  · intro i hi; simp at hi
  · subst e1
    cases e
    intro i hi
    have := hc i hi
    rwa [Nat.zero_add] at this
theorem byEnd_succ (e : Nat → Int) (n j : Nat) (h : placeE e (e n) (byEnd e n) = j) : byEnd e (n + 1) = (byEnd e n).take j ++ [n] ++ (byEnd e n).drop j := by
  show insE e (byEnd e n) n = _
  unfold insE
  rw [h, List.append_assoc]
  rfl
theorem ofN_succ (e : Nat → Int) (n j : Nat) (h : placeE e (e n) (byEnd e n) = j) : ofN (byEnd e (n + 1)) = (ofN (byEnd e n)).take j ++ [(n : Int)] ++ (ofN (byEnd e n)).drop j := by
  rw [byEnd_succ e n j h]
  simp [ofN, List.map_take, List.map_drop]
set_option maxRecDepth 100000 in
set_option maxHeartbeats 8000000 in
theorem sbyend_any (v : Value) (xs : List TkEl) (w : World) (hr : TkReads w v xs) (hg : goodT xs = true) :
    Calls Try.prog 57 #[v] w fun e w' => ∃ u, e = .returned u ∧ KOwn w.heap.size w'.heap.size w' u (ofN (byEndL xs)) ∧ Below w.heap.size w w' := by
  have HR := hid hr
  have HG := hid hg
  have hlen := goodT_len hg
  obtain ⟨a, cap, rfl, _, _⟩ := hr
  obtain ⟨i0, hi, hz0, hz1, hz2⟩ := info_parts info_int
  clear hg
  go_enter Try.func57, Try.ntmps57
  go_wp2
  go_loopw [3, 10] (fun o i wr => ∃ k : Nat, k ≤ xs.length ∧ i = .int .i64 k ∧ wr.ownsRow w.heap.size 3 1 o k (kflat (ofN (byEnd (endT xs) k))) ∧ (k = 0 → o = .slice none 0 0) ∧ Below w.heap.size w wr) (fun _ i _ => xs.length - (intOf i).toNat)
  case atStart => exact ⟨0, Nat.zero_le _, rfl, World.ownsRow_nil _ _ _ _, fun _ => rfl, Below.refl _ _⟩
  case round =>
    obtain ⟨k, hk, rfl, hrow, hnil, hbel⟩ := hrel
    have HNil := hid hnil
    clear hnil
    have HRow := hid hrow
    have HB := hid hbel
    have hsz := hbel.size
    clear hrow hbel
    by_cases hlt : k < xs.length
    · obtain ⟨gl, ol, capl, e, hc⟩ := (HR.out.below HB.out).cells k hlt
      cases e
      have HC : Hid (∀ j, j < xs.length → wr.cell? ⟨gl, ol + j * 2, none⟩ = some (.int .i64 (needT xs j)) ∧ wr.cell? ⟨gl, ol + j * 2 + 1, none⟩ = some (.int .i64 (endT xs j))) := fun j hj => hc j hj
      clear hc
      have c0 := (HC.out k hlt).1
      have c1 := (HC.out k hlt).2
      have ngl : gl < wr.heap.size := lt_of_cell c0
      obtain ⟨p, hp⟩ : ∃ p, p = needT xs k := ⟨_, rfl⟩
      obtain ⟨q, hq⟩ : ∃ q, q = endT xs k := ⟨_, rfl⟩
      rw [← hp] at c0
      rw [← hq] at c1
      have HQ := hid hq
      have hown := KOwn.of_owns HRow.out (by rw [ofN, List.length_map, byEnd_len]; omega)
      have HOR := hid hown.reads
      have hbe := hid (byEnd_len (endT xs) k)
      clear hp hq
      by_cases hk0 : k = 0
      · obtain rfl := HNil.out hk0
        have HE : Hid (ofN (byEnd (endT xs) (k + 1)) = [(k : Int)]) := by show _ = _; rw [hk0]; rfl
        have HK1 : Hid (k + 1 = 1) := by show _ = _; omega
        clear hown HOR HRow HNil hk0
        obtain ⟨wo, hwo⟩ : ∃ wo, wo = wr := ⟨_, rfl⟩
        subst hwo
        go_wp2
        go_loopw [6] (fun i wz => i = .int .i64 0 ∧ Below (wo.heap.size + 1) (wo.alloc (.cells #[.int .i64 p, .int .i64 q] 54)) wz) (fun i _ => 1 - (intOf i).toNat)
        case atStart => exact ⟨rfl, by first | exact Below.refl _ _ | simp⟩
        case round =>
          obtain ⟨rfl, hbz⟩ := hrel
          have HZ := hid hbz
          have hszz := hbz.size
          rw [World.size_alloc] at hszz
          have HW : Hid (Below wo.heap.size wo wr) := ((Below.refl wo.heap.size wo).alloc (Nat.le_refl _) _).trans (HZ.out.mono (by omega))
          clear hbz
          have HY : Hid ((wr.alloc (.cells #[] 3)).ownsRow wr.heap.size 3 1 (.slice (some ⟨wr.heap.size, 0, none⟩) 0 0) 0 []) := World.ownsRow_made wr #[] 0 (Nat.le_refl _) (by unfold maxLen; omega) rfl
          have HL1 : Hid (Below wr.heap.size wr (wr.alloc (.cells #[] 3)).drew) := ((Below.refl wr.heap.size wr).alloc (Nat.le_refl _) (.cells #[] 3)).drew
          go_wp2_with fail
          go_big_region
          go_wp2_with (first | (at_builtin; refine wpList_append_own _ rfl _ _ 42 rfl wr.heap.size 3 i0 (.int .i64 0) 1 8 Try.underlying42 hi hz0 hz1 hz2 rfl (by decide) _ _ _ rfl (HY.out.drew.alloc _) ⟨wr.heap.size + 1, 0, none⟩ 1 1 (kflat [(k : Int)]) rfl rfl (one_at_new (by simp)) (kflat_one _) (by unfold maxLen; omega) (by omega) (by simp; omega) ?_) | (at_builtin; refine Lib.wpList_append_run_sl _ rfl _ _ 42 rfl _ _ rfl rfl (knothing hi hz1 _ _ _ _ (Nat.le_refl _) _ _) ?_))
          intro v2 w2 hown2 hgr2 hnil2
          have O2 : Hid (w2.ownsRow w.heap.size 3 1 v2 (k + 1) (kflat (ofN (byEnd (endT xs) (k + 1))))) := by
            show World.ownsRow _ _ _ _ _ _ _
            rw [HE.out, HK1.out]
            refine owns_mono5 (base := wr.heap.size) ?_ (by omega)
            first | exact hown2 | (have := hown2; simp at this; exact this)
          have B2 : Hid (Below w.heap.size w w2) := by
            refine (HB.out.trans (HW.out.mono (by omega))).trans ?_
            exact grown_below (HL1.out.mono (by omega)) (by simp; omega) hgr2 (owns_base HY.out) (by omega)
          obtain ⟨b2, c2', rfl, hle2⟩ : ∃ b c, v2 = .slice (some ⟨b, 0, none⟩) 1 c ∧ 1 ≤ c := by
            have := O2.out
            rw [HK1.out] at this
            rcases this.2 with ⟨h, h'⟩ | ⟨b, c, _, h, _, _, hc, _⟩
            · omega
            · exact ⟨b, c, h, hc⟩
          clear hown2 hgr2 hnil2
          go_wp2_with (at_builtin; refine Lib.wpList_append_run_sl _ rfl _ _ 42 rfl _ _ rfl rfl (knothing hi hz1 _ _ _ _ hle2 _ _) ?_)
          go_roundw
          case rel => exact ⟨k + 1, by omega, by go_num, O2.out, fun h => absurd h (by omega), B2.out⟩
          case measure => simp [intOf]; omega
      · obtain ⟨g, capg, rfl⟩ : ∃ g capg, u3 = .slice (some ⟨g, 0, none⟩) k capg := by
          rcases HRow.out.2 with ⟨_, h⟩ | ⟨g, c, _, h, _⟩
          · exact absurd h hk0
          · exact ⟨g, c, h⟩
        have hcg := (kcells_of HOR.out).2
        have ngg : g < wr.heap.size := by
          have := (hcg 0 (by rw [ofN, List.length_map, hbe.out]; omega)).lt
          exact this
        have HCG : Hid (∀ j, j < k → wr.cell? ⟨g, j, none⟩ = some (.int .i64 ((byEnd (endT xs) k).getD j 0 : Nat))) := fun j hj => by
          have := hcg j (by rw [ofN, List.length_map, hbe.out]; exact hj)
          rw [ofN_get (by rw [hbe.out]; exact hj)] at this
          exact this
        have hcapg : k ≤ capg := by
          rcases HRow.out.2 with ⟨h, _⟩ | ⟨_, c, _, h, _, _, h2, _⟩
          · cases h
          · cases h; exact h2
        clear hcg hown
        obtain ⟨wo, hwo⟩ : ∃ wo, wo = wr := ⟨_, rfl⟩
        subst hwo
        go_wp2
        go_loopw [6] (fun i wz => ∃ j : Nat, j ≤ k ∧ i = .int .i64 j ∧ (∀ m, m < j → endT xs ((byEnd (endT xs) k).getD m 0) ≤ endT xs k) ∧ Below (wo.heap.size + 1) (wo.alloc (.cells #[.int .i64 p, .int .i64 q] 54)) wz) (fun i _ => k - (intOf i).toNat)
        case atStart => exact ⟨0, Nat.zero_le _, rfl, fun m hm => absurd hm (by omega), by first | exact Below.refl _ _ | simp⟩
        case round =>
          obtain ⟨j, hj, rfl, hle, hbz⟩ := hrel
          have HLE := hid hle
          have HZ := hid hbz
          have hszz := hbz.size
          rw [World.size_alloc] at hszz
          have b1 : wr.cell? ⟨wo.heap.size, 1, none⟩ = some (.int .i64 q) := by
            refine (HZ.out.cell (p := ⟨wo.heap.size, 1, none⟩) (by simp)).trans ?_
            simp [go_sem]
          have b0 : wr.cell? ⟨wo.heap.size, 0, none⟩ = some (.int .i64 p) := by
            refine (HZ.out.cell (p := ⟨wo.heap.size, 0, none⟩) (by simp)).trans ?_
            simp [go_sem]
          have HW : Hid (Below wo.heap.size wo wr) := ((Below.refl wo.heap.size wo).alloc (Nat.le_refl _) _).trans (HZ.out.mono (by omega))
          clear hle hbz
          by_cases hjk : j < k
          · obtain ⟨x, hx⟩ : ∃ x, x = (byEnd (endT xs) k).getD j 0 := ⟨_, rfl⟩
            have hxk : x < xs.length := by
              have : x < k := by rw [hx]; exact byEnd_lt _ _ (getD_mem (by rw [hbe.out]; exact hjk))
              omega
            have g1 : wr.cell? ⟨g, j, none⟩ = some (.int .i64 (x : Nat)) := by
              rw [hx]
              exact (HW.out.cell (p := ⟨g, j, none⟩) ngg).trans (HCG.out j hjk)
            have l1 : wr.cell? ⟨gl, ol + x * 2 + 1, none⟩ = some (.int .i64 (endT xs x)) := (HW.out.cell (p := ⟨gl, ol + x * 2 + 1, none⟩) ngl).trans (HC.out x hxk).2
            obtain ⟨r, hr⟩ : ∃ r, r = endT xs x := ⟨_, rfl⟩
            rw [← hr] at l1
            have hd1 : decide ((j : Int) < (k : Int)) = true := by simp; omega
            have n0 : (0 : Int) ≤ (j : Int) := by omega
            have n1 : (j : Int) < (k : Int) := by omega
            have m0 : (0 : Int) ≤ (x : Int) := by omega
            have m1 : (x : Int) < (xs.length : Int) := by omega
            by_cases hrq : r ≤ q
            · have hd2 : decide (r ≤ q) = true := by simpa using hrq
              have HS : Hid (∀ m, m < j + 1 → endT xs ((byEnd (endT xs) k).getD m 0) ≤ endT xs k) := fun m hm => by
                by_cases e : m = j
                · subst e; rw [← hx, ← hr, ← HQ.out]; exact hrq
                · exact HLE.out m (by omega)
              clear hx hr hrq
              go_wp2_with fail
              go_big_region
              go_wp2
              go_roundw
              case rel => exact ⟨j + 1, by omega, by go_num, HS.out, by first | exact HZ.out.drew | exact HZ.out⟩
              case measure => simp [intOf]; omega
            · have hd2 : decide (r ≤ q) = false := by simpa using hrq
              have HPl : Hid (placeE (endT xs) (endT xs k) (byEnd (endT xs) k) = j) := placeE_eq (by rw [hbe.out]; exact hj) HLE.out (fun _ => by rw [← hx, ← hr, ← HQ.out]; omega)
              clear hx hr hrq
              have n2 : (j : Int) ≤ (capg : Int) := by omega
              have n3 : (0 : Int) ≤ (j : Int) := by omega
              have hsw : wo.heap.size < wr.heap.size := by omega
              have HY : Hid ((wr.alloc (.cells #[] 3)).ownsRow wr.heap.size 3 1 (.slice (some ⟨wr.heap.size, 0, none⟩) 0 0) 0 []) := World.ownsRow_made wr #[] 0 (Nat.le_refl _) (by unfold maxLen; omega) rfl
              have HGW : Hid (∀ m, m < k → wr.cell? ⟨g, m, none⟩ = some (.int .i64 ((byEnd (endT xs) k).getD m 0 : Nat))) := fun m hm => (HW.out.cell (p := ⟨g, m, none⟩) ngg).trans (HCG.out m hm)
              have HN1 : Hid (∀ m u, (kflat ((ofN (byEnd (endT xs) k)).take j))[m]? = some u → (wr.alloc (.cells #[] 3)).drew.cell? ((⟨g, 0, none⟩ : Addr).add m) = some u) := by
                refine kflat_cells (off := 0) ?_
                intro m hm
                have hmj : m < j := by rw [List.length_take] at hm; omega
                rw [Nat.zero_add]
                have e1 : ((ofN (byEnd (endT xs) k)).take j).getD m 0 = ((byEnd (endT xs) k).getD m 0 : Nat) := by
                  rw [← ofN_get (by rw [hbe.out]; omega)]
                  simp [List.getD_eq_getElem?_getD, hmj]
                rw [e1]
                show World.cell? _ _ = _
                exact ((((Below.refl wr.heap.size wr).alloc (Nat.le_refl _) (.cells #[] 3)).drew).cell (p := ⟨g, m, none⟩) (by show g < wr.heap.size; omega)).trans (HGW.out m (by omega))
              have HL1 : Hid (((ofN (byEnd (endT xs) k)).take j).length = j) := by show _ = _; rw [List.length_take, ofN, List.length_map, hbe.out]; omega
              go_wp2_with fail
              go_big_region
              go_wp2_with (at_builtin; refine wpList_append_own _ rfl _ _ 42 rfl wr.heap.size 3 i0 (.int .i64 0) 1 8 Try.underlying42 hi hz0 hz1 hz2 rfl (by decide) _ 0 [] rfl HY.out.drew ⟨g, 0, none⟩ j capg (kflat ((ofN (byEnd (endT xs) k)).take j)) rfl (by rw [length_kflat, HL1.out, Nat.mul_one]) HN1.out (kflat_one _) (by unfold maxLen; omega) (by omega) (by simp) ?_)
              intro v1 w1 hown1 hgr1 hnil1
              have O1 : Hid (w1.ownsRow wr.heap.size 3 1 v1 j (kflat ((ofN (byEnd (endT xs) k)).take j))) := by
                first | exact hown1 | (have := hown1; rw [Nat.zero_add, List.nil_append] at this; exact this)
              have L1 : Hid (Below wr.heap.size wr w1) := (((Below.refl wr.heap.size wr).alloc (Nat.le_refl _) (.cells #[] 3)).drew).grown hgr1 (by simp) (by intro m hm; simp [Value.ownBlock] at hm; omega)
              have hs1 := L1.out.size
              obtain ⟨b1, c1', rfl⟩ : ∃ b c, v1 = .slice (some ⟨b, 0, none⟩) j c := by
                rcases O1.out.2 with ⟨h, h'⟩ | ⟨b, c, _, h, _⟩
                · first | exact (hnil1 h).elim | exact absurd (hnil1.1 h).1 (by simp)
                · exact ⟨b, c, h⟩
              clear hown1 hgr1 hnil1
              go_wp2_with (at_builtin; refine wpList_append_own _ rfl _ _ 42 rfl wr.heap.size 3 i0 (.int .i64 0) 1 8 Try.underlying42 hi hz0 hz1 hz2 rfl (by decide) _ _ _ rfl (O1.out.alloc _) ⟨w1.heap.size, 0, none⟩ 1 1 (kflat [(k : Int)]) rfl rfl (one_at_new rfl) (kflat_one _) (by unfold maxLen; omega) (by omega) (by simp; omega) ?_)
              intro v2 w2 hown2 hgr2 hnil2
              have O2 : Hid (w2.ownsRow wr.heap.size 3 1 v2 (j + 1) (kflat ((ofN (byEnd (endT xs) k)).take j ++ [(k : Int)]))) := by
                show World.ownsRow _ _ _ _ _ _ _
                rw [kflat_append]
                exact hown2
              have L2 : Hid (Below wr.heap.size wr w2) := grown_below L1.out hs1 hgr2 (owns_base O1.out) (Nat.le_refl _)
              have hs2 := L2.out.size
              obtain ⟨b2, c2', rfl⟩ : ∃ b c, v2 = .slice (some ⟨b, 0, none⟩) (j + 1) c := by
                rcases O2.out.2 with ⟨h, h'⟩ | ⟨b, c, _, h, _⟩
                · omega
                · exact ⟨b, c, h⟩
              clear hown2 hgr2 hnil2
              have HN3 : Hid (∀ m u, (kflat ((ofN (byEnd (endT xs) k)).drop j))[m]? = some u → w2.cell? ((⟨g, j, none⟩ : Addr).add m) = some u) := by
                refine kflat_cells (off := j) ?_
                intro m hm
                have hmj : j + m < k := by rw [List.length_drop, ofN, List.length_map, hbe.out] at hm; omega
                have e1 : ((ofN (byEnd (endT xs) k)).drop j).getD m 0 = ((byEnd (endT xs) k).getD (j + m) 0 : Nat) := by
                  rw [← ofN_get (by rw [hbe.out]; omega)]
                  simp [List.getD_eq_getElem?_getD, List.getElem?_drop]
                rw [e1]
                exact (L2.out.cell (p := ⟨g, j + m, none⟩) (by show g < wr.heap.size; omega)).trans (HGW.out (j + m) hmj)
              have HL3 : Hid (((ofN (byEnd (endT xs) k)).drop j).length = k - j) := by show _ = _; rw [List.length_drop, ofN, List.length_map, hbe.out]
              go_wp2_with (at_builtin; refine wpList_append_own _ rfl _ _ 42 rfl wr.heap.size 3 i0 (.int .i64 0) 1 8 Try.underlying42 hi hz0 hz1 hz2 rfl (by decide) _ _ _ rfl O2.out ⟨g, j, none⟩ (k - j) (capg - j) (kflat ((ofN (byEnd (endT xs) k)).drop j)) rfl (by rw [length_kflat, HL3.out, Nat.mul_one]) HN3.out (kflat_one _) (by unfold maxLen; omega) (by omega) (by omega) ?_)
              intro v3 w3 hown3 hgr3 _
              have O3 : Hid (w3.ownsRow w.heap.size 3 1 v3 (k + 1) (kflat (ofN (byEnd (endT xs) (k + 1))))) := by
                show World.ownsRow _ _ _ _ _ _ _
                rw [ofN_succ (endT xs) k j HPl.out, kflat_append]
                refine owns_mono5 (base := wr.heap.size) ?_ (by omega)
                have hnn : k + 1 = j + 1 + (k - j) := by omega
                rw [hnn]
                exact hown3
              have B3 : Hid (Below w.heap.size w w3) := by
                refine (HB.out.trans (HW.out.mono (by omega))).trans ((L2.out.mono (by omega)).trans ?_)
                exact (Below.refl w.heap.size w2).grown hgr3 (by omega) (fun m hm => by have := owns_base O2.out m hm; omega)
              clear hown3 hgr3
              go_wp2
              go_roundw
              case rel => exact ⟨k + 1, by omega, by go_num, O3.out, fun h => absurd h (by omega), B3.out⟩
              case measure => simp [intOf]; omega
          · have hd1 : decide ((j : Int) < (k : Int)) = false := by simp; omega
            have HPl : Hid (placeE (endT xs) (endT xs k) (byEnd (endT xs) k) = j) := placeE_eq (by rw [hbe.out]; exact hj) HLE.out (fun h => absurd h (by rw [hbe.out]; omega))
            by_cases hce : j = capg
            · subst hce
              have n3 : (0 : Int) ≤ (j : Int) := by omega
              have hsw : wo.heap.size < wr.heap.size := by omega
              have HY : Hid ((wr.alloc (.cells #[] 3)).ownsRow wr.heap.size 3 1 (.slice (some ⟨wr.heap.size, 0, none⟩) 0 0) 0 []) := World.ownsRow_made wr #[] 0 (Nat.le_refl _) (by unfold maxLen; omega) rfl
              have HGW : Hid (∀ m, m < k → wr.cell? ⟨g, m, none⟩ = some (.int .i64 ((byEnd (endT xs) k).getD m 0 : Nat))) := fun m hm => (HW.out.cell (p := ⟨g, m, none⟩) ngg).trans (HCG.out m hm)
              have HN1 : Hid (∀ m u, (kflat ((ofN (byEnd (endT xs) k)).take j))[m]? = some u → (wr.alloc (.cells #[] 3)).drew.cell? ((⟨g, 0, none⟩ : Addr).add m) = some u) := by
                refine kflat_cells (off := 0) ?_
                intro m hm
                have hmj : m < j := by rw [List.length_take] at hm; omega
                rw [Nat.zero_add]
                have e1 : ((ofN (byEnd (endT xs) k)).take j).getD m 0 = ((byEnd (endT xs) k).getD m 0 : Nat) := by
                  rw [← ofN_get (by rw [hbe.out]; omega)]
                  simp [List.getD_eq_getElem?_getD, hmj]
                rw [e1]
                show World.cell? _ _ = _
                exact ((((Below.refl wr.heap.size wr).alloc (Nat.le_refl _) (.cells #[] 3)).drew).cell (p := ⟨g, m, none⟩) (by show g < wr.heap.size; omega)).trans (HGW.out m (by omega))
              have HL1 : Hid (((ofN (byEnd (endT xs) k)).take j).length = j) := by show _ = _; rw [List.length_take, ofN, List.length_map, hbe.out]; omega
              go_wp2_with fail
              go_big_region
              go_wp2_with (at_builtin; refine wpList_append_own _ rfl _ _ 42 rfl wr.heap.size 3 i0 (.int .i64 0) 1 8 Try.underlying42 hi hz0 hz1 hz2 rfl (by decide) _ 0 [] rfl HY.out.drew ⟨g, 0, none⟩ j j (kflat ((ofN (byEnd (endT xs) k)).take j)) rfl (by rw [length_kflat, HL1.out, Nat.mul_one]) HN1.out (kflat_one _) (by unfold maxLen; omega) (by omega) (by simp) ?_)
              intro v1 w1 hown1 hgr1 hnil1
              have O1 : Hid (w1.ownsRow wr.heap.size 3 1 v1 j (kflat ((ofN (byEnd (endT xs) k)).take j))) := by
                first | exact hown1 | (have := hown1; rw [Nat.zero_add, List.nil_append] at this; exact this)
              have L1 : Hid (Below wr.heap.size wr w1) := (((Below.refl wr.heap.size wr).alloc (Nat.le_refl _) (.cells #[] 3)).drew).grown hgr1 (by simp) (by intro m hm; simp [Value.ownBlock] at hm; omega)
              have hs1 := L1.out.size
              obtain ⟨b1, c1', rfl⟩ : ∃ b c, v1 = .slice (some ⟨b, 0, none⟩) j c := by
                rcases O1.out.2 with ⟨h, h'⟩ | ⟨b, c, _, h, _⟩
                · first | exact (hnil1 h).elim | exact absurd (hnil1.1 h).1 (by simp)
                · exact ⟨b, c, h⟩
              clear hown1 hgr1 hnil1
              go_wp2_with (at_builtin; refine wpList_append_own _ rfl _ _ 42 rfl wr.heap.size 3 i0 (.int .i64 0) 1 8 Try.underlying42 hi hz0 hz1 hz2 rfl (by decide) _ _ _ rfl (O1.out.alloc _) ⟨w1.heap.size, 0, none⟩ 1 1 (kflat [(k : Int)]) rfl rfl (one_at_new rfl) (kflat_one _) (by unfold maxLen; omega) (by omega) (by simp; omega) ?_)
              intro v2 w2 hown2 hgr2 hnil2
              have O2 : Hid (w2.ownsRow wr.heap.size 3 1 v2 (j + 1) (kflat ((ofN (byEnd (endT xs) k)).take j ++ [(k : Int)]))) := by
                show World.ownsRow _ _ _ _ _ _ _
                rw [kflat_append]
                exact hown2
              have L2 : Hid (Below wr.heap.size wr w2) := grown_below L1.out hs1 hgr2 (owns_base O1.out) (Nat.le_refl _)
              have hs2 := L2.out.size
              obtain ⟨b2, c2', rfl⟩ : ∃ b c, v2 = .slice (some ⟨b, 0, none⟩) (j + 1) c := by
                rcases O2.out.2 with ⟨h, h'⟩ | ⟨b, c, _, h, _⟩
                · omega
                · exact ⟨b, c, h⟩
              clear hown2 hgr2 hnil2
              have hkj : k - j = 0 := by omega
              have hle2 : j + 1 ≤ c2' := by
                rcases O2.out.2 with ⟨h, _⟩ | ⟨_, _, _, h, _, _, h2, _⟩
                · cases h
                · cases h; exact h2
              have O3 : Hid (w2.ownsRow w.heap.size 3 1 (.slice (some ⟨b2, 0, none⟩) (j + 1) c2') (k + 1) (kflat (ofN (byEnd (endT xs) (k + 1))))) := by
                show World.ownsRow _ _ _ _ _ _ _
                rw [ofN_succ (endT xs) k j HPl.out, List.drop_eq_nil_of_le (by rw [ofN, List.length_map, hbe.out]; omega), List.append_nil]
                refine owns_mono5 (base := wr.heap.size) ?_ (by omega)
                have hnn : k + 1 = j + 1 := by omega
                rw [hnn]
                exact O2.out
              have B3 : Hid (Below w.heap.size w w2) := (HB.out.trans (HW.out.mono (by omega))).trans (L2.out.mono (by omega))
              go_wp2_with (at_builtin; refine Lib.wpList_append_run_sl _ rfl _ _ 42 rfl _ _ rfl rfl (knothing hi hz1 _ _ _ _ hle2 _ _) ?_)
              go_roundw
              case rel => exact ⟨k + 1, by omega, by go_num, O3.out, fun h => absurd h (by omega), B3.out⟩
              case measure => simp [intOf]; omega
            · have hcl : j < capg := by omega
              have hcl2 : (j : Int) < (capg : Int) := by omega
              have n2 : (j : Int) ≤ (capg : Int) := by omega
              have n3 : (0 : Int) ≤ (j : Int) := by omega
              have hsw : wo.heap.size < wr.heap.size := by omega
              have HY : Hid ((wr.alloc (.cells #[] 3)).ownsRow wr.heap.size 3 1 (.slice (some ⟨wr.heap.size, 0, none⟩) 0 0) 0 []) := World.ownsRow_made wr #[] 0 (Nat.le_refl _) (by unfold maxLen; omega) rfl
              have HGW : Hid (∀ m, m < k → wr.cell? ⟨g, m, none⟩ = some (.int .i64 ((byEnd (endT xs) k).getD m 0 : Nat))) := fun m hm => (HW.out.cell (p := ⟨g, m, none⟩) ngg).trans (HCG.out m hm)
              have HN1 : Hid (∀ m u, (kflat ((ofN (byEnd (endT xs) k)).take j))[m]? = some u → (wr.alloc (.cells #[] 3)).drew.cell? ((⟨g, 0, none⟩ : Addr).add m) = some u) := by
                refine kflat_cells (off := 0) ?_
                intro m hm
                have hmj : m < j := by rw [List.length_take] at hm; omega
                rw [Nat.zero_add]
                have e1 : ((ofN (byEnd (endT xs) k)).take j).getD m 0 = ((byEnd (endT xs) k).getD m 0 : Nat) := by
                  rw [← ofN_get (by rw [hbe.out]; omega)]
                  simp [List.getD_eq_getElem?_getD, hmj]
                rw [e1]
                show World.cell? _ _ = _
                exact ((((Below.refl wr.heap.size wr).alloc (Nat.le_refl _) (.cells #[] 3)).drew).cell (p := ⟨g, m, none⟩) (by show g < wr.heap.size; omega)).trans (HGW.out m (by omega))
              have HL1 : Hid (((ofN (byEnd (endT xs) k)).take j).length = j) := by show _ = _; rw [List.length_take, ofN, List.length_map, hbe.out]; omega
              go_wp2_with fail
              go_big_region
              go_wp2_with (at_builtin; refine wpList_append_own _ rfl _ _ 42 rfl wr.heap.size 3 i0 (.int .i64 0) 1 8 Try.underlying42 hi hz0 hz1 hz2 rfl (by decide) _ 0 [] rfl HY.out.drew ⟨g, 0, none⟩ j capg (kflat ((ofN (byEnd (endT xs) k)).take j)) rfl (by rw [length_kflat, HL1.out, Nat.mul_one]) HN1.out (kflat_one _) (by unfold maxLen; omega) (by omega) (by simp) ?_)
              intro v1 w1 hown1 hgr1 hnil1
              have O1 : Hid (w1.ownsRow wr.heap.size 3 1 v1 j (kflat ((ofN (byEnd (endT xs) k)).take j))) := by
                first | exact hown1 | (have := hown1; rw [Nat.zero_add, List.nil_append] at this; exact this)
              have L1 : Hid (Below wr.heap.size wr w1) := (((Below.refl wr.heap.size wr).alloc (Nat.le_refl _) (.cells #[] 3)).drew).grown hgr1 (by simp) (by intro m hm; simp [Value.ownBlock] at hm; omega)
              have hs1 := L1.out.size
              obtain ⟨b1, c1', rfl⟩ : ∃ b c, v1 = .slice (some ⟨b, 0, none⟩) j c := by
                rcases O1.out.2 with ⟨h, h'⟩ | ⟨b, c, _, h, _⟩
                · first | exact (hnil1 h).elim | exact absurd (hnil1.1 h).1 (by simp)
                · exact ⟨b, c, h⟩
              clear hown1 hgr1 hnil1
              go_wp2_with (at_builtin; refine wpList_append_own _ rfl _ _ 42 rfl wr.heap.size 3 i0 (.int .i64 0) 1 8 Try.underlying42 hi hz0 hz1 hz2 rfl (by decide) _ _ _ rfl (O1.out.alloc _) ⟨w1.heap.size, 0, none⟩ 1 1 (kflat [(k : Int)]) rfl rfl (one_at_new rfl) (kflat_one _) (by unfold maxLen; omega) (by omega) (by simp; omega) ?_)
              intro v2 w2 hown2 hgr2 hnil2
              have O2 : Hid (w2.ownsRow wr.heap.size 3 1 v2 (j + 1) (kflat ((ofN (byEnd (endT xs) k)).take j ++ [(k : Int)]))) := by
                show World.ownsRow _ _ _ _ _ _ _
                rw [kflat_append]
                exact hown2
              have L2 : Hid (Below wr.heap.size wr w2) := grown_below L1.out hs1 hgr2 (owns_base O1.out) (Nat.le_refl _)
              have hs2 := L2.out.size
              obtain ⟨b2, c2', rfl⟩ : ∃ b c, v2 = .slice (some ⟨b, 0, none⟩) (j + 1) c := by
                rcases O2.out.2 with ⟨h, h'⟩ | ⟨b, c, _, h, _⟩
                · omega
                · exact ⟨b, c, h⟩
              clear hown2 hgr2 hnil2
              have HN3 : Hid (∀ m u, (kflat ((ofN (byEnd (endT xs) k)).drop j))[m]? = some u → w2.cell? ((⟨g, j, none⟩ : Addr).add m) = some u) := by
                refine kflat_cells (off := j) ?_
                intro m hm
                have hmj : j + m < k := by rw [List.length_drop, ofN, List.length_map, hbe.out] at hm; omega
                have e1 : ((ofN (byEnd (endT xs) k)).drop j).getD m 0 = ((byEnd (endT xs) k).getD (j + m) 0 : Nat) := by
                  rw [← ofN_get (by rw [hbe.out]; omega)]
                  simp [List.getD_eq_getElem?_getD, List.getElem?_drop]
                rw [e1]
                exact (L2.out.cell (p := ⟨g, j + m, none⟩) (by show g < wr.heap.size; omega)).trans (HGW.out (j + m) hmj)
              have HL3 : Hid (((ofN (byEnd (endT xs) k)).drop j).length = k - j) := by show _ = _; rw [List.length_drop, ofN, List.length_map, hbe.out]
              go_wp2_with (at_builtin; refine wpList_append_own _ rfl _ _ 42 rfl wr.heap.size 3 i0 (.int .i64 0) 1 8 Try.underlying42 hi hz0 hz1 hz2 rfl (by decide) _ _ _ rfl O2.out ⟨g, j, none⟩ (k - j) (capg - j) (kflat ((ofN (byEnd (endT xs) k)).drop j)) rfl (by rw [length_kflat, HL3.out, Nat.mul_one]) HN3.out (kflat_one _) (by unfold maxLen; omega) (by omega) (by omega) ?_)
              intro v3 w3 hown3 hgr3 _
              have O3 : Hid (w3.ownsRow w.heap.size 3 1 v3 (k + 1) (kflat (ofN (byEnd (endT xs) (k + 1))))) := by
                show World.ownsRow _ _ _ _ _ _ _
                rw [ofN_succ (endT xs) k j HPl.out, kflat_append]
                refine owns_mono5 (base := wr.heap.size) ?_ (by omega)
                have hnn : k + 1 = j + 1 + (k - j) := by omega
                rw [hnn]
                exact hown3
              have B3 : Hid (Below w.heap.size w w3) := by
                refine (HB.out.trans (HW.out.mono (by omega))).trans ((L2.out.mono (by omega)).trans ?_)
                exact (Below.refl w.heap.size w2).grown hgr3 (by omega) (fun m hm => by have := owns_base O2.out m hm; omega)
              clear hown3 hgr3
              go_wp2
              go_roundw
              case rel => exact ⟨k + 1, by omega, by go_num, O3.out, fun h => absurd h (by omega), B3.out⟩
              case measure => simp [intOf]; omega
    · obtain rfl : k = xs.length := by omega
      go_wp2
      go_ret
      exact ⟨_, rfl, KOwn.of_owns HRow.out (by rw [ofN, List.length_map, byEndL, byEnd_len]; omega), HB.out⟩
end Go.Proofs.Ytpkngcamaahhdab
