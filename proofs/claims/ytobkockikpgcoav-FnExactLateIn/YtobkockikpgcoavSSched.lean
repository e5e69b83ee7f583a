/-
  spec.l4Schedule: whether slots are a schedule of jobs. Nothing old is written.
-/
import Derived.Test.YtobkockikpgcoavSAllJ
namespace Go.Proofs.Ytobkockikpgcoav
open Go.RowKit

/-- What each has had, when t slots are over. -/
def hadS (n : Nat) (s : Nat → Int) (t : Nat) : List Int := (List.range n).map fun j => cS s j t
theorem length_hadS (n : Nat) (s : Nat → Int) (t : Nat) : (hadS n s t).length = n := by simp [hadS]
theorem hadS_get (n : Nat) (s : Nat → Int) (t j : Nat) (h : j < n) : (hadS n s t).getD j 0 = cS s j t := by simp [hadS, List.getD_eq_getElem?_getD, h]
theorem hadS_zero (n : Nat) (s : Nat → Int) : hadS n s 0 = List.replicate n 0 := by
  apply List.ext_getElem
  · simp [hadS]
  · intro i h1 h2
    simp [hadS, cS]
theorem hadS_none {n : Nat} {s : Nat → Int} {t : Nat} (h : s t < 0) : hadS n s (t + 1) = hadS n s t := by
  unfold hadS
  apply List.map_congr_left
  intro j _
  show cS _ j t + _ = _
  rw [if_neg (by omega)]
  omega
theorem hadS_set {n : Nat} {s : Nat → Int} {t k : Nat} (h : s t = (k : Int)) : hadS n s (t + 1) = (hadS n s t).set k (cS s k t + 1) := by
  apply List.ext_getElem
  · simp [hadS]
  · intro j h1 h2
    rw [List.getElem_set]
    simp only [hadS, List.getElem_map, List.getElem_range]
    show cS _ j t + _ = _
    by_cases e : k = j
    · subst e; rw [if_pos h, if_pos rfl]
    · rw [if_neg e, h, if_neg (by omega)]; omega

set_option maxRecDepth 100000 in
set_option maxHeartbeats 8000000 in
theorem l4Schedule_eq (v vs : Value) (xs : List JbEl) (ss : List Int) (t0 : Bool) (ht0 : (goodS xs.length ss && schedB xs ss) = t0) (w : World) (hr : JbReads w v xs) (hs : KReads w vs ss) (hlen : xs.length ≤ 8) :
    Calls Try.prog 32 #[v, vs] w fun e w' => e = .returned (.bool t0) ∧ Below w.heap.size w w' := by
  have HR := hid hr
  have HSR := hid hs
  have HT := hid ht0
  obtain ⟨a, cap, rfl, _, _⟩ := hr
  clear ht0
  by_cases h24 : ss.length = 24
  rotate_left
  · obtain ⟨a2, cap2, rfl, _, _⟩ := hs
    have hv : Hid (t0 = false) := by show _ = _; rw [← HT.out]; unfold goodS; rw [decide_eq_false h24]; rfl
    have hd : ((ss.length : Int) != 24) = true := by rw [bne_iff_ne]; omega
    clear h24
    go_enter Try.func32, Try.ntmps32
    go_wp2
    go_ret
    exact ⟨by rw [hv.out]; rfl, Below.refl _ _⟩
  obtain ⟨gs, os, caps, rfl, _, hcs⟩ := kcells_at hs (by omega)
  have hall : (ss.all fun k => decide (-1 ≤ k ∧ k ≤ (xs.length : Int) - 1)) = goodS xs.length ss := by unfold goodS; rw [decide_eq_true h24, Bool.true_and]
  have hl1 : ss.length ≤ 1000 := by omega
  rw [h24] at HSR hcs ⊢
  have HC := hid hcs
  have hw1 : IntKind.i64.wrap ((xs.length : Int) - 1) = (xs.length : Int) - 1 := by rw [IntKind.wrap_i64]; omega
  cases hg : goodS xs.length ss with
  | false =>
    have hv : Hid (t0 = false) := by show _ = _; rw [← HT.out, hg]; rfl
    have HA : Hid ((ss.all fun k => decide (-1 ≤ k ∧ k ≤ (xs.length : Int) - 1)) = false) := hall.trans hg
    clear hg hs hcs h24 hall
    go_enter Try.func32, Try.ntmps32
    go_wp2_with fail
    refine (l1AllJ_eq _ ss (-1) ((xs.length : Int) - 1) false HA.out _ HSR.out hl1).mono ?_
    rintro e w' ⟨rfl, hw⟩; obtain rfl := hw.symm
    go_wp2
    go_ret
    exact ⟨by rw [hv.out]; rfl, Below.refl _ _⟩
  | true =>
    have HTS : Hid (schedU xs ss 24 = t0) := by show _ = _; rw [← HT.out, hg]; rfl
    have HA : Hid ((ss.all fun k => decide (-1 ≤ k ∧ k ≤ (xs.length : Int) - 1)) = true) := hall.trans hg
    have HGS := hid hg
    obtain ⟨i0, hi, hz0, hz1, hz2⟩ := info_parts info_int
    clear hg hs hcs h24 hall HT
    go_enter Try.func32, Try.ntmps32
    go_wp2_with fail
    refine (l1AllJ_eq _ ss (-1) ((xs.length : Int) - 1) true HA.out _ HSR.out hl1).mono ?_
    rintro e w' ⟨rfl, hw⟩; obtain rfl := hw.symm
    go_wp2_with (at_make; refine wpList_make_row _ rfl _ _ 24 rfl 3 i0 (.int .i64 0) Try.underlying24 hi hz0 hz1 rfl .i64 .i64 xs.length rfl rfl (by rw [hz2]; omega) (by omega) ?_)
    have O0 : Hid (KOwn w.heap.size (w.heap.size + 1) (w.alloc (.cells (madeCells #[.int .i64 0] xs.length) 3)) (.slice (some ⟨w.heap.size, 0, none⟩) xs.length xs.length) (hadS xs.length (sl ss) 0)) := by
      have := KOwn.of_row (Own.made w xs.length (by omega))
      rw [World.size_alloc] at this
      show KOwn _ _ _ _ _
      rw [hadS_zero]
      exact this
    go_loopw [24] (fun i wr => ∃ t : Nat, t ≤ 24 ∧ i = .int .i64 t ∧ schedU xs ss t = true ∧ KOwn w.heap.size (w.heap.size + 1) wr (.slice (some ⟨w.heap.size, 0, none⟩) xs.length xs.length) (hadS xs.length (sl ss) t) ∧ (w.heap.size + 1 ≤ wr.heap.size ∧ Below w.heap.size w wr)) (fun i _ => 24 - (intOf i).toNat)
    case atStart => exact ⟨0, by omega, rfl, rfl, O0.out, by simp, (Below.refl _ _).alloc (Nat.le_refl _) _⟩
    case round =>
      obtain ⟨t, ht, rfl, hok, hhad, hsz, hbel⟩ := hrel
      have HO := hid hok
      have HH := hid hhad
      have HB := hid hbel
      clear hok hhad hbel O0 hi hz0 hz1 hz2
      by_cases hlt : t < 24
      · have hrg := goodS_at HGS.out t hlt
        obtain ⟨s, hsl⟩ : ∃ s, s = sl ss t := ⟨_, rfl⟩
        have hcell : wr.cell? ⟨gs, os + t, none⟩ = some (.int .i64 s) := by
          have := HC.out t (by omega)
          rw [← hsl] at this
          exact (HB.out.cell (p := ⟨gs, os + t, none⟩) (lt_of_cell this)).trans this
        rw [← hsl] at hrg
        have n0 : (0 : Int) ≤ (t : Int) := by omega
        have n1 : (t : Int) < 24 := by omega
        by_cases h0 : s < 0
        · have HV : Hid (schedU xs ss (t + 1) = true) := by show _ = _; rw [schedU_succ, HO.out]; unfold slotOk; rw [← hsl]; simp [h0]
          have HHn : Hid (KOwn w.heap.size (w.heap.size + 1) wr (.slice (some ⟨w.heap.size, 0, none⟩) xs.length xs.length) (hadS xs.length (sl ss) (t + 1))) := by
            show KOwn _ _ _ _ _
            rw [hadS_none (by rw [← hsl]; exact h0)]
            exact HH.out
          clear hsl
          go_wp2
          go_roundw
          case rel => exact ⟨t + 1, by omega, by go_num, HV.out, HHn.out, hsz, HB.out⟩
          case measure => simp [intOf]; omega
        · obtain ⟨k, rfl⟩ : ∃ k : Nat, s = (k : Int) := ⟨s.toNat, by omega⟩
          have hk : k < xs.length := by omega
          obtain ⟨g, o, cap', e, hc⟩ := (HR.out.below HB.out).cells k hk
          cases e
          obtain ⟨p, hp⟩ : ∃ p, p = (xs.getD k (0, 0, 0)).1 := ⟨_, rfl⟩
          obtain ⟨q, hq⟩ : ∃ q, q = (xs.getD k (0, 0, 0)).2.1 := ⟨_, rfl⟩
          obtain ⟨c0, c1, _⟩ := hc k hk
          rw [← hp] at c0
          rw [← hq] at c1
          have hlh := length_hadS xs.length (sl ss) t
          obtain ⟨h, hh⟩ : ∃ h, h = cS (sl ss) k t := ⟨_, rfl⟩
          have hset := KOwn.set (xs := hadS xs.length (sl ss) t) (by rw [hlh]; exact HH.out) k (h + 1) (by omega)
          rw [hh, ← hadS_set hsl.symm, ← hh, hlh, hadS_get _ _ t k hk, ← hh] at hset
          obtain ⟨hown2, _, f0, d0⟩ := hset
          have hhb : 0 ≤ h ∧ h ≤ t := by have := cS_nonneg (sl ss) k t; have := cS_le (sl ss) k t; omega
          have hw2 : IntKind.i64.wrap (h + 1) = h + 1 := by rw [IntKind.wrap_i64]; omega
          replace f0 : wr.frozen? ⟨w.heap.size, k, none⟩ = false := f0
          replace d0 : wr.cell? ⟨w.heap.size, k, none⟩ = some (.int .i64 h) := d0
          have HSK : Hid (slotOk xs ss t = (decide (p ≤ (t : Int)) && decide (h < q))) := by
            show _ = _
            unfold slotOk
            rw [← hsl, Int.toNat_natCast, ← hp, ← hq, ← hh, decide_eq_false (p := (k : Int) < 0) (by omega), Bool.false_or]
          have k0 : (0 : Int) ≤ (k : Int) := by omega
          have k1 : (k : Int) < (xs.length : Int) := by omega
          have hcw : w.heap.size < wr.heap.size := by omega
          have hgw : g < w.heap.size := by
            obtain ⟨g2, o2, cap2, e2, hc2⟩ := HR.out.cells k hk
            cases e2
            exact (hc2 k hk).lt
          have hne : g ≠ w.heap.size := by omega
          obtain ⟨W, hW⟩ : ∃ W, W = wr.setCell ⟨w.heap.size, k, none⟩ (.int .i64 (h + 1)) := ⟨_, rfl⟩
          have HBn : Hid (Below w.heap.size w W) := by rw [hW]; exact HB.out.setCell (p := ⟨w.heap.size, k, none⟩) (Nat.le_refl _) _
          have hd0 : W.cell? ⟨w.heap.size, k, none⟩ = some (.int .i64 (h + 1)) := by rw [hW]; exact World.cell?_setCell_same _ _ _ d0
          have hc0 : W.cell? ⟨g, o + k * 3, none⟩ = some (.int .i64 p) := by rw [hW]; exact (World.cell?_setCell_other _ _ _ _ (by simp <;> omega)).trans c0
          have hc1 : W.cell? ⟨g, o + k * 3 + 1, none⟩ = some (.int .i64 q) := by rw [hW]; exact (World.cell?_setCell_other _ _ _ _ (by simp <;> omega)).trans c1
          have hszn : w.heap.size + 1 ≤ W.heap.size := by rw [hW]; simpa using hsz
          rw [← hW] at hown2
          have HSt := hid hown2
          have HWW := hid hW
          clear hW c0 c1 hne hgw
          have HNO : Hid (slotOk xs ss t = false → t0 = false) := fun e => by rw [← HTS.out]; exact schedU_no hlt e
          clear hown2 hp hq hh hsl hlh hc hrg h0
          by_cases h1 : p ≤ (t : Int)
          rotate_left
          · have hv := hid (HNO.out (by rw [HSK.out, decide_eq_false h1]; rfl))
            have e1 : (t : Int) < p := by omega
            clear HSK h1
            go_wp2_with fail
            rw [← HWW.out]
            clear d0 f0 hcell
            go_big_region
            all_goals go_wp2
            all_goals go_ret
            all_goals exact ⟨by rw [hv.out]; rfl, HBn.out.drew⟩
          by_cases h2 : h < q
          · have HV : Hid (schedU xs ss (t + 1) = true) := by show _ = _; rw [schedU_succ, HO.out, HSK.out, decide_eq_true h1, decide_eq_true h2]; rfl
            have e2 : decide (q < h + 1) = false := by simp; omega
            have e1 : decide ((t : Int) < p) = false := by simp; omega
            clear HSK h2
            go_wp2_with fail
            rw [← HWW.out]
            clear d0 f0 hcell
            go_big_region
            all_goals go_wp2
            all_goals go_roundw
            case rel => exact ⟨t + 1, by omega, by go_num, HV.out, HSt.out, hszn, HBn.out.drew⟩
            case measure => simp [intOf]; omega
          · have hv := hid (HNO.out (by rw [HSK.out, decide_eq_false h2]; simp))
            have e2 : decide (q < h + 1) = true := by simp; omega
            have e1 : decide ((t : Int) < p) = false := by simp; omega
            clear HSK h2
            go_wp2_with fail
            rw [← HWW.out]
            clear d0 f0 hcell
            go_big_region
            all_goals go_wp2
            all_goals go_ret
            all_goals exact ⟨by rw [hv.out]; rfl, HBn.out.drew⟩
      · obtain rfl : t = 24 := by omega
        have hv : Hid (t0 = true) := HTS.out.symm.trans HO.out
        go_wp2
        go_ret
        exact ⟨by rw [hv.out]; rfl, HB.out⟩
end Go.Proofs.Ytobkockikpgcoav
