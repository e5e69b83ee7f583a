/-
  spec.l4Earliest: slot by slot the job of the nearest end, in memory of its own. Nothing old is written.
-/
import Derived.Test.YtobkockikpgcoabEdfMath
import Derived.Test.YtobkockikpgcoabKIntRows
import Derived.Test.YtobkockikpgcoabOwnsSame
import Derived.Maps.AppendAt
import Derived.RangeFuncBox
namespace Go.Proofs.Ytobkockikpgcoab
open Go.RowKit

/-- What each has had, when t slots are over. -/
def hadA (xs : List JbEl) (t : Nat) : List Int := (List.range xs.length).map fun j => cS (slotA xs) j t
theorem length_hadA (xs : List JbEl) (t : Nat) : (hadA xs t).length = xs.length := by simp [hadA]
theorem hadA_get (xs : List JbEl) (t j : Nat) (h : j < xs.length) : (hadA xs t).getD j 0 = cS (slotA xs) j t := by simp [hadA, List.getD_eq_getElem?_getD, h]
theorem hadA_zero (xs : List JbEl) : hadA xs 0 = List.replicate xs.length 0 := by
  apply List.ext_getElem
  · simp [hadA]
  · intro i h1 h2
    simp [hadA, cS]
theorem hadA_none {xs : List JbEl} {t : Nat} (h : slotA xs t = -1) : hadA xs (t + 1) = hadA xs t := by
  unfold hadA
  apply List.map_congr_left
  intro j _
  show cS _ j t + _ = _
  rw [h, if_neg (by omega)]
  omega
theorem hadA_set {xs : List JbEl} {t k : Nat} (h : slotA xs t = (k : Int)) : hadA xs (t + 1) = (hadA xs t).set k (cS (slotA xs) k t + 1) := by
  apply List.ext_getElem
  · simp [hadA]
  · intro j h1 h2
    have hj : j < xs.length := by simpa [hadA] using h1
    rw [List.getElem_set]
    simp only [hadA, List.getElem_map, List.getElem_range]
    show cS _ j t + _ = _
    by_cases e : k = j
    · subst e; rw [if_pos h, if_pos rfl]
    · rw [if_neg e, h, if_neg (by omega)]; omega
theorem near_had {xs : List JbEl} (hg : goodJ xs = true) (t k : Nat) (hk : k < xs.length) (p q r m h : Int) (hm : nearU (leftA xs t) t k = m) (hp : p = (xs.getD k (0, 0, 0)).1) (hq : q = (xs.getD k (0, 0, 0)).2.1) (hr : r = (xs.getD k (0, 0, 0)).2.2) (hh : h = cS (slotA xs) k t) :
    nearU (leftA xs t) t (k + 1) = if ((decide (p ≤ (t : Int)) && decide (h < q)) && (decide (m < 0) || decide (r < (xs.getD m.toNat (0, 0, 0)).2.2))) = true then (k : Int) else m := by
  have hc := cS_le_need hg t k hk
  have hrg := nearU_range (leftA xs t) t k
  subst hm hp hq hr hh
  show (if (canHave _ ((leftA xs t).getD k (0, 0, 0)) && (_ || decide (((leftA xs t).getD k (0, 0, 0)).2.2 < ((leftA xs t).getD (nearU (leftA xs t) t k).toNat (0, 0, 0)).2.2))) = true then _ else _) = _
  have e : decide ((xs.getD k (0, 0, 0)).2.1 - cS (slotA xs) k t ≠ 0) = decide (cS (slotA xs) k t < (xs.getD k (0, 0, 0)).2.1) := by
    rw [decide_eq_decide]
    omega
  rw [leftA_get xs t k hk]
  unfold canHave
  show (if ((_ && decide ((xs.getD k (0, 0, 0)).2.1 - cS (slotA xs) k t ≠ 0)) && _) = true then _ else _) = _
  rw [e]
  by_cases h0 : nearU (leftA xs t) t k < 0
  · simp only [decide_eq_true (p := nearU (leftA xs t) t k < 0) h0, Bool.true_or]
  · rw [leftA_get xs t _ (by omega)]

set_option maxRecDepth 100000 in
set_option maxHeartbeats 8000000 in
theorem searl_any (v : Value) (xs : List JbEl) (w : World) (hr : JbReads w v xs) (hg : goodJ xs = true) :
    Calls Try.prog 39 #[v] w fun e w' => ∃ u, e = .returned u ∧ KOwn w.heap.size w'.heap.size w' u (earl xs 24) ∧ Below w.heap.size w w' := by
  have HR := hid hr
  have HG := hid hg
  have hlen := goodJ_len hg
  obtain ⟨a, cap, rfl, _, _⟩ := hr
  obtain ⟨i0, hi, hz0, hz1, hz2⟩ := info_parts info_int
  clear hg
  go_enter Try.func39, Try.ntmps39
  go_wp2_with (at_make; refine wpList_make_row _ rfl _ _ 46 rfl 3 i0 (.int .i64 0) Try.underlying46 hi hz0 hz1 rfl .i64 .i64 xs.length rfl rfl (by rw [hz2]; omega) (by omega) ?_)
  have O0 : Hid (KOwn w.heap.size (w.heap.size + 1) (w.alloc (.cells (madeCells #[.int .i64 0] xs.length) 3)) (.slice (some ⟨w.heap.size, 0, none⟩) xs.length xs.length) (hadA xs 0)) := by
    have := KOwn.of_row (Own.made w xs.length (by omega))
    rw [World.size_alloc] at this
    show KOwn _ _ _ _ _
    rw [hadA_zero]
    exact this
  go_loopw [4, 5] (fun o i wr => ∃ t : Nat, t ≤ 24 ∧ i = .int .i64 t ∧ wr.ownsRow (w.heap.size + 1) 3 1 o t (kflat (earl xs t)) ∧ KOwn w.heap.size (w.heap.size + 1) wr (.slice (some ⟨w.heap.size, 0, none⟩) xs.length xs.length) (hadA xs t) ∧ (w.heap.size + 1 ≤ wr.heap.size ∧ Below w.heap.size w wr)) (fun _ i _ => 24 - (intOf i).toNat)
  case atStart => exact ⟨0, by omega, rfl, World.ownsRow_nil _ _ _ _, O0.out, by simp, (Below.refl _ _).alloc (Nat.le_refl _) _⟩
  case round =>
    obtain ⟨t, ht, rfl, hrow, hhad, hsz, hbel⟩ := hrel
    have HRow := hid hrow
    have HH := hid hhad
    have HB := hid hbel
    clear hrow hhad hbel O0
    by_cases hlt : t < 24
    · have hdf : decide ((t : Int) < 24) = true := by simp; omega
      obtain ⟨wo, hwo⟩ : ∃ wo, wo = wr := ⟨_, rfl⟩
      subst hwo
      go_wp2
      go_loopw [6, 18] (fun m i wz => ∃ k : Nat, k ≤ xs.length ∧ i = .int .i64 k ∧ m = .int .i64 (nearU (leftA xs t) t k) ∧ Below wo.heap.size wo wz) (fun _ i _ => xs.length - (intOf i).toNat)
      case atStart => exact ⟨0, Nat.zero_le _, rfl, rfl, Below.refl _ _⟩
      case round =>
        obtain ⟨k, hk, rfl, rfl, hbz⟩ := hrel
        have HZ := hid hbz
        have hszz := hbz.size
        clear hbz
        by_cases hlk : k < xs.length
        · obtain ⟨g, o, cap', e, hc⟩ := ((HR.out.below HB.out).below HZ.out).cells k hlk
          cases e
          obtain ⟨p, hp⟩ : ∃ p, p = (xs.getD k (0, 0, 0)).1 := ⟨_, rfl⟩
          obtain ⟨q, hq⟩ : ∃ q, q = (xs.getD k (0, 0, 0)).2.1 := ⟨_, rfl⟩
          obtain ⟨r, hr⟩ : ∃ r, r = (xs.getD k (0, 0, 0)).2.2 := ⟨_, rfl⟩
          obtain ⟨h, hh⟩ : ∃ h, h = cS (slotA xs) k t := ⟨_, rfl⟩
          obtain ⟨c0, c1, c2⟩ := hc k hlk
          rw [← hp] at c0
          rw [← hq] at c1
          rw [← hr] at c2
          have hrg := nearU_range (leftA xs t) t k
          obtain ⟨m, hm⟩ : ∃ m, nearU (leftA xs t) t k = m := ⟨_, rfl⟩
          have HS := hid (near_had HG.out t k hlk p q r m h hm hp hq hr hh)
          rw [hm] at hrg ⊢
          have hcell : wr.cell? ⟨w.heap.size, k, none⟩ = some (.int .i64 h) := by
            obtain ⟨_, hx⟩ := HH.out.keep HZ.out hsz
            rcases hx with ⟨_, _, _, hx⟩ | ⟨g', cap2, e, _, hx⟩
            · have := length_hadA xs t; rw [hx] at this; simp at this; omega
            · have eg : w.heap.size = g' := by have := congrArg Value.ownBlock e; simpa [Value.ownBlock] using this
              subst eg
              have := (hx k (by rw [length_hadA]; exact hlk)).1
              rw [hadA_get xs t k hlk, ← hh] at this
              exact this
          have HC := hid hc
          have n0 : (0 : Int) ≤ (k : Int) := by omega
          have n1 : (k : Int) < (xs.length : Int) := by omega
          have hgw : g < wr.heap.size := lt_of_cell c0
          have hcw : w.heap.size < wr.heap.size := by omega
          clear hc hp hq hr hm hh
          by_cases h1 : p ≤ (t : Int)
          rotate_left
          · have HV : Hid (nearU (leftA xs t) t (k + 1) = m) := by show _ = _; rw [HS.out, decide_eq_false h1]; simp
            have d1 : decide (p ≤ (t : Int)) = false := decide_eq_false h1
            have d1' : (t : Int) < p := by omega
            clear HS HC h1
            go_wp2_with fail
            go_region
            all_goals go_wp2
            all_goals go_roundw
            case rel => exact ⟨k + 1, by omega, by go_num, by rw [HV.out], (HZ.out.alloc HZ.out.size _).drew⟩
            case measure => simp [intOf]; omega
          by_cases h2 : h < q
          rotate_left
          · have HV : Hid (nearU (leftA xs t) t (k + 1) = m) := by show _ = _; rw [HS.out, decide_eq_false h2]; simp
            have d2 : decide (h < q) = false := decide_eq_false h2
            have d2' : q ≤ h := by omega
            clear HS HC h2
            go_wp2_with fail
            go_region
            all_goals go_wp2
            all_goals go_roundw
            case rel => exact ⟨k + 1, by omega, by go_num, by rw [HV.out], (HZ.out.alloc HZ.out.size _).drew⟩
            case measure => simp [intOf]; omega
          have HS2 : Hid (nearU (leftA xs t) t (k + 1) = if ((decide (m < 0) || decide (r < (xs.getD m.toNat (0, 0, 0)).2.2))) = true then (k : Int) else m) := by
            show _ = _
            rw [HS.out, decide_eq_true h1, decide_eq_true h2, Bool.true_and, Bool.true_and]
          clear HS
          by_cases h3 : m = -1
          · have HV : Hid (nearU (leftA xs t) t (k + 1) = k) := by show _ = _; rw [HS2.out, h3]; rfl
            clear HS2 HC
            subst h3
            go_wp2_with fail
            go_region
            all_goals go_wp2
            all_goals go_roundw
            case rel => exact ⟨k + 1, by omega, by go_num, by rw [HV.out], (HZ.out.alloc HZ.out.size _).drew⟩
            case measure => simp [intOf]; omega
          obtain ⟨j, rfl⟩ : ∃ j : Nat, m = (j : Int) := ⟨m.toNat, by omega⟩
          have hjl : j < xs.length := by omega
          obtain ⟨s, hs⟩ : ∃ s, s = (xs.getD j (0, 0, 0)).2.2 := ⟨_, rfl⟩
          obtain ⟨_, _, d2⟩ := HC.out j hjl
          rw [← hs] at d2
          have e3 : decide ((j : Int) < 0) = false := by simp
          have m0 : (0 : Int) ≤ (j : Int) := by omega
          have m1 : (j : Int) < (xs.length : Int) := by omega
          have HS3 : Hid (nearU (leftA xs t) t (k + 1) = if r < s then (k : Int) else j) := by
            show _ = _
            rw [HS2.out, Int.toNat_natCast, ← hs, e3, Bool.false_or]
            simp
          clear HS2 HC hs hrg h3
          by_cases h4 : r < s
          · have HV : Hid (nearU (leftA xs t) t (k + 1) = k) := by show _ = _; rw [HS3.out, if_pos h4]
            clear HS3
            go_wp2_with fail
            go_region
            all_goals go_wp2
            all_goals go_roundw
            case rel => exact ⟨k + 1, by omega, by go_num, by rw [HV.out], (HZ.out.alloc HZ.out.size _).drew⟩
            case measure => simp [intOf]; omega
          · have HV : Hid (nearU (leftA xs t) t (k + 1) = j) := by show _ = _; rw [HS3.out, if_neg h4]
            clear HS3
            go_wp2_with fail
            go_region
            all_goals go_wp2
            all_goals go_roundw
            case rel => exact ⟨k + 1, by omega, by go_num, by rw [HV.out], (HZ.out.alloc HZ.out.size _).drew⟩
            case measure => simp [intOf]; omega
        · obtain rfl : k = xs.length := by omega
          have hrg := slotA_range xs t
          obtain ⟨b, hb⟩ : ∃ b, slotA xs t = b := ⟨_, rfl⟩
          have HSl := hid hb
          have hb' : nearU (leftA xs t) t xs.length = b := by rw [← hb]; unfold slotA near; rw [length_leftA]
          rw [hb'] 
          rw [hb] at hrg
          have HB2 : Hid (Below w.heap.size w wr) := HB.out.trans (HZ.out.mono (by omega))
          have HR2 : Hid (wr.ownsRow (w.heap.size + 1) 3 1 u4 t (kflat (earl xs t))) := owns_same HRow.out (fun g _ _ hg => HZ.out.block g (Array.getElem?_eq_some_iff.1 hg).1)
          have HH2 := hid (HH.out.keep HZ.out hsz)
          clear hb hb' HZ HH HRow HB
          by_cases h0 : 0 ≤ b
          · obtain ⟨k, rfl⟩ : ∃ k : Nat, b = (k : Int) := ⟨b.toNat, by omega⟩
            have hk : k < xs.length := by omega
            have hlh := length_hadA xs t
            obtain ⟨h, hh⟩ : ∃ h, h = cS (slotA xs) k t := ⟨_, rfl⟩
            have hset := KOwn.set (xs := hadA xs t) (by rw [hlh]; exact HH2.out) k (h + 1) (by omega)
            rw [hh, ← hadA_set HSl.out, ← hh, hlh, hadA_get xs t k hk, ← hh] at hset
            obtain ⟨hown2, _, f0, c0⟩ := hset
            have HSt := hid hown2
            have hhb : 0 ≤ h ∧ h ≤ 6 := by
              have h1 := cS_le_need HG.out t k hk
              have h2 := cS_nonneg (slotA xs) k t
              have h3 := jobB_in (goodJ_at HG.out k hk)
              omega
            have hw1 : IntKind.i64.wrap (h + 1) = h + 1 := by rw [IntKind.wrap_i64]; omega
            replace f0 : wr.frozen? ⟨w.heap.size, k, none⟩ = false := f0
            replace c0 : wr.cell? ⟨w.heap.size, k, none⟩ = some (.int .i64 h) := c0
            have HR3 : Hid ((wr.setCell ⟨w.heap.size, k, none⟩ (.int .i64 (h + 1))).ownsRow (w.heap.size + 1) 3 1 u4 t (kflat (earl xs t))) := owns_set HR2.out (by show w.heap.size < _; omega) _
            have n0 : (0 : Int) ≤ (k : Int) := by omega
            have n1 : (k : Int) < (xs.length : Int) := by omega
            have hcw : w.heap.size < wr.heap.size := by omega
            clear hown2 hh hrg h0 hlh
            go_wp2_with (at_builtin; refine wpList_append_own _ rfl _ _ 46 rfl (w.heap.size + 1) 3 i0 (.int .i64 0) 1 8 Try.underlying46 hi hz0 hz1 hz2 rfl (by decide) _ _ _ rfl (HR3.out.alloc _) ⟨wr.heap.size, 0, none⟩ 1 1 [.int .i64 k] rfl rfl (one_at_new (by simp)) (by simp [Value.oneCell']) (by unfold maxLen; omega) (by omega) (by simp; omega) ?_; intro v' w1 hown' hgrow _)
            obtain ⟨g', cap', rfl⟩ := ownsRow_succ hown'
            have HRn : Hid (w1.ownsRow (w.heap.size + 1) 3 1 (.slice (some ⟨g', 0, none⟩) (t + 1) cap') (t + 1) (kflat (earl xs (t + 1)))) := by
              show World.ownsRow _ _ _ _ _ _ _
              rw [earl_succ, HSl.out, kflat_append]
              exact hown'
            have HBn : Hid (Below w.heap.size w w1) := grown_below (HB2.out.setCell (p := ⟨w.heap.size, k, none⟩) (Nat.le_refl _) _) (by first | omega | (simp; omega)) hgrow (owns_base HR3.out) (by omega)
            have HHn : Hid (KOwn w.heap.size (w.heap.size + 1) w1 (.slice (some ⟨w.heap.size, 0, none⟩) xs.length xs.length) (hadA xs (t + 1))) := by
              show KOwn _ _ _ _ _
              skip
              exact HSt.out.at (fun g h1 h2 h3 => grown_block hgrow (owns_base HR3.out) h2 h3)
            have hs1 : w.heap.size + 1 ≤ w1.heap.size := by have := hgrow.size; simp at this; omega
            clear hown' hgrow HR2 HH2
            go_wp2
            go_roundw
            case rel => exact ⟨t + 1, by omega, by go_num, HRn.out, HHn.out, hs1, HBn.out⟩
            case measure => simp [intOf]; omega
          · obtain rfl : b = -1 := by omega
            have HE := hid (hadA_none HSl.out)
            go_wp2_with (at_builtin; refine wpList_append_own _ rfl _ _ 46 rfl (w.heap.size + 1) 3 i0 (.int .i64 0) 1 8 Try.underlying46 hi hz0 hz1 hz2 rfl (by decide) _ _ _ rfl (HR2.out.alloc _) ⟨wr.heap.size, 0, none⟩ 1 1 [.int .i64 (-1)] rfl rfl (cell_one_new _ _ _) (by simp [Value.oneCell']) (by unfold maxLen; omega) (by omega) (by simp; omega) ?_; intro v' w1 hown' hgrow _)
            obtain ⟨g', cap', rfl⟩ := ownsRow_succ hown'
            have HRn : Hid (w1.ownsRow (w.heap.size + 1) 3 1 (.slice (some ⟨g', 0, none⟩) (t + 1) cap') (t + 1) (kflat (earl xs (t + 1)))) := by
              show World.ownsRow _ _ _ _ _ _ _
              rw [earl_succ, HSl.out, kflat_append]
              exact hown'
            have HBn : Hid (Below w.heap.size w w1) := grown_below (HB2.out) (by first | omega | (simp; omega)) hgrow (owns_base HR2.out) (by omega)
            have HHn : Hid (KOwn w.heap.size (w.heap.size + 1) w1 (.slice (some ⟨w.heap.size, 0, none⟩) xs.length xs.length) (hadA xs (t + 1))) := by
              show KOwn _ _ _ _ _
              rw [HE.out]
              exact HH2.out.at (fun g h1 h2 h3 => grown_block hgrow (owns_base HR2.out) h2 h3)
            have hs1 : w.heap.size + 1 ≤ w1.heap.size := by have := hgrow.size; simp at this; omega
            clear hown' hgrow HR2 HH2
            go_wp2
            go_roundw
            case rel => exact ⟨t + 1, by omega, by go_num, HRn.out, HHn.out, hs1, HBn.out⟩
            case measure => simp [intOf]; omega
    · obtain rfl : t = 24 := by omega
      go_wp2
      go_ret
      exact ⟨_, rfl, (KOwn.of_owns HRow.out (by rw [length_earl]; omega)).mono (by omega) (Nat.le_refl _), HB.out⟩
end Go.Proofs.Ytobkockikpgcoab
