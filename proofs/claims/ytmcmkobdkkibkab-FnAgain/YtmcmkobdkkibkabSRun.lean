/-
  spec.l6Run: the run of tasks that come again, slot by slot, in memory of its own. Nothing old is written.
-/
import Derived.Test.YtmcmkobdkkibkabKOne
import Derived.Test.YtmcmkobdkkibkabRunMath
import Derived.Lib.SlFresh
namespace Go.Proofs.Ytmcmkobdkkibkab
open Go.RowKit

set_option maxRecDepth 100000 in
set_option maxHeartbeats 16000000 in
theorem srun_any (v : Value) (xs : List AgEl) (long : Nat) (w : World) (hr : AgReads w v xs) (hg : goodA xs = true) (hl : long ≤ 200) :
    Calls Try.prog 93 #[v, .int .i64 (long : Nat)] w fun e w' => ∃ u, e = .returned u ∧ KOwn w.heap.size w'.heap.size w' u (runL xs long) ∧ Below w.heap.size w w' := by
  have HR := hid hr
  have HG := hid hg
  have hlen := goodA_len hg
  obtain ⟨a, cap, rfl, _, _⟩ := hr
  obtain ⟨i0, hi, hz0, hz1, hz2⟩ := info_parts info_int
  clear hg
  go_enter Try.func93, Try.ntmps93
  go_wp2_with (at_make; refine wpList_make_row _ rfl _ _ 42 rfl 3 i0 (.int .i64 0) Try.underlying42 hi hz0 hz1 rfl .i64 .i64 xs.length rfl rfl (by rw [hz2]; omega) (by omega) ?_)
  have O0 : Hid (IRow (w.alloc (.cells (madeCells #[.int .i64 0] xs.length) 3)) w.heap.size xs.length xs.length (lfA xs 0 0)) := by
    show IRow _ _ _ _ _
    rw [lfA_zero HG.out]
    exact IRow.made w _ (by omega)
  go_loopw [6, 7] (fun o tv wr => ∃ t : Nat, t ≤ long ∧ tv = .int .i64 t ∧ IRow wr w.heap.size xs.length xs.length (lfA xs t 0) ∧ wr.ownsRow (w.heap.size + 1) 3 1 o t (kflat (runL xs t)) ∧ Below w.heap.size w wr) (fun _ tv _ => long - (intOf tv).toNat)
  case atStart => exact ⟨0, Nat.zero_le _, rfl, O0.out, World.ownsRow_nil _ _ _ _, (Below.refl _ _).alloc (Nat.le_refl _) _⟩
  case round =>
    obtain ⟨t, ht, rfl, hrow, hout, hbel⟩ := hrel
    have HL := hid hrow
    have HO := hid hout
    have HB := hid hbel
    clear hrow hout hbel O0
    by_cases hlt : t < long
    · have dt : decide ((t : Int) < (long : Int)) = true := by simpa using hlt
      obtain ⟨wo, hwo⟩ : ∃ wo, wo = wr := ⟨_, rfl⟩
      subst hwo
      go_wp2
      go_loopw [8, 21] (fun bv kv wr => ∃ k : Nat, k ≤ xs.length ∧ kv = .int .i64 k ∧ bv = .int .i64 (pickU (needA xs) (everyA xs) (runL xs t) k) ∧ IRow wr w.heap.size xs.length xs.length (lfA xs t k) ∧ wr.ownsRow (w.heap.size + 1) 3 1 u6 t (kflat (runL xs t)) ∧ Below w.heap.size w wr) (fun _ kv _ => xs.length - (intOf kv).toNat)
      case atStart => exact ⟨0, Nat.zero_le _, rfl, rfl, HL.out, HO.out, HB.out⟩
      case round =>
        obtain ⟨k, hk, rfl, rfl, hrow, hout, hbel⟩ := hrel
        have HL2 := hid hrow
        have HO2 := hid hout
        have HB2 := hid hbel
        have hgw := hrow.caps.2.2
        clear hrow hout hbel HL HO HB
        have hpk := pick_in xs t k
        by_cases hkl : k < xs.length
        · obtain ⟨gl, ol, capl, e, hc⟩ := (HR.out.below HB2.out).cells k hkl
          cases e
          obtain ⟨c0, c1⟩ := hc k hkl
          obtain ⟨p, hp⟩ : ∃ p, p = needA xs k := ⟨_, rfl⟩
          obtain ⟨q, hq⟩ : ∃ q, q = everyA xs k := ⟨_, rfl⟩
          have c0' : wr.cell? ⟨gl, ol + k * 2, none⟩ = some (.int .i64 p) := by rw [hp]; exact c0
          have c1' : wr.cell? ⟨gl, ol + k * 2 + 1, none⟩ = some (.int .i64 q) := by rw [hq]; exact c1
          have hnd := (goodA_tasks HG.out).need k hkl
          have hev := (goodA_tasks HG.out).every k hkl
          have HNx := hid (lfF_next HG.out t hkl)
          have HPS := hid (pick_step xs t k)
          have hin1 := lfF_in HG.out (t := t) (k := k) (by omega) hkl
          have hin2 := lfF_in HG.out (t := t) (k := k + 1) (by omega) hkl
          rw [← hp] at HNx
          rw [← hq] at HNx
          rw [← hp] at hnd hev
          rw [← hq] at hev
          have ck : wr.cell? ⟨w.heap.size, k, none⟩ = some (.int .i64 (lfF xs t k k)) := by have := HL2.out.cell hkl; rw [lfA_get hkl] at this; exact this
          have fk : wr.frozen? ⟨w.heap.size, k, none⟩ = false := HL2.out.free k
          have HS1 := hid (fun v (hv : lfF xs t (k + 1) k = v) => lfA_set (xs := xs) (t := t) (k := k) hv)
          have HS2 := hid (fun (hv : lfF xs t (k + 1) k = lfF xs t k k) => lfA_stay (xs := xs) (t := t) (k := k) hv)
          obtain ⟨y, hy⟩ : ∃ y, y = lfF xs t k k := ⟨_, rfl⟩
          obtain ⟨z, hz⟩ : ∃ z, z = lfF xs t (k + 1) k := ⟨_, rfl⟩
          obtain ⟨b, hb⟩ : ∃ b, b = pickU (needA xs) (everyA xs) (runL xs t) k := ⟨_, rfl⟩
          rw [← hy] at ck HNx hin1 HS2
          rw [← hz] at HNx hin2 HPS HS1 HS2
          rw [← hb] at hpk HPS ⊢
          obtain ⟨m, hm⟩ : ∃ m, m = (t : Int) % q := ⟨_, rfl⟩
          have hmm : (t : Int).tmod q = m := by rw [hm]; exact Int.tmod_eq_emod_of_nonneg (by omega)
          have hm0 := Int.emod_nonneg (t : Int) (show q ≠ 0 by omega)
          have hm1 := Int.emod_lt_of_pos (t : Int) (show 0 < q by omega)
          rw [← hm] at hm0 hm1 HNx
          have hmw : IntKind.i64.wrap m = m := by rw [IntKind.wrap_i64]; omega
          have hq0 : (q == 0) = false := by rw [beq_eq_false_iff_ne]; omega
          have hq1 : q ≠ 0 := by omega
          have n0 : (0 : Int) ≤ (k : Int) := by omega
          have n1 : (k : Int) < (xs.length : Int) := by omega
          clear hc c0 c1 hp hq hy hz hb hm
          by_cases hcm : m = 0
          · have dm : (m == 0) = true := by rw [hcm]; rfl
            have HZ : Hid (z = y + p) := by show _ = _; rw [HNx.out, if_pos hcm]
            have hwz : IntKind.i64.wrap (y + p) = z := by rw [IntKind.wrap_i64]; have := HZ.out; omega
            have HLn : Hid (lfA xs t (k + 1) = (lfA xs t k).set k z) := HS1.out z rfl
            have HR3 : Hid (IRow (wr.setCell ⟨w.heap.size, k, none⟩ (.int .i64 z)) w.heap.size xs.length xs.length ((lfA xs t k).set k z)) := HL2.out.set k z
            have HO3 : Hid ((wr.setCell ⟨w.heap.size, k, none⟩ (.int .i64 z)).ownsRow (w.heap.size + 1) 3 1 u6 t (kflat (runL xs t))) := owns_only HO2.out ((But.refl _ _).setCell (P := fun j => j = w.heap.size) (p := ⟨w.heap.size, k, none⟩) rfl _) (by omega)
            have HB3 : Hid (Below w.heap.size w (wr.setCell ⟨w.heap.size, k, none⟩ (.int .i64 z))) := HB2.out.setCell (by show w.heap.size ≤ w.heap.size; exact Nat.le_refl _) _
            clear hcm HNx
            by_cases hb0 : b < 0
            · have db : decide (b < 0) = true := by simpa using hb0
              by_cases hz0 : 0 < z
              · have dz : decide (0 < z) = true := by simpa using hz0
                have HP : Hid (pickU (needA xs) (everyA xs) (runL xs t) (k + 1) = (k : Int)) := by show _ = _; rw [HPS.out, if_neg (by omega), if_pos hz0]
                go_wp2_with fail
                go_big_region
                go_wp2
                go_roundw
                case rel => exact ⟨k + 1, by omega, by go_num, by rw [HP.out], by rw [HLn.out]; exact HR3.out.whole (((Below.refl _ _).alloc (Nat.le_refl _) _).drew), (HO3.out.alloc _).drew, (HB3.out.alloc (by simpa using HB2.out.size) _).drew⟩
                case measure => simp [intOf]; omega
              · have dz : decide (0 < z) = false := by simpa using hz0
                have HP : Hid (pickU (needA xs) (everyA xs) (runL xs t) (k + 1) = b) := by show _ = _; rw [HPS.out, if_neg (by omega), if_neg hz0]; omega
                go_wp2_with fail
                go_big_region
                go_wp2
                go_roundw
                case rel => exact ⟨k + 1, by omega, by go_num, by rw [HP.out], by rw [HLn.out]; exact HR3.out.whole (((Below.refl _ _).alloc (Nat.le_refl _) _).drew), (HO3.out.alloc _).drew, (HB3.out.alloc (by simpa using HB2.out.size) _).drew⟩
                case measure => simp [intOf]; omega
            · have db : decide (b < 0) = false := by simpa using hb0
              have HP : Hid (pickU (needA xs) (everyA xs) (runL xs t) (k + 1) = b) := by show _ = _; rw [HPS.out, if_pos (by omega)]
              go_wp2_with fail
              go_big_region
              go_wp2
              go_roundw
              case rel => exact ⟨k + 1, by omega, by go_num, by rw [HP.out], by rw [HLn.out]; exact HR3.out.whole (((Below.refl _ _).alloc (Nat.le_refl _) _).drew), (HO3.out.alloc _).drew, (HB3.out.alloc (by simpa using HB2.out.size) _).drew⟩
              case measure => simp [intOf]; omega
          · have dm : (m == 0) = false := by rw [beq_eq_false_iff_ne]; exact hcm
            have HZ : Hid (z = y) := by show _ = _; rw [HNx.out, if_neg hcm, Int.add_zero]
            have ckz : wr.cell? ⟨w.heap.size, k, none⟩ = some (.int .i64 z) := by rw [HZ.out]; exact ck
            have HLn : Hid (lfA xs t (k + 1) = lfA xs t k) := HS2.out HZ.out
            clear hcm HNx ck
            by_cases hb0 : b < 0
            · have db : decide (b < 0) = true := by simpa using hb0
              by_cases hz0 : 0 < z
              · have dz : decide (0 < z) = true := by simpa using hz0
                have HP : Hid (pickU (needA xs) (everyA xs) (runL xs t) (k + 1) = (k : Int)) := by show _ = _; rw [HPS.out, if_neg (by omega), if_pos hz0]
                go_wp2
                go_roundw
                case rel => exact ⟨k + 1, by omega, by go_num, by rw [HP.out], by rw [HLn.out]; exact HL2.out.whole ((Below.refl _ _).alloc (Nat.le_refl _) _), HO2.out.alloc _, HB2.out.alloc HB2.out.size _⟩
                case measure => simp [intOf]; omega
              · have dz : decide (0 < z) = false := by simpa using hz0
                have HP : Hid (pickU (needA xs) (everyA xs) (runL xs t) (k + 1) = b) := by show _ = _; rw [HPS.out, if_neg (by omega), if_neg hz0]; omega
                go_wp2
                go_roundw
                case rel => exact ⟨k + 1, by omega, by go_num, by rw [HP.out], by rw [HLn.out]; exact HL2.out.whole ((Below.refl _ _).alloc (Nat.le_refl _) _), HO2.out.alloc _, HB2.out.alloc HB2.out.size _⟩
                case measure => simp [intOf]; omega
            · have db : decide (b < 0) = false := by simpa using hb0
              have HP : Hid (pickU (needA xs) (everyA xs) (runL xs t) (k + 1) = b) := by show _ = _; rw [HPS.out, if_pos (by omega)]
              go_wp2
              go_roundw
              case rel => exact ⟨k + 1, by omega, by go_num, by rw [HP.out], by rw [HLn.out]; exact HL2.out.whole ((Below.refl _ _).alloc (Nat.le_refl _) _), HO2.out.alloc _, HB2.out.alloc HB2.out.size _⟩
              case measure => simp [intOf]; omega
        · obtain rfl : k = xs.length := by omega
          have HRS := hid (runL_succ xs t)
          have HPk := hid (fun (j : Nat) (hp : pickU (needA xs) (everyA xs) (runL xs t) xs.length = (j : Int)) => lfA_pick (xs := xs) (t := t) hp)
          have HPn := hid (fun (hp : pickU (needA xs) (everyA xs) (runL xs t) xs.length = -1) => lfA_none (xs := xs) (t := t) hp)
          obtain ⟨b, hb⟩ : ∃ b, b = pickU (needA xs) (everyA xs) (runL xs t) xs.length := ⟨_, rfl⟩
          rw [← hb] at hpk HRS HPk HPn ⊢
          clear hb
          by_cases hb0 : 0 ≤ b
          · obtain ⟨j, rfl⟩ : ∃ j : Nat, b = j := ⟨b.toNat, by omega⟩
            have hj : j < xs.length := by omega
            have HLn := hid (HPk.out j rfl)
            have hin := lfF_in HG.out (t := t) (k := xs.length) (by omega) hj
            have cj : wr.cell? ⟨w.heap.size, j, none⟩ = some (.int .i64 (lfF xs t xs.length j)) := by have := HL2.out.cell hj; rw [lfA_get hj] at this; exact this
            have fj : wr.frozen? ⟨w.heap.size, j, none⟩ = false := HL2.out.free j
            obtain ⟨z, hz⟩ : ∃ z, z = lfF xs t xs.length j := ⟨_, rfl⟩
            rw [← hz] at cj HLn hin
            have hwz : IntKind.i64.wrap (z - 1) = z - 1 := by rw [IntKind.wrap_i64]; omega
            have n0 : (0 : Int) ≤ (j : Int) := by omega
            have n1 : (j : Int) < (xs.length : Int) := by omega
            have HO3 : Hid ((wr.setCell ⟨w.heap.size, j, none⟩ (.int .i64 (z - 1))).ownsRow (w.heap.size + 1) 3 1 u6 t (kflat (runL xs t))) := owns_only HO2.out ((But.refl _ _).setCell (P := fun j => j = w.heap.size) (p := ⟨w.heap.size, j, none⟩) rfl _) (by omega)
            have HR3 : Hid (IRow (wr.setCell ⟨w.heap.size, j, none⟩ (.int .i64 (z - 1))) w.heap.size xs.length xs.length (lfA xs (t + 1) 0)) := by show IRow _ _ _ _ _; rw [HLn.out]; exact HL2.out.set j (z - 1)
            have HB3 : Hid (Below w.heap.size w (wr.setCell ⟨w.heap.size, j, none⟩ (.int .i64 (z - 1)))) := HB2.out.setCell (by show w.heap.size ≤ w.heap.size; exact Nat.le_refl _) _
            obtain ⟨v', w', hrun, hown, hgr, hat⟩ := append_reads ((wr.setCell ⟨w.heap.size, j, none⟩ (.int .i64 (z - 1))).alloc (.cells #[.int .i64 (j : Int)] 3)) (w.heap.size + 1) u6 t (runL xs t) (HO3.out.alloc _) _ [(j : Int)] (kreads_int _ _) (by simp; omega) (by simp; omega) 42
            rw [World.size_setCell] at hrun
            have O4 : Hid (w'.ownsRow (w.heap.size + 1) 3 1 v' (t + 1) (kflat (runL xs (t + 1)))) := by show World.ownsRow _ _ _ _ _ _ _; rw [HRS.out]; exact hown
            have R4 : Hid (IRow w' w.heap.size xs.length xs.length (lfA xs (t + 1) 0)) := (HR3.out.whole ((Below.refl _ _).alloc (Nat.le_refl _) _)).at (hgr.block _ (by simp; omega) (fun e => by have := HO2.out.lt _ e.symm; omega))
            have B4 : Hid (Below w.heap.size w w') := (HB3.out.alloc (by simpa using HB2.out.size) _).grown hgr (by simp; omega) (fun m hm => by have := HO2.out.lt m hm; omega)
            clear hz hown hgr hat hb0
            have db : decide ((0 : Int) ≤ (j : Int)) = true := by rw [decide_eq_true_eq]; omega
            go_wp2_with (at_builtin; refine Lib.wpList_append_run_sl _ rfl _ _ 42 rfl _ _ rfl rfl hrun ?_)
            go_roundw
            case rel => exact ⟨t + 1, by omega, by go_num, R4.out, O4.out, B4.out⟩
            case measure => simp [intOf]; omega
          · obtain rfl : b = -1 := by omega
            have HLn := hid (HPn.out rfl)
            have HR3 : Hid (IRow wr w.heap.size xs.length xs.length (lfA xs (t + 1) 0)) := by show IRow _ _ _ _ _; rw [HLn.out]; exact HL2.out
            obtain ⟨v', w', hrun, hown, hgr, hat⟩ := append_reads (wr.alloc (.cells #[.int .i64 (-1 : Int)] 3)) (w.heap.size + 1) u6 t (runL xs t) (HO2.out.alloc _) _ [(-1 : Int)] (kreads_int _ _) (by simp; omega) (by simp; omega) 42
            have O4 : Hid (w'.ownsRow (w.heap.size + 1) 3 1 v' (t + 1) (kflat (runL xs (t + 1)))) := by show World.ownsRow _ _ _ _ _ _ _; rw [HRS.out]; exact hown
            have R4 : Hid (IRow w' w.heap.size xs.length xs.length (lfA xs (t + 1) 0)) := (HR3.out.whole ((Below.refl _ _).alloc (Nat.le_refl _) _)).at (hgr.block _ (by simp; omega) (fun e => by have := HO2.out.lt _ e.symm; omega))
            have B4 : Hid (Below w.heap.size w w') := (HB2.out.alloc HB2.out.size _).grown hgr (by simp; omega) (fun m hm => by have := HO2.out.lt m hm; omega)
            clear hown hgr hat hb0
            go_wp2_with (at_builtin; refine Lib.wpList_append_run_sl _ rfl _ _ 42 rfl _ _ rfl rfl hrun ?_)
            go_roundw
            case rel => exact ⟨t + 1, by omega, by go_num, R4.out, O4.out, B4.out⟩
            case measure => simp [intOf]; omega
    · obtain rfl : t = long := by omega
      go_wp2
      go_ret
      exact ⟨_, rfl, (KOwn.of_owns HO.out (by rw [runL_len]; omega)).mono (by omega) (Nat.le_refl _), HB.out⟩
end Go.Proofs.Ytmcmkobdkkibkab
