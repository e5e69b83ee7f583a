/-
  impl.addComings, impl.runAgain: the run of tasks that come again, slot by slot, in memory of its own. Nothing old is written.
-/
import Derived.Test.YtmcmkobdkkibkabIRows
import Derived.Test.YtmcmkobdkkibkabRunMath
import Derived.Deep.QuietTactic
import Derived.BigQuiet
import Derived.OwnWalk
import Derived.WalkMore
namespace Go.Proofs.Ytmcmkobdkkibkab
open Go.RowKit

theorem pick_stays (xs : List AgEl) (t : Nat) {k j : Nat} (h : pickU (needA xs) (everyA xs) (runL xs t) k = (j : Int)) : ∀ m, k ≤ m → pickU (needA xs) (everyA xs) (runL xs t) m = (j : Int)
  | 0, hm => by obtain rfl : k = 0 := by omega
                exact h
  | m + 1, hm => by
    by_cases e : k = m + 1
    · rw [← e]; exact h
    · have ih := pick_stays xs t h m (by omega)
      rw [pick_step, ih, if_pos (by omega)]
theorem lfF_all (xs : List AgEl) (t : Nat) {i k m : Nat} (h1 : i < k) (h2 : i < m) : lfF xs t k i = lfF xs t m i := by rw [lfF_back xs t i h1, lfF_back xs t i h2]
def slotsU (xs : List AgEl) (long t : Nat) : List Int := runL xs t ++ List.replicate (long - t) 0
theorem slotsU_zero (xs : List AgEl) (long : Nat) : slotsU xs long 0 = List.replicate long 0 := by simp [slotsU]; rfl
theorem slotsU_end (xs : List AgEl) (long : Nat) : slotsU xs long long = runL xs long := by simp [slotsU]
theorem slotsU_next (xs : List AgEl) {long t : Nat} (h : t < long) {b : Int} (hb : pickU (needA xs) (everyA xs) (runL xs t) xs.length = b) : slotsU xs long (t + 1) = (slotsU xs long t).set t b := by
  unfold slotsU
  rw [runL_succ, hb, show long - t = (long - (t + 1)) + 1 by omega, List.replicate_succ, List.set_append_right _ _ (by rw [runL_len]; omega), runL_len, Nat.sub_self, List.set_cons_zero, List.append_assoc]
  rfl
set_option maxRecDepth 100000 in
set_option maxHeartbeats 8000000 in
theorem iadd_any (g : Nat) (v : Value) (xs : List AgEl) (t : Nat) (w : World) (hg : goodA xs = true) (ht : t ≤ 200) (hrow : IRow w g xs.length xs.length (lfA xs t 0)) (hR : ∀ w', But (fun k => k = g) w w' → AgReads w' v xs) :
    Calls Try.prog 127 #[.slice (some ⟨g, 0, none⟩) xs.length xs.length, v, .int .i64 (t : Nat)] w fun e w' => e = .returned (.tuple #[]) ∧ IRow w' g xs.length xs.length (lfA xs t xs.length) ∧ But (fun k => k = g) w w' := by
  have HR := hid hR
  have HG := hid hg
  have HW := hid hrow
  obtain ⟨a, cap, rfl, _, _⟩ := hR w (But.refl _ _)
  clear hg hrow hR
  go_enter Try.func127, Try.ntmps127
  go_wp2
  go_loopw [10] (fun i wr => ∃ k : Nat, k ≤ xs.length ∧ i = .int .i64 k ∧ IRow wr g xs.length xs.length (lfA xs t k) ∧ But (fun k => k = g) w wr) (fun i _ => xs.length - (intOf i).toNat)
  case atStart => exact ⟨0, Nat.zero_le _, rfl, HW.out, But.refl _ _⟩
  case round =>
    obtain ⟨k, hk, rfl, hrow, hbut⟩ := hrel
    have HL := hid hrow
    have HB := hid hbut
    have hgw := hrow.caps.2.2
    clear hrow hbut HW
    by_cases hkl : k < xs.length
    · obtain ⟨gl, ol, capl, e, hc⟩ := (HR.out _ HB.out).cells k hkl
      cases e
      obtain ⟨c0, c1⟩ := hc k hkl
      obtain ⟨p, hp⟩ : ∃ p, p = needA xs k := ⟨_, rfl⟩
      obtain ⟨q, hq⟩ : ∃ q, q = everyA xs k := ⟨_, rfl⟩
      have c0' : wr.cell? ⟨gl, ol + k * 2, none⟩ = some (.int .i64 p) := by rw [hp]; exact c0
      have c1' : wr.cell? ⟨gl, ol + k * 2 + 1, none⟩ = some (.int .i64 q) := by rw [hq]; exact c1
      have hnd := (goodA_tasks HG.out).need k hkl
      have hev := (goodA_tasks HG.out).every k hkl
      have HNx := hid (lfF_next HG.out t hkl)
      have hin1 := lfF_in HG.out (t := t) (k := k) (by omega) hkl
      have hin2 := lfF_in HG.out (t := t) (k := k + 1) (by omega) hkl
      rw [← hp] at HNx
      rw [← hq] at HNx
      rw [← hp] at hnd hev
      rw [← hq] at hev
      have ck : wr.cell? ⟨g, k, none⟩ = some (.int .i64 (lfF xs t k k)) := by have := HL.out.cell hkl; rw [lfA_get hkl] at this; exact this
      have fk : wr.frozen? ⟨g, k, none⟩ = false := HL.out.free k
      have HS1 := hid (fun v (hv : lfF xs t (k + 1) k = v) => lfA_set (xs := xs) (t := t) (k := k) hv)
      have HS2 := hid (fun (hv : lfF xs t (k + 1) k = lfF xs t k k) => lfA_stay (xs := xs) (t := t) (k := k) hv)
      obtain ⟨y, hy⟩ : ∃ y, y = lfF xs t k k := ⟨_, rfl⟩
      obtain ⟨z, hz⟩ : ∃ z, z = lfF xs t (k + 1) k := ⟨_, rfl⟩
      rw [← hy] at ck HNx hin1 HS2
      rw [← hz] at HNx hin2 HS1 HS2
      obtain ⟨m, hm⟩ : ∃ m, m = (t : Int) % q := ⟨_, rfl⟩
      have hmm : (t : Int).tmod q = m := by rw [hm]; exact Int.tmod_eq_emod_of_nonneg (by omega)
      have hm0 := Int.emod_nonneg (t : Int) (show q ≠ 0 by omega)
      have hm1 := Int.emod_lt_of_pos (t : Int) (show 0 < q by omega)
      rw [← hm] at hm0 hm1 HNx
      have hmw : IntKind.i64.wrap m = m := by rw [IntKind.wrap_i64]; omega
      have hq0 : (q == 0) = false := by rw [beq_eq_false_iff_ne]; omega
      have hq1 : q ≠ 0 := by omega
      have n0 : (0 : Int) ≤ (k : Int) := by omega
      have n1 : (k : Int) < (xs.length : Int) := by omega
      clear hc c0 c1 hp hq hy hz hm
      by_cases hcm : m = 0
      · have dm : (m == 0) = true := by rw [hcm]; rfl
        have HZ : Hid (z = y + p) := by show _ = _; rw [HNx.out, if_pos hcm]
        have hwz : IntKind.i64.wrap (y + p) = z := by rw [IntKind.wrap_i64]; have := HZ.out; omega
        have HLn : Hid (lfA xs t (k + 1) = (lfA xs t k).set k z) := HS1.out z rfl
        have HR3 : Hid (IRow (wr.setCell ⟨g, k, none⟩ (.int .i64 z)) g xs.length xs.length ((lfA xs t k).set k z)) := HL.out.set k z
        have HB3 : Hid (But (fun k => k = g) w (wr.setCell ⟨g, k, none⟩ (.int .i64 z))) := HB.out.setCell (p := ⟨g, k, none⟩) rfl _
        clear hcm HNx
        go_wp2_with fail
        go_big_region
        go_wp2
        go_roundw
        case rel => exact ⟨k + 1, by omega, by go_num, by rw [HLn.out]; exact HR3.out.whole (((Below.refl _ _).alloc (Nat.le_refl _) _).drew), (HB3.out.alloc _).drew⟩
        case measure => simp [intOf]; omega
      · have dm : (m == 0) = false := by rw [beq_eq_false_iff_ne]; exact hcm
        have HZ : Hid (z = y) := by show _ = _; rw [HNx.out, if_neg hcm, Int.add_zero]
        have HLn : Hid (lfA xs t (k + 1) = lfA xs t k) := HS2.out HZ.out
        clear hcm HNx
        go_wp2
        go_roundw
        case rel => exact ⟨k + 1, by omega, by go_num, by rw [HLn.out]; exact HL.out.whole ((Below.refl _ _).alloc (Nat.le_refl _) _), HB.out.alloc _⟩
        case measure => simp [intOf]; omega
    · obtain rfl : k = xs.length := by omega
      go_wp2
      go_end0
      exact ⟨rfl, HL.out, HB.out⟩
set_option maxRecDepth 100000 in
set_option maxHeartbeats 16000000 in
theorem irun_any (v : Value) (xs : List AgEl) (long : Nat) (w : World) (hr : AgReads w v xs) (hg : goodA xs = true) (hl : long ≤ 200) :
    Calls Try.prog 92 #[v, .int .i64 (long : Nat)] w fun e w' => ∃ g, e = .returned (.slice (some ⟨g, 0, none⟩) long long) ∧ IRow w' g long long (runL xs long) ∧ w.heap.size ≤ g ∧ Below w.heap.size w w' := by
  have HR := hid hr
  have HG := hid hg
  have hlen := goodA_len hg
  obtain ⟨a, cap, rfl, _, _⟩ := hr
  obtain ⟨i0, hi, hz0, hz1, hz2⟩ := info_parts info_int
  clear hg
  go_enter Try.func92, Try.ntmps92
  go_wp2
  go_step3
  go_wp2_with (at_make; first | (refine wpList_make_row _ rfl _ _ 42 rfl 3 i0 (.int .i64 0) Try.underlying42 hi hz0 hz1 rfl .i64 .i64 long rfl rfl (by rw [hz2]; omega) (by omega) ?_) | (refine wpList_make_row _ rfl _ _ 42 rfl 3 i0 (.int .i64 0) Try.underlying42 hi hz0 hz1 rfl .i64 .i64 xs.length rfl rfl (by rw [hz2]; omega) (by omega) ?_))
  go_step3
  go_wp2
  obtain ⟨w0, hw0⟩ : ∃ w0, w0 = (w.alloc (.cells (madeCells #[.int .i64 0] long) 3)).alloc (.cells (madeCells #[.int .i64 0] xs.length) 3) := ⟨_, rfl⟩
  have O0 : Hid (IRow w0 (w.heap.size + 1) xs.length xs.length (lfA xs 0 0)) := by
    show IRow _ _ _ _ _
    rw [lfA_zero HG.out, hw0]
    have := IRow.made (w.alloc (.cells (madeCells #[.int .i64 0] long) 3)) xs.length (by omega)
    rw [World.size_alloc] at this
    exact this
  have S0 : Hid (IRow w0 w.heap.size long long (slotsU xs long 0)) := by
    show IRow _ _ _ _ _
    rw [slotsU_zero, hw0]
    exact (IRow.made w long (by omega)).whole ((Below.refl _ _).alloc (Nat.le_refl _) _)
  have B0 : Hid (Below w.heap.size w w0) := by
    show Below _ _ _
    rw [hw0]
    exact ((Below.refl _ _).alloc (Nat.le_refl _) _).alloc (by simp) _
  rw [← hw0]
  clear hw0
  go_loopw [16] (fun tv wr => ∃ t : Nat, t ≤ long ∧ tv = .int .i64 t ∧ IRow wr w.heap.size long long (slotsU xs long t) ∧ IRow wr (w.heap.size + 1) xs.length xs.length (lfA xs t 0) ∧ Below w.heap.size w wr) (fun tv _ => long - (intOf tv).toNat)
  case atStart => exact ⟨0, Nat.zero_le _, rfl, S0.out, O0.out, B0.out⟩
  case round =>
    obtain ⟨t, ht, rfl, hsl, hrow, hbel⟩ := hrel
    have HS := hid hsl
    have HL := hid hrow
    have HB := hid hbel
    clear hsl hrow hbel O0 S0 B0
    by_cases hlt : t < long
    · have HNx := hid (fun b hb => slotsU_next xs hlt (b := b) hb)
      have hz1 := HL.out.caps.2.2
      go_wp2_with fail
      refine (iadd_any (w.heap.size + 1) _ xs t _ HG.out (by omega) HL.out (fun w' hb => HR.out.below (HB.out.trans (hb.to (by omega) (fun k hk => by omega))))).mono ?_
      rintro e w1 ⟨rfl, hr1, b1⟩
      have R1 := hid hr1
      have S1 : Hid (IRow w1 w.heap.size long long (slotsU xs long t)) := HS.out.but b1 (by omega)
      have B1 : Hid (Below w.heap.size w w1) := HB.out.trans (b1.to (by omega) (fun k hk => by omega))
      clear hr1 b1 HS HL HB hz1
      go_wp2
      go_loopw [25] (fun kv wy => ∃ k : Nat, k ≤ xs.length ∧ kv = .int .i64 k ∧ pickU (needA xs) (everyA xs) (runL xs t) k = -1 ∧ w1 = wy) (fun kv _ => xs.length - (intOf kv).toNat)
      case atStart => exact ⟨0, Nat.zero_le _, rfl, rfl, rfl⟩
      case round =>
        obtain ⟨k, hk, rfl, hpk, rfl⟩ := hrel
        have HP := hid hpk
        clear hpk
        by_cases hkl : k < xs.length
        · have ck : w1.cell? ⟨w.heap.size + 1, k, none⟩ = some (.int .i64 (lfF xs t xs.length k)) := by have := R1.out.cell hkl; rw [lfA_get hkl] at this; exact this
          have fk : w1.frozen? ⟨w.heap.size + 1, k, none⟩ = false := R1.out.free k
          have hin := lfF_in HG.out (t := t) (k := xs.length) (by omega) hkl
          have HPS : Hid (pickU (needA xs) (everyA xs) (runL xs t) (k + 1) = if 0 < lfF xs t xs.length k then (k : Int) else -1) := by
            show _ = _
            rw [pick_step, HP.out, if_neg (by omega), lfF_all xs t (show k < k + 1 by omega) hkl]
          have HPk := hid (fun (hp : pickU (needA xs) (everyA xs) (runL xs t) xs.length = (k : Int)) => lfA_pick (xs := xs) (t := t) hp)
          obtain ⟨z, hz⟩ : ∃ z, z = lfF xs t xs.length k := ⟨_, rfl⟩
          rw [← hz] at ck hin HPS HPk
          have n0 : (0 : Int) ≤ (k : Int) := by omega
          have n1 : (k : Int) < (xs.length : Int) := by omega
          clear hz
          by_cases hz0 : 0 < z
          · have dz : decide (0 < z) = true := by simpa using hz0
            have HPn : Hid (pickU (needA xs) (everyA xs) (runL xs t) xs.length = (k : Int)) := pick_stays xs t (by rw [HPS.out, if_pos hz0]) _ (by omega)
            have hwz : IntKind.i64.wrap (z - 1) = z - 1 := by rw [IntKind.wrap_i64]; omega
            have m0 : (0 : Int) ≤ (t : Int) := by omega
            have m1 : (t : Int) < (long : Int) := by omega
            have R2 : Hid (IRow (w1.setCell ⟨w.heap.size + 1, k, none⟩ (.int .i64 (z - 1))) (w.heap.size + 1) xs.length xs.length (lfA xs (t + 1) 0)) := by show IRow _ _ _ _ _; rw [HPk.out HPn.out]; exact R1.out.set k (z - 1)
            have S2 : Hid (IRow (w1.setCell ⟨w.heap.size + 1, k, none⟩ (.int .i64 (z - 1))) w.heap.size long long (slotsU xs long t)) := S1.out.at (Below.heap_setCell _ _ _ _ (by show _ ≠ _; simp only []; omega))
            have B2 : Hid (Below w.heap.size w (w1.setCell ⟨w.heap.size + 1, k, none⟩ (.int .i64 (z - 1)))) := B1.out.setCell (by show w.heap.size ≤ w.heap.size + 1; omega) _
            obtain ⟨w2, hw2⟩ : ∃ w2, w2 = w1.setCell ⟨w.heap.size + 1, k, none⟩ (.int .i64 (z - 1)) := ⟨_, rfl⟩
            have HW2 := hid hw2
            rw [← hw2] at R2 S2 B2
            have ct := S2.out.cell hlt
            have ft : w2.frozen? ⟨w.heap.size, t, none⟩ = false := S2.out.free t
            obtain ⟨x, hx⟩ : ∃ x, x = (slotsU xs long t).getD t 0 := ⟨_, rfl⟩
            have ct' : w2.cell? ⟨w.heap.size, t, none⟩ = some (.int .i64 x) := by rw [hx]; exact ct
            have S3 : Hid (IRow (w2.setCell ⟨w.heap.size, t, none⟩ (.int .i64 (k : Int))) w.heap.size long long (slotsU xs long (t + 1))) := by show IRow _ _ _ _ _; rw [HNx.out _ HPn.out]; exact S2.out.set t _
            have R3 : Hid (IRow (w2.setCell ⟨w.heap.size, t, none⟩ (.int .i64 (k : Int))) (w.heap.size + 1) xs.length xs.length (lfA xs (t + 1) 0)) := R2.out.at (Below.heap_setCell _ _ _ _ (by show _ ≠ _; simp only []; omega))
            have B3 : Hid (Below w.heap.size w (w2.setCell ⟨w.heap.size, t, none⟩ (.int .i64 (k : Int)))) := B2.out.setCell (by show w.heap.size ≤ w.heap.size; omega) _
            clear hz0 HPS ct hx hw2
            have ct1 : w1.cell? ⟨w.heap.size, t, none⟩ = some (.int .i64 x) := by rw [← ct']; exact (World.cell?_of_block (a := ⟨w.heap.size, t, none⟩) (by rw [HW2.out]; exact Below.heap_setCell _ _ _ _ (by show _ ≠ _; simp only []; omega))).symm
            have ft1 : w1.frozen? ⟨w.heap.size, t, none⟩ = false := S1.out.free t
            clear ct' ft
            rw [HW2.out] at S3 R3 B3
            go_wp2
            go_roundw
            case rel => exact ⟨t + 1, by omega, by go_num, S3.out, R3.out, B3.out⟩
            case measure => simp [intOf]; omega
          · have dz : decide (0 < z) = false := by simpa using hz0
            have HPn : Hid (pickU (needA xs) (everyA xs) (runL xs t) (k + 1) = -1) := by show _ = _; rw [HPS.out, if_neg hz0]
            clear hz0 HPS
            go_wp2
            go_roundw
            case rel => exact ⟨k + 1, by omega, by go_num, HPn.out, by first | rfl | trivial⟩
            case measure => simp [intOf]; omega
        · obtain rfl : k = xs.length := by omega
          have ct := S1.out.cell hlt
          have ft : w1.frozen? ⟨w.heap.size, t, none⟩ = false := S1.out.free t
          obtain ⟨x, hx⟩ : ∃ x, x = (slotsU xs long t).getD t 0 := ⟨_, rfl⟩
          have ct' : w1.cell? ⟨w.heap.size, t, none⟩ = some (.int .i64 x) := by rw [hx]; exact ct
          have m0 : (0 : Int) ≤ (t : Int) := by omega
          have m1 : (t : Int) < (long : Int) := by omega
          have S3 : Hid (IRow (w1.setCell ⟨w.heap.size, t, none⟩ (.int .i64 (-1))) w.heap.size long long (slotsU xs long (t + 1))) := by show IRow _ _ _ _ _; rw [HNx.out _ HP.out]; exact S1.out.set t _
          have R3 : Hid (IRow (w1.setCell ⟨w.heap.size, t, none⟩ (.int .i64 (-1))) (w.heap.size + 1) xs.length xs.length (lfA xs (t + 1) 0)) := by show IRow _ _ _ _ _; rw [lfA_none HP.out]; exact R1.out.at (Below.heap_setCell _ _ _ _ (by show _ ≠ _; simp only []; omega))
          have B3 : Hid (Below w.heap.size w (w1.setCell ⟨w.heap.size, t, none⟩ (.int .i64 (-1)))) := B1.out.setCell (by show w.heap.size ≤ w.heap.size; omega) _
          clear ct hx
          go_wp2
          go_roundw
          case rel => exact ⟨t + 1, by omega, by go_num, S3.out, R3.out, B3.out⟩
          case measure => simp [intOf]; omega
    · obtain rfl : t = long := by omega
      have SE : Hid (IRow wr w.heap.size t t (runL xs t)) := by have := HS.out; rw [slotsU_end] at this; exact this
      go_wp2
      (try rw [Exit.noGoto_ret])
      go_ret
      exact ⟨_, rfl, SE.out, Nat.le_refl _, HB.out⟩
end Go.Proofs.Ytmcmkobdkkibkab
