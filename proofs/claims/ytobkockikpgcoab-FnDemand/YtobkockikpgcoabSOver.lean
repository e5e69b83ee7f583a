/-
  spec.FirstOverload: the first while with too much in it. Nothing old is written.
-/
import Derived.Test.YtobkockikpgcoabSJob
import Derived.Test.YtobkockikpgcoabSDem
import Derived.Test.YtobkockikpgcoabOverMath
import Derived.Test.YtobkockikpgcoabRes4
namespace Go.Proofs.Ytobkockikpgcoab
open Go.RowKit

theorem sover_no (v : Value) (xs : List JbEl) (w : World) (hr : JbReads w v xs) (hg : goodJ xs = false) :
    Calls Try.prog 6 #[v] w fun e w' => e = .returned (.tuple #[.int .i64 0, .int .i64 0, .bool false, .bool false]) ∧ Below w.heap.size w w' := by
  have HR := hid hr
  clear hr
  go_enter Try.func6, Try.ntmps6
  go_wp2_with fail
  refine (sgoodJobs_eq v xs false hg _ HR.out).mono ?_
  rintro e w1 ⟨rfl, b1⟩
  have B1 := hid b1
  clear b1
  go_wp2
  (try simp only [Exit.inBlock, Exit.then])
  refine bodyPost_ret (results_tmp4 rfl _ _ _) rfl ?_
  exact ⟨rfl, B1.out⟩

set_option maxHeartbeats 2000000 in
theorem sover_yes (v : Value) (xs : List JbEl) (F T : Int) (B : Bool) (ht : Told xs F T B) (w : World) (hr : JbReads w v xs) (hg : goodJ xs = true) :
    Calls Try.prog 6 #[v] w fun e w' => e = .returned (.tuple #[.int .i64 F, .int .i64 T, .bool B, .bool true]) ∧ Below w.heap.size w w' := by
  have HR := hid hr
  have HT := hid ht
  have HG := hid hg
  clear hr ht
  go_enter Try.func6, Try.ntmps6
  go_wp2_with fail
  refine (sgoodJobs_eq v xs true hg _ HR.out).mono ?_
  rintro e w1 ⟨rfl, b1⟩
  have B1 := hid b1
  clear b1 hg
  go_wp2
  go_loopw [6] (fun i wr => ∃ f : Nat, f ≤ 24 ∧ i = .int .i64 f ∧ fstW xs allW = fstW xs (restW f (f + 1)) ∧ Below w.heap.size w wr) (fun i _ => 24 - (intOf i).toNat)
  case atStart => exact ⟨0, by omega, rfl, rfl, B1.out⟩
  case round =>
    obtain ⟨f, hf, rfl, hfst, hbel⟩ := hrel
    have HF := hid hfst
    have HB := hid hbel
    clear hfst hbel
    by_cases hlt : f < 24
    · have hdf : decide ((f : Int) < 24) = true := by simp; omega
      go_wp2
      go_loopw [7] (fun i wr => ∃ t : Nat, t ≤ 25 ∧ i = .int .i64 t ∧ fstW xs allW = fstW xs (restW f t) ∧ Below w.heap.size w wr) (fun i _ => 25 - (intOf i).toNat)
      case atStart => exact ⟨f + 1, by omega, by go_num, HF.out, HB.out⟩
      case round =>
        obtain ⟨t, ht, rfl, hfst, hbel⟩ := hrel
        have HF2 := hid hfst
        have HB2 := hid hbel
        clear hfst hbel
        by_cases h24 : t ≤ 24
        · obtain ⟨d, hd⟩ : ∃ d, dem f t xs = d := ⟨_, rfl⟩
          have HD := hid hd
          obtain ⟨b, hb⟩ : ∃ b, overB xs f t = b := ⟨_, rfl⟩
          have HC := hid (first_cons xs f t hf h24 b hb)
          have hdb : decide ((t : Int) - f < d) = b := by rw [← hb, ← hd]; rfl
          have hw2 : IntKind.i64.wrap ((t : Int) - f) = (t : Int) - f := by rw [IntKind.wrap_i64]; omega
          clear hd hb
          go_wp2_with fail
          refine (l4Demand_eq v xs f t d HD.out HG.out _ (HR.out.below HB2.out)).mono ?_
          rintro e w3 ⟨rfl, b3⟩
          have B3 : Hid (Below w.heap.size w w3) := HB2.out.trans (b3.mono HB2.out.size)
          clear b3
          cases b
          · go_wp2
            go_roundw
            case rel => exact ⟨t + 1, by omega, by go_num, HF2.out.trans HC.out, B3.out⟩
            case measure => simp [intOf]; omega
          · obtain ⟨e1, e2, e3⟩ := HT.out.yes f t hf h24 (HF2.out.trans HC.out)
            have E1 := hid e1
            have E2 := hid e2
            have E3 := hid e3
            clear e1 e2 e3
            go_wp2
            (try simp only [Exit.inBlock, Exit.then])
            refine bodyPost_ret (results_tmp4 rfl _ _ _) rfl ?_
            exact ⟨by rw [E1.out, E2.out, E3.out]; rfl, B3.out⟩
        · obtain rfl : t = 25 := by omega
          have HN : Hid (fstW xs allW = fstW xs (restW (f + 1) (f + 1 + 1))) := by
            show _ = _
            rw [HF2.out, restW_on f (by omega)]
          clear HF2 HF
          go_wp2
          go_roundw
          case rel => exact ⟨f + 1, by omega, by go_num, HN.out, HB2.out⟩
          case measure => simp [intOf]; omega
    · obtain rfl : f = 24 := by omega
      obtain ⟨e1, e2, e3⟩ := HT.out.no (by rw [HF.out, restW_24]; rfl)
      have E1 := hid e1
      have E2 := hid e2
      have E3 := hid e3
      clear e1 e2 e3
      go_wp2
      (try simp only [Exit.inBlock, Exit.then])
      refine bodyPost_ret (results_tmp4 rfl _ _ _) rfl ?_
      exact ⟨by rw [E1.out, E2.out, E3.out]; rfl, HB.out⟩
end Go.Proofs.Ytobkockikpgcoab
