/-
  impl.joined: a span put into others, in memory of its own. Nothing old is written.
-/
import Derived.Test.YthmkeinhjlmgmaiReplaced
import Derived.Test.YthmkeinhjlmgmaiJoinMath
import Derived.Test.YthmkeinhjlmgmaiRows2
import Derived.Deep.RegionHeld3
namespace Go.Proofs.Ythmkeinhjlmgmai
open Go.RowKit
set_option maxRecDepth 100000

set_option maxHeartbeats 2000000 in
theorem joined_any (v : Value) (xs : List Sp) (p q : Int) (w : World) (hr : SReads w v xs) (hc : chainB (-1) xs = true) (hx : xs.length ≤ 1048576) :
    Calls Try.prog 34 #[v, .agg #[.int .i64 p, .int .i64 q]] w fun e w' => ∃ v', e = .returned v' ∧ SOwn w.heap.size w' v' (addL xs (p, q)) ∧ Below w.heap.size w w' := by
  have HR := hid hr
  have HM := hid (joined_math (x := (p, q)) hc)
  have ha := ahead_le xs p
  have hu := upto_le xs (ahead xs p) q ha
  have hau : ahead xs p ≤ upto xs (ahead xs p) q := by rw [upto_fronts]; omega
  have HG : Hid (grownTo xs (p, q) = if ahead xs p < upto xs (ahead xs p) q then (min p (xs.getD (ahead xs p) (0, 0)).1, max q (xs.getD (upto xs (ahead xs p) q - 1) (0, 0)).2) else (p, q)) := rfl
  have HM' : Hid (xs.take (ahead xs p) ++ [grownTo xs (p, q)] ++ xs.drop (upto xs (ahead xs p) q) = addL xs (p, q)) := HM.out
  have HRC := hid (fun wz => reaching_any v xs p q wz)
  clear hr hc HM
  generalize upto xs (ahead xs p) q = b at hu hau HG HM' HRC
  generalize ahead xs p = f at ha hau HG HM' HRC
  by_cases hlt : f < b
  · obtain ⟨ga, oa, cap, rfl, hca⟩ := sreads_cells HR.out f (by omega)
    have h1 := (hca f (by omega)).1
    have h2 := (hca (b - 1) (by omega)).2
    have hga : ga < w.heap.size := lt_of_cell h1
    obtain ⟨r, hr0⟩ : ∃ r, r = (xs.getD f (0, 0)).1 := ⟨_, rfl⟩
    obtain ⟨s, hs0⟩ : ∃ s, s = (xs.getD (b - 1) (0, 0)).2 := ⟨_, rfl⟩
    have hg : Hid (grownTo xs (p, q) = (min p r, max q s)) := by
      show _ = _
      rw [HG.out, if_pos hlt, hr0, hs0]
    rw [← hr0] at h1
    rw [← hs0] at h2
    obtain ⟨b1, hb1⟩ : ∃ b1, b1 = b - 1 := ⟨_, rfl⟩
    rw [← hb1] at h2
    have hw : IntKind.i64.wrap ((b : Int) - 1) = (b1 : Int) := by rw [IntKind.wrap_i64]; omega
    have n0 : (0 : Int) ≤ (f : Int) := by omega
    have n1 : (f : Int) < (xs.length : Int) := by omega
    have n2 : (0 : Int) ≤ (b1 : Int) := by omega
    have n3 : (b1 : Int) < (xs.length : Int) := by omega
    clear hca hr0 hs0 HG hb1
    go_enter Try.func34, Try.ntmps34
    go_wp2_with fail
    refine (HRC.out _ (HR.out.below ?_)).mono ?_
    · exact (Below.refl _ _).alloc (Nat.le_refl _) _
    rintro e w' ⟨rfl, hw'⟩; obtain rfl := hw'.symm
    go_wp2_with fail
    go_region_with fail
    all_goals
      go_wp2_with fail
      go_region_with fail
    all_goals
      go_wp2_with fail
      refine (replaced_any _ _ xs [(min p r, max q s)] f b _ (HR.out.below ?hb) ?hs hau hu hx (by simp)).mono ?_
      case hb => go_grown
      case hs =>
        refine ⟨_, _, rfl, by simp, .inr ⟨_, 0, rfl, fun i hi => ?_⟩⟩
        obtain rfl : i = 0 := by simpa using hi
        exact ⟨by simp, by simp⟩
      rintro e w5 ⟨v5, rfl, o5, b5⟩
      have B5 : Hid (Below w.heap.size w w5) := by
        show Below _ _ _
        refine Below.trans ?_ (b5.mono (by first | (simp; done) | (simp; omega)))
        go_grown
      have O5 : Hid (SOwn w.heap.size w5 v5 (addL xs (p, q))) := by
        show SOwn _ _ _ _
        rw [← HM'.out, hg.out]
        exact o5.mono (by first | (simp; done) | (simp; omega))
      clear o5 b5
      go_wp2
      go_ret
      exact ⟨_, rfl, O5.out, B5.out⟩
  · have hg : Hid (grownTo xs (p, q) = (p, q)) := by
      show _ = _
      rw [HG.out, if_neg hlt]
    clear HG
    go_enter Try.func34, Try.ntmps34
    go_wp2_with fail
    refine (HRC.out _ (HR.out.below ?_)).mono ?_
    · exact (Below.refl _ _).alloc (Nat.le_refl _) _
    rintro e w' ⟨rfl, hw'⟩; obtain rfl := hw'.symm
    go_wp2_with fail
    refine (replaced_any _ _ xs [(p, q)] f b _ (HR.out.below ?hb) ?hs hau hu hx (by simp)).mono ?_
    case hb => go_grown
    case hs =>
      refine ⟨_, _, rfl, by simp, .inr ⟨_, 0, rfl, fun i hi => ?_⟩⟩
      obtain rfl : i = 0 := by simpa using hi
      exact ⟨by simp, by simp⟩
    rintro e w5 ⟨v5, rfl, o5, b5⟩
    have B5 : Hid (Below w.heap.size w w5) := by
      show Below _ _ _
      refine Below.trans ?_ (b5.mono (by first | (simp; done) | (simp; omega)))
      go_grown
    have O5 : Hid (SOwn w.heap.size w5 v5 (addL xs (p, q))) := by
      show SOwn _ _ _ _
      rw [← HM'.out, hg.out]
      exact o5.mono (by first | (simp; done) | (simp; omega))
    clear o5 b5
    go_wp2
    go_ret
    exact ⟨_, rfl, O5.out, B5.out⟩
end Go.Proofs.Ythmkeinhjlmgmai
