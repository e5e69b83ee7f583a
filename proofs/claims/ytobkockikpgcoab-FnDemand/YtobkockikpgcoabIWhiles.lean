/-
  impl.whiles: an iterator that gives every while in its order. Nothing is written.
-/
import Derived.RangeFuncNested
import Derived.RangeFuncBound
import Derived.RangeFuncCalls
import Derived.RangeFuncLeaves
import Derived.Shelf.Abstract
import Derived.OwnWalkIn
import Derived.TacticsInMore
import Derived.LoopNIn
import Derived.LoopIn
import Derived.Test.YtobkockikpgcoabOverMath
namespace Go.Proofs.Ytobkockikpgcoab
open Go.RowKit Go.Shelf

abbrev encW (x : Wh) : Array Value := #[.int .i64 x.1.1, .int .i64 x.1.2]

set_option maxRecDepth 100000 in
set_option maxHeartbeats 2000000 in
theorem whiles1_in (n : Nat) (hn : 1 ≤ n) (l : Nat) (J Jx : List Wh → World → Prop)
    (hY : ∀ pre x W, J pre W → pre.length < allW.length → YieldAt Fence.wide (n - 1) Try.prog l (encW x) W fun e W' =>
      (e = .returned (.bool true) ∧ J (pre ++ [x]) W' ∧ True) ∨ (e = .returned (.bool false) ∧ Jx (pre ++ [x]) W'))
    (W : World) (h0 : J [] W) :
    CallsIn Fence.wide n Try.prog 32 #[.func (.yield l) #[] #[]] W fun e W' => (∃ v, e = .returned v) ∧
      ((∃ ys, ys = allW ∧ J ys W') ∨ (∃ pre, pre <+: allW ∧ Jx pre W')) := by
  have HY := hid hY
  clear hY
  refine callsIn_of_wp Try.func32 rfl trivial ?_ rfl
  simp only [Try.ntmps32, List.size_toArray, List.length_cons, List.length_nil, Nat.reduceAdd, Nat.reduceSub, Array.replicate_succ, Array.replicate_zero, List.push_toArray, List.append_toArray, List.nil_append, List.cons_append]
  gi_wp2
  gi_loopw [4] (fun i wr => ∃ (f : Nat) (pre : List Wh), f ≤ 24 ∧ i = .int .i64 f ∧ allW = pre ++ restW f (f + 1) ∧ J pre wr) (fun i _ => 24 - (intOf i).toNat)
  case atStart => exact ⟨0, [], by omega, rfl, rfl, h0⟩
  case round =>
    obtain ⟨f, pre, hf, rfl, hpre, hJ⟩ := hrel
    have HP := hid hpre
    have HJ := hid hJ
    clear hpre hJ
    by_cases hlt : f < 24
    · have hdf : decide ((f : Int) < 24) = true := by simp; omega
      gi_wp2
      gi_loopw [3] (fun i wr => ∃ (t : Nat) (pre : List Wh), t ≤ 25 ∧ i = .int .i64 t ∧ allW = pre ++ restW f t ∧ J pre wr) (fun i _ => 25 - (intOf i).toNat)
      case atStart => exact ⟨f + 1, pre, by omega, by go_num, HP.out, HJ.out⟩
      case round =>
        obtain ⟨t, pre2, ht, rfl, hpre2, hJ2⟩ := hrel
        clear HP HJ
        by_cases h24 : t ≤ 24
        · have hst := restW_step f t h24
          rw [hst] at hpre2
          obtain ⟨fn, tmps, assign, body, hy, hR⟩ := HY.out pre2 (mkW f t) wr hJ2 (by rw [hpre2]; simp)
          dsimp only [encW] at hy
          rw [mkW_1 f t hf, mkW_2 f t h24] at hy
          have HR := hid hR
          have HP2 := hid hpre2
          clear hR hst hpre2
          gi_wp2
          refine HR.out.mono ?_
          rintro e W3 (⟨rfl, hJ3, _⟩ | ⟨rfl, hJx3⟩)
          · gi_wp2
            go_roundw
            case rel => exact ⟨t + 1, pre2 ++ [mkW f t], by omega, by go_num, by rw [HP2.out]; simp, hJ3⟩
            case measure => simp [intOf]; omega
          · gi_wp2
            refine bodyPost_ret (results_none rfl _ _ _) rfl ?_
            exact ⟨⟨_, rfl⟩, .inr ⟨pre2 ++ [mkW f t], ⟨restW f (t + 1), by rw [HP2.out]; simp⟩, hJx3⟩⟩
        · obtain rfl : t = 25 := by omega
          rw [restW_on f (by omega)] at hpre2
          have HP2 := hid hpre2
          clear hpre2
          gi_wp2
          go_roundw
          case rel => exact ⟨f + 1, pre2, by omega, by go_num, HP2.out, hJ2⟩
          case measure => simp [intOf]; omega
    · obtain rfl : f = 24 := by omega
      gi_wp2
      go_end0
      exact ⟨⟨_, rfl⟩, .inl ⟨pre, by have := HP.out; rw [restW_24, List.append_nil] at this; exact this.symm, HJ.out⟩⟩

theorem whiles_stops (n : Nat) (hn : 1 ≤ n) (w : World) :
    SeqStopsK Fence.wide n Try.prog 32 #[] encW (fun _ _ => True) (fun ys => ys = allW) (fun pre => pre <+: allW) allW.length w := fun l J Jx W _ _ _ hY h0 =>
  whiles1_in n hn l J Jx hY W h0
theorem whiles_any (w : World) : Calls Try.prog 17 #[] w fun e w' => e = .returned (.func (.func 32) #[] #[]) ∧ w' = w := by
  go_enter Try.func17, Try.ntmps17
  go_wp2
  go_ret
  exact ⟨rfl, rfl⟩
end Go.Proofs.Ytobkockikpgcoab
