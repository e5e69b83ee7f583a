/-
  impl.LeastSpan: where chores are wrong, nought and false, else the longest or the sum of all shared out. Nothing old is written.
-/
import Derived.Test.YtflhlinkolbbiaeIGoodCh
import Derived.Test.YtflhlinkolbbiaeIMaxH
import Derived.Test.YtflhlinkolbbiaeMaxTake
import Derived.Test.YtflhlinkolbbiaeFlowFns
import Derived.OwnWalk
namespace Go.Proofs.Ytflhlinkolbbiae
open Go.RowKit

set_option maxRecDepth 100000 in
set_option maxHeartbeats 8000000 in
theorem ileastFn_yes (v : Value) (ls : List Nat) (H r : Nat) (hr : leastN ls H = r) (hc : Chores ls H) (w : World) (h0 : KReads w v (ofN ls)) :
    Calls Try.prog 31 #[v, .int .i64 (H : Nat)] w fun e w' => e = .returned (.tuple #[.int .i64 (r : Nat), .bool true]) ∧ Below w.heap.size w w' := by
  have R0 := hid h0
  have HG := hid (chores_good hc)
  obtain ⟨a0, p0, rfl, _, _⟩ := h0
  have hl0 : (ofN ls).length = ls.length := List.length_map ..
  rw [hl0] at R0 ⊢
  have HC := hid hc
  have h4 := hc.h4
  have hH0 := hc.h0
  obtain ⟨t, ht⟩ : ∃ t, t = sumAllN ls := ⟨_, rfl⟩
  have HS : Hid (wsum (ofN ls) (ofN ls).length = (t : Int)) := by
    show _ = _
    rw [wsum_is _ fun j hj => psum_ok hc j hj, psum_sum, ht]
  have hts := sumK_small hc ls.length (Nat.le_refl _)
  have hte : t = sumK (fun k => ls.getD k 0) (List.range ls.length) := ht
  have h8 := hc.few
  obtain ⟨t1, ht1⟩ : ∃ t1, t1 = t + H := ⟨_, rfl⟩
  obtain ⟨t2, ht2⟩ : ∃ t2, t2 = t + H - 1 := ⟨_, rfl⟩
  obtain ⟨q, hq⟩ : ∃ q, q = t2 / H := ⟨_, rfl⟩
  have hw1 : IntKind.i64.wrap ((t : Int) + (H : Int)) = (t1 : Int) := by rw [IntKind.wrap_i64]; omega
  have hw2 : IntKind.i64.wrap ((t1 : Int) - 1) = (t2 : Int) := by rw [IntKind.wrap_i64]; omega
  have hqb : q ≤ t2 := by rw [hq]; exact Nat.div_le_self _ _
  have hd1 : (t2 : Int).tdiv (H : Int) = (q : Int) := by rw [hq]; exact (Int.ofNat_tdiv t2 H).symm
  have hw3 : IntKind.i64.wrap (q : Int) = (q : Int) := by rw [IntKind.wrap_i64]; omega
  have hne : ¬ (H : Int) = 0 := by omega
  obtain ⟨m, hm⟩ : ∃ m, m = maxN ls := ⟨_, rfl⟩
  have HM := hid hm
  have HR : Hid (max m q = r) := by
    show _ = _
    rw [← hr, hq, ht2, hte, hm]
    unfold leastN
    omega
  have hz : ls.length = 0 → r = 0 := fun h => by
    have e : ls = [] := List.eq_nil_of_length_eq_zero h
    subst e
    rw [← hr]
    show max (maxN []) ((0 + H - 1) / H) = 0
    rw [Nat.div_eq_of_lt (by omega)]
    rfl
  have HZ := hid hz
  have hmx : ∀ (ts : Array TypeId) (ty : TypeId) (w : World), (Builtin.max_ ts ty #[.int .i64 (m : Int), .int .i64 (q : Int)]).run Try.prog w = .ok (.int .i64 (r : Int)) w := by
    have e : maxPH (m : Int) (q : Int) = (r : Int) := by unfold maxPH; rw [← HR.out]; split <;> omega
    intro ts ty w
    rw [← e]
    exact maxH_run m q ts ty w
  clear hc hr hl0 ht hte ht1 ht2 hq hts hm hz
  obtain ⟨n, hn⟩ : ∃ n, n = ls.length := ⟨_, rfl⟩
  have HNn := hid hn
  rw [← hn] at R0 h8 ⊢
  clear hn
  by_cases h0 : n = 0
  · have HV : Hid (r = 0) := HZ.out (by rw [← HNn.out]; exact h0)
    subst h0
    go_enter Try.func31, Try.ntmps31
    go_wp2_with fail
    refine (igoodCh_eq _ (ofN ls) H true HG.out _ R0.out).mono ?_
    rintro e w1 ⟨rfl, hb⟩
    have B1 := hid hb
    clear hb
    go_wp2
    go_ret2
    exact ⟨by rw [HV.out]; rfl, B1.out⟩
  · have d0 : decide ((n : Int) = 0) = false := by rw [decide_eq_false_iff_not]; omega
    have d1 : ((n : Int) == 0) = false := by rw [beq_eq_false_iff_ne]; omega
    go_enter Try.func31, Try.ntmps31
    go_wp2_with fail
    refine (igoodCh_eq _ (ofN ls) H true HG.out _ R0.out).mono ?_
    rintro e w1 ⟨rfl, hb⟩
    have B1 := hid hb
    clear hb
    go_wp2_with fail
    refine (imaxH_eq _ ls m HM.out.symm _ (R0.out.below B1.out) (by rw [← HNn.out]; omega) (by rw [← HNn.out]; omega)).mono ?_
    rintro e w' ⟨rfl, hw⟩; obtain rfl := hw.symm
    go_wp2_with fail
    refine (isumA_eq _ (ofN ls) _ (R0.out.below B1.out) t HS.out).mono ?_
    rintro e w' ⟨rfl, hw⟩; obtain rfl := hw.symm
    go_wp2
    go_ret2
    exact ⟨rfl, B1.out⟩
set_option maxHeartbeats 2000000 in
theorem ileastFn_no (v : Value) (xs : List Int) (h : Int) (w : World) (h0 : KReads w v xs) (hn : chB xs h = false) :
    Calls Try.prog 31 #[v, .int .i64 h] w fun e w' => e = .returned (.tuple #[.int .i64 0, .bool false]) ∧ Below w.heap.size w w' := by
  have R0 := hid h0
  have HNo := hid hn
  clear h0 hn
  go_enter Try.func31, Try.ntmps31
  go_wp2_with fail
  refine (igoodCh_eq _ xs h false HNo.out _ R0.out).mono ?_
  rintro e w1 ⟨rfl, hb⟩
  have B1 := hid hb
  clear hb
  go_wp2
  go_ret2
  exact ⟨rfl, B1.out⟩
theorem ileastFn_any (v : Value) (xs : List Int) (h : Int) (w : World) (h0 : KReads w v xs) :
    Calls Try.prog 31 #[v, .int .i64 h] w fun e w' => e = .returned (.tuple #[.int .i64 (leZ xs h), .bool (chB xs h)]) ∧ Below w.heap.size w w' := by
  cases hg : chB xs h with
  | false => rw [leZ_no hg]; exact ileastFn_no v xs h w h0 hg
  | true =>
    obtain ⟨ls, H, rfl, rfl, hc⟩ := chores_of hg
    rw [leZ_yes hc]
    exact ileastFn_yes v ls H _ rfl hc w h0
end Go.Proofs.Ytflhlinkolbbiae
