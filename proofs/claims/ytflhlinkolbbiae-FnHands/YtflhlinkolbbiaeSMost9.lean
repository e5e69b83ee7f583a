/-
  spec.l1Most: the greater of two. Nothing is written.
  spec.LeastSpan: where chores are wrong, nought and false, else the longest or the sum of all shared out. Nothing old is written.
-/
import Derived.Test.YtflhlinkolbbiaeInts
import Derived.Test.YtflhlinkolbbiaeSIn
import Derived.Test.YtflhlinkolbbiaeMaxTake
import Derived.Test.YtflhlinkolbbiaeFlowFns
import Derived.OwnWalk
namespace Go.Proofs.Ytflhlinkolbbiae
open Go.RowKit

theorem smost_eq (x y r : Int) (hr : max x y = r) (w : World) : Calls Try.prog 71 #[.int .i64 x, .int .i64 y] w fun e w' => e = .returned (.int .i64 r) ∧ w' = w := by
  by_cases h : y < x
  · have hv : Hid (r = x) := by show _ = _; omega
    clear hr
    go_enter Try.func71, Try.ntmps71
    go_wp2
    go_ret
    exact ⟨by rw [hv.out]; rfl, rfl⟩
  · have hv : Hid (r = y) := by show _ = _; omega
    clear hr
    go_enter Try.func71, Try.ntmps71
    go_wp2
    go_ret
    exact ⟨by rw [hv.out]; rfl, rfl⟩
end Go.Proofs.Ytflhlinkolbbiae
namespace Go.Proofs.Ytflhlinkolbbiae
open Go.RowKit

set_option maxRecDepth 100000 in
set_option maxHeartbeats 8000000 in
theorem sleastFn_yes (v : Value) (ls : List Nat) (H r : Nat) (hr : leastN ls H = r) (hc : Chores ls H) (w : World) (h0 : KReads w v (ofN ls)) :
    Calls Try.prog 32 #[v, .int .i64 (H : Nat)] w fun e w' => e = .returned (.tuple #[.int .i64 (r : Nat), .bool true]) ∧ Below w.heap.size w w' := by
  have R0 := hid h0
  have HG := hid (chores_good hc)
  obtain ⟨a0, p0, rfl, _, _⟩ := h0
  have hl0 : (ofN ls).length = ls.length := List.length_map ..
  rw [hl0] at R0 ⊢
  have HC := hid hc
  have HL0 := hid hl0
  have h4 := hc.h4
  have hH0 := hc.h0
  obtain ⟨t, ht⟩ : ∃ t, t = sumAllN ls := ⟨_, rfl⟩
  have HS : Hid (psum (fl (ofN ls)) (ofN ls).length = (t : Int)) := by rw [psum_sum, ht]; rfl
  have hts := sumK_small hc ls.length (Nat.le_refl _)
  have hte : t = sumK (fun k => ls.getD k 0) (List.range ls.length) := ht
  have h8 := hc.few
  obtain ⟨t1, ht1⟩ : ∃ t1, t1 = t + H := ⟨_, rfl⟩
  obtain ⟨t2, ht2⟩ : ∃ t2, t2 = t + H - 1 := ⟨_, rfl⟩
  obtain ⟨q, hq⟩ : ∃ q, q = t2 / H := ⟨_, rfl⟩
  have hw1 : IntKind.i64.wrap ((t : Int) + (H : Int)) = (t1 : Int) := by rw [IntKind.wrap_i64]; omega
  have hw2 : IntKind.i64.wrap ((t1 : Int) - 1) = (t2 : Int) := by rw [IntKind.wrap_i64]; omega
  have hqb : q ≤ t2 := by rw [hq]; exact Nat.div_le_self _ _
  have hd1 : (t2 : Int).tdiv (H : Int) = (q : Int) := by rw [hq]; exact (Int.ofNat_tdiv t2 H).symm
  have hw3 : IntKind.i64.wrap (q : Int) = (q : Int) := by rw [IntKind.wrap_i64]; omega
  have hne : ¬ (H : Int) = 0 := by omega
  have HR : Hid (max q (maxN ls) = r) := by
    show _ = _
    rw [← hr, hq, ht2, hte]
    unfold leastN
    omega
  clear hc hr hl0 ht hte ht1 ht2 hq hts
  go_enter Try.func32, Try.ntmps32
  go_wp2_with fail
  refine (sgoodCh_eq _ (ofN ls) H true HG.out _ R0.out).mono ?_
  rintro e w' ⟨rfl, hw⟩; obtain rfl := hw.symm
  go_wp2_with fail
  refine (l1Sum_eq _ (ofN ls) _ R0.out (psum_ok HC.out) t HS.out).mono ?_
  rintro e w' ⟨rfl, hw⟩; obtain rfl := hw.symm
  go_wp2
  go_loopw [6, 22] (fun m i wr => ∃ k : Nat, k ≤ ls.length ∧ i = .int .i64 k ∧ m = .int .i64 (max q (maxN (ls.take k)) : Nat) ∧ w = wr) (fun _ i _ => ls.length - (intOf i).toNat)
  case atStart => exact ⟨0, Nat.zero_le _, rfl, by simp [maxN], rfl⟩
  case round =>
    obtain ⟨k, hk, rfl, rfl, rfl⟩ := hrel
    by_cases hlt : k < ls.length
    · obtain ⟨g, o, c, e, hc⟩ := R0.out.cells k (by rw [HL0.out]; exact hlt)
      rw [HL0.out] at e
      cases e
      obtain ⟨x, hx⟩ : ∃ x, x = ls.getD k 0 := ⟨_, rfl⟩
      have ck : w.cell? ⟨g, o + k, none⟩ = some (.int .i64 (x : Nat)) := by have := hc k (by rw [HL0.out]; exact hlt); rw [ofN_at, ← hx] at this; exact this
      obtain ⟨m1, hm1⟩ : ∃ m1, m1 = max q (maxN (ls.take (k + 1))) := ⟨_, rfl⟩
      obtain ⟨m0, hm0⟩ : ∃ m0, m0 = max q (maxN (ls.take k)) := ⟨_, rfl⟩
      have HMI : Hid (max (m0 : Int) (x : Int) = (m1 : Nat)) := by show _ = _; have := maxN_take ls hlt; rw [← hx] at this; omega
      have HM1 := hid hm1
      rw [← hm0]
      have n0 : (0 : Int) ≤ (k : Int) := by omega
      have n1 : (k : Int) < (ls.length : Int) := by omega
      clear hc hx hm1 hm0
      go_wp2_with fail
      refine (smost_eq m0 x m1 HMI.out _).mono ?_
      rintro e w' ⟨rfl, hw⟩; obtain rfl := hw.symm
      go_wp2
      go_roundw
      case rel => exact ⟨k + 1, by omega, by go_num, by rw [HM1.out], by first | rfl | trivial⟩
      case measure => simp [intOf]; omega
    · obtain rfl : k = ls.length := by omega
      have hmt : max q (maxN (ls.take ls.length)) = r := by rw [List.take_length]; exact HR.out
      rw [hmt]
      clear hmt
      go_wp2
      go_ret2
      exact ⟨rfl, Below.refl _ _⟩
set_option maxHeartbeats 2000000 in
theorem sleastFn_no (v : Value) (xs : List Int) (h : Int) (w : World) (h0 : KReads w v xs) (hn : chB xs h = false) :
    Calls Try.prog 32 #[v, .int .i64 h] w fun e w' => e = .returned (.tuple #[.int .i64 0, .bool false]) ∧ Below w.heap.size w w' := by
  have R0 := hid h0
  have HNo := hid hn
  clear h0 hn
  go_enter Try.func32, Try.ntmps32
  go_wp2_with fail
  refine (sgoodCh_eq _ xs h false HNo.out _ R0.out).mono ?_
  rintro e w' ⟨rfl, hw⟩; obtain rfl := hw.symm
  go_wp2
  go_ret2
  exact ⟨rfl, Below.refl _ _⟩
theorem sleastFn_any (v : Value) (xs : List Int) (h : Int) (w : World) (h0 : KReads w v xs) :
    Calls Try.prog 32 #[v, .int .i64 h] w fun e w' => e = .returned (.tuple #[.int .i64 (leZ xs h), .bool (chB xs h)]) ∧ Below w.heap.size w w' := by
  cases hg : chB xs h with
  | false => rw [leZ_no hg]; exact sleastFn_no v xs h w h0 hg
  | true =>
    obtain ⟨ls, H, rfl, rfl, hc⟩ := chores_of hg
    rw [leZ_yes hc]
    exact sleastFn_yes v ls H _ rfl hc w h0
end Go.Proofs.Ytflhlinkolbbiae
