/-
  spec.BestSpan: where chores are wrong, nought and false, else the least span. Nothing old is written.
-/
import Derived.Test.YtflhlinkolbbiaeSIn
import Derived.Test.YtflhlinkolbbiaeSBestS
import Derived.Test.YtflhlinkolbbiaeFlowFns
import Derived.OwnWalk
namespace Go.Proofs.Ytflhlinkolbbiae
open Go.RowKit

theorem sum_zeros : ∀ H : Nat, (List.replicate H 0).sum = 0
  | 0 => rfl
  | H + 1 => by rw [List.replicate_succ, List.sum_cons, sum_zeros H]
set_option maxRecDepth 100000 in
set_option maxHeartbeats 8000000 in
theorem sbestFn_yes (v : Value) (ls : List Nat) (H r : Nat) (hr : bestB H ls (List.replicate H 0) = r) (hc : Chores ls H) (w : World) (h0 : KReads w v (ofN ls)) :
    Calls Try.prog 30 #[v, .int .i64 (H : Nat)] w fun e w' => e = .returned (.tuple #[.int .i64 (r : Nat), .bool true]) ∧ Below w.heap.size w w' := by
  have R0 := hid h0
  have HG := hid (chores_good hc)
  obtain ⟨a0, p0, rfl, _, _⟩ := h0
  have hl0 : (ofN ls).length = ls.length := List.length_map ..
  rw [hl0] at R0 ⊢
  have HC := hid hc
  have HR := hid hr
  have HL0 := hid hl0
  have h4 := hc.h4
  obtain ⟨i0, hi, hz0, hz1, hz2⟩ := info_parts info_int
  have hmk : ∀ W : World, (Instr.makeSlice 48 (.int .i64 (H : Int)) (.int .i64 (H : Int))).run Try.prog W = .ok (.slice (some ⟨W.heap.size, 0, none⟩) H H) (W.alloc (.cells (madeCells #[.int .i64 0] H) 3)) := fun W => run_make_row 48 3 i0 (.int .i64 0) Try.underlying48 hi hz0 hz1 rfl .i64 .i64 H (by rw [hz2]; omega) (by omega) W
  obtain ⟨t, ht⟩ : ∃ t, t = sumAllN ls := ⟨_, rfl⟩
  have HS : Hid (psum (fl (ofN ls)) (ofN ls).length = (t : Int)) := by rw [psum_sum, ht]; rfl
  obtain ⟨t1, ht1⟩ : ∃ t1, t1 = t + 1 := ⟨_, rfl⟩
  have hts := sumK_small hc ls.length (Nat.le_refl _)
  have hw1 : IntKind.i64.wrap ((t : Int) + 1) = (t1 : Int) := by have := hc.few; rw [IntKind.wrap_i64]; unfold sumAllN at ht; omega
  have HMin : Hid (min t1 (bestB H ls (List.replicate H 0)) = r) := by
    show _ = _
    have := bestB_sum hc.h0 ls (List.replicate H 0) (by simp)
    rw [← sum_is ls, ← ht, sum_zeros, hr] at this
    rw [hr]
    omega
  have O0 : Hid (∀ W : World, KReads (W.alloc (.cells (madeCells #[.int .i64 0] H) 3)) (.slice (some ⟨W.heap.size, 0, none⟩) H H) (ofN (List.replicate H 0))) := fun W => by
    have := (IRow.made W H (by omega)).reads (by omega)
    rwa [show List.replicate H (0 : Int) = ofN (List.replicate H 0) by simp [ofN]] at this
  clear hc hr hl0 ht ht1 hts hi hz0 hz1 hz2
  go_enter Try.func30, Try.ntmps30
  go_wp2_with fail
  refine (sgoodCh_eq _ (ofN ls) H true HG.out _ R0.out).mono ?_
  rintro e w' ⟨rfl, hw⟩; obtain rfl := hw.symm
  go_wp2_with fail
  go_region_with (first
    | (go_at_call 83; refine (l1Sum_eq _ (ofN ls) _ (R0.out.below (by first | exact (Below.refl _ _).drew | exact ((Below.refl _ _).drew.alloc (Nat.le_refl _) _) | exact Below.refl _ _)) (psum_ok HC.out) t HS.out).mono ?_; rintro e w' ⟨rfl, hw⟩; obtain rfl := hw.symm)
    | (go_at_call 82; refine (sbestS_any H ⟨HC.out.h0, HC.out.h4⟩ ls (chores_each HC.out) (List.replicate H 0) t1 _ _ _ (by simp) (fun h => by rw [repl_getD]; have := HC.out.few; omega) (R0.out.below ((Below.refl _ _).drew.alloc (Nat.le_refl _) _)) (O0.out _)).mono ?_; rintro e w2 ⟨rfl, hb2⟩; rw [HMin.out]; have B2 := hid hb2; clear hb2))
  all_goals
    have B3 : Hid (Below w.heap.size w w2) := ((Below.refl _ _).drew.alloc (Nat.le_refl _) _).trans (B2.out.mono (by simp))
    clear B2
    go_wp2
    go_ret2
    exact ⟨rfl, B3.out⟩
set_option maxHeartbeats 2000000 in
theorem sbestFn_no (v : Value) (xs : List Int) (h : Int) (w : World) (h0 : KReads w v xs) (hn : chB xs h = false) :
    Calls Try.prog 30 #[v, .int .i64 h] w fun e w' => e = .returned (.tuple #[.int .i64 0, .bool false]) ∧ Below w.heap.size w w' := by
  have R0 := hid h0
  have HNo := hid hn
  clear h0 hn
  go_enter Try.func30, Try.ntmps30
  go_wp2_with fail
  refine (sgoodCh_eq _ xs h false HNo.out _ R0.out).mono ?_
  rintro e w' ⟨rfl, hw⟩; obtain rfl := hw.symm
  go_wp2
  go_ret2
  exact ⟨rfl, Below.refl _ _⟩
theorem sbestFn_any (v : Value) (xs : List Int) (h : Int) (w : World) (h0 : KReads w v xs) :
    Calls Try.prog 30 #[v, .int .i64 h] w fun e w' => e = .returned (.tuple #[.int .i64 (beZ xs h), .bool (chB xs h)]) ∧ Below w.heap.size w w' := by
  cases hg : chB xs h with
  | false => rw [beZ_no hg]; exact sbestFn_no v xs h w h0 hg
  | true =>
    obtain ⟨ls, H, rfl, rfl, hc⟩ := chores_of hg
    rw [beZ_yes hc]
    exact sbestFn_yes v ls H _ rfl hc w h0
end Go.Proofs.Ytflhlinkolbbiae
