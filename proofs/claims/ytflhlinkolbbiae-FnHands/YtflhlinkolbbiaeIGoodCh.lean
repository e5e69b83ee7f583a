/-
  impl.GoodChores: whether chores and hands are good. Nothing old is written.
  impl.BestSpan: where chores are wrong, nought and false, else the least span. Nothing old is written.
-/
import Derived.Test.YtflhlinkolbbiaeIAllIn
import Derived.Test.YtflhlinkolbbiaeIBestS
import Derived.Test.YtflhlinkolbbiaeMaxTake
import Derived.OwnWalk
namespace Go.Proofs.Ytflhlinkolbbiae
open Go.RowKit

set_option maxHeartbeats 4000000 in
theorem igoodCh_eq (v : Value) (xs : List Int) (h : Int) (t : Bool) (ht : chB xs h = t) (w : World) (hr : KReads w v xs) :
    Calls Try.prog 34 #[v, .int .i64 h] w fun e w' => e = .returned (.bool t) ∧ Below w.heap.size w w' := by
  have HR := hid hr
  unfold chB at ht
  obtain ⟨a, cap, rfl, ⟨hlen, _⟩, _⟩ := hr
  obtain ⟨b1, hb1⟩ : ∃ b, decide (xs.length ≤ 8) = b := ⟨_, rfl⟩
  obtain ⟨b2, hb2⟩ : ∃ b, xs.all (inB 1 50) = b := ⟨_, rfl⟩
  rw [hb1, hb2] at ht
  have H2 := hid hb2
  clear hb2
  have d1 : decide ((xs.length : Int) ≤ 8) = b1 := by rw [← hb1]; congr 1; simp; omega
  clear hb1
  by_cases h1 : (1 : Int) ≤ h
  rotate_left
  · have hv : Hid (t = false) := by show _ = _; rw [← ht, decide_eq_false (by omega)]; cases b1 <;> cases b2 <;> rfl
    have e1 : decide ((1 : Int) ≤ h) = false := by simpa using h1
    clear ht
    go_enter Try.func34, Try.ntmps34
    go_wp2
    go_ret
    exact ⟨by rw [hv.out]; rfl, Below.refl _ _⟩
  have e1 : decide ((1 : Int) ≤ h) = true := by simpa using h1
  by_cases h2 : h ≤ 4
  rotate_left
  · have hv : Hid (t = false) := by show _ = _; rw [← ht, decide_eq_false (by omega)]; cases b1 <;> cases b2 <;> rfl
    have e2 : decide (h ≤ 4) = false := by simpa using h2
    clear ht
    go_enter Try.func34, Try.ntmps34
    go_wp2
    go_ret
    exact ⟨by rw [hv.out]; rfl, Below.refl _ _⟩
  have e2 : decide (h ≤ 4) = true := by simpa using h2
  rw [decide_eq_true (show 1 ≤ h ∧ h ≤ 4 from ⟨h1, h2⟩)] at ht
  cases b1
  · have hv : Hid (t = false) := by show _ = _; rw [← ht]; cases b2 <;> rfl
    clear ht
    go_enter Try.func34, Try.ntmps34
    go_wp2
    go_ret
    exact ⟨by rw [hv.out]; rfl, Below.refl _ _⟩
  have hv : Hid (t = b2) := by show _ = _; rw [← ht]; cases b2 <;> rfl
  clear ht
  go_enter Try.func34, Try.ntmps34
  go_wp2_with fail
  refine (iallIn_eq _ xs 1 50 b2 H2.out _ HR.out).mono ?_
  rintro e w1 ⟨rfl, hb⟩
  go_wp2
  go_ret
  exact ⟨by rw [hv.out]; rfl, hb⟩
end Go.Proofs.Ytflhlinkolbbiae
namespace Go.Proofs.Ytflhlinkolbbiae
open Go.RowKit

set_option maxRecDepth 100000 in
set_option maxHeartbeats 8000000 in
theorem ibestFn_yes (v : Value) (ls : List Nat) (H r : Nat) (hr : bestB H ls (List.replicate H 0) = r) (hc : Chores ls H) (w : World) (h0 : KReads w v (ofN ls)) :
    Calls Try.prog 29 #[v, .int .i64 (H : Nat)] w fun e w' => e = .returned (.tuple #[.int .i64 (r : Nat), .bool true]) ∧ Below w.heap.size w w' := by
  have R0 := hid h0
  have HG := hid (chores_good hc)
  have HC := hid hc
  have HR := hid hr
  have h4 := hc.h4
  obtain ⟨i0, hi, hz0, hz1, hz2⟩ := info_parts info_int
  obtain ⟨a0, p0, rfl, _, _⟩ := h0
  have hl0 : (ofN ls).length = ls.length := List.length_map ..
  rw [hl0] at R0 ⊢
  have O0 : Hid (∀ W : World, KReads (W.alloc (.cells (madeCells #[.int .i64 0] H) 3)) (.slice (some ⟨W.heap.size, 0, none⟩) H H) (ofN (List.replicate H 0))) := fun W => by
    have := (IRow.made W H (by omega)).reads (by omega)
    rwa [show List.replicate H (0 : Int) = ofN (List.replicate H 0) by simp [ofN]] at this
  clear hc hr hl0
  go_enter Try.func29, Try.ntmps29
  go_wp2_with fail
  refine (igoodCh_eq _ (ofN ls) H true HG.out _ R0.out).mono ?_
  rintro e w1 ⟨rfl, hb1⟩
  have B1 := hid hb1
  have B2 : Hid (Below w.heap.size w (w1.alloc (.cells (madeCells #[.int .i64 0] H) 3))) := hb1.alloc hb1.size _
  clear hb1
  go_wp2_with (at_make; refine wpList_make_row _ rfl _ _ 48 rfl 3 i0 (.int .i64 0) Try.underlying48 hi hz0 hz1 rfl .i64 .i64 H rfl rfl (by rw [hz2]; omega) (by omega) ?_)
  refine (ibestS_any H ⟨HC.out.h0, HC.out.h4⟩ ls (chores_each HC.out) (List.replicate H 0) _ _ _ (by simp) (Zs_start H) (fun h => by rw [repl_getD]; have := HC.out.few; omega) (O0.out _) (R0.out.below B2.out)).mono ?_
  rintro e w2 ⟨rfl, hb2⟩
  rw [HR.out]
  have B3 : Hid (Below w.heap.size w w2) := B2.out.trans (hb2.mono B2.out.size)
  clear hb2
  go_wp2
  go_ret2
  exact ⟨rfl, B3.out⟩
set_option maxHeartbeats 2000000 in
theorem ibestFn_no (v : Value) (xs : List Int) (h : Int) (w : World) (h0 : KReads w v xs) (hn : chB xs h = false) :
    Calls Try.prog 29 #[v, .int .i64 h] w fun e w' => e = .returned (.tuple #[.int .i64 0, .bool false]) ∧ Below w.heap.size w w' := by
  have R0 := hid h0
  have HNo := hid hn
  clear h0 hn
  go_enter Try.func29, Try.ntmps29
  go_wp2_with fail
  refine (igoodCh_eq _ xs h false HNo.out _ R0.out).mono ?_
  rintro e w1 ⟨rfl, hb⟩
  have B1 := hid hb
  clear hb
  go_wp2
  go_ret2
  exact ⟨rfl, B1.out⟩
theorem ibestFn_any (v : Value) (xs : List Int) (h : Int) (w : World) (h0 : KReads w v xs) :
    Calls Try.prog 29 #[v, .int .i64 h] w fun e w' => e = .returned (.tuple #[.int .i64 (beZ xs h), .bool (chB xs h)]) ∧ Below w.heap.size w w' := by
  cases hg : chB xs h with
  | false => rw [beZ_no hg]; exact ibestFn_no v xs h w h0 hg
  | true =>
    obtain ⟨ls, H, rfl, rfl, hc⟩ := chores_of hg
    rw [beZ_yes hc]
    exact ibestFn_yes v ls H _ rfl hc w h0
end Go.Proofs.Ytflhlinkolbbiae
