/-
  impl.BestSpan: where chores are wrong, nought and false, else the least span. Nothing old is written.
-/
import Derived.Test.YtflhlinkolbbiamIGoodCh
import Derived.Test.YtflhlinkolbbiamIBestS
import Derived.Test.YtflhlinkolbbiamMaxTake
import Derived.OwnWalk
namespace Go.Proofs.Ytflhlinkolbbiam
open Go.RowKit

set_option maxRecDepth 100000 in
set_option maxHeartbeats 8000000 in
theorem ibestFn_yes (v : Value) (ls : List Nat) (H r : Nat) (hr : bestB H ls (List.replicate H 0) = r) (hc : Chores ls H) (w : World) (h0 : KReads w v (ofN ls)) :
    Calls Try.prog 13 #[v, .int .i64 (H : Nat)] w fun e w' => e = .returned (.tuple #[.int .i64 (r : Nat), .bool true]) ∧ Below w.heap.size w w' := by
  have R0 := hid h0
  have HG := hid (chores_good hc)
  have HC := hid hc
  have HR := hid hr
  have h4 := hc.h4
  obtain ⟨i0, hi, hz0, hz1, hz2⟩ := info_parts info_int
  obtain ⟨a0, p0, rfl, _, _⟩ := h0
  have hl0 : (ofN ls).length = ls.length := List.length_map ..
  rw [hl0] at R0 ⊢
  have O0 : Hid (∀ W : World, KReads (W.alloc (.cells (madeCells #[.int .i64 0] H) 3)) (.slice (some ⟨W.heap.size, 0, none⟩) H H) (ofN (List.replicate H 0))) := fun W => by
    have := (IRow.made W H (by omega)).reads (by omega)
    rwa [show List.replicate H (0 : Int) = ofN (List.replicate H 0) by simp [ofN]] at this
  clear hc hr hl0
  go_enter Try.func13, Try.ntmps13
  go_wp2_with fail
  refine (igoodCh_eq _ (ofN ls) H true HG.out _ R0.out).mono ?_
  rintro e w1 ⟨rfl, hb1⟩
  have B1 := hid hb1
  have B2 : Hid (Below w.heap.size w (w1.alloc (.cells (madeCells #[.int .i64 0] H) 3))) := hb1.alloc hb1.size _
  clear hb1
  go_wp2_with (at_make; refine wpList_make_row _ rfl _ _ 22 rfl 3 i0 (.int .i64 0) Try.underlying22 hi hz0 hz1 rfl .i64 .i64 H rfl rfl (by rw [hz2]; omega) (by omega) ?_)
  refine (ibestS_any H ⟨HC.out.h0, HC.out.h4⟩ ls (chores_each HC.out) (List.replicate H 0) _ _ _ (by simp) (Zs_start H) (fun h => by rw [repl_getD]; have := HC.out.few; omega) (O0.out _) (R0.out.below B2.out)).mono ?_
  rintro e w2 ⟨rfl, hb2⟩
  rw [HR.out]
  have B3 : Hid (Below w.heap.size w w2) := B2.out.trans (hb2.mono B2.out.size)
  clear hb2
  go_wp2
  go_ret2
  exact ⟨rfl, B3.out⟩
set_option maxHeartbeats 2000000 in
theorem ibestFn_no (v : Value) (xs : List Int) (h : Int) (w : World) (h0 : KReads w v xs) (hn : chB xs h = false) :
    Calls Try.prog 13 #[v, .int .i64 h] w fun e w' => e = .returned (.tuple #[.int .i64 0, .bool false]) ∧ Below w.heap.size w w' := by
  have R0 := hid h0
  have HNo := hid hn
  clear h0 hn
  go_enter Try.func13, Try.ntmps13
  go_wp2_with fail
  refine (igoodCh_eq _ xs h false HNo.out _ R0.out).mono ?_
  rintro e w1 ⟨rfl, hb⟩
  have B1 := hid hb
  clear hb
  go_wp2
  go_ret2
  exact ⟨rfl, B1.out⟩
theorem ibestFn_any (v : Value) (xs : List Int) (h : Int) (w : World) (h0 : KReads w v xs) :
    Calls Try.prog 13 #[v, .int .i64 h] w fun e w' => e = .returned (.tuple #[.int .i64 (beZ xs h), .bool (chB xs h)]) ∧ Below w.heap.size w w' := by
  cases hg : chB xs h with
  | false => rw [beZ_no hg]; exact ibestFn_no v xs h w h0 hg
  | true =>
    obtain ⟨ls, H, rfl, rfl, hc⟩ := chores_of hg
    rw [beZ_yes hc]
    exact ibestFn_yes v ls H _ rfl hc w h0
end Go.Proofs.Ytflhlinkolbbiam
