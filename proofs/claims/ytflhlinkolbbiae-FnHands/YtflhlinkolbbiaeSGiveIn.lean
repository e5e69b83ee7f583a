/-
  spec.GiveInOrder: chore by chore to the hand with the least so far. Nothing old is written.
-/
import Derived.Test.YtflhlinkolbbiaeSIn
import Derived.Test.YtflhlinkolbbiaeSGive14
import Derived.Test.YtflhlinkolbbiaeSSpan14
import Derived.Test.YtflhlinkolbbiaeKAppN
import Derived.Test.YtflhlinkolbbiaeGiveFns
import Derived.OwnWalk
namespace Go.Proofs.Ytflhlinkolbbiae
open Go.RowKit

set_option maxHeartbeats 2000000 in
theorem sgiveIn_no (v : Value) (xs : List Int) (h : Int) (w : World) (h0 : KReads w v xs) (hn : chB xs h = false) :
    Calls Try.prog 26 #[v, .int .i64 h] w fun e w' => ∃ u0, e = .returned (.tuple #[u0, .int .i64 0, .bool false]) ∧ KOwn w.heap.size w'.heap.size w' u0 [] ∧ Below w.heap.size w w' := by
  have R0 := hid h0
  have HNo := hid hn
  clear h0 hn
  go_enter Try.func26, Try.ntmps26
  go_wp2_with fail
  refine (sgoodCh_eq _ xs h false HNo.out _ R0.out).mono ?_
  rintro e w' ⟨rfl, hw⟩; obtain rfl := hw.symm
  go_wp2
  go_ret3
  exact ⟨_, rfl, kown_nil _ _ _ _ _, Below.refl _ _⟩
set_option maxRecDepth 100000 in
set_option maxHeartbeats 8000000 in
theorem sgiveIn_yes (v : Value) (ls : List Nat) (H : Nat) (hc : Chores ls H) (w : World) (h0 : KReads w v (ofN ls)) :
    Calls Try.prog 26 #[v, .int .i64 (H : Nat)] w fun e w' => ∃ u0, e = .returned (.tuple #[u0, .int .i64 ((spanN ls (givesN ls H (rangeF ls)) H : Nat) : Int), .bool true]) ∧ KOwn w.heap.size w'.heap.size w' u0 (ofN (givesN ls H (rangeF ls))) ∧ Below w.heap.size w w' := by
  have R0 := hid h0
  have HC := hid hc
  have HG := hid (chores_good hc)
  have h8 := hc.few
  obtain ⟨a0, p0, rfl, _, _⟩ := h0
  have hl0 : (ofN ls).length = ls.length := List.length_map ..
  rw [hl0] at R0 ⊢
  have HL0 := hid hl0
  obtain ⟨r, hr⟩ : ∃ r, spanN ls (givesN ls H (rangeF ls)) H = r := ⟨_, rfl⟩
  rw [hr]
  have HR := hid hr
  clear hc hl0 hr
  go_enter Try.func26, Try.ntmps26
  go_wp2_with fail
  refine (sgoodCh_eq _ (ofN ls) H true HG.out _ R0.out).mono ?_
  rintro e w' ⟨rfl, hw⟩; obtain rfl := hw.symm
  go_wp2
  go_loopw [7, 16] (fun o i wr => ∃ k : Nat, k ≤ ls.length ∧ i = .int .i64 k ∧ wr.ownsRow w.heap.size 3 1 o k (kflat (ofN (List.range k))) ∧ Below w.heap.size w wr) (fun _ i _ => ls.length - (intOf i).toNat)
  case atStart => exact ⟨0, Nat.zero_le _, rfl, World.ownsRow_nil _ _ _ _, Below.refl _ _⟩
  case round =>
    obtain ⟨k, hk, rfl, hrow, hbel⟩ := hrel
    have HRow := hid hrow
    have HB := hid hbel
    have hsz := hbel.size
    clear hrow hbel
    by_cases hlt : k < ls.length
    · have HE : Hid (ofN (List.range (k + 1)) = ofN (List.range k) ++ [(k : Int)]) := by show _ = _; rw [List.range_succ]; simp [ofN]
      go_wp2_with (at_builtin; refine wpList_append_reads _ rfl _ _ rfl w.heap.size _ k (ofN (List.range k)) rfl (HRow.out.alloc _) _ [(k : Int)] rfl (kreads_int _ _) (by simp; omega) (by simp; omega) ?_)
      intro v2 x2 hown2 hgr2 _
      have O2 : Hid (x2.ownsRow w.heap.size 3 1 v2 (k + 1) (kflat (ofN (List.range (k + 1))))) := by
        show World.ownsRow _ _ _ _ _ _ _
        rw [HE.out]
        exact hown2
      have B2 : Hid (Below w.heap.size w x2) := (HB.out.alloc hsz _).grown hgr2 (by simp; omega) (fun m hm => (HRow.out.lt m hm).1)
      clear hown2 hgr2
      go_wp2
      go_roundw
      case rel => exact ⟨k + 1, by omega, by go_num, O2.out, B2.out⟩
      case measure => simp [intOf]; omega
    · obtain rfl : k = ls.length := by omega
      have HOR : Hid (KReads wr u7 (ofN (rangeF ls))) := (KOwn.of_owns HRow.out (by rw [ofN, List.length_map, List.length_range]; omega)).reads
      go_wp2_with fail
      refine (sgive14_any _ _ ls (rangeF ls) H HC.out (rangeK_lt _) (by rw [rangeF, List.length_range]; exact h8) _ (R0.out.below HB.out) HOR.out).mono ?_
      rintro e wg ⟨ug, rfl, hog, hbg⟩
      have BG : Hid (Below w.heap.size w wg) := HB.out.trans (hbg.mono HB.out.size)
      have OG := hid hog
      have RG := hid hog.reads
      have hwg := HB.out.size
      clear hog
      go_wp2_with fail
      refine (sspan14_eq _ _ ls (givesN ls H (rangeF ls)) H r HR.out HC.out (gives_given ls HC.out.h0 _) _ (R0.out.below BG.out) RG.out).mono ?_
      rintro e ws ⟨rfl, hbs⟩
      have BS : Hid (Below w.heap.size w ws) := BG.out.trans (hbs.mono BG.out.size)
      have OS : Hid (KOwn w.heap.size ws.heap.size ws ug (ofN (givesN ls H (rangeF ls)))) := (OG.out.below hbs).mono hwg hbs.size
      clear hbg hbs
      go_wp2
      go_ret3
      exact ⟨_, rfl, OS.out, BS.out⟩
theorem sgiveIn_any (v : Value) (xs : List Int) (h : Int) (w : World) (h0 : KReads w v xs) :
    Calls Try.prog 26 #[v, .int .i64 h] w fun e w' => ∃ u0, e = .returned (.tuple #[u0, .int .i64 (giN rangeF xs h), .bool (chB xs h)]) ∧ KOwn w.heap.size w'.heap.size w' u0 (giL rangeF xs h) ∧ Below w.heap.size w w' := by
  cases hg : chB xs h with
  | false =>
    rw [giN_no _ hg, giL_no _ hg]
    exact sgiveIn_no v xs h w h0 hg
  | true =>
    obtain ⟨ls, H, rfl, rfl, hc⟩ := chores_of hg
    rw [giN_yes _ hc, giL_yes _ hc]
    exact sgiveIn_yes v ls H hc w h0
end Go.Proofs.Ytflhlinkolbbiae
