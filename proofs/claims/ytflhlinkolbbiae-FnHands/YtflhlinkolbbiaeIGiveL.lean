/-
  impl.GiveLongest: from the longest chore on to the hand with the least so far. Nothing old is written.
-/
import Derived.Test.YtflhlinkolbbiaeIGoodCh
import Derived.Test.YtflhlinkolbbiaeIGiveF
import Derived.Test.YtflhlinkolbbiaeISpanW
import Derived.Test.YtflhlinkolbbiaeIStable6
import Derived.Test.YtflhlinkolbbiaeGiveFns
import Derived.OwnWalk
namespace Go.Proofs.Ytflhlinkolbbiae
open Go.RowKit

set_option maxHeartbeats 2000000 in
theorem igiveL_no (v : Value) (xs : List Int) (h : Int) (w : World) (h0 : KReads w v xs) (hn : chB xs h = false) :
    Calls Try.prog 27 #[v, .int .i64 h] w fun e w' => ∃ u0, e = .returned (.tuple #[u0, .int .i64 0, .bool false]) ∧ KOwn w.heap.size w'.heap.size w' u0 [] ∧ Below w.heap.size w w' := by
  have R0 := hid h0
  have HNo := hid hn
  clear h0 hn
  go_enter Try.func27, Try.ntmps27
  go_wp2_with fail
  refine (igoodCh_eq _ xs h false HNo.out _ R0.out).mono ?_
  rintro e w1 ⟨rfl, hb⟩
  have B1 := hid hb
  clear hb
  go_wp2
  go_ret3
  exact ⟨_, rfl, kown_nil _ _ _ _ _, B1.out⟩
set_option maxRecDepth 100000 in
set_option maxHeartbeats 8000000 in
theorem igiveL_yes (v : Value) (ls : List Nat) (H : Nat) (hc : Chores ls H) (w : World) (h0 : KReads w v (ofN ls)) :
    Calls Try.prog 27 #[v, .int .i64 (H : Nat)] w fun e w' => ∃ u0, e = .returned (.tuple #[u0, .int .i64 ((spanN ls (givesN ls H (longK ls)) H : Nat) : Int), .bool true]) ∧ KOwn w.heap.size w'.heap.size w' u0 (ofN (givesN ls H (longK ls))) ∧ Below w.heap.size w w' := by
  have R0 := hid h0
  have HC := hid hc
  have HG := hid (chores_good hc)
  have h8 := hc.few
  obtain ⟨a0, p0, rfl, _, _⟩ := h0
  have hl0 : (ofN ls).length = ls.length := List.length_map ..
  rw [hl0] at R0 ⊢
  have HL0 := hid hl0
  obtain ⟨r, hr⟩ : ∃ r, spanN ls (givesN ls H (longK ls)) H = r := ⟨_, rfl⟩
  rw [hr]
  have HR := hid hr
  clear hc hl0 hr
  go_enter Try.func27, Try.ntmps27
  go_wp2_with fail
  refine (igoodCh_eq _ (ofN ls) H true HG.out _ R0.out).mono ?_
  rintro e w1 ⟨rfl, hb1⟩
  have B1 := hid hb1
  clear hb1
  go_wp2_with fail
  refine (ilongF_any _ ls H HC.out _ (R0.out.below B1.out)).mono ?_
  rintro e w2 ⟨uo, rfl, hown, hb2⟩
  have B2 : Hid (Below w.heap.size w w2) := B1.out.trans (hb2.mono B1.out.size)
  have HOR : Hid (KReads w2 uo (ofN (longK ls))) := hown.reads
  clear hown hb2
  go_wp2_with fail
  refine (igiveF_any _ _ ls (longK ls) H HC.out (longK_lt _) (by rw [longK_len]; exact h8) _ (R0.out.below B2.out) HOR.out).mono ?_
  rintro e wg ⟨ug, rfl, hog, hbg⟩
  have BG : Hid (Below w.heap.size w wg) := B2.out.trans (hbg.mono B2.out.size)
  have OG := hid hog
  have RG := hid hog.reads
  have hwg := B2.out.size
  clear hog
  go_wp2_with fail
  refine (ispanW_eq _ _ ls (givesN ls H (longK ls)) H r HR.out HC.out (gives_given ls HC.out.h0 _) _ (R0.out.below BG.out) RG.out).mono ?_
  rintro e ws ⟨rfl, hbs⟩
  have BS : Hid (Below w.heap.size w ws) := BG.out.trans (hbs.mono BG.out.size)
  have OS : Hid (KOwn w.heap.size ws.heap.size ws ug (ofN (givesN ls H (longK ls)))) := (OG.out.below hbs).mono hwg hbs.size
  clear hbg hbs
  go_wp2
  go_ret3
  exact ⟨_, rfl, OS.out, BS.out⟩
theorem igiveL_any (v : Value) (xs : List Int) (h : Int) (w : World) (h0 : KReads w v xs) :
    Calls Try.prog 27 #[v, .int .i64 h] w fun e w' => ∃ u0, e = .returned (.tuple #[u0, .int .i64 (giN longK xs h), .bool (chB xs h)]) ∧ KOwn w.heap.size w'.heap.size w' u0 (giL longK xs h) ∧ Below w.heap.size w w' := by
  cases hg : chB xs h with
  | false =>
    rw [giN_no _ hg, giL_no _ hg]
    exact igiveL_no v xs h w h0 hg
  | true =>
    obtain ⟨ls, H, rfl, rfl, hc⟩ := chores_of hg
    rw [giN_yes _ hc, giL_yes _ hc]
    exact igiveL_yes v ls H hc w h0
end Go.Proofs.Ytflhlinkolbbiae
