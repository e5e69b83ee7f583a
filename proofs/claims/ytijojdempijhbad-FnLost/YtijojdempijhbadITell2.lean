/-
  impl.ifNotTooMany: spans, where they are not too many; the world stays. Both ways in one form too.
  impl.spanOf: the span of one letter. Nothing old is written.
  impl.spanOf, impl.AcksOf: spans of all letters, in memory of their own. Nothing old is written.
-/
import Derived.Test.YtijojdempijhbadSpans
import Derived.Test.YtijojdempijhbadIPutS
import Derived.Test.YtijojdempijhbadJoinMath
import Derived.Test.YtijojdempijhbadFlowFns
import Derived.Test.YtijojdempijhbadKSpanConv
namespace Go.Proofs.Ytijojdempijhbad
open Go.RowKit
set_option maxRecDepth 100000

theorem itell_yes (v : Value) (xs : List Sp) (w : World) (hr : SReads w v xs) (h : xs.length ≤ 20) : Calls Try.prog 139 #[v] w fun e w' => e = .returned (.tuple #[v, .bool true]) ∧ w' = w := by
  obtain ⟨a, cap, rfl, _, _⟩ := hr
  go_enter Try.func139, Try.ntmps139
  go_wp2
  go_ret2
  exact ⟨rfl, rfl⟩
theorem itell_no (v : Value) (xs : List Sp) (w : World) (hr : SReads w v xs) (h : ¬ xs.length ≤ 20) : Calls Try.prog 139 #[v] w fun e w' => e = .returned (.tuple #[.slice none 0 0, .bool false]) ∧ w' = w := by
  obtain ⟨a, cap, rfl, _, _⟩ := hr
  go_enter Try.func139, Try.ntmps139
  go_wp2
  go_ret2
  exact ⟨rfl, rfl⟩
def tellY (l : List Sp) : List Sp := if l.length ≤ 20 then l else []
def tellB (l : List Sp) : Bool := decide (l.length ≤ 20)
theorem tellY_len (l : List Sp) : (tellY l).length ≤ 20 := by
  unfold tellY
  split
  · assumption
  · simp
theorem itell_own (base : Nat) (v : Value) (xs : List Sp) (w : World) (ho : SOwn base w v xs) : Calls Try.prog 139 #[v] w fun e w' => ∃ v', e = .returned (.tuple #[v', .bool (tellB xs)]) ∧ SOwn base w v' (tellY xs) ∧ w' = w := by
  by_cases h : xs.length ≤ 20
  · refine (itell_yes v xs w ho.reads h).mono fun e w' he => ⟨v, ?_, ?_, he.2⟩
    · rw [he.1]; simp [tellB, h]
    · unfold tellY; rw [if_pos h]; exact ho
  · refine (itell_no v xs w ho.reads h).mono fun e w' he => ⟨.slice none 0 0, ?_, ?_, he.2⟩
    · rw [he.1]; simp [tellB, h]
    · unfold tellY; rw [if_neg h]; exact sown_nil _ _ _
end Go.Proofs.Ytijojdempijhbad
namespace Go.Proofs.Ytijojdempijhbad
open Go.RowKit

set_option maxRecDepth 100000 in
set_option maxHeartbeats 2000000 in
theorem ispan1_any (x y : Int) (hy : y = x + 1) (hx : 0 ≤ x ∧ x ≤ 1000000) (w : World) :
    Calls Try.prog 135 #[.int .i64 x] w fun e w' => e = .returned (.agg #[.int .i64 x, .int .i64 y]) ∧ Below w.heap.size w w' := by
  have hw1 : IntKind.i64.wrap (x + 1) = y := by rw [hy, IntKind.wrap_i64]; omega
  clear hy hx
  go_enter Try.func135, Try.ntmps135
  go_wp2
  exact bodyPost_ret (v := .agg #[.int .i64 x, .int .i64 y]) (by simp [results, Try.results135, go_sem]) rfl ⟨rfl, (Below.refl _ _).alloc (Nat.le_refl _) _⟩
end Go.Proofs.Ytijojdempijhbad
namespace Go.Proofs.Ytijojdempijhbad
open Go.RowKit

set_option maxRecDepth 100000 in
set_option maxHeartbeats 8000000 in
theorem iacks_any (v : Value) (xs : List Int) (w : World) (hr : KReads w v xs) (hwi : ∀ x ∈ xs, inW x) (Y : List Sp) (t : Bool) (hY : acksY xs = Y) (ht : acksB xs = t) :
    Calls Try.prog 52 #[v] w fun e w' => ∃ v', e = .returned (.tuple #[v', .bool t]) ∧ SpOwn w.heap.size w'.heap.size w' v' Y ∧ Below w.heap.size w w' := by
  have HY := hid hY
  have HT := hid ht
  have HR := hid hr
  have HWI := hid hwi
  clear hwi
  obtain ⟨a, cap, rfl, hl, _⟩ := hr
  obtain ⟨t1, e1⟩ : ∃ b, oruB xs 60 = b := ⟨_, rfl⟩
  have E1 := hid e1
  clear hY ht e1
  go_enter Try.func52, Try.ntmps52
  go_wp2_with fail
  refine (igoodLet_eq _ xs 60 t1 E1.out (by omega) HWI.out _ HR.out).mono ?_
  rintro e w1 ⟨rfl, b1⟩
  have HBA := hid b1
  replace HR := hid (HR.out.below b1)
  clear b1
  cases t1
  · have HV : Hid (t = false) := by show _ = _; rw [← HT.out]; unfold acksB; rw [E1.out]; rfl
    have HV2 : Hid (Y = []) := by show _ = _; rw [← HY.out]; unfold acksY acksB; rw [E1.out]; rfl
    go_wp2
    go_ret2
    exact ⟨_, by rw [HV.out]; rfl, by rw [HV2.out]; exact spown_nil _ _ _ _ _, HBA.out⟩
  have HI : Hid (∀ i, i < xs.length → 0 ≤ fl xs i ∧ fl xs i ≤ 59) := fun i hi => by have := oruU_at xs.length E1.out i hi; omega
  go_wp2
  go_loopw [4, 12] (fun l i wr => ∃ k : Nat, k ≤ xs.length ∧ i = .int .i64 k ∧ SOwn w1.heap.size wr l (acksU xs k) ∧ Below w1.heap.size w1 wr) (fun _ i _ => xs.length - (intOf i).toNat)
  case atStart => exact ⟨0, Nat.zero_le _, rfl, ⟨by simp [acksU], .inl ⟨none, rfl, rfl⟩⟩, Below.refl _ _⟩
  case round =>
    obtain ⟨k, hk, rfl, hown, hbel⟩ := hrel
    have HO := hid hown
    have HB := hid hbel
    clear hown hbel
    by_cases hlt : k < xs.length
    · obtain ⟨g, o, cap', e, hc⟩ := (HR.out.below HB.out).cells k hlt
      cases e
      obtain ⟨x, hx⟩ : ∃ x, x = fl xs k := ⟨_, rfl⟩
      have cx : wr.cell? ⟨g, o + k, none⟩ = some (.int .i64 x) := by rw [hx]; exact hc k hlt
      have hb := HI.out k hlt
      rw [← hx] at hb
      have HCH := hid (acks_chain k fun i hi => HI.out i (by omega))
      have HF := hid (chain_few HCH.out)
      have HN : Hid (acksU xs (k + 1) = addL (acksU xs k) (x, x + 1)) := by rw [hx]; exact rfl
      have m0 : (0 : Int) ≤ (k : Int) := by omega
      have n1 : (k : Int) < (xs.length : Int) := by omega
      have hsz := HB.out.size
      clear hx hc
      go_wp2_with fail
      refine (ispan1_any x (x + 1) rfl (by omega) _).mono ?_
      rintro e w3 ⟨rfl, b3⟩
      have HB3 := hid (HB.out.trans (b3.mono HB.out.size))
      have HR3 := hid (HO.out.reads.below b3)
      have hsz3 := HB3.out.size
      clear b3
      go_wp2_with fail
      refine (joined_any _ (acksU xs k) x (x + 1) _ HR3.out HCH.out (by have := HF.out; omega)).mono ?_
      rintro e w2 ⟨v2, rfl, o2, b2⟩
      have HO2 : Hid (SOwn w1.heap.size w2 v2 (acksU xs (k + 1))) := by rw [HN.out]; exact o2.mono hsz3
      have HB2 := hid (HB3.out.trans (b2.mono HB3.out.size))
      clear HR3
      clear o2 b2 HO
      go_wp2
      go_roundw
      case rel => exact ⟨k + 1, by omega, by go_num, HO2.out, HB2.out⟩
      case measure => simp [intOf]; omega
    · obtain rfl : k = xs.length := by omega
      by_cases h20 : (acksU xs xs.length).length ≤ 20
      · have HV : Hid (t = true) := by show _ = _; rw [← HT.out]; unfold acksB; rw [E1.out, decide_eq_true h20]; rfl
        have HV2 : Hid (Y = acksU xs xs.length) := by show _ = _; rw [← HY.out]; unfold acksY acksB; rw [E1.out, decide_eq_true h20]; rfl
        have HK : Hid (SpOwn w.heap.size wr.heap.size wr u4 Y) := by rw [HV2.out]; exact (HO.out.mono HBA.out.size).k
        go_wp2_with fail
        refine (itell_yes _ _ _ HO.out.reads h20).mono ?_
        rintro e w' ⟨rfl, hw⟩; obtain rfl := hw.symm
        clear h20 HO
        go_wp2
        go_ret2
        exact ⟨_, by rw [HV.out]; rfl, HK.out, HBA.out.trans (HB.out.mono HBA.out.size)⟩
      · have HV : Hid (t = false) := by show _ = _; rw [← HT.out]; unfold acksB; rw [E1.out, decide_eq_false h20]; rfl
        have HV2 : Hid (Y = []) := by show _ = _; rw [← HY.out]; unfold acksY acksB; rw [E1.out, decide_eq_false h20]; rfl
        go_wp2_with fail
        refine (itell_no _ _ _ HO.out.reads h20).mono ?_
        rintro e w' ⟨rfl, hw⟩; obtain rfl := hw.symm
        clear h20 HO
        go_wp2
        go_ret2
        exact ⟨_, by rw [HV.out]; rfl, by rw [HV2.out]; exact spown_nil _ _ _ _ _, HBA.out.trans (HB.out.mono HBA.out.size)⟩
end Go.Proofs.Ytijojdempijhbad
