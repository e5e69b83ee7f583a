/-
  spec.AcksOf: spans of all letters, in memory of their own. Nothing old is written.
-/
import Derived.Test.YthmkeinhjlmgmaiSIn
import Derived.Test.YthmkeinhjlmgmaiSAdd
import Derived.Test.YthmkeinhjlmgmaiAckMath
import Derived.Test.YthmkeinhjlmgmaiSTellP
import Derived.Test.YthmkeinhjlmgmaiKSpanConv
namespace Go.Proofs.Ythmkeinhjlmgmai
open Go.RowKit

set_option maxRecDepth 100000 in
set_option maxHeartbeats 8000000 in
theorem sacks_any (v : Value) (xs : List Int) (w : World) (hr : KReads w v xs) (Y : List Sp) (t : Bool) (hY : acksY xs = Y) (ht : acksB xs = t) :
    Calls Try.prog 8 #[v] w fun e w' => ∃ v', e = .returned (.tuple #[v', .bool t]) ∧ SpOwn w.heap.size w'.heap.size w' v' Y ∧ Below w.heap.size w w' := by
  have HY := hid hY
  have HT := hid ht
  have HR := hid hr
  obtain ⟨a, cap, rfl, hl, _⟩ := hr
  obtain ⟨t1, e1⟩ : ∃ b, oruB xs 60 = b := ⟨_, rfl⟩
  have E1 := hid e1
  clear hY ht e1
  go_enter Try.func8, Try.ntmps8
  go_wp2_with fail
  refine (soru_eq _ xs 60 t1 E1.out (by omega) _ HR.out).mono ?_
  rintro e w' ⟨rfl, hw⟩; obtain rfl := hw.symm
  cases t1
  · have HV : Hid (t = false) := by show _ = _; rw [← HT.out]; unfold acksB; rw [E1.out]; rfl
    have HV2 : Hid (Y = []) := by show _ = _; rw [← HY.out]; unfold acksY acksB; rw [E1.out]; rfl
    go_wp2
    go_ret2
    exact ⟨_, by rw [HV.out]; rfl, by rw [HV2.out]; exact spown_nil _ _ _ _ _, Below.refl _ _⟩
  have HI : Hid (∀ i, i < xs.length → 0 ≤ fl xs i ∧ fl xs i ≤ 59) := fun i hi => by have := oruU_at xs.length E1.out i hi; omega
  go_wp2
  go_loopw [4, 12] (fun l i wr => ∃ k : Nat, k ≤ xs.length ∧ i = .int .i64 k ∧ SOwn w.heap.size wr l (acksU xs k) ∧ Below w.heap.size w wr) (fun _ i _ => xs.length - (intOf i).toNat)
  case atStart => exact ⟨0, Nat.zero_le _, rfl, ⟨by simp [acksU], .inl ⟨none, rfl, rfl⟩⟩, Below.refl _ _⟩
  case round =>
    obtain ⟨k, hk, rfl, hown, hbel⟩ := hrel
    have HO := hid hown
    have HB := hid hbel
    clear hown hbel
    by_cases hlt : k < xs.length
    · obtain ⟨g, o, cap', e, hc⟩ := (HR.out.below HB.out).cells k hlt
      cases e
      obtain ⟨x, hx⟩ : ∃ x, x = fl xs k := ⟨_, rfl⟩
      have cx : wr.cell? ⟨g, o + k, none⟩ = some (.int .i64 x) := by rw [hx]; exact hc k hlt
      have hb := HI.out k hlt
      rw [← hx] at hb
      have hw1 : IntKind.i64.wrap (x + 1) = x + 1 := by rw [IntKind.wrap_i64]; omega
      have HF := hid (chain_few (acks_chain k fun i hi => HI.out i (by omega)))
      have HN : Hid (acksU xs (k + 1) = addL (acksU xs k) (x, x + 1)) := by rw [hx]; exact rfl
      have m0 : (0 : Int) ≤ (k : Int) := by omega
      have n1 : (k : Int) < (xs.length : Int) := by omega
      have hsz := HB.out.size
      clear hx hc
      go_wp2_with fail
      refine (sadd_any _ (acksU xs k) x (x + 1) _ HO.out.reads (by have := HF.out; omega)).mono ?_
      rintro e w2 ⟨v2, rfl, o2, b2⟩
      have HO2 : Hid (SOwn w.heap.size w2 v2 (acksU xs (k + 1))) := by rw [HN.out]; exact o2.mono hsz
      have HB2 := hid (HB.out.trans (b2.mono HB.out.size))
      clear o2 b2 HO
      go_wp2
      go_roundw
      case rel => exact ⟨k + 1, by omega, by go_num, HO2.out, HB2.out⟩
      case measure => simp [intOf]; omega
    · obtain rfl : k = xs.length := by omega
      by_cases h20 : (acksU xs xs.length).length ≤ 20
      · have HV : Hid (t = true) := by show _ = _; rw [← HT.out]; unfold acksB; rw [E1.out, decide_eq_true h20]; rfl
        have HV2 : Hid (Y = acksU xs xs.length) := by show _ = _; rw [← HY.out]; unfold acksY acksB; rw [E1.out, decide_eq_true h20]; rfl
        have HK : Hid (SpOwn w.heap.size wr.heap.size wr u4 Y) := by rw [HV2.out]; exact HO.out.k
        go_wp2_with fail
        refine (stell_yes _ _ _ HO.out.reads h20).mono ?_
        rintro e w' ⟨rfl, hw⟩; obtain rfl := hw.symm
        clear h20 HO
        go_wp2
        go_ret2
        exact ⟨_, by rw [HV.out]; rfl, HK.out, HB.out⟩
      · have HV : Hid (t = false) := by show _ = _; rw [← HT.out]; unfold acksB; rw [E1.out, decide_eq_false h20]; rfl
        have HV2 : Hid (Y = []) := by show _ = _; rw [← HY.out]; unfold acksY acksB; rw [E1.out, decide_eq_false h20]; rfl
        go_wp2_with fail
        refine (stell_no _ _ _ HO.out.reads h20).mono ?_
        rintro e w' ⟨rfl, hw⟩; obtain rfl := hw.symm
        clear h20 HO
        go_wp2
        go_ret2
        exact ⟨_, by rw [HV.out]; rfl, by rw [HV2.out]; exact spown_nil _ _ _ _ _, HB.out⟩
end Go.Proofs.Ythmkeinhjlmgmai
