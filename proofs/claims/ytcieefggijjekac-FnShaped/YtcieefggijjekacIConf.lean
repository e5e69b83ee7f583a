/-
  impl.Conforms: whether in each while no more comes than depth, and rate for each tick but one. Nothing old is written.
-/
import Derived.Test.YtcieefggijjekacIConf1
import Derived.Test.YtcieefggijjekacINewB
import Derived.Test.YtcieefggijjekacIFlow7
import Derived.Deep.RegionWith
namespace Go.Proofs.Ytcieefggijjekac
open Go.RowKit

set_option maxHeartbeats 4000000 in
theorem iconf_no (r d : Int) (v : Value) (xs : List Int) (w : World) (hr : KReads w v xs) (hn : (rateB r d && flowB xs) = false) :
    Calls Try.prog 8 #[.int .i64 r, .int .i64 d, v] w fun e w' => e = .returned (.tuple #[.bool false, .bool false]) ∧ Below w.heap.size w w' := by
  have HR := hid hr
  obtain ⟨b, hb⟩ : ∃ b, rateB r d = b := ⟨_, rfl⟩
  have HF := hid hb
  have HN : Hid (b = true → flowB xs = false) := fun e => by rw [hb, e, Bool.true_and] at hn; exact hn
  clear hr hb hn
  cases b
  · go_enter Try.func8, Try.ntmps8
    go_wp2_with fail
    refine (inew_no r d HF.out _).mono ?_
    rintro e w1 ⟨rfl, b1⟩
    have B1 := hid b1
    clear b1
    go_wp2
    go_ret2
    exact ⟨rfl, B1.out.alloc B1.out.size _⟩
  · have HW := hid (HN.out rfl)
    go_enter Try.func8, Try.ntmps8
    go_wp2_with fail
    refine (inew_yes r d HF.out _).mono ?_
    rintro e w1 ⟨rfl, b1⟩
    have B1 := hid b1
    clear b1
    go_wp2_with fail
    refine (iflow_eq _ xs false HW.out _ (HR.out.below (B1.out.alloc B1.out.size _))).mono ?_
    rintro e w' ⟨rfl, hw⟩; obtain rfl := hw.symm
    go_wp2
    go_ret2
    exact ⟨rfl, B1.out.alloc B1.out.size _⟩
set_option maxRecDepth 100000 in
set_option maxHeartbeats 8000000 in
theorem iconf_yes (r d : Int) (v : Value) (xs : List Int) (w : World) (hr : KReads w v xs) (hb : rateB r d = true) (hf : flowB xs = true) :
    Calls Try.prog 8 #[.int .i64 r, .int .i64 d, v] w fun e w' => e = .returned (.tuple #[.bool (confF r d xs), .bool true]) ∧ Below w.heap.size w w' := by
  have HR := hid hr
  have HF := hid hf
  have HRb := hid hb
  have hlen := flowB_len hf
  obtain ⟨a, cap, rfl, hcap, _⟩ := hr
  clear hf hb
  go_enter Try.func8, Try.ntmps8
  go_wp2_with fail
  refine (inew_yes r d HRb.out _).mono ?_
  rintro e w1 ⟨rfl, b1⟩
  have B1 := hid b1
  have hs1 := b1.size
  have HB1 : Hid (Below w.heap.size w (w1.alloc (.cells #[.int .i64 r, .int .i64 d, .int .i64 d] 33))) := b1.alloc hs1 _
  have HC1 := hid (balloc3 w1 (r, d, d)).1
  clear b1
  go_wp2_with fail
  refine (iflow_eq _ xs true HF.out _ (HR.out.below HB1.out)).mono ?_
  rintro e w' ⟨rfl, hw⟩; obtain rfl := hw.symm
  go_wp2
  go_loopw [26] (fun i wr => ∃ k : Nat, k ≤ xs.length ∧ i = .int .i64 k ∧ (∀ j, j < k → cf1 r d (xs.drop j) = true) ∧ BkCells wr w1.heap.size 0 (r, d, d) ∧ Below w.heap.size w wr) (fun i _ => xs.length - (intOf i).toNat)
  case atStart => exact ⟨0, Nat.zero_le _, rfl, fun j h => absurd h (by omega), HC1.out, HB1.out⟩
  case round =>
    obtain ⟨k, hk, rfl, hto, hcb, hbel⟩ := hrel
    have HTo := hid hto
    have HB := hid hbel
    have HCB := hid hcb
    clear hto hbel hcb HC1 HB1
    by_cases hlt : k < xs.length
    · obtain ⟨g, o, cap', e, hc⟩ := (HR.out.below HB.out).cells k hlt
      cases e
      obtain ⟨t, ht⟩ : ∃ t, cf1 r d (xs.drop k) = t := ⟨_, rfl⟩
      have HT := hid ht
      have HFD := hid (flowB_drop HF.out k)
      obtain ⟨c0, c1, c2⟩ := HCB.out
      have n0 : (0 : Int) ≤ (k : Int) := by omega
      have n1 : (k : Int) ≤ (xs.length : Int) := by omega
      have n2 : k ≤ xs.length := by omega
      have n3 : xs.length ≤ cap := hcap.2
      have n4 : k < cap := by omega
      have n5 : ¬ cap = k := by omega
      have HD : Hid (KReads wr.drew (.slice (some ⟨g, o + k, none⟩) (xs.length - k) (cap - k)) (xs.drop k)) := by
        refine ⟨_, _, by rw [List.length_drop], by rw [List.length_drop]; omega, .inr ⟨g, o + k, rfl, fun i hi => ?_⟩⟩
        rw [List.length_drop] at hi
        have := hc (k + i) (by omega)
        rw [Nat.add_assoc]
        have e : (xs.drop k).getD i 0 = xs.getD (k + i) 0 := by simp [List.getD_eq_getElem?_getD, List.getElem?_drop]
        rw [e]
        exact this
      clear hc ht
      go_wp2_with fail
      refine wp_region_any (by kernel_rfl) ?_
      change wpAny _ _ _ _ _ _ _ (World.drew _)
      refine wpAny_take (i := 1) (v := (.slice (some ⟨g, o, none⟩) xs.length cap)) rfl (by kernel_rfl) (by kernel_rfl) (by kernel_rfl) (fun _ _ _ h => h) (Or.inl ⟨by kernel_rfl, fun _ => by go_simp⟩) ?_
      try simp only [Act.put]
      try simp only [List.setIfInBounds_toArray]
      try simp only [List.set_cons_succ]
      try simp only [List.set_cons_zero]
      refine wpAny_take (i := 2) (v := (.int .i64 k)) rfl (by kernel_rfl) (by kernel_rfl) (by kernel_rfl) (fun _ _ _ h => h) (Or.inl ⟨by kernel_rfl, fun _ => by go_simp⟩) ?_
      try simp only [Act.put]
      try simp only [List.setIfInBounds_toArray]
      try simp only [List.set_cons_succ]
      try simp only [List.set_cons_zero]
      refine wpAny_take (i := 3) (v := (.slice (some ⟨g, o + k, none⟩) (xs.length - k) (cap - k))) rfl (by kernel_rfl) (by kernel_rfl) (by kernel_rfl) (fun _ _ _ h => h) (Or.inl ⟨by kernel_rfl, fun _ => by go_simp⟩) ?_
      try simp only [Act.put]
      try simp only [List.setIfInBounds_toArray]
      try simp only [List.set_cons_succ]
      try simp only [List.set_cons_zero]
      refine wpAny_ready (rs := [0]) (by kernel_rfl) (by simp) ?_
      refine AllReady.cons rfl (fun K hK => ?_) AllReady.nil
      go_simp
      refine hK _ _ ?_
      clear hK K
      refine wpAny_ready (rs := [4]) (by kernel_rfl) (by simp) ?_
      refine AllReady.cons rfl (fun K hK => ?_) AllReady.nil
      go_simp
      refine (iconf1_eq r d d _ (xs.drop k) t HT.out _ HD.out HRb.out HFD.out).mono ?_
      rintro e w2 ⟨rfl, b2⟩
      have C2 : Hid (BkCells w2 w1.heap.size 0 (r, d, d)) := BkCells.below (w := wr.drew) HCB.out b2 HCB.out.lt
      have B2 : Hid (Below w.heap.size w w2) := HB.out.drew.trans (b2.mono HB.out.size)
      clear b2
      refine hK _ _ ?_
      clear hK K
      refine wpAny_ready (rs := [5]) (by kernel_rfl) (by simp) ?_
      refine AllReady.cons rfl (fun K hK => ?_) AllReady.nil
      go_simp
      refine hK _ _ ?_
      clear hK K
      refine wpAny_done (by kernel_rfl) ?_ _
      cases t
      · have HV : Hid (confF r d xs = false) := confF_no hlt HT.out
        go_wp2
        go_ret2
        exact ⟨by rw [HV.out]; rfl, B2.out⟩
      · have HN : Hid (∀ j, j < k + 1 → cf1 r d (xs.drop j) = true) := fun j hj => by
          by_cases e : j = k
          · rw [e]; exact HT.out
          · exact HTo.out j (by omega)
        go_wp2
        go_roundw
        case rel => exact ⟨k + 1, by omega, by go_num, HN.out, C2.out, B2.out⟩
        case measure => simp [intOf]; omega
    · obtain rfl : k = xs.length := by omega
      have HV : Hid (confF r d xs = true) := confF_yes HTo.out
      go_wp2
      go_ret2
      exact ⟨by rw [HV.out]; rfl, HB.out⟩
end Go.Proofs.Ytcieefggijjekac
