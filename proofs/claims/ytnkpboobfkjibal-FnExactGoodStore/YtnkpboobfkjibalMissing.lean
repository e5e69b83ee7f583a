/-
  impl.missing: what spans have not, up to an end, in memory of its own. Nothing old is written.
-/
import Derived.Test.YtnkpboobfkjibalWithout
import Derived.Test.YtnkpboobfkjibalSpanTake
namespace Go.Proofs.Ytnkpboobfkjibal
open Go.RowKit
set_option maxRecDepth 100000

theorem cutAll_take {p q : Int} {l xs : List Sp} (hl : chainB p l = true) (hx : chainB q xs = true) (k : Nat) (hk : k < xs.length) : cutL (cutAll l (xs.take k)) (xs.getD k (0, 0)) = cutAll l (xs.take (k + 1)) := by
  rw [take_snoc' xs k hk, cutAll_snoc]
  exact cutL_cutF (cutAll_chain hl (chain_take hx k)) (chain_at hx k hk).2.1

set_option maxHeartbeats 2000000 in
theorem missing_any (v : Value) (xs : List Sp) (u : Int) (w : World) (hr : SReads w v xs) (hc : chainB (-1) xs = true) (h0 : 0 ≤ u) (h1 : u ≤ 1000000) :
    Calls Try.prog 35 #[v, .int .i64 u] w fun e w' => ∃ v', e = .returned v' ∧ SOwn w.heap.size w' v' (missL xs u) ∧ Below w.heap.size w w' := by
  have HM : Hid (missL xs u = if u = 0 then [] else cutAll [(0, u)] xs) := (missI_missL hc h0 h1).symm
  have HC := hid hc
  have hx := chain_len' hc
  by_cases hu : u = 0
  · subst hu
    clear hr hc
    go_enter Try.func35, Try.ntmps35
    go_wp2
    go_ret
    exact ⟨_, rfl, by rw [HM.out]; exact sown_nil _ _ _, Below.refl _ _⟩
  have hd : (u == 0) = false := by simpa using hu
  have HL : Hid (chainB (-1) [((0 : Int), u)] = true) := by
    show _ = _
    rw [chain_cons, spB_iff]
    exact ⟨by simp, ⟨by simp, by simp only; omega, h1⟩, rfl⟩
  have HR := hid hr
  obtain ⟨a, cap, rfl, _, _⟩ := hr
  clear hc
  go_enter Try.func35, Try.ntmps35
  go_wp2
  go_loopw [5, 15] (fun o i wr => ∃ k : Nat, k ≤ xs.length ∧ i = .int .i64 k ∧ SOwn w.heap.size wr o (cutAll [(0, u)] (xs.take k)) ∧ Below w.heap.size w wr) (fun _ i _ => xs.length - (intOf i).toNat)
  case atStart =>
    refine ⟨0, Nat.zero_le _, rfl, ⟨by simp [cutAll], .inr ⟨w.heap.size, 1, by simp [cutAll], ⟨Nat.le_refl _, by simp [cutAll]⟩, fun i hi => ?_⟩⟩, ?_⟩
    · obtain rfl : i = 0 := by simpa [cutAll] using hi
      exact ⟨⟨by simp [cutAll], by simp [cutAll]⟩, by simp, by simp⟩
    · go_grown
  case round =>
    obtain ⟨k, hk, rfl, hown, hbel⟩ := hrel
    have HO := hid hown
    have HB := hid hbel
    clear hown hbel
    by_cases hlt : k < xs.length
    · obtain ⟨ga, oa, cap', e, hca⟩ := sreads_cells (HR.out.below HB.out) k hlt
      cases e
      have c1 := (hca k hlt).1
      have c2 := (hca k hlt).2
      have HX : Hid (cutL (cutAll [(0, u)] (xs.take k)) ((xs.getD k (0, 0)).1, (xs.getD k (0, 0)).2) = cutAll [(0, u)] (xs.take (k + 1))) := cutAll_take HL.out HC.out k hlt
      have hl' := chain_len' (cutAll_chain HL.out (chain_take HC.out k))
      clear hca
      generalize (xs.getD k (0, 0)).1 = p at c1 HX
      generalize (xs.getD k (0, 0)).2 = q at c2 HX
      go_wp2_with fail
      refine (without_any _ (cutAll [(0, u)] (xs.take k)) p q _ (HO.out.below ?hb).reads hl').mono ?_
      case hb => go_grown
      rintro e w2 ⟨v2, rfl, o2, b2⟩
      rw [HX.out] at o2
      have O2 := hid (o2.mono (base' := w.heap.size) (by have := HB.out.size; simp; omega))
      have B2 : Hid (Below w.heap.size w w2) := (HB.out.alloc HB.out.size _).trans (b2.mono (by have := HB.out.size; simp; omega))
      clear o2 b2
      go_wp2
      go_roundw
      case rel => exact ⟨k + 1, by omega, by go_num, O2.out, B2.out⟩
      case measure => simp [intOf]; omega
    · go_wp2
      go_ret
      refine ⟨_, rfl, ?_, HB.out⟩
      rw [HM.out, if_neg hu]
      have := HO.out
      rw [List.take_of_length_le (by omega)] at this
      exact this
end Go.Proofs.Ytnkpboobfkjibal
