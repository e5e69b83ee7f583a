/-
  spec.PassThrough: what goes and what waits where so much is served in each tick, in memory of their own. Nothing old is written.
-/
import Derived.Test.YtcieefggijjekacSLeast7
import Derived.Test.YtcieefggijjekacSFlow7
import Derived.Test.YtcieefggijjekacSIn
import Derived.Test.YtcieefggijjekacKOne
import Derived.Test.YtcieefggijjekacKApart
import Derived.OwnWalk
namespace Go.Proofs.Ytcieefggijjekac
open Go.RowKit

def passB (xs : List Int) (s : Int) : Bool := flowB xs && decide (1 ≤ s ∧ s ≤ 60)
theorem pw_in {xs : List Int} (h : flowB xs = true) {s : Int} (hs : 1 ≤ s) (t : Nat) : 0 ≤ pw s (fl xs) t ∧ pw s (fl xs) t ≤ 60 * t := by
  have h1 := pgo_sum (serve := s) (f := fl xs) t
  have h2 := psum_in (f := fl xs) (b := 60) (flowB_in h) t
  have h3 := psum_mono (f := pgo s (fl xs)) (fun i => (pgo_in (serve := s) (by omega) (fun j => (flowB_in h j).1) i).1) (a := 0) t (Nat.zero_le _)
  have h4 := pw_nonneg (serve := s) (f := fl xs) t
  have h5 : psum (pgo s (fl xs)) 0 = 0 := rfl
  omega
set_option maxHeartbeats 1000000 in
theorem spass_no (v : Value) (xs : List Int) (s : Int) (w : World) (hr : KReads w v xs) (hn : passB xs s = false) :
    Calls Try.prog 27 #[v, .int .i64 s] w fun e w' => ∃ u0 u1, e = .returned (.tuple #[u0, u1, .bool false]) ∧ KOwn w.heap.size w'.heap.size w' u0 [] ∧ KOwn w.heap.size w'.heap.size w' u1 [] ∧ Apart7 u0 u1 ∧ Below w.heap.size w w' := by
  have HR := hid hr
  obtain ⟨b, hb⟩ : ∃ b, flowB xs = b := ⟨_, rfl⟩
  have HF := hid hb
  cases b
  · clear hr hb hn
    go_enter Try.func27, Try.ntmps27
    go_wp2_with fail
    refine (sflow_eq _ xs false HF.out _ HR.out).mono ?_
    rintro e w' ⟨rfl, hw⟩; obtain rfl := hw.symm
    go_wp2
    go_ret3
    exact ⟨_, _, rfl, kown_nil _ _ _ _ _, kown_nil _ _ _ _ _, fun g h => by simp [Value.ownBlock] at h, Below.refl _ _⟩
  · have HN : Hid (decide (1 ≤ s ∧ s ≤ 60) = false) := by unfold passB at hn; rw [hb, Bool.true_and] at hn; exact hn
    clear hr hb hn
    go_enter Try.func27, Try.ntmps27
    go_wp2_with fail
    refine (sflow_eq _ xs true HF.out _ HR.out).mono ?_
    rintro e w' ⟨rfl, hw⟩; obtain rfl := hw.symm
    go_wp2_with fail
    refine (l1In_eq s 1 60 false HN.out _).mono ?_
    rintro e w' ⟨rfl, hw⟩; obtain rfl := hw.symm
    go_wp2
    go_ret3
    exact ⟨_, _, rfl, kown_nil _ _ _ _ _, kown_nil _ _ _ _ _, fun g h => by simp [Value.ownBlock] at h, Below.refl _ _⟩
set_option maxRecDepth 100000 in
set_option maxHeartbeats 8000000 in
theorem spass_yes (v : Value) (xs : List Int) (s : Int) (w : World) (hr : KReads w v xs) (hf : flowB xs = true) (h1 : 1 ≤ s) (h2 : s ≤ 60) :
    Calls Try.prog 27 #[v, .int .i64 s] w fun e w' => ∃ u0 u1, e = .returned (.tuple #[u0, u1, .bool true]) ∧ KOwn w.heap.size w'.heap.size w' u0 (goL (pgo s (fl xs)) xs.length) ∧ KOwn w.heap.size w'.heap.size w' u1 (goL (fun t => pw s (fl xs) (t + 1)) xs.length) ∧ Apart7 u0 u1 ∧ Below w.heap.size w w' := by
  have HR := hid hr
  have HF := hid hf
  have HN : Hid (decide (1 ≤ s ∧ s ≤ 60) = true) := by show _ = _; rw [decide_eq_true_eq]; omega
  have hlen := flowB_len hf
  obtain ⟨a, cap, rfl, _, _⟩ := hr
  clear hf
  go_enter Try.func27, Try.ntmps27
  go_wp2_with fail
  refine (sflow_eq _ xs true HF.out _ HR.out).mono ?_
  rintro e w' ⟨rfl, hw⟩; obtain rfl := hw.symm
  go_wp2_with fail
  refine (l1In_eq s 1 60 true HN.out _).mono ?_
  rintro e w' ⟨rfl, hw⟩; obtain rfl := hw.symm
  go_wp2
  go_loopw [7, 8, 9, 23] (fun o ws wt i wr => ∃ k : Nat, k ≤ xs.length ∧ i = .int .i64 k ∧ wt = .int .i64 (pw s (fl xs) k) ∧ wr.ownsRow w.heap.size 3 1 o k (kflat (goL (pgo s (fl xs)) k)) ∧ wr.ownsRow w.heap.size 3 1 ws k (kflat (goL (fun t => pw s (fl xs) (t + 1)) k)) ∧ Apart7 o ws ∧ Below w.heap.size w wr) (fun _ _ _ i _ => xs.length - (intOf i).toNat)
  case atStart => exact ⟨0, Nat.zero_le _, rfl, rfl, World.ownsRow_nil _ _ _ _, World.ownsRow_nil _ _ _ _, fun g h => by simp [Value.ownBlock] at h, Below.refl _ _⟩
  case round =>
    obtain ⟨k, hk, rfl, rfl, ho, hws, hap, hbel⟩ := hrel
    have HO := hid ho
    have HW := hid hws
    have HAP := hid hap
    have HB := hid hbel
    have hsz := hbel.size
    clear ho hws hap hbel
    by_cases hlt : k < xs.length
    · obtain ⟨g, o, cap', e, hc⟩ := (HR.out.below HB.out).cells k hlt
      cases e
      have hpw := pw_in HF.out h1 k
      have hfi := flowB_in HF.out k
      have hgi := pgo_in (serve := s) (f := fl xs) (by omega) (fun j => (flowB_in HF.out j).1) k
      have HS := hid (pw_succ s (fl xs) k)
      have HG1 := hid (goL_succ (pgo s (fl xs)) k)
      have HG2 := hid (goL_succ (fun t => pw s (fl xs) (t + 1)) k)
      have HP : Hid (lst7 (pw s (fl xs) k + fl xs k) s = pgo s (fl xs) k) := rfl
      obtain ⟨x, hx⟩ : ∃ x, x = fl xs k := ⟨_, rfl⟩
      have cx : wr.cell? ⟨g, o + k, none⟩ = some (.int .i64 x) := by rw [hx]; exact hc k hlt
      obtain ⟨wt, hwt⟩ : ∃ wt, wt = pw s (fl xs) k := ⟨_, rfl⟩
      obtain ⟨sm, hsm⟩ : ∃ sm, sm = pgo s (fl xs) k := ⟨_, rfl⟩
      rw [← hx, ← hwt, ← hsm] at HP HS
      rw [← hwt] at hpw ⊢
      rw [← hx] at hfi
      rw [← hsm] at hgi HG1
      have hw1 : IntKind.i64.wrap (wt + x) = wt + x := by rw [IntKind.wrap_i64]; omega
      have hw2 : IntKind.i64.wrap (wt + x - sm) = wt + x - sm := by rw [IntKind.wrap_i64]; omega
      clear hc hx hwt hsm
      go_wp2_with fail
      refine (least7_any (wt + x) s _).mono ?_
      rintro e w' ⟨rfl, hw⟩; obtain rfl := hw.symm
      rw [HP.out]
      go_wp2_with (at_builtin; refine wpList_append_reads _ rfl _ _ rfl w.heap.size _ _ _ rfl (HO.out.alloc _) _ [sm] rfl (kreads_int _ _) (by simp; omega) (by simp; omega) ?_)
      intro v3 w3 hown3 hgr3 hat3
      have O3 : Hid (w3.ownsRow w.heap.size 3 1 v3 (k + 1) (kflat (goL (pgo s (fl xs)) (k + 1)))) := by show World.ownsRow _ _ _ _ _ _ _; rw [HG1.out]; exact hown3
      have W3 : Hid (w3.ownsRow w.heap.size 3 1 u8 k (kflat (goL (fun t => pw s (fl xs) (t + 1)) k))) := owns_rest7 (HW.out.alloc _) hgr3 (fun g h1 h2 => HAP.out g h2 h1)
      have B3 : Hid (Below w.heap.size w w3) := (HB.out.alloc hsz _).grown hgr3 (by simp; omega) (fun m hm => (HO.out.lt m hm).1)
      have AP3 : Hid (Apart7 v3 u8) := by
        intro g' h1 h2
        have hl8 := HW.out.lt g' h2
        rw [h1] at hat3
        rcases hat3 with h | h
        · exact HAP.out g' h.symm h2
        · injection h with h
          first | omega | (rw [World.size_alloc] at h; omega)
      have hs3 := B3.out.size
      clear hown3 hgr3 hat3
      go_wp2_with (at_builtin; refine wpList_append_reads _ rfl _ _ rfl w.heap.size _ _ _ rfl (W3.out.alloc _) _ [wt + x - sm] rfl (kreads_int _ _) (by simp; omega) (by simp; omega) ?_)
      intro v4 w4 hown4 hgr4 hat4
      have W4 : Hid (w4.ownsRow w.heap.size 3 1 v4 (k + 1) (kflat (goL (fun t => pw s (fl xs) (t + 1)) (k + 1)))) := by show World.ownsRow _ _ _ _ _ _ _; rw [HG2.out, HS.out]; exact hown4
      have O4 : Hid (w4.ownsRow w.heap.size 3 1 v3 (k + 1) (kflat (goL (pgo s (fl xs)) (k + 1)))) := owns_rest7 (O3.out.alloc _) hgr4 (fun g h1 h2 => AP3.out g h1 h2)
      have B4 : Hid (Below w.heap.size w w4) := (B3.out.alloc hs3 _).grown hgr4 (by simp; omega) (fun m hm => (W3.out.lt m hm).1)
      have AP4 : Hid (Apart7 v3 v4) := by
        intro g' h1 h2
        have hl3 := O3.out.lt g' h1
        rw [h2] at hat4
        rcases hat4 with h | h
        · exact AP3.out g' h1 h.symm
        · injection h with h
          first | omega | (rw [World.size_alloc] at h; omega)
      clear hown4 hgr4 hat4
      go_wp2
      go_roundw
      case rel => exact ⟨k + 1, by omega, by go_num, by rw [HS.out], O4.out, W4.out, AP4.out, B4.out⟩
      case measure => simp [intOf]; omega
    · obtain rfl : k = xs.length := by omega
      go_wp2
      go_ret3
      exact ⟨_, _, rfl, KOwn.of_owns HO.out (by rw [goL_len]; omega), KOwn.of_owns HW.out (by rw [goL_len]; omega), HAP.out, HB.out⟩
end Go.Proofs.Ytcieefggijjekac
