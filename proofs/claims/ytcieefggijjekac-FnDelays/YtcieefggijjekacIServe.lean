/-
  impl's method run of a server in a box. Nothing but the box and the queue's own rows is written.
-/
import Derived.Test.YtcieefggijjekacIPass
import Derived.Deep.RegionWith
namespace Go.Proofs.Ytcieefggijjekac
open Go.RowKit

set_option maxRecDepth 100000 in
set_option maxHeartbeats 8000000 in
theorem iserve_any (b base : Nat) (s : Int) (v : Value) (xs : List Int) (w0 w : World) (hr : KReads w0 v xs) (hbel : Below w0.heap.size w0 w) (hb0 : w0.heap.size ≤ b) (hb : b < base) (hs : base ≤ w.heap.size) (hf : flowB xs = true) (h1 : 1 ≤ s) (h2 : s ≤ 60) (h : QBox w b base 0 0 [] []) (hc : w.cell? ⟨b, 3, none⟩ = some (.int .i64 s)) :
    Calls Try.prog 47 #[.pointer (some ⟨b, 0, none⟩), v] w fun e w' => e = .returned (.tuple #[]) ∧ QBox w' b base xs.length (pw s (fl xs) xs.length) (goL (pgo s (fl xs)) xs.length) (goL (fun t => pw s (fl xs) (t + 1)) xs.length) ∧ Below w0.heap.size w0 w' := by
  have HR := hid hr
  have HF := hid hf
  have HB0 := hid hbel
  have HQ := hid h
  have HC := hid hc
  have hlen := flowB_len hf
  obtain ⟨a, cap, rfl, _, _⟩ := hr
  clear hf hbel h hc
  go_enter Try.func47, Try.ntmps47
  go_wp2
  go_loopw [8] (fun i wr => ∃ k : Nat, k ≤ xs.length ∧ i = .int .i64 k ∧ QBox wr b base k (pw s (fl xs) k) (goL (pgo s (fl xs)) k) (goL (fun t => pw s (fl xs) (t + 1)) k) ∧ wr.cell? ⟨b, 3, none⟩ = some (.int .i64 s) ∧ base ≤ wr.heap.size ∧ Below w0.heap.size w0 wr) (fun i _ => xs.length - (intOf i).toNat)
  case atStart => exact ⟨0, Nat.zero_le _, rfl, HQ.out, HC.out, hs, HB0.out⟩
  case round =>
    obtain ⟨k, hk, rfl, hq, c3, hsr, hbel⟩ := hrel
    have HQr := hid hq
    have HB := hid hbel
    clear hq hbel HQ HC HB0
    by_cases hlt : k < xs.length
    · obtain ⟨g, o, cap', e, hc⟩ := (HR.out.below HB.out).cells k hlt
      cases e
      have hpw : 0 ≤ pw s (fl xs) k ∧ pw s (fl xs) k ≤ 60 * k := by
        have a1 := pgo_sum (serve := s) (f := fl xs) k
        have a2 := psum_in (f := fl xs) (b := 60) (flowB_in HF.out) k
        have a3 := psum_mono (f := pgo s (fl xs)) (fun i => (pgo_in (by omega) (fun j => (flowB_in HF.out j).1) i).1) (a := 0) k (Nat.zero_le _)
        have a4 := pw_nonneg (serve := s) (f := fl xs) k
        have a5 : psum (pgo s (fl xs)) 0 = 0 := rfl
        omega
      have hfi := flowB_in HF.out k
      have HS := hid (pw_succ s (fl xs) k)
      have HG1 := hid (goL_succ (pgo s (fl xs)) k)
      have HG2 := hid (goL_succ (fun t => pw s (fl xs) (t + 1)) k)
      have HP : Hid (lst7 (pw s (fl xs) k + fl xs k) s = pgo s (fl xs) k) := rfl
      obtain ⟨x, hx⟩ : ∃ x, x = fl xs k := ⟨_, rfl⟩
      have cx : wr.cell? ⟨g, o + k, none⟩ = some (.int .i64 x) := by rw [hx]; exact hc k hlt
      obtain ⟨wt, hwt⟩ : ∃ wt, wt = pw s (fl xs) k := ⟨_, rfl⟩
      obtain ⟨sm, hsm⟩ : ∃ sm, sm = pgo s (fl xs) k := ⟨_, rfl⟩
      rw [← hx, ← hwt, ← hsm] at HP HS
      rw [← hwt] at hpw HQr
      rw [← hx] at hfi
      rw [← hsm] at HG1
      clear hc hx hwt hsm
      go_wp2_with fail
      go_region_with (go_at_call 55; refine (ipass_any b base k wt x s sm _ _ _ HQr.out.drew hb hsr (by omega) (by omega) (by omega) (by omega) HP.out).mono ?_; rintro e w2 ⟨rfl, q2, k2, b2⟩; have Q2 := hid q2; have K2 := hid k2; have B2 := hid b2; clear q2 k2 b2)
      all_goals
        have c32 : w2.cell? ⟨b, 3, none⟩ = some (.int .i64 s) := (K2.out 3 (by omega)).1.trans c3
        have HB2 : Hid (Below w0.heap.size w0 w2) := HB.out.drew.trans (B2.out.to HB.out.size (fun j h e => by omega))
        have hs2 : base ≤ w2.heap.size := Nat.le_trans hsr B2.out.size
        go_wp2
        go_roundw
        case rel => exact ⟨k + 1, by omega, by go_num, by rw [HG1.out, HG2.out, HS.out]; exact Q2.out, c32, hs2, HB2.out⟩
        case measure => simp [intOf]; omega
    · obtain rfl : k = xs.length := by omega
      go_wp2
      go_end0
      exact ⟨rfl, HQr.out, HB.out⟩
end Go.Proofs.Ytcieefggijjekac
