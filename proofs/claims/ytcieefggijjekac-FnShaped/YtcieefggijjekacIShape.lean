/-
  impl's method run of a shaper in a box. Nothing but the box and the queue's own rows is written.
-/
import Derived.Test.YtcieefggijjekacIPass
import Derived.Test.YtcieefggijjekacIFill
import Derived.Test.YtcieefggijjekacITake1
import Derived.Deep.RegionWith
namespace Go.Proofs.Ytcieefggijjekac
open Go.RowKit

theorem QBox.one {w w' : World} {b base n j : Nat} {wt : Int} {gs ws : List Int} (h : QBox w b base n wt gs ws) (ho : OneCell b j w w') (hj : 3 ≤ j) (hb : b < base) : QBox w' b base n wt gs ws := by
  obtain ⟨vg, vw, ⟨c0, c1, c2⟩, ⟨f0, f1, f2⟩, hg, hw, ha⟩ := h
  exact ⟨vg, vw, ⟨(ho.1 0 (by omega)).trans c0, (ho.1 1 (by omega)).trans c1, (ho.1 2 (by omega)).trans c2⟩, ⟨(ho.2.1 0).trans f0, (ho.2.1 1).trans f1, (ho.2.1 2).trans f2⟩, owns_only hg ho.2.2 hb, owns_only hw ho.2.2 hb, ha⟩
theorem BkCells.one {w w' : World} {b : Nat} {r d q q' : Int} (h : BkCells w b 3 (r, d, q)) (ho : OneCell b 5 w w') (hc : w'.cell? ⟨b, 5, none⟩ = some (.int .i64 q')) : BkCells w' b 3 (r, d, q') :=
  ⟨(ho.1 3 (by omega)).trans h.1, (ho.1 4 (by omega)).trans h.2.1, hc⟩
theorem BkFree.one {w w' : World} {b : Nat} (h : BkFree w b 3) (ho : OneCell b 5 w w') : BkFree w' b 3 :=
  ⟨(ho.2.1 3).trans h.1, (ho.2.1 4).trans h.2.1, (ho.2.1 5).trans h.2.2⟩
theorem pass_cells {w w' : World} {b : Nat} {x : BkEl} (h : ∀ j, 3 ≤ j → w'.cell? ⟨b, j, none⟩ = w.drew.cell? ⟨b, j, none⟩ ∧ w'.frozen? ⟨b, j, none⟩ = w.drew.frozen? ⟨b, j, none⟩) (hc : BkCells w b 3 x) : BkCells w' b 3 x :=
  ⟨(h 3 (by omega)).1.trans hc.1, (h 4 (by omega)).1.trans hc.2.1, (h 5 (by omega)).1.trans hc.2.2⟩
theorem pass_free {w w' : World} {b : Nat} (h : ∀ j, 3 ≤ j → w'.cell? ⟨b, j, none⟩ = w.drew.cell? ⟨b, j, none⟩ ∧ w'.frozen? ⟨b, j, none⟩ = w.drew.frozen? ⟨b, j, none⟩) (hc : BkFree w b 3) : BkFree w' b 3 :=
  ⟨(h 3 (by omega)).2.trans hc.1, (h 4 (by omega)).2.trans hc.2.1, (h 5 (by omega)).2.trans hc.2.2⟩
theorem hasB_next (r d : Int) (f : Nat → Int) (k : Nat) : lst7 d (hasB r d f k - goes r d f k + r) = hasB r d f (k + 1) := by
  have : hasB r d f (k + 1) = lst7 d ((sh r d f (k + 1)).1 + r) := by rw [hasB, if_neg (by omega)]
  rw [this, sh_succ]
theorem hasB_in {r d : Int} {f : Nat → Int} (hr : 0 ≤ r) (hd : 0 ≤ d) (hf : ∀ i, 0 ≤ f i) (k : Nat) : 0 ≤ hasB r d f k ∧ hasB r d f k ≤ d := by
  have h1 := (sh_in hr hd hf (k + 1)).1.1
  have h2 := (goes_in hr hd hf k).1
  rw [sh_succ] at h1
  simp only at h1
  exact ⟨by omega, hasB_le r d f k⟩
theorem wait_in7 {xs : List Int} (h : flowB xs = true) {r d : Int} (hr : 0 ≤ r) (hd : 0 ≤ d) (t : Nat) : 0 ≤ (sh r d (fl xs) t).2 ∧ (sh r d (fl xs) t).2 ≤ 60 * t := by
  have h1 := goes_sum (rate := r) (depth := d) (f := fl xs) t
  have h2 := psum_in (f := fl xs) (b := 60) (flowB_in h) t
  have h3 := psum_mono (f := goes r d (fl xs)) (fun i => (goes_in hr hd (fun j => (flowB_in h j).1) i).1) (a := 0) t (Nat.zero_le _)
  have h4 := (sh_in hr hd (fun j => (flowB_in h j).1) t).2
  have h5 : psum (goes r d (fl xs)) 0 = 0 := rfl
  omega
set_option maxRecDepth 100000 in
set_option maxHeartbeats 8000000 in
theorem ishape_any (b base : Nat) (r d : Int) (v : Value) (xs : List Int) (w0 w : World) (hr : KReads w0 v xs) (hbel : Below w0.heap.size w0 w) (hb0 : w0.heap.size ≤ b) (hb : b < base) (hs : base ≤ w.heap.size) (hf : flowB xs = true) (hrb : rateB r d = true) (h : QBox w b base 0 0 [] []) (hc : BkCells w b 3 (r, d, d)) (hcf : BkFree w b 3) :
    Calls Try.prog 33 #[.pointer (some ⟨b, 0, none⟩), v] w fun e w' => e = .returned (.tuple #[]) ∧ QBox w' b base xs.length (sh r d (fl xs) xs.length).2 (goL (goes r d (fl xs)) xs.length) (goL (fun t => (sh r d (fl xs) (t + 1)).2) xs.length) ∧ Below w0.heap.size w0 w' := by
  have HR := hid hr
  have HF := hid hf
  have HB0 := hid hbel
  have HQ := hid h
  have HC := hid hc
  have HCF := hid hcf
  have hlen := flowB_len hf
  have hrd := rateB_in hrb
  obtain ⟨a, cap, rfl, _, _⟩ := hr
  clear hf hbel h hc hcf hrb
  go_enter Try.func33, Try.ntmps33
  go_wp2
  go_loopw [8] (fun i wr => ∃ k : Nat, k ≤ xs.length ∧ i = .int .i64 k ∧ QBox wr b base k (sh r d (fl xs) k).2 (goL (goes r d (fl xs)) k) (goL (fun t => (sh r d (fl xs) (t + 1)).2) k) ∧ BkCells wr b 3 (r, d, hasB r d (fl xs) k) ∧ BkFree wr b 3 ∧ base ≤ wr.heap.size ∧ Below w0.heap.size w0 wr) (fun i _ => xs.length - (intOf i).toNat)
  case atStart => exact ⟨0, Nat.zero_le _, rfl, HQ.out, HC.out, HCF.out, hs, HB0.out⟩
  case round =>
    obtain ⟨k, hk, rfl, hq, hcb, hfb, hsr, hbel⟩ := hrel
    have HQr := hid hq
    have HB := hid hbel
    have HCB := hid hcb
    have HFB := hid hfb
    clear hq hbel HQ HC HB0 HCF hcb hfb
    by_cases hlt : k < xs.length
    · obtain ⟨g, o, cap', e, hc⟩ := (HR.out.below HB.out).cells k hlt
      cases e
      have hpw := wait_in7 HF.out (r := r) (d := d) (by omega) (by omega) k
      have hfi := flowB_in HF.out k
      have hgi := goes_in (rate := r) (depth := d) (f := fl xs) (by omega) (by omega) (fun j => (flowB_in HF.out j).1) k
      have hgo := (lst7_le ((sh r d (fl xs) k).2 + fl xs k) (hasB r d (fl xs) k)).2
      have hhb := hasB_in (r := r) (d := d) (f := fl xs) (by omega) (by omega) (fun j => (flowB_in HF.out j).1) k
      have HS : Hid ((sh r d (fl xs) (k + 1)).2 = (sh r d (fl xs) k).2 + fl xs k - goes r d (fl xs) k) := rfl
      have HG1 := hid (goL_succ (goes r d (fl xs)) k)
      have HG2 := hid (goL_succ (fun t => (sh r d (fl xs) (t + 1)).2) k)
      have HNX := hid (hasB_next r d (fl xs) k)
      have HP : Hid (lst7 ((sh r d (fl xs) k).2 + fl xs k) (hasB r d (fl xs) k) = goes r d (fl xs) k) := rfl
      rw [HP.out] at hgo
      obtain ⟨x, hx⟩ : ∃ x, x = fl xs k := ⟨_, rfl⟩
      have cx : wr.cell? ⟨g, o + k, none⟩ = some (.int .i64 x) := by rw [hx]; exact hc k hlt
      obtain ⟨wt, hwt⟩ : ∃ wt, wt = (sh r d (fl xs) k).2 := ⟨_, rfl⟩
      obtain ⟨H, hH⟩ : ∃ H, H = hasB r d (fl xs) k := ⟨_, rfl⟩
      obtain ⟨sm, hsm⟩ : ∃ sm, sm = goes r d (fl xs) k := ⟨_, rfl⟩
      obtain ⟨H2, hH2⟩ : ∃ H2, H2 = hasB r d (fl xs) (k + 1) := ⟨_, rfl⟩
      rw [← hx, ← hwt, ← hsm, ← hH] at HP
      rw [← hx, ← hwt, ← hsm] at HS
      rw [← hH, ← hsm, ← hH2] at HNX
      have HH2 := hid hH2
      rw [← hwt] at hpw HQr
      rw [← hx] at hfi
      rw [← hsm] at HG1 hgi hgo
      rw [← hH] at hgo hhb HCB
      have c5 : wr.cell? ⟨b, 5, none⟩ = some (.int .i64 H) := HCB.out.2.2
      clear hc hx hwt hsm hH hH2
      go_wp2_with fail
      go_region_with (first
        | (go_at_call 55; refine (ipass_any b base k wt x H sm _ _ _ HQr.out.drew hb hsr (by omega) (by omega) (by omega) (by omega) HP.out).mono ?_; rintro e w2 ⟨rfl, q2, k2, b2⟩; have Q2 := hid q2; have B2 := hid b2; have C2 := hid (pass_cells k2 HCB.out); have F2 := hid (pass_free k2 HFB.out); clear q2 k2 b2)
        | (go_at_call 44; refine (itake_any b 3 r d H sm _ C2.out F2.out (by omega) (by omega)).mono ?_; rintro e w3 ⟨rfl, hc3, o3⟩; have C3 := hid (C2.out.one o3 hc3); have F3 := hid (F2.out.one o3); have Q3 := hid (Q2.out.one o3 (by omega) hb); have O3 := hid o3; clear hc3 o3))
      all_goals
        go_wp2_with fail
        refine (ifill_any b 3 r d (H - sm) H2 _ C3.out F3.out (by omega) (by omega) HNX.out).mono ?_
        rintro e w4 ⟨rfl, hc4, o4⟩
        have C4 := hid (C3.out.one o4 hc4)
        have F4 := hid (F3.out.one o4)
        have Q4 := hid (Q3.out.one o4 (by omega) hb)
        have B3 : Hid (But (fun j => j = b ∨ base ≤ j) wr.drew w3) := B2.out.trans (O3.out.2.2.mono fun j h => .inl h)
        have B4 : Hid (But (fun j => j = b ∨ base ≤ j) wr.drew w4) := B3.out.trans (o4.2.2.mono fun j h => .inl h)
        have HB4 : Hid (Below w0.heap.size w0 w4) := HB.out.drew.trans (B4.out.to HB.out.size (fun j h e => by omega))
        have hs4 : base ≤ w4.heap.size := Nat.le_trans hsr B4.out.size
        clear hc4 o4
        go_wp2
        go_roundw
        case rel => exact ⟨k + 1, by omega, by go_num, by rw [HG1.out, HG2.out, HS.out]; exact Q4.out, by rw [← HH2.out]; exact C4.out, F4.out, hs4, HB4.out⟩
        case measure => simp [intOf]; omega
    · obtain rfl : k = xs.length := by omega
      go_wp2
      go_end0
      exact ⟨rfl, HQr.out, HB.out⟩
end Go.Proofs.Ytcieefggijjekac
