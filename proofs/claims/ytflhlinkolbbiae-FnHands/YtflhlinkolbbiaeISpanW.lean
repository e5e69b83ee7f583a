/-
  impl.spanWhere: the greatest sum of one hand. Nothing old is written.
-/
import Derived.Test.YtflhlinkolbbiaeHandFns
import Derived.Test.YtflhlinkolbbiaeIMaxH
import Derived.Test.YtflhlinkolbbiaeIRows
import Derived.Deep.QuietTactic
import Derived.BigQuiet
namespace Go.Proofs.Ytflhlinkolbbiae
open Go.RowKit

set_option maxRecDepth 100000 in
set_option maxHeartbeats 8000000 in
theorem ispanW_eq (v vg : Value) (ls gs : List Nat) (H r : Nat) (hr : spanN ls gs H = r) (hc : Chores ls H) (hg : Given ls gs H) (w : World) (h0 : KReads w v (ofN ls)) (h1 : KReads w vg (ofN gs)) :
    Calls Try.prog 73 #[v, .int .i64 (H : Nat), vg] w fun e w' => e = .returned (.int .i64 (r : Nat)) ∧ Below w.heap.size w w' := by
  have R0 := hid h0
  have R1 := hid h1
  have HC := hid hc
  have HG := hid hg
  have HR := hid hr
  have H4 := hid hc.h4
  obtain ⟨i0, hi, hz0, hz1, hz2⟩ := info_parts info_int
  obtain ⟨a0, p0, rfl, _, _⟩ := h0
  obtain ⟨a1, p1, rfl, _, _⟩ := h1
  have hl0 : (ofN ls).length = ls.length := List.length_map ..
  have hl1 : (ofN gs).length = ls.length := by rw [List.length_map]; exact hg.len
  have HL0 := hid hl0
  have HL1 := hid hl1
  rw [hl0, hl1]
  clear hc hg hr hl0 hl1
  go_enter Try.func73, Try.ntmps73
  go_wp2_with (at_make; refine wpList_make_row _ rfl _ _ 48 rfl 3 i0 (.int .i64 0) Try.underlying48 hi hz0 hz1 rfl .i64 .i64 H rfl rfl (by rw [hz2]; have := H4.out; omega) (by have := H4.out; omega) ?_)
  have O0 : Hid (IRow (w.alloc (.cells (madeCells #[.int .i64 0] H) 3)) w.heap.size H H (ofN (spanP ls gs H 0))) := by
    show IRow _ _ _ _ (ofN (List.replicate H 0))
    rw [show ofN (List.replicate H 0) = List.replicate H 0 by simp [ofN]]
    exact IRow.made w _ (by have := H4.out; omega)
  go_loopw [14] (fun i wr => ∃ k : Nat, k ≤ ls.length ∧ i = .int .i64 k ∧ IRow wr w.heap.size H H (ofN (spanP ls gs H k)) ∧ wr.heap.size = w.heap.size + 1 ∧ Below w.heap.size w wr) (fun i _ => ls.length - (intOf i).toNat)
  case atStart => exact ⟨0, by omega, rfl, O0.out, by simp, (Below.refl _ _).alloc (Nat.le_refl _) _⟩
  case round =>
    obtain ⟨k, hk, rfl, hown, hsz, hbel⟩ := hrel
    have HO := hid hown
    have HB := hid hbel
    have HZ := hid hsz
    clear hown hbel O0 hsz
    by_cases hlt : k < ls.length
    · obtain ⟨g0, o0, c0, e0, q0⟩ := (R0.out.below HB.out).cells k (by rw [HL0.out]; exact hlt)
      rw [HL0.out] at e0
      cases e0
      obtain ⟨g1, o1, c1, e1, q1⟩ := (R1.out.below HB.out).cells k (by rw [HL1.out]; exact hlt)
      rw [HL1.out] at e1
      cases e1
      obtain ⟨p, hp⟩ : ∃ p, p = ls.getD k 0 := ⟨_, rfl⟩
      obtain ⟨h, hh⟩ : ∃ h, h = gs.getD k 0 := ⟨_, rfl⟩
      have x0 : wr.cell? ⟨g0, o0 + k, none⟩ = some (.int .i64 (p : Nat)) := by have := q0 k (by rw [HL0.out]; exact hlt); rw [ofN_at, ← hp] at this; exact this
      have x1 : wr.cell? ⟨g1, o1 + k, none⟩ = some (.int .i64 (h : Nat)) := by have := q1 k (by rw [HL1.out]; exact hlt); rw [ofN_at, ← hh] at this; exact this
      have hhH : h < H := by rw [hh]; exact HG.out.lt k hlt
      obtain ⟨s, hs⟩ : ∃ s, s = (spanP ls gs H k).getD h 0 := ⟨_, rfl⟩
      have xs : wr.cell? ⟨w.heap.size, h, none⟩ = some (.int .i64 (s : Nat)) := by have := HO.out.cell (i := h) hhH; rw [ofN_at, ← hs] at this; exact this
      have fs : wr.frozen? ⟨w.heap.size, h, none⟩ = false := HO.out.free h
      have hb1 : s ≤ 50 * k := by rw [hs]; exact span_small HC.out k hk h
      have hb2 := (HC.out.size k hlt).2
      have hb3 := HC.out.few
      rw [← hp] at hb2
      obtain ⟨t, ht⟩ : ∃ t, t = s + p := ⟨_, rfl⟩
      have wr1 : IntKind.i64.wrap ((s : Int) + (p : Int)) = (t : Int) := by rw [IntKind.wrap_i64]; omega
      have HN : Hid (IRow (wr.setCell ⟨w.heap.size, h, none⟩ (.int .i64 (t : Nat))) w.heap.size H H (ofN (spanP ls gs H (k + 1)))) := by
        have := HO.out.set h (t : Nat)
        rw [ofN_setI, ht, hs, hh, hp] at this
        rw [ht, hs, hh, hp]
        exact this
      have n0 : (0 : Int) ≤ (h : Int) := by omega
      have n1 : (h : Int) < (H : Int) := by omega
      have n2 : (0 : Int) ≤ (k : Int) := by omega
      have n3 : (k : Int) < (ls.length : Int) := by omega
      have BN : Hid (Below w.heap.size w (wr.setCell ⟨w.heap.size, h, none⟩ (.int .i64 (t : Nat)))) := HB.out.setCell (Nat.le_refl _) _
      clear hp hh hs ht q0 q1 hb1 hb2 hb3
      go_wp2_with fail
      go_big_region
      have hfew := HC.out.few
      go_wp2
      go_roundw
      case rel => exact ⟨k + 1, by omega, by go_num, HN.out.at rfl, by simpa using HZ.out, BN.out.drew⟩
      case measure => simp [intOf]; omega
    · obtain rfl : k = ls.length := by omega
      have h0 := HC.out.h0
      have hlen := spanP_len ls gs H ls.length
      have hkr : Hid (KReads wr (.slice (some ⟨w.heap.size, 0, none⟩) H H) (ofN (spanP ls gs H ls.length))) := HO.out.reads (by have := H4.out; omega)
      have hml : Hid (0 < (spanP ls gs H ls.length).length ∧ (spanP ls gs H ls.length).length ≤ 1000) := by rw [hlen]; have := H4.out; exact ⟨by omega, by omega⟩
      clear h0 hlen
      go_wp2_with fail
      refine (imaxH_eq _ (spanP ls gs H ls.length) r HR.out _ hkr.out hml.out.1 hml.out.2).mono ?_
      rintro e w' ⟨rfl, hw⟩; obtain rfl := hw.symm
      go_wp2
      go_ret
      exact ⟨rfl, HB.out⟩
end Go.Proofs.Ytflhlinkolbbiae
