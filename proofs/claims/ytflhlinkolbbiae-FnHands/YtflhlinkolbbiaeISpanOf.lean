/-
  impl.SpanOf: where chores or hands are wrong, nought and false, else the greatest sum of one hand. Nothing old is written.
-/
import Derived.Test.YtflhlinkolbbiaeISpanW
import Derived.Test.YtflhlinkolbbiaeIGoodCh
import Derived.Test.YtflhlinkolbbiaeSoFns
import Derived.OwnWalk
namespace Go.Proofs.Ytflhlinkolbbiae
open Go.RowKit

set_option maxHeartbeats 8000000 in
theorem ispanOf_no (v vg : Value) (xs gs : List Int) (h : Int) (w : World) (h0 : KReads w v xs) (h1 : KReads w vg gs) (hn : giB xs gs h = false) :
    Calls Try.prog 23 #[v, .int .i64 h, vg] w fun e w' => e = .returned (.tuple #[.int .i64 0, .bool false]) ∧ Below w.heap.size w w' := by
  have R0 := hid h0
  have R1 := hid h1
  obtain ⟨a0, p0, rfl, ⟨l0, _⟩, _⟩ := h0
  obtain ⟨a1, p1, rfl, ⟨l1, _⟩, _⟩ := h1
  obtain ⟨b1, hb1⟩ : ∃ b, chB xs h = b := ⟨_, rfl⟩
  obtain ⟨b2, hb2⟩ : ∃ b, decide (gs.length = xs.length) = b := ⟨_, rfl⟩
  obtain ⟨b3, hb3⟩ : ∃ b, gs.all (inB 0 (h - 1)) = b := ⟨_, rfl⟩
  unfold giB at hn
  rw [hb1, hb2, hb3] at hn
  have HB1 := hid hb1
  have HB3 := hid hb3
  have HNo := hid hn
  clear hb1 hb3 hn
  go_enter Try.func23, Try.ntmps23
  go_wp2_with fail
  refine (igoodCh_eq _ xs h b1 HB1.out _ R0.out).mono ?_
  rintro e w0 ⟨rfl, hb0⟩
  have B0 := hid hb0
  clear hb0
  cases b1
  · go_wp2
    go_ret2
    exact ⟨rfl, B0.out⟩
  cases b2
  · have hne : ¬ gs.length = xs.length := by simpa using hb2
    go_wp2
    go_ret2
    exact ⟨rfl, B0.out⟩
  have hlen : gs.length = xs.length := by simpa using hb2
  rw [hlen] at R1
  have hv : b3 = false := by have := HNo.out; cases b3 <;> simp at this ⊢
  subst hv
  obtain ⟨h', hh'⟩ : ∃ h', h' = h - 1 := ⟨_, rfl⟩
  have hw1 : IntKind.i64.wrap (h - 1) = h' := by
    obtain ⟨ls, H, _, rfl, hc⟩ := chores_of HB1.out
    have := hc.h0
    have := hc.h4
    rw [IntKind.wrap_i64]; omega
  rw [← hh'] at HB3
  clear hh'
  go_wp2_with fail
  refine (iallIn_eq _ gs 0 h' false HB3.out _ (R1.out.below B0.out)).mono ?_
  rintro e w2 ⟨rfl, hb2⟩
  have B2 : Hid (Below w.heap.size w w2) := B0.out.trans (hb2.mono B0.out.size)
  clear hb2
  go_wp2
  go_ret2
  exact ⟨rfl, B2.out⟩
set_option maxHeartbeats 8000000 in
theorem ispanOf_yes (v vg : Value) (ls gs : List Nat) (H r : Nat) (hr : spanN ls gs H = r) (hc : Chores ls H) (hg : Given ls gs H) (w : World) (h0 : KReads w v (ofN ls)) (h1 : KReads w vg (ofN gs)) :
    Calls Try.prog 23 #[v, .int .i64 (H : Nat), vg] w fun e w' => e = .returned (.tuple #[.int .i64 (r : Nat), .bool true]) ∧ Below w.heap.size w w' := by
  have R0 := hid h0
  have R1 := hid h1
  have HC := hid hc
  have HG := hid hg
  have HR := hid hr
  have HB1 := hid (chores_good hc)
  obtain ⟨h', hh'⟩ : ∃ h' : Int, h' = (H : Int) - 1 := ⟨_, rfl⟩
  have hw1 : IntKind.i64.wrap ((H : Int) - 1) = h' := by
    have := hc.h0
    have := hc.h4
    rw [IntKind.wrap_i64]; omega
  have HB3 : Hid ((ofN gs).all (inB 0 h') = true) := by
    have := given_good hc hg
    unfold giB at this
    simp only [Bool.and_eq_true] at this
    rw [hh']; exact this.2
  clear hh'
  have hl : gs.length = ls.length := hg.len
  obtain ⟨a0, p0, rfl, _, _⟩ := h0
  obtain ⟨a1, p1, rfl, _, _⟩ := h1
  have e0 : (ofN ls).length = ls.length := List.length_map ..
  have e1 : (ofN gs).length = ls.length := by rw [List.length_map]; exact hl
  obtain ⟨n, hn⟩ : ∃ n, n = ls.length := ⟨_, rfl⟩
  rw [← hn] at e0 e1
  rw [e0] at R0
  rw [e1] at R1
  rw [e0, e1]
  have dz : decide ((n : Int) = (n : Int)) = true := by simp
  clear hc hg hr hl e0 e1 hn
  go_enter Try.func23, Try.ntmps23
  go_wp2_with fail
  refine (igoodCh_eq _ (ofN ls) H true HB1.out _ R0.out).mono ?_
  rintro e w0 ⟨rfl, hb0⟩
  have B0 := hid hb0
  clear hb0
  go_wp2_with fail
  refine (iallIn_eq _ (ofN gs) 0 h' true HB3.out _ (R1.out.below B0.out)).mono ?_
  rintro e w2 ⟨rfl, hb2⟩
  have B2 : Hid (Below w.heap.size w w2) := B0.out.trans (hb2.mono B0.out.size)
  clear hb2
  go_wp2_with fail
  refine (ispanW_eq _ _ ls gs H r HR.out HC.out HG.out _ (R0.out.below B2.out) (R1.out.below B2.out)).mono ?_
  rintro e w3 ⟨rfl, hb⟩
  go_wp2
  go_ret2
  exact ⟨rfl, B2.out.trans (hb.mono B2.out.size)⟩
theorem ispanOf_any (v vg : Value) (xs gs : List Int) (h : Int) (w : World) (h0 : KReads w v xs) (h1 : KReads w vg gs) :
    Calls Try.prog 23 #[v, .int .i64 h, vg] w fun e w' => e = .returned (.tuple #[.int .i64 (soN xs gs h), .bool (giB xs gs h)]) ∧ Below w.heap.size w w' := by
  cases hg : giB xs gs h with
  | false =>
    have e : soN xs gs h = 0 := by unfold soN; rw [hg]; rfl
    rw [e]
    exact ispanOf_no v vg xs gs h w h0 h1 hg
  | true =>
    obtain ⟨ls, os, H, rfl, rfl, rfl, hc, hgi⟩ := given_of hg
    rw [soN_yes hc hgi]
    exact ispanOf_yes v vg ls os H _ rfl hc hgi w h0 h1
end Go.Proofs.Ytflhlinkolbbiae
