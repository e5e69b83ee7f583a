/-
  laws.sameInts: true for lists that read alike. Nothing is written.
  laws.sameTurns: true for turns that read alike. Nothing old is written.
-/
import Derived.Test.YtepnhbicmlfnhacKIntRows
import Derived.Deep.QuietTactic
import Derived.BigQuiet
import Derived.Test.YtepnhbicmlfnhacFlowFns
import Derived.Test.YtepnhbicmlfnhacBoxL
namespace Go.Proofs.Ytepnhbicmlfnhac
open Go.RowKit

set_option maxHeartbeats 2000000 in
theorem sameK_same (va vb : Value) (xs : List Int) (w : World) (ha : KReads w va xs) (hb : KReads w vb xs) :
    Calls Try.prog 13 #[va, vb] w fun e w' => e = .returned (.bool true) ∧ ∃ m, w' = w.drewN m := by
  obtain ⟨a, ca, rfl, _, hxa⟩ := ha
  obtain ⟨b, cb, rfl, _, hxb⟩ := hb
  have hd : ((xs.length : Int) != (xs.length : Int)) = false := by simp
  have HC : Hid (∀ i, i < xs.length → ∃ g o, a = some ⟨g, o, none⟩ ∧ w.cell? ⟨g, o + i, none⟩ = some (.int .i64 (xs.getD i 0))) := fun i hi => by
    rcases hxa with h | ⟨g, o, h1, h2⟩
    · rw [h] at hi; simp at hi
    · exact ⟨g, o, h1, h2 i hi⟩
  have HD : Hid (∀ i, i < xs.length → ∃ g o, b = some ⟨g, o, none⟩ ∧ w.cell? ⟨g, o + i, none⟩ = some (.int .i64 (xs.getD i 0))) := fun i hi => by
    rcases hxb with h | ⟨g, o, h1, h2⟩
    · rw [h] at hi; simp at hi
    · exact ⟨g, o, h1, h2 i hi⟩
  clear hxa hxb
  go_enter Try.func13, Try.ntmps13
  go_wp2
  go_loopw [13] (fun i wr => ∃ k : Nat, k ≤ xs.length ∧ i = .int .i64 k ∧ ∃ m, wr = w.drewN m) (fun i _ => xs.length - (intOf i).toNat)
  case atStart => exact ⟨0, Nat.zero_le _, rfl, 0, rfl⟩
  case round =>
    obtain ⟨k, hk, rfl, m, hm⟩ := hrel
    have HM := hid hm
    by_cases hlt : k < xs.length
    · obtain ⟨g, o, rfl, hc⟩ := HC.out k hlt
      obtain ⟨h, p, rfl, hd'⟩ := HD.out k hlt
      have h1 : wr.cell? ⟨g, o + k, none⟩ = some (.int .i64 (xs.getD k 0)) := by rw [hm]; exact hc
      have h2 : wr.cell? ⟨h, p + k, none⟩ = some (.int .i64 (xs.getD k 0)) := by rw [hm]; exact hd'
      generalize xs.getD k 0 = x at h1 h2
      have n0 : (0 : Int) ≤ (k : Int) := by omega
      have n1 : (k : Int) < (xs.length : Int) := by omega
      have de : (x != x) = false := by simp
      clear hc hd' hm
      go_wp2_with fail
      go_big_region
      go_wp2
      go_roundw
      case rel => exact ⟨k + 1, by omega, by go_num, m + 1, by rw [HM.out]; rfl⟩
      case measure => simp [intOf]; omega
    · clear hm
      go_wp2
      go_ret
      exact ⟨rfl, m, HM.out⟩
theorem sameK_below {w w' : World} (h : ∃ m, w' = w.drewN m) : Below w.heap.size w w' := by
  obtain ⟨m, rfl⟩ := h
  exact ⟨rfl, rfl, rfl, Nat.le_refl _, fun _ _ => rfl⟩
end Go.Proofs.Ytepnhbicmlfnhac
namespace Go.Proofs.Ytepnhbicmlfnhac
open Go.RowKit

set_option maxHeartbeats 8000000 in
theorem sameTurns_same (va vb : Value) (D : TuD) (w : World) (ha : TuReads w va D) (hb : TuReads w vb D) :
    Calls Try.prog 40 #[va, vb] w fun e w' => e = .returned (.bool true) ∧ Below w.heap.size w w' := by
  obtain ⟨v0, v1, v2, v3, rfl, a0, a1, a2, a3⟩ := ha
  obtain ⟨u0, u1, u2, u3, rfl, b0, b1, b2, b3⟩ := hb
  have s0 : (w.alloc (.cells #[v0, v1, v2, v3, .int .i64 D.f4] 55)).heap.size = w.heap.size + 1 := World.size_alloc ..
  have P0 := boxL_new w [v0, v1, v2, v3, .int .i64 D.f4] 55
  have Q0 := boxL_new (w.alloc (.cells #[v0, v1, v2, v3, .int .i64 D.f4] 55)) [u0, u1, u2, u3, .int .i64 D.f4] 55
  rw [s0] at Q0
  have bb : Below w.heap.size w ((w.alloc (.cells #[v0, v1, v2, v3, .int .i64 D.f4] 55)).alloc (.cells #[u0, u1, u2, u3, .int .i64 D.f4] 55)) := ((Below.refl _ _).alloc (Nat.le_refl _) _).alloc (by omega) _
  have P1 := hid (P0.below ((Below.refl _ _).alloc (by omega) (.cells #[u0, u1, u2, u3, .int .i64 D.f4] 55)) (show w.heap.size < w.heap.size + 1 by omega))
  have Q1 := hid Q0
  have B := hid bb
  have A0 := hid (a0.below bb); have A1 := hid (a1.below bb); have A2 := hid (a2.below bb); have A3 := hid (a3.below bb)
  have B0 := hid (b0.below bb); have B1 := hid (b1.below bb); have B2 := hid (b2.below bb); have B3 := hid (b3.below bb)
  obtain ⟨ca1, ka1, rfl, hl1, _⟩ := a1
  obtain ⟨cb1, kb1, rfl, _, _⟩ := b1
  clear a0 a2 a3 b0 b2 b3 bb P0 Q0 s0
  obtain ⟨p0, p1, p2, p3, p4⟩ := P1.out.five
  obtain ⟨q0, q1, q2, q3, q4⟩ := Q1.out.five
  have hne : ((D.f1.length : Int) != (D.f1.length : Int)) = false := by simp
  have hne4 : (D.f4 != D.f4) = false := by simp
  go_enter Try.func40, Try.ntmps40
  go_wp2_with fail
  refine (sameK_same _ _ D.f0 _ A0.out B0.out).mono ?_
  rintro e y1 ⟨rfl, hm⟩
  have b := sameK_below hm
  clear hm p0 p1 p2 p3 p4 q0 q1 q2 q3 q4
  replace P1 := hid (P1.out.below b P1.out.lt); replace Q1 := hid (Q1.out.below b Q1.out.lt)
  replace B := hid (B.out.trans (b.mono B.out.size))
  replace A1 := hid (A1.out.below b); replace A2 := hid (A2.out.below b); replace A3 := hid (A3.out.below b)
  replace B1 := hid (B1.out.below b); replace B2 := hid (B2.out.below b); replace B3 := hid (B3.out.below b)
  clear b
  obtain ⟨p0, p1, p2, p3, p4⟩ := P1.out.five
  obtain ⟨q0, q1, q2, q3, q4⟩ := Q1.out.five
  go_wp2_with fail
  refine (sameK_same _ _ D.f2 _ A2.out B2.out).mono ?_
  rintro e y2 ⟨rfl, hm⟩
  have b := sameK_below hm
  clear hm p0 p1 p2 p3 p4 q0 q1 q2 q3 q4
  replace P1 := hid (P1.out.below b P1.out.lt); replace Q1 := hid (Q1.out.below b Q1.out.lt)
  replace B := hid (B.out.trans (b.mono B.out.size))
  replace A1 := hid (A1.out.below b); replace A2 := hid (A2.out.below b); replace A3 := hid (A3.out.below b)
  replace B1 := hid (B1.out.below b); replace B2 := hid (B2.out.below b); replace B3 := hid (B3.out.below b)
  clear b
  obtain ⟨p0, p1, p2, p3, p4⟩ := P1.out.five
  obtain ⟨q0, q1, q2, q3, q4⟩ := Q1.out.five
  go_wp2_with fail
  refine (sameK_same _ _ D.f3 _ A3.out B3.out).mono ?_
  rintro e y3 ⟨rfl, hm⟩
  have b := sameK_below hm
  clear hm p0 p1 p2 p3 p4 q0 q1 q2 q3 q4
  replace P1 := hid (P1.out.below b P1.out.lt); replace Q1 := hid (Q1.out.below b Q1.out.lt)
  replace B := hid (B.out.trans (b.mono B.out.size))
  replace A1 := hid (A1.out.below b); replace A2 := hid (A2.out.below b); replace A3 := hid (A3.out.below b)
  replace B1 := hid (B1.out.below b); replace B2 := hid (B2.out.below b); replace B3 := hid (B3.out.below b)
  clear b
  obtain ⟨p0, p1, p2, p3, p4⟩ := P1.out.five
  obtain ⟨q0, q1, q2, q3, q4⟩ := Q1.out.five
  go_wp2
  go_loopw [47] (fun i wr => ∃ k : Nat, k ≤ D.f1.length ∧ i = .int .i64 k ∧ Below y3.heap.size y3 wr) (fun i _ => D.f1.length - (intOf i).toNat)
  case atStart => exact ⟨0, Nat.zero_le _, rfl, Below.refl _ _⟩
  case round =>
    obtain ⟨k, hk, rfl, hal⟩ := hrel
    by_cases hlt : k < D.f1.length
    · obtain ⟨g1, o1, c1, e1, h1⟩ := A1.out.cells k hlt
      cases e1
      obtain ⟨g2, o2, c2, e2, h2⟩ := B1.out.cells k hlt
      cases e2
      obtain ⟨ua, x1, r1⟩ := h1 k hlt
      obtain ⟨ub, x2, r2⟩ := h2 k hlt
      have y1 := (World.cell?_of_block (a := ⟨g1, o1 + k, none⟩) (hal.block g1 (lt_of_cell x1))).trans x1
      have y2 := (World.cell?_of_block (a := ⟨g2, o2 + k, none⟩) (hal.block g2 (lt_of_cell x2))).trans x2
      have z1 := (World.cell?_of_block (a := ⟨w.heap.size, 1, none⟩) (hal.block w.heap.size P1.out.lt)).trans p1
      have z2 := (World.cell?_of_block (a := ⟨w.heap.size + 1, 1, none⟩) (hal.block (w.heap.size + 1) Q1.out.lt)).trans q1
      have R1 := hid (r1.below hal); have R2 := hid (r2.below hal)
      have HL := hid hal
      have n0 : (0 : Int) ≤ (k : Int) := by omega
      have n1 : (k : Int) < (D.f1.length : Int) := by omega
      clear hal h1 h2 x1 x2 r1 r2 p0 p1 p2 p3 p4 q0 q1 q2 q3 q4
      go_wp2_with fail
      go_quiet (exact Calls.quiet_of (sameK_same _ _ (D.f1.getD k []) _ R1.out R2.out))
      go_wp2
      go_roundw
      case rel => exact ⟨k + 1, by omega, by go_num, ⟨HL.out.os, HL.out.tape, HL.out.output, HL.out.size, HL.out.block⟩⟩
      case measure => simp [intOf]; omega
    · have HB := hid (B.out.trans (hal.mono B.out.size))
      go_wp2
      go_ret
      exact ⟨rfl, HB.out⟩
end Go.Proofs.Ytepnhbicmlfnhac
