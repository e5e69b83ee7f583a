/-
  laws.eqIntS answers true for two slices that read as one list; nothing is written.
  laws.eqIntS with true for two slices that read alike; nothing old is written.
  laws.eqIntSS: rows of rows that read alike are told to be the same. Nothing old is written.
  laws.eqTurns: two that read alike are told to be the same. Nothing old is written.
-/
import Derived.Test.YteeaebelknpdjbaInts
import Derived.Test.YteeaebelknpdjbaKIntRows
import Derived.Test.YteeaebelknpdjbaQForm
import Derived.Deep.RegionWith
import Derived.Test.YteeaebelknpdjbaBoxL
namespace Go.Proofs.Yteeaebelknpdjba
open Go.RowKit

set_option maxHeartbeats 1000000 in
theorem eqIntS_same (va vb : Value) (xs : List Int) (w : World) (ha : Reads w va xs) (hb : Reads w vb xs) :
    Calls Try.prog 20 #[va, vb] w fun e w' => e = .returned (.bool true) ∧ Below w.heap.size w w' := by
  obtain ⟨a, ca, rfl, hl, hxa⟩ := ha
  obtain ⟨b, cb, rfl, _, hxb⟩ := hb
  have hd : ((xs.length : Int) != (xs.length : Int)) = false := by simp
  rcases hxa with rfl | ⟨ga, oa, rfl, hca⟩
  · clear hxb
    go_enter Try.func20, Try.ntmps20
    go_wp2
    go_rounds 1
    all_goals (go_ret; exact ⟨rfl, Below.refl _ _⟩)
  rcases hxb with rfl | ⟨gb, ob, rfl, hcb⟩
  · clear hca
    go_enter Try.func20, Try.ntmps20
    go_wp2
    go_rounds 1
    all_goals (go_ret; exact ⟨rfl, Below.refl _ _⟩)
  have Hca : Hid (∀ i, i < xs.length → w.cell? ⟨ga, oa + i, none⟩ = some (.int .i64 (xs.getD i 0))) := hca
  have Hcb : Hid (∀ i, i < xs.length → w.cell? ⟨gb, ob + i, none⟩ = some (.int .i64 (xs.getD i 0))) := hcb
  clear hca hcb
  go_enter Try.func20, Try.ntmps20
  go_wp2
  go_loopw [5] (fun i wr => ∃ k : Nat, k ≤ xs.length ∧ i = .int .i64 k ∧ Below w.heap.size w wr) (fun i _ => xs.length - (intOf i).toNat)
  case atStart => exact ⟨0, Nat.zero_le _, rfl, Below.refl _ _⟩
  case round =>
    obtain ⟨k, hk, rfl, hal⟩ := hrel
    by_cases hlt : k < xs.length
    · have h1 := (hal.cell (p := ⟨ga, oa + k, none⟩) (lt_of_cell (Hca.out k hlt))).trans (Hca.out k hlt)
      have h2 := (hal.cell (p := ⟨gb, ob + k, none⟩) (lt_of_cell (Hcb.out k hlt))).trans (Hcb.out k hlt)
      have HA : Hid (Below w.heap.size w wr) := hal
      clear hal
      generalize xs.getD k 0 = x at h1 h2
      go_wp2_with fail
      go_region
      all_goals go_wp2
      all_goals go_roundw
      case rel => exact ⟨k + 1, by omega, by go_num, HA.out.drew⟩
      case measure => simp [intOf]; omega
    · go_wp2
      go_ret
      exact ⟨rfl, hal⟩
end Go.Proofs.Yteeaebelknpdjba
namespace Go.Proofs.Yteeaebelknpdjba
open Go.RowKit

theorem keqIntS_same (va vb : Value) (xs : List KEl) (w : World) (ha : KReads w va xs) (hb : KReads w vb xs) :
    Calls Try.prog 20 #[va, vb] w fun e w' => e = .returned (.bool true) ∧ Below w.heap.size w w' := eqIntS_same va vb xs w ha.r hb.r
end Go.Proofs.Yteeaebelknpdjba
namespace Go.Proofs.Yteeaebelknpdjba
open Go.RowKit

set_option maxRecDepth 100000 in
set_option maxHeartbeats 8000000 in
theorem eqIntSS_same (va vb : Value) (xss : List (List KEl)) (w : World) (ha : QReads w va xss) (hb : QReads w vb xss) (hx : xss.length ≤ 1048576) :
    Calls Try.prog 38 #[va, vb] w fun e w' => e = .returned (.bool true) ∧ Below w.heap.size w w' := by
  have HA := hid ha
  have HB := hid hb
  obtain ⟨a, cap, rfl, _, _⟩ := ha
  obtain ⟨b, cap', rfl, _, _⟩ := hb
  go_enter Try.func38, Try.ntmps38
  go_wp2
  go_loopw [5] (fun i wr => ∃ k : Nat, k ≤ xss.length ∧ i = .int .i64 k ∧ Below w.heap.size w wr) (fun i _ => xss.length - (intOf i).toNat)
  case atStart => exact ⟨0, Nat.zero_le _, rfl, Below.refl _ _⟩
  case round =>
    obtain ⟨k, hk, rfl, hbel⟩ := hrel
    have HW := hid hbel
    clear hbel
    by_cases hlt : k < xss.length
    · obtain ⟨g, o, cap2, e, hc⟩ := (HA.out.below HW.out).cells k hlt
      cases e
      obtain ⟨u, cu, hu⟩ := hc k hlt
      obtain ⟨g', o', cap3, e, hc'⟩ := (HB.out.below HW.out).cells k hlt
      cases e
      obtain ⟨u', cu', hu'⟩ := hc' k hlt
      have HU := hid hu
      have HU' := hid hu'
      have n0 : (0 : Int) ≤ (k : Int) := by omega
      have n1 : (k : Int) < (xss.length : Int) := by omega
      clear hc hu hc' hu'
      go_wp2_with fail
      go_region_with (go_at_call 20; refine (keqIntS_same u u' _ _ (HU.out.below (Below.refl _ _).drew) (HU'.out.below (Below.refl _ _).drew)).mono ?_; rintro e w2 ⟨rfl, b2⟩; have B2 := hid b2; clear b2)
      all_goals
        have HW2 : Hid (Below w.heap.size w w2) := HW.out.drew.trans (B2.out.mono HW.out.size)
        go_wp2
        go_roundw
        case rel => exact ⟨k + 1, by omega, by go_num, HW2.out⟩
        case measure => simp [intOf]; omega
    · obtain rfl : k = xss.length := by omega
      go_wp2
      go_ret
      exact ⟨rfl, HW.out⟩
end Go.Proofs.Yteeaebelknpdjba
namespace Go.Proofs.Yteeaebelknpdjba
open Go.RowKit

set_option maxRecDepth 100000 in
set_option maxHeartbeats 8000000 in
theorem eqTurns_same (va vb : Value) (D : TuD) (w : World) (ha : TuReads w va D) (hb : TuReads w vb D) (hx : D.f1.length ≤ 1048576) :
    Calls Try.prog 13 #[va, vb] w fun e w' => e = .returned (.bool true) ∧ Below w.heap.size w w' := by
  obtain ⟨v0, v1, v2, v3, rfl, a0, a1, a2, a3⟩ := ha
  obtain ⟨u0, u1, u2, u3, rfl, b0, b1, b2, b3⟩ := hb
  have A0 := hid a0
  have B0 := hid b0
  have A1 := hid a1
  have B1 := hid b1
  have A2 := hid a2
  have B2 := hid b2
  have A3 := hid a3
  have B3 := hid b3
  clear a0 a1 a2 a3 b0 b1 b2 b3
  have P0 := hid (boxL_new w [v0, v1, v2, v3, .int .i64 D.f4] 28)
  have Q0 := hid (boxL_new (w.alloc (.cells #[v0, v1, v2, v3, .int .i64 D.f4] 28)) [u0, u1, u2, u3, .int .i64 D.f4] 28)
  rw [World.size_alloc] at Q0
  have P1 := hid (P0.out.below ((Below.refl _ _).alloc (Nat.le_refl _) (.cells #[u0, u1, u2, u3, .int .i64 D.f4] 28)) (by simp))
  clear P0
  have B : Hid (Below w.heap.size w ((w.alloc (.cells #[v0, v1, v2, v3, .int .i64 D.f4] 28)).alloc (.cells #[u0, u1, u2, u3, .int .i64 D.f4] 28))) := ((Below.refl _ _).alloc (Nat.le_refl _) _).alloc (by simp) _
  go_enter Try.func13, Try.ntmps13
  have p := (P1.out.cell 0 (by simp)).1
  have q := (Q0.out.cell 0 (by simp)).1
  change World.cell? _ _ = some v0 at p
  change World.cell? _ _ = some u0 at q
  go_wp2_with fail
  refine (keqIntS_same _ _ D.f0 _ (A0.out.below B.out) (B0.out.below B.out)).mono ?_
  rintro e w1 ⟨rfl, b⟩
  have P2 := hid (P1.out.below b P1.out.lt)
  have Q2 := hid (Q0.out.below b Q0.out.lt)
  replace B : Hid (Below w.heap.size w w1) := B.out.trans (b.mono B.out.size)
  clear b p q P1 Q0
  have p := (P2.out.cell 1 (by simp)).1
  have q := (Q2.out.cell 1 (by simp)).1
  change World.cell? _ _ = some v1 at p
  change World.cell? _ _ = some u1 at q
  go_wp2_with fail
  refine (eqIntSS_same _ _ D.f1 _ (A1.out.below B.out) (B1.out.below B.out) hx).mono ?_
  rintro e w2 ⟨rfl, b⟩
  have P3 := hid (P2.out.below b P2.out.lt)
  have Q3 := hid (Q2.out.below b Q2.out.lt)
  replace B : Hid (Below w.heap.size w w2) := B.out.trans (b.mono B.out.size)
  clear b p q P2 Q2
  have p := (P3.out.cell 2 (by simp)).1
  have q := (Q3.out.cell 2 (by simp)).1
  change World.cell? _ _ = some v2 at p
  change World.cell? _ _ = some u2 at q
  go_wp2_with fail
  refine (keqIntS_same _ _ D.f2 _ (A2.out.below B.out) (B2.out.below B.out)).mono ?_
  rintro e w3 ⟨rfl, b⟩
  have P4 := hid (P3.out.below b P3.out.lt)
  have Q4 := hid (Q3.out.below b Q3.out.lt)
  replace B : Hid (Below w.heap.size w w3) := B.out.trans (b.mono B.out.size)
  clear b p q P3 Q3
  have p := (P4.out.cell 3 (by simp)).1
  have q := (Q4.out.cell 3 (by simp)).1
  change World.cell? _ _ = some v3 at p
  change World.cell? _ _ = some u3 at q
  go_wp2_with fail
  refine (keqIntS_same _ _ D.f3 _ (A3.out.below B.out) (B3.out.below B.out)).mono ?_
  rintro e w4 ⟨rfl, b⟩
  have P5 := hid (P4.out.below b P4.out.lt)
  have Q5 := hid (Q4.out.below b Q4.out.lt)
  replace B : Hid (Below w.heap.size w w4) := B.out.trans (b.mono B.out.size)
  clear b p q P4 Q4
  have p4 := (P5.out.cell 4 (by simp)).1
  have q4 := (Q5.out.cell 4 (by simp)).1
  change World.cell? _ _ = some (.int .i64 D.f4) at p4
  change World.cell? _ _ = some (.int .i64 D.f4) at q4
  go_wp2
  go_ret
  exact ⟨rfl, B.out⟩
end Go.Proofs.Yteeaebelknpdjba
