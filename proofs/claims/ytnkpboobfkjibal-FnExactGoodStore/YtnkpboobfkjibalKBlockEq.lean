/-
  laws.eqBlock: two that read alike are told to be the same. Nothing old is written.
  laws.eqBlockS: two rows that read alike are told to be the same. Nothing old is written.
  laws.eqIntS answers true for two slices that read as one list; nothing is written.
  laws.eqIntS with true for two slices that read alike; nothing old is written.
  laws.eqStore: two that read alike are told to be the same. Nothing old is written.
-/
import Derived.Test.YtnkpboobfkjibalKSpanSf
import Derived.Test.YtnkpboobfkjibalKSpanE1
import Derived.Test.YtnkpboobfkjibalKBlocksRows
import Derived.Deep.RegionWith
import Derived.Test.YtnkpboobfkjibalInts
import Derived.Test.YtnkpboobfkjibalKIntRows
namespace Go.Proofs.Ytnkpboobfkjibal
open Go.RowKit

set_option maxRecDepth 100000 in
set_option maxHeartbeats 8000000 in
theorem eqBlock_same (va vb : Value) (D : BlD) (w : World) (ha : BlReads w va D) (hb : BlReads w vb D) :
    Calls Try.prog 37 #[va, vb] w fun e w' => e = .returned (.bool true) ∧ Below w.heap.size w w' := by
  obtain ⟨v3, rfl, a3⟩ := ha
  obtain ⟨u3, rfl, b3⟩ := hb
  have A3 := hid a3
  have B3 := hid b3
  clear a3 b3
  have P0 := hid (boxL_new w [.int .i64 D.f0, .int .i64 D.f1, .string D.f2, v3] 38)
  have Q0 := hid (boxL_new (w.alloc (.cells #[.int .i64 D.f0, .int .i64 D.f1, .string D.f2, v3] 38)) [.int .i64 D.f0, .int .i64 D.f1, .string D.f2, u3] 38)
  rw [World.size_alloc] at Q0
  have P1 := hid (P0.out.below ((Below.refl _ _).alloc (Nat.le_refl _) (.cells #[.int .i64 D.f0, .int .i64 D.f1, .string D.f2, u3] 38)) (by simp))
  clear P0
  have B : Hid (Below w.heap.size w ((w.alloc (.cells #[.int .i64 D.f0, .int .i64 D.f1, .string D.f2, v3] 38)).alloc (.cells #[.int .i64 D.f0, .int .i64 D.f1, .string D.f2, u3] 38))) := ((Below.refl _ _).alloc (Nat.le_refl _) _).alloc (by simp) _
  go_enter Try.func37, Try.ntmps37
  have p := (P1.out.cell 3 (by simp)).1
  have q := (Q0.out.cell 3 (by simp)).1
  change World.cell? _ _ = some v3 at p
  change World.cell? _ _ = some u3 at q
  go_wp2_with fail
  refine (eqSpanS_same _ _ D.f3 _ (A3.out.below B.out) (B3.out.below B.out)).mono ?_
  rintro e w1 ⟨rfl, b⟩
  have P2 := hid (P1.out.below b P1.out.lt)
  have Q2 := hid (Q0.out.below b Q0.out.lt)
  replace B : Hid (Below w.heap.size w w1) := B.out.trans (b.mono B.out.size)
  clear b p q P1 Q0
  have p0 := (P2.out.cell 0 (by simp)).1
  have q0 := (Q2.out.cell 0 (by simp)).1
  change World.cell? _ _ = some (.int .i64 D.f0) at p0
  change World.cell? _ _ = some (.int .i64 D.f0) at q0
  have p1 := (P2.out.cell 1 (by simp)).1
  have q1 := (Q2.out.cell 1 (by simp)).1
  change World.cell? _ _ = some (.int .i64 D.f1) at p1
  change World.cell? _ _ = some (.int .i64 D.f1) at q1
  have p2 := (P2.out.cell 2 (by simp)).1
  have q2 := (Q2.out.cell 2 (by simp)).1
  change World.cell? _ _ = some (.string D.f2) at p2
  change World.cell? _ _ = some (.string D.f2) at q2
  go_wp2
  go_ret
  exact ⟨rfl, B.out⟩
end Go.Proofs.Ytnkpboobfkjibal
namespace Go.Proofs.Ytnkpboobfkjibal
open Go.RowKit

set_option maxRecDepth 100000 in
set_option maxHeartbeats 4000000 in
theorem eqBlockS_same (va vb : Value) (xs : List BlD) (w : World) (ha : BlsReads w va xs) (hb : BlsReads w vb xs) :
    Calls Try.prog 22 #[va, vb] w fun e w' => e = .returned (.bool true) ∧ Below w.heap.size w w' := by
  obtain ⟨a, ca, rfl, hl, hxa⟩ := ha
  obtain ⟨b, cb, rfl, _, hxb⟩ := hb
  have hd : ((xs.length : Int) != (xs.length : Int)) = false := by simp
  have HA := hid hxa
  have HB := hid hxb
  clear hxa hxb
  go_enter Try.func22, Try.ntmps22
  go_wp2
  go_loopw [5] (fun i wr => ∃ k : Nat, k ≤ xs.length ∧ i = .int .i64 k ∧ Below w.heap.size w wr) (fun i _ => xs.length - (intOf i).toNat)
  case atStart => exact ⟨0, Nat.zero_le _, rfl, Below.refl _ _⟩
  case round =>
    obtain ⟨k, hk, rfl, hal⟩ := hrel
    by_cases hlt : k < xs.length
    · obtain ⟨ga, oa, rfl, hca⟩ : ∃ b off, a = some ⟨b, off, none⟩ ∧ ∀ i, i < xs.length → ∃ vs, CellsL w b (off + i * 4) vs ∧ rpBl.R w vs (xs.getD i blZ) := by
        rcases HA.out with h | h
        · subst h; simp at hlt
        · exact h
      obtain ⟨gb, ob, rfl, hcb⟩ : ∃ a off, b = some ⟨a, off, none⟩ ∧ ∀ i, i < xs.length → ∃ vs, CellsL w a (off + i * 4) vs ∧ rpBl.R w vs (xs.getD i blZ) := by
        rcases HB.out with h | h
        · subst h; simp at hlt
        · exact h
      obtain ⟨_, h0, hR0⟩ := hca k hlt
      obtain ⟨_, k0, hR1⟩ := hcb k hlt
      obtain ⟨p3, rfl, R0⟩ := rpBl_R hR0
      obtain ⟨q3, rfl, R1⟩ := rpBl_R hR1
      have h1 := h0.below hal (h0.lt (by simp))
      have k1 := k0.below hal (k0.lt (by simp))
      have RA := hid (R0.below hal)
      have RB := hid (R1.below hal)
      have HL := hid hal
      clear hal hca hcb h0 k0 hR0 hR1 R0 R1
      generalize xs.getD k blZ = d at h1 k1 RA RB
      obtain ⟨a0, a1, a2, a3⟩ := h1.four
      obtain ⟨b0, b1, b2, b3⟩ := k1.four
      clear h1 k1
      go_wp2_with fail
      go_region_with (go_at_call 37; refine (eqBlock_same _ _ d _ (RA.out.below (Below.refl _ _).drew) (RB.out.below (Below.refl _ _).drew)).mono ?_; rintro e w' ⟨rfl, hb⟩)
      all_goals go_wp2
      all_goals go_roundw
      all_goals first
        | exact ⟨k + 1, by omega, by go_num, HL.out.drew.trans (hb.mono HL.out.size)⟩
        | (simp [intOf]; omega)
    · go_wp2
      go_ret
      exact ⟨rfl, hal⟩
end Go.Proofs.Ytnkpboobfkjibal
namespace Go.Proofs.Ytnkpboobfkjibal
open Go.RowKit

set_option maxHeartbeats 1000000 in
theorem eqIntS_same (va vb : Value) (xs : List Int) (w : World) (ha : Reads w va xs) (hb : Reads w vb xs) :
    Calls Try.prog 23 #[va, vb] w fun e w' => e = .returned (.bool true) ∧ Below w.heap.size w w' := by
  obtain ⟨a, ca, rfl, hl, hxa⟩ := ha
  obtain ⟨b, cb, rfl, _, hxb⟩ := hb
  have hd : ((xs.length : Int) != (xs.length : Int)) = false := by simp
  rcases hxa with rfl | ⟨ga, oa, rfl, hca⟩
  · clear hxb
    go_enter Try.func23, Try.ntmps23
    go_wp2
    go_rounds 1
    all_goals (go_ret; exact ⟨rfl, Below.refl _ _⟩)
  rcases hxb with rfl | ⟨gb, ob, rfl, hcb⟩
  · clear hca
    go_enter Try.func23, Try.ntmps23
    go_wp2
    go_rounds 1
    all_goals (go_ret; exact ⟨rfl, Below.refl _ _⟩)
  have Hca : Hid (∀ i, i < xs.length → w.cell? ⟨ga, oa + i, none⟩ = some (.int .i64 (xs.getD i 0))) := hca
  have Hcb : Hid (∀ i, i < xs.length → w.cell? ⟨gb, ob + i, none⟩ = some (.int .i64 (xs.getD i 0))) := hcb
  clear hca hcb
  go_enter Try.func23, Try.ntmps23
  go_wp2
  go_loopw [5] (fun i wr => ∃ k : Nat, k ≤ xs.length ∧ i = .int .i64 k ∧ Below w.heap.size w wr) (fun i _ => xs.length - (intOf i).toNat)
  case atStart => exact ⟨0, Nat.zero_le _, rfl, Below.refl _ _⟩
  case round =>
    obtain ⟨k, hk, rfl, hal⟩ := hrel
    by_cases hlt : k < xs.length
    · have h1 := (hal.cell (p := ⟨ga, oa + k, none⟩) (lt_of_cell (Hca.out k hlt))).trans (Hca.out k hlt)
      have h2 := (hal.cell (p := ⟨gb, ob + k, none⟩) (lt_of_cell (Hcb.out k hlt))).trans (Hcb.out k hlt)
      have HA : Hid (Below w.heap.size w wr) := hal
      clear hal
      generalize xs.getD k 0 = x at h1 h2
      go_wp2_with fail
      go_region
      all_goals go_wp2
      all_goals go_roundw
      case rel => exact ⟨k + 1, by omega, by go_num, HA.out.drew⟩
      case measure => simp [intOf]; omega
    · go_wp2
      go_ret
      exact ⟨rfl, hal⟩
end Go.Proofs.Ytnkpboobfkjibal
namespace Go.Proofs.Ytnkpboobfkjibal
open Go.RowKit

theorem keqIntS_same (va vb : Value) (xs : List KEl) (w : World) (ha : KReads w va xs) (hb : KReads w vb xs) :
    Calls Try.prog 23 #[va, vb] w fun e w' => e = .returned (.bool true) ∧ Below w.heap.size w w' := eqIntS_same va vb xs w ha.r hb.r
end Go.Proofs.Ytnkpboobfkjibal
namespace Go.Proofs.Ytnkpboobfkjibal
open Go.RowKit

set_option maxRecDepth 100000 in
set_option maxHeartbeats 8000000 in
theorem eqStore_same (va vb : Value) (D : StD) (w : World) (ha : StReads w va D) (hb : StReads w vb D) :
    Calls Try.prog 8 #[va, vb] w fun e w' => e = .returned (.bool true) ∧ Below w.heap.size w w' := by
  obtain ⟨v0, v1, rfl, a0, a1⟩ := ha
  obtain ⟨u0, u1, rfl, b0, b1⟩ := hb
  have A0 := hid a0
  have B0 := hid b0
  have A1 := hid a1
  have B1 := hid b1
  clear a0 a1 b0 b1
  have P0 := hid (boxL_new w [v0, v1] 30)
  have Q0 := hid (boxL_new (w.alloc (.cells #[v0, v1] 30)) [u0, u1] 30)
  rw [World.size_alloc] at Q0
  have P1 := hid (P0.out.below ((Below.refl _ _).alloc (Nat.le_refl _) (.cells #[u0, u1] 30)) (by simp))
  clear P0
  have B : Hid (Below w.heap.size w ((w.alloc (.cells #[v0, v1] 30)).alloc (.cells #[u0, u1] 30))) := ((Below.refl _ _).alloc (Nat.le_refl _) _).alloc (by simp) _
  go_enter Try.func8, Try.ntmps8
  have p := (P1.out.cell 0 (by simp)).1
  have q := (Q0.out.cell 0 (by simp)).1
  change World.cell? _ _ = some v0 at p
  change World.cell? _ _ = some u0 at q
  go_wp2_with fail
  refine (eqBlockS_same _ _ D.f0 _ (A0.out.below B.out) (B0.out.below B.out)).mono ?_
  rintro e w1 ⟨rfl, b⟩
  have P2 := hid (P1.out.below b P1.out.lt)
  have Q2 := hid (Q0.out.below b Q0.out.lt)
  replace B : Hid (Below w.heap.size w w1) := B.out.trans (b.mono B.out.size)
  clear b p q P1 Q0
  have p := (P2.out.cell 1 (by simp)).1
  have q := (Q2.out.cell 1 (by simp)).1
  change World.cell? _ _ = some v1 at p
  change World.cell? _ _ = some u1 at q
  go_wp2_with fail
  refine (keqIntS_same _ _ D.f1 _ (A1.out.below B.out) (B1.out.below B.out)).mono ?_
  rintro e w2 ⟨rfl, b⟩
  have P3 := hid (P2.out.below b P2.out.lt)
  have Q3 := hid (Q2.out.below b Q2.out.lt)
  replace B : Hid (Below w.heap.size w w2) := B.out.trans (b.mono B.out.size)
  clear b p q P2 Q2
  go_wp2
  go_ret
  exact ⟨rfl, B.out⟩
end Go.Proofs.Ytnkpboobfkjibal
