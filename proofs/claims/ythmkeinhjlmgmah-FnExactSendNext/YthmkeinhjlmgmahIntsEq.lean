/-
  laws.eqIntS answers true for two slices that read as one list; nothing is written.
  laws.eqIntS with true for two slices that read alike; nothing old is written.
  laws.eqSender: two that read alike are told to be the same. Nothing old is written.
-/
import Derived.Test.YthmkeinhjlmgmahInts
import Derived.Test.YthmkeinhjlmgmahKIntRows
import Derived.Test.YthmkeinhjlmgmahKSpanSf
import Derived.Test.YthmkeinhjlmgmahKSpanE1
namespace Go.Proofs.Ythmkeinhjlmgmah
open Go.RowKit

set_option maxHeartbeats 1000000 in
theorem eqIntS_same (va vb : Value) (xs : List Int) (w : World) (ha : Reads w va xs) (hb : Reads w vb xs) :
    Calls Try.prog 29 #[va, vb] w fun e w' => e = .returned (.bool true) ∧ Below w.heap.size w w' := by
  obtain ⟨a, ca, rfl, hl, hxa⟩ := ha
  obtain ⟨b, cb, rfl, _, hxb⟩ := hb
  have hd : ((xs.length : Int) != (xs.length : Int)) = false := by simp
  rcases hxa with rfl | ⟨ga, oa, rfl, hca⟩
  · clear hxb
    go_enter Try.func29, Try.ntmps29
    go_wp2
    go_rounds 1
    all_goals (go_ret; exact ⟨rfl, Below.refl _ _⟩)
  rcases hxb with rfl | ⟨gb, ob, rfl, hcb⟩
  · clear hca
    go_enter Try.func29, Try.ntmps29
    go_wp2
    go_rounds 1
    all_goals (go_ret; exact ⟨rfl, Below.refl _ _⟩)
  have Hca : Hid (∀ i, i < xs.length → w.cell? ⟨ga, oa + i, none⟩ = some (.int .i64 (xs.getD i 0))) := hca
  have Hcb : Hid (∀ i, i < xs.length → w.cell? ⟨gb, ob + i, none⟩ = some (.int .i64 (xs.getD i 0))) := hcb
  clear hca hcb
  go_enter Try.func29, Try.ntmps29
  go_wp2
  go_loopw [5] (fun i wr => ∃ k : Nat, k ≤ xs.length ∧ i = .int .i64 k ∧ Below w.heap.size w wr) (fun i _ => xs.length - (intOf i).toNat)
  case atStart => exact ⟨0, Nat.zero_le _, rfl, Below.refl _ _⟩
  case round =>
    obtain ⟨k, hk, rfl, hal⟩ := hrel
    by_cases hlt : k < xs.length
    · have h1 := (hal.cell (p := ⟨ga, oa + k, none⟩) (lt_of_cell (Hca.out k hlt))).trans (Hca.out k hlt)
      have h2 := (hal.cell (p := ⟨gb, ob + k, none⟩) (lt_of_cell (Hcb.out k hlt))).trans (Hcb.out k hlt)
      have HA : Hid (Below w.heap.size w wr) := hal
      clear hal
      generalize xs.getD k 0 = x at h1 h2
      go_wp2_with fail
      go_region
      all_goals go_wp2
      all_goals go_roundw
      case rel => exact ⟨k + 1, by omega, by go_num, HA.out.drew⟩
      case measure => simp [intOf]; omega
    · go_wp2
      go_ret
      exact ⟨rfl, hal⟩
end Go.Proofs.Ythmkeinhjlmgmah
namespace Go.Proofs.Ythmkeinhjlmgmah
open Go.RowKit

theorem keqIntS_same (va vb : Value) (xs : List KEl) (w : World) (ha : KReads w va xs) (hb : KReads w vb xs) :
    Calls Try.prog 29 #[va, vb] w fun e w' => e = .returned (.bool true) ∧ Below w.heap.size w w' := eqIntS_same va vb xs w ha.r hb.r
end Go.Proofs.Ythmkeinhjlmgmah
namespace Go.Proofs.Ythmkeinhjlmgmah
open Go.RowKit

set_option maxRecDepth 100000 in
set_option maxHeartbeats 8000000 in
theorem eqSender_same (va vb : Value) (D : SdD) (w : World) (ha : SdReads w va D) (hb : SdReads w vb D) :
    Calls Try.prog 16 #[va, vb] w fun e w' => e = .returned (.bool true) ∧ Below w.heap.size w w' := by
  obtain ⟨v1, v2, rfl, a1, a2⟩ := ha
  obtain ⟨u1, u2, rfl, b1, b2⟩ := hb
  have A1 := hid a1
  have B1 := hid b1
  have A2 := hid a2
  have B2 := hid b2
  clear a1 a2 b1 b2
  have P0 := hid (boxL_new w [.int .i64 D.f0, v1, v2] 34)
  have Q0 := hid (boxL_new (w.alloc (.cells #[.int .i64 D.f0, v1, v2] 34)) [.int .i64 D.f0, u1, u2] 34)
  rw [World.size_alloc] at Q0
  have P1 := hid (P0.out.below ((Below.refl _ _).alloc (Nat.le_refl _) (.cells #[.int .i64 D.f0, u1, u2] 34)) (by simp))
  clear P0
  have B : Hid (Below w.heap.size w ((w.alloc (.cells #[.int .i64 D.f0, v1, v2] 34)).alloc (.cells #[.int .i64 D.f0, u1, u2] 34))) := ((Below.refl _ _).alloc (Nat.le_refl _) _).alloc (by simp) _
  go_enter Try.func16, Try.ntmps16
  have p := (P1.out.cell 1 (by simp)).1
  have q := (Q0.out.cell 1 (by simp)).1
  change World.cell? _ _ = some v1 at p
  change World.cell? _ _ = some u1 at q
  go_wp2_with fail
  refine (eqSpanS_same _ _ D.f1 _ (A1.out.below B.out) (B1.out.below B.out)).mono ?_
  rintro e w1 ⟨rfl, b⟩
  have P2 := hid (P1.out.below b P1.out.lt)
  have Q2 := hid (Q0.out.below b Q0.out.lt)
  replace B : Hid (Below w.heap.size w w1) := B.out.trans (b.mono B.out.size)
  clear b p q P1 Q0
  have p := (P2.out.cell 2 (by simp)).1
  have q := (Q2.out.cell 2 (by simp)).1
  change World.cell? _ _ = some v2 at p
  change World.cell? _ _ = some u2 at q
  go_wp2_with fail
  refine (keqIntS_same _ _ D.f2 _ (A2.out.below B.out) (B2.out.below B.out)).mono ?_
  rintro e w2 ⟨rfl, b⟩
  have P3 := hid (P2.out.below b P2.out.lt)
  have Q3 := hid (Q2.out.below b Q2.out.lt)
  replace B : Hid (Below w.heap.size w w2) := B.out.trans (b.mono B.out.size)
  clear b p q P2 Q2
  have p0 := (P3.out.cell 0 (by simp)).1
  have q0 := (Q3.out.cell 0 (by simp)).1
  change World.cell? _ _ = some (.int .i64 D.f0) at p0
  change World.cell? _ _ = some (.int .i64 D.f0) at q0
  go_wp2
  go_ret
  exact ⟨rfl, B.out⟩
end Go.Proofs.Ythmkeinhjlmgmah
