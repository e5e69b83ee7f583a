/-
  laws.eqHelloS with true for two slices that read alike; nothing old is written.
  laws.eqHelloS with true for two slices that read alike; nothing old is written.
  laws.eqGreet: two that read alike are told to be the same. Nothing old is written.
-/
import Derived.Test.YtdlkilacnnjglaaKHelloRows
import Derived.Deep.RegionWith
import Derived.Test.YtdlkilacnnjglaaQSet
namespace Go.Proofs.Ytdlkilacnnjglaa
open Go.RowKit

theorem eqHello_same (p q r : Int) (w : World) : Calls Try.prog 93 #[(.agg #[.int .i64 p, .int .i64 q, .int .i64 r]), (.agg #[.int .i64 p, .int .i64 q, .int .i64 r])] w fun e w' => e = .returned (.bool true) ∧ Below w.heap.size w w' := by
  go_enter Try.func93, Try.ntmps93
  go_wp2
  go_ret
  refine ⟨rfl, ?_⟩
  go_grown
end Go.Proofs.Ytdlkilacnnjglaa
namespace Go.Proofs.Ytdlkilacnnjglaa
open Go.RowKit

set_option maxHeartbeats 1000000 in
theorem eqHelloS_same (va vb : Value) (xs : List HeEl) (w : World) (ha : HeReads w va xs) (hb : HeReads w vb xs) :
    Calls Try.prog 67 #[va, vb] w fun e w' => e = .returned (.bool true) ∧ Below w.heap.size w w' := by
  obtain ⟨a, ca, rfl, hl, hxa⟩ := ha
  obtain ⟨b, cb, rfl, _, hxb⟩ := hb
  have hd : ((xs.length : Int) != (xs.length : Int)) = false := by simp
  have HA := hid hxa
  have HB := hid hxb
  clear hxa hxb
  go_enter Try.func67, Try.ntmps67
  go_wp2
  go_loopw [5] (fun i wr => ∃ k : Nat, k ≤ xs.length ∧ i = .int .i64 k ∧ Below w.heap.size w wr) (fun i _ => xs.length - (intOf i).toNat)
  case atStart => exact ⟨0, Nat.zero_le _, rfl, Below.refl _ _⟩
  case round =>
    obtain ⟨k, hk, rfl, hal⟩ := hrel
    by_cases hlt : k < xs.length
    · obtain ⟨ga, oa, rfl, hca⟩ : ∃ b off, a = some ⟨b, off, none⟩ ∧ ∀ i, i < xs.length → HeCells w b (off + i * 3) (xs.getD i (0, 0, 0)) := by
        rcases HA.out with h | h
        · subst h; simp at hlt
        · exact h
      obtain ⟨gb, ob, rfl, hcb⟩ : ∃ a off, b = some ⟨a, off, none⟩ ∧ ∀ i, i < xs.length → HeCells w a (off + i * 3) (xs.getD i (0, 0, 0)) := by
        rcases HB.out with h | h
        · subst h; simp at hlt
        · exact h
      obtain ⟨h0, h1, h2⟩ := (hca k hlt).below hal (hca k hlt).lt
      obtain ⟨k0, k1, k2⟩ := (hcb k hlt).below hal (hcb k hlt).lt
      have HL := hid hal
      clear hal hca hcb
      generalize (xs.getD k (0, 0, 0)).1 = p at h0 k0
      generalize (xs.getD k (0, 0, 0)).2.1 = q at h1 k1
      generalize (xs.getD k (0, 0, 0)).2.2 = r at h2 k2
      go_wp2_with fail
      go_region_with (go_at_call 93; refine (eqHello_same p q r _).mono ?_; rintro e w' ⟨rfl, hb⟩)
      all_goals go_wp2
      all_goals go_roundw
      all_goals first
        | exact ⟨k + 1, by omega, by go_num, HL.out.drew.trans (hb.mono HL.out.size)⟩
        | (simp [intOf]; omega)
    · go_wp2
      go_ret
      exact ⟨rfl, hal⟩
end Go.Proofs.Ytdlkilacnnjglaa
namespace Go.Proofs.Ytdlkilacnnjglaa
open Go.RowKit

set_option maxRecDepth 100000 in
set_option maxHeartbeats 8000000 in
theorem eqGreet_same (va vb : Value) (D : GrD) (w : World) (ha : GrReads w va D) (hb : GrReads w vb D) :
    Calls Try.prog 29 #[va, vb] w fun e w' => e = .returned (.bool true) ∧ Below w.heap.size w w' := by
  obtain ⟨v8, v9, v10, rfl, a8, a9, a10⟩ := ha
  obtain ⟨u8, u9, u10, rfl, b8, b9, b10⟩ := hb
  have A8 := hid a8
  have B8 := hid b8
  have A9 := hid a9
  have B9 := hid b9
  have A10 := hid a10
  have B10 := hid b10
  clear a8 a9 a10 b8 b9 b10
  have P0 := hid (boxL_new w [.int .i64 D.f0, .int .i64 D.f1, .int .i64 D.f2, .int .i64 D.f3, .int .i64 D.f4, .int .i64 D.f5, .int .i64 D.f6, .int .i64 D.f7, v8, v9, v10] 49)
  have Q0 := hid (boxL_new (w.alloc (.cells #[.int .i64 D.f0, .int .i64 D.f1, .int .i64 D.f2, .int .i64 D.f3, .int .i64 D.f4, .int .i64 D.f5, .int .i64 D.f6, .int .i64 D.f7, v8, v9, v10] 49)) [.int .i64 D.f0, .int .i64 D.f1, .int .i64 D.f2, .int .i64 D.f3, .int .i64 D.f4, .int .i64 D.f5, .int .i64 D.f6, .int .i64 D.f7, u8, u9, u10] 49)
  rw [World.size_alloc] at Q0
  have P1 := hid (P0.out.below ((Below.refl _ _).alloc (Nat.le_refl _) (.cells #[.int .i64 D.f0, .int .i64 D.f1, .int .i64 D.f2, .int .i64 D.f3, .int .i64 D.f4, .int .i64 D.f5, .int .i64 D.f6, .int .i64 D.f7, u8, u9, u10] 49)) (by simp))
  clear P0
  have B : Hid (Below w.heap.size w ((w.alloc (.cells #[.int .i64 D.f0, .int .i64 D.f1, .int .i64 D.f2, .int .i64 D.f3, .int .i64 D.f4, .int .i64 D.f5, .int .i64 D.f6, .int .i64 D.f7, v8, v9, v10] 49)).alloc (.cells #[.int .i64 D.f0, .int .i64 D.f1, .int .i64 D.f2, .int .i64 D.f3, .int .i64 D.f4, .int .i64 D.f5, .int .i64 D.f6, .int .i64 D.f7, u8, u9, u10] 49))) := ((Below.refl _ _).alloc (Nat.le_refl _) _).alloc (by simp) _
  go_enter Try.func29, Try.ntmps29
  have p := (P1.out.cell 8 (by simp)).1
  have q := (Q0.out.cell 8 (by simp)).1
  change World.cell? _ _ = some v8 at p
  change World.cell? _ _ = some u8 at q
  go_wp2_with fail
  refine (eqHelloS_same _ _ D.f8 _ (A8.out.below B.out) (B8.out.below B.out)).mono ?_
  rintro e w1 ⟨rfl, b⟩
  have P2 := hid (P1.out.below b P1.out.lt)
  have Q2 := hid (Q0.out.below b Q0.out.lt)
  replace B : Hid (Below w.heap.size w w1) := B.out.trans (b.mono B.out.size)
  clear b p q P1 Q0
  have p := (P2.out.cell 9 (by simp)).1
  have q := (Q2.out.cell 9 (by simp)).1
  change World.cell? _ _ = some v9 at p
  change World.cell? _ _ = some u9 at q
  go_wp2_with fail
  refine (eqHelloS_same _ _ D.f9 _ (A9.out.below B.out) (B9.out.below B.out)).mono ?_
  rintro e w2 ⟨rfl, b⟩
  have P3 := hid (P2.out.below b P2.out.lt)
  have Q3 := hid (Q2.out.below b Q2.out.lt)
  replace B : Hid (Below w.heap.size w w2) := B.out.trans (b.mono B.out.size)
  clear b p q P2 Q2
  have p := (P3.out.cell 10 (by simp)).1
  have q := (Q3.out.cell 10 (by simp)).1
  change World.cell? _ _ = some v10 at p
  change World.cell? _ _ = some u10 at q
  go_wp2_with fail
  refine (eqHelloS_same _ _ D.f10 _ (A10.out.below B.out) (B10.out.below B.out)).mono ?_
  rintro e w3 ⟨rfl, b⟩
  have P4 := hid (P3.out.below b P3.out.lt)
  have Q4 := hid (Q3.out.below b Q3.out.lt)
  replace B : Hid (Below w.heap.size w w3) := B.out.trans (b.mono B.out.size)
  clear b p q P3 Q3
  have p0 := (P4.out.cell 0 (by simp)).1
  have q0 := (Q4.out.cell 0 (by simp)).1
  change World.cell? _ _ = some (.int .i64 D.f0) at p0
  change World.cell? _ _ = some (.int .i64 D.f0) at q0
  have p1 := (P4.out.cell 1 (by simp)).1
  have q1 := (Q4.out.cell 1 (by simp)).1
  change World.cell? _ _ = some (.int .i64 D.f1) at p1
  change World.cell? _ _ = some (.int .i64 D.f1) at q1
  have p2 := (P4.out.cell 2 (by simp)).1
  have q2 := (Q4.out.cell 2 (by simp)).1
  change World.cell? _ _ = some (.int .i64 D.f2) at p2
  change World.cell? _ _ = some (.int .i64 D.f2) at q2
  have p3 := (P4.out.cell 3 (by simp)).1
  have q3 := (Q4.out.cell 3 (by simp)).1
  change World.cell? _ _ = some (.int .i64 D.f3) at p3
  change World.cell? _ _ = some (.int .i64 D.f3) at q3
  have p4 := (P4.out.cell 4 (by simp)).1
  have q4 := (Q4.out.cell 4 (by simp)).1
  change World.cell? _ _ = some (.int .i64 D.f4) at p4
  change World.cell? _ _ = some (.int .i64 D.f4) at q4
  have p5 := (P4.out.cell 5 (by simp)).1
  have q5 := (Q4.out.cell 5 (by simp)).1
  change World.cell? _ _ = some (.int .i64 D.f5) at p5
  change World.cell? _ _ = some (.int .i64 D.f5) at q5
  have p6 := (P4.out.cell 6 (by simp)).1
  have q6 := (Q4.out.cell 6 (by simp)).1
  change World.cell? _ _ = some (.int .i64 D.f6) at p6
  change World.cell? _ _ = some (.int .i64 D.f6) at q6
  have p7 := (P4.out.cell 7 (by simp)).1
  have q7 := (Q4.out.cell 7 (by simp)).1
  change World.cell? _ _ = some (.int .i64 D.f7) at p7
  change World.cell? _ _ = some (.int .i64 D.f7) at q7
  go_wp2
  go_ret
  exact ⟨rfl, B.out⟩
end Go.Proofs.Ytdlkilacnnjglaa
