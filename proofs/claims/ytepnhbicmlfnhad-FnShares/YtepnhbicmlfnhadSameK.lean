/-
  laws.sameInts: true for lists that read alike. Nothing is written.
  laws.sameShares: true for shares that read alike. Nothing old is written. laws.sumOf over windows.
-/
import Derived.Test.YtepnhbicmlfnhadKIntRows
import Derived.Deep.QuietTactic
import Derived.BigQuiet
import Derived.Test.YtepnhbicmlfnhadShBox
namespace Go.Proofs.Ytepnhbicmlfnhad
open Go.RowKit

set_option maxHeartbeats 2000000 in
theorem sameK_same (va vb : Value) (xs : List Int) (w : World) (ha : KReads w va xs) (hb : KReads w vb xs) :
    Calls Try.prog 41 #[va, vb] w fun e w' => e = .returned (.bool true) ∧ ∃ m, w' = w.drewN m := by
  obtain ⟨a, ca, rfl, _, hxa⟩ := ha
  obtain ⟨b, cb, rfl, _, hxb⟩ := hb
  have hd : ((xs.length : Int) != (xs.length : Int)) = false := by simp
  have HC : Hid (∀ i, i < xs.length → ∃ g o, a = some ⟨g, o, none⟩ ∧ w.cell? ⟨g, o + i, none⟩ = some (.int .i64 (xs.getD i 0))) := fun i hi => by
    rcases hxa with h | ⟨g, o, h1, h2⟩
    · rw [h] at hi; simp at hi
    · exact ⟨g, o, h1, h2 i hi⟩
  have HD : Hid (∀ i, i < xs.length → ∃ g o, b = some ⟨g, o, none⟩ ∧ w.cell? ⟨g, o + i, none⟩ = some (.int .i64 (xs.getD i 0))) := fun i hi => by
    rcases hxb with h | ⟨g, o, h1, h2⟩
    · rw [h] at hi; simp at hi
    · exact ⟨g, o, h1, h2 i hi⟩
  clear hxa hxb
  go_enter Try.func41, Try.ntmps41
  go_wp2
  go_loopw [13] (fun i wr => ∃ k : Nat, k ≤ xs.length ∧ i = .int .i64 k ∧ ∃ m, wr = w.drewN m) (fun i _ => xs.length - (intOf i).toNat)
  case atStart => exact ⟨0, Nat.zero_le _, rfl, 0, rfl⟩
  case round =>
    obtain ⟨k, hk, rfl, m, hm⟩ := hrel
    have HM := hid hm
    by_cases hlt : k < xs.length
    · obtain ⟨g, o, rfl, hc⟩ := HC.out k hlt
      obtain ⟨h, p, rfl, hd'⟩ := HD.out k hlt
      have h1 : wr.cell? ⟨g, o + k, none⟩ = some (.int .i64 (xs.getD k 0)) := by rw [hm]; exact hc
      have h2 : wr.cell? ⟨h, p + k, none⟩ = some (.int .i64 (xs.getD k 0)) := by rw [hm]; exact hd'
      generalize xs.getD k 0 = x at h1 h2
      have n0 : (0 : Int) ≤ (k : Int) := by omega
      have n1 : (k : Int) < (xs.length : Int) := by omega
      have de : (x != x) = false := by simp
      clear hc hd' hm
      go_wp2_with fail
      go_big_region
      go_wp2
      go_roundw
      case rel => exact ⟨k + 1, by omega, by go_num, m + 1, by rw [HM.out]; rfl⟩
      case measure => simp [intOf]; omega
    · clear hm
      go_wp2
      go_ret
      exact ⟨rfl, m, HM.out⟩
theorem sameK_below {w w' : World} (h : ∃ m, w' = w.drewN m) : Below w.heap.size w w' := by
  obtain ⟨m, rfl⟩ := h
  exact ⟨rfl, rfl, rfl, Nat.le_refl _, fun _ _ => rfl⟩
end Go.Proofs.Ytepnhbicmlfnhad
namespace Go.Proofs.Ytepnhbicmlfnhad
open Go.RowKit

theorem sh_form {w : World} {u : Value} {D : ShD} (h : ShReads w u D) : ∃ a k, u = .agg #[.slice a D.f0.length k, .int .i64 D.f1] := by
  obtain ⟨v0, rfl, r0⟩ := h
  obtain ⟨a, cap, rfl, _, _⟩ := r0
  exact ⟨a, cap, rfl⟩
theorem ShReads.row {w : World} {a : Option Addr} {n k : Nat} {z : Int} {D : ShD} (h : ShReads w (.agg #[.slice a n k, .int .i64 z]) D) : KReads w (.slice a n k) D.f0 := by
  obtain ⟨v0, e, r0⟩ := h
  simp only [Value.agg.injEq, Array.mk.injEq, List.cons.injEq, and_true] at e
  rw [e.1]; exact r0
set_option maxRecDepth 100000 in
set_option maxHeartbeats 4000000 in
theorem sameShares_same (va vb : Value) (D : ShD) (w : World) (ha : ShReads w va D) (hb : ShReads w vb D) :
    Calls Try.prog 14 #[va, vb] w fun e w' => e = .returned (.bool true) ∧ Below w.heap.size w w' := by
  have HA := hid ha
  have HB := hid hb
  obtain ⟨v0, rfl, r0⟩ := ha
  obtain ⟨u0, rfl, s0⟩ := hb
  have R0 := hid r0
  have S0 := hid s0
  obtain ⟨z, hz⟩ : ∃ z, z = D.f1 := ⟨_, rfl⟩
  rw [← hz]
  have P := box_two w v0 (.int .i64 z) u0 (.int .i64 z) 25
  obtain ⟨W, hW⟩ : ∃ W, W = (w.alloc (.cells #[v0, .int .i64 z] 25)).alloc (.cells #[u0, .int .i64 z] 25) := ⟨_, rfl⟩
  obtain ⟨q0, q1⟩ := P.1.two
  obtain ⟨q2, q3⟩ := P.2.1.two
  rw [← hW] at P
  have PA := hid P.1
  have PB := hid P.2.1
  have B := hid P.2.2.1
  have HW := hid hW
  clear P hz hW r0 s0
  go_enter Try.func14, Try.ntmps14
  go_wp2_with fail
  rw [← HW.out]
  clear q0 q1 q2 q3 HW
  refine (sameK_same _ _ D.f0 _ (R0.out.below B.out) (S0.out.below B.out)).mono ?_
  rintro e w1 ⟨rfl, hm⟩
  have b1 := sameK_below hm
  replace PA := hid (PA.out.below b1 PA.out.lt)
  replace PB := hid (PB.out.below b1 PB.out.lt)
  replace B := hid (B.out.trans (b1.mono B.out.size))
  clear hm b1
  obtain ⟨q0, q1⟩ := PA.out.two
  obtain ⟨q2, q3⟩ := PB.out.two
  have hd : (z == z) = true := by simp
  go_wp2
  go_ret
  exact ⟨rfl, B.out⟩
theorem flS_out {xs : List Int} {t : Nat} (h : ¬ t < xs.length) : fl xs t = 0 := by
  unfold fl
  rw [List.getD_eq_getElem?_getD, List.getElem?_eq_none (by omega)]; rfl
theorem GoodS.all {D : ShD} (h : GoodS D) (t : Nat) : 0 ≤ fl D.f0 t ∧ fl D.f0 t ≤ 10000 := by
  by_cases ht : t < D.f0.length
  · have := h.win t ht; omega
  · rw [flS_out ht]; omega
end Go.Proofs.Ytepnhbicmlfnhad
