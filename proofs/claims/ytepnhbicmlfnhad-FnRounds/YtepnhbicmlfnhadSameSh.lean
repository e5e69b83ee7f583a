/-
  laws.sameShares: true for shares that read alike. Nothing old is written. laws.sumOf over windows.
-/
import Derived.Test.YtepnhbicmlfnhadSameK
import Derived.Test.YtepnhbicmlfnhadShBox
namespace Go.Proofs.Ytepnhbicmlfnhad
open Go.RowKit

theorem sh_form {w : World} {u : Value} {D : ShD} (h : ShReads w u D) : ∃ a k, u = .agg #[.slice a D.f0.length k, .int .i64 D.f1] := by
  obtain ⟨v0, rfl, r0⟩ := h
  obtain ⟨a, cap, rfl, _, _⟩ := r0
  exact ⟨a, cap, rfl⟩
theorem ShReads.row {w : World} {a : Option Addr} {n k : Nat} {z : Int} {D : ShD} (h : ShReads w (.agg #[.slice a n k, .int .i64 z]) D) : KReads w (.slice a n k) D.f0 := by
  obtain ⟨v0, e, r0⟩ := h
  simp only [Value.agg.injEq, Array.mk.injEq, List.cons.injEq, and_true] at e
  rw [e.1]; exact r0
set_option maxRecDepth 100000 in
set_option maxHeartbeats 4000000 in
theorem sameShares_same (va vb : Value) (D : ShD) (w : World) (ha : ShReads w va D) (hb : ShReads w vb D) :
    Calls Try.prog 14 #[va, vb] w fun e w' => e = .returned (.bool true) ∧ Below w.heap.size w w' := by
  have HA := hid ha
  have HB := hid hb
  obtain ⟨v0, rfl, r0⟩ := ha
  obtain ⟨u0, rfl, s0⟩ := hb
  have R0 := hid r0
  have S0 := hid s0
  obtain ⟨z, hz⟩ : ∃ z, z = D.f1 := ⟨_, rfl⟩
  rw [← hz]
  have P := box_two w v0 (.int .i64 z) u0 (.int .i64 z) 25
  obtain ⟨W, hW⟩ : ∃ W, W = (w.alloc (.cells #[v0, .int .i64 z] 25)).alloc (.cells #[u0, .int .i64 z] 25) := ⟨_, rfl⟩
  obtain ⟨q0, q1⟩ := P.1.two
  obtain ⟨q2, q3⟩ := P.2.1.two
  rw [← hW] at P
  have PA := hid P.1
  have PB := hid P.2.1
  have B := hid P.2.2.1
  have HW := hid hW
  clear P hz hW r0 s0
  go_enter Try.func14, Try.ntmps14
  go_wp2_with fail
  rw [← HW.out]
  clear q0 q1 q2 q3 HW
  refine (sameK_same _ _ D.f0 _ (R0.out.below B.out) (S0.out.below B.out)).mono ?_
  rintro e w1 ⟨rfl, hm⟩
  have b1 := sameK_below hm
  replace PA := hid (PA.out.below b1 PA.out.lt)
  replace PB := hid (PB.out.below b1 PB.out.lt)
  replace B := hid (B.out.trans (b1.mono B.out.size))
  clear hm b1
  obtain ⟨q0, q1⟩ := PA.out.two
  obtain ⟨q2, q3⟩ := PB.out.two
  have hd : (z == z) = true := by simp
  go_wp2
  go_ret
  exact ⟨rfl, B.out⟩
theorem flS_out {xs : List Int} {t : Nat} (h : ¬ t < xs.length) : fl xs t = 0 := by
  unfold fl
  rw [List.getD_eq_getElem?_getD, List.getElem?_eq_none (by omega)]; rfl
theorem GoodS.all {D : ShD} (h : GoodS D) (t : Nat) : 0 ≤ fl D.f0 t ∧ fl D.f0 t ≤ 10000 := by
  by_cases ht : t < D.f0.length
  · have := h.win t ht; omega
  · rw [flS_out ht]; omega
end Go.Proofs.Ytepnhbicmlfnhad
